import Derived.Test.YtackhljepbhpgaaGreatShD
import Derived.BigQuiet
import Derived.Deep.QuietTactic
import Derived.Deep.RegionHeld3
import Derived.Deep.DrawnRows
set_option maxHeartbeats 64000000
set_option maxRecDepth 20000
set_option linter.unusedSimpArgs false
set_option linter.unusedVariables false
set_option linter.unusedSectionVars false

namespace Go.Proofs.YtackhljepbhpgaaGreat
open Go.RowKit
variable [DecidableEq Rw] [Inhabited Rw] [DecidableEq Bal] [Inhabited Bal] [DecidableEq Ledg] [Inhabited Ledg] [DecidableEq Leg] [Inhabited Leg] [DecidableEq Cont] [Inhabited Cont] [DecidableEq LedgR] [Inhabited LedgR] [DecidableEq OutcR] [Inhabited OutcR] [DecidableEq Mrk] [Inhabited Mrk] [DecidableEq Shd] [Inhabited Shd] [DecidableEq ShdR] [Inhabited ShdR]
attribute [local go_sem ↓] Go.wp_at_zero Go.wp_at_succ

theorem l10Base_any (i : Int) (x : Value) (xs : List Bal) (w : World) (hx : balsR.V w x xs) :
  Calls Tryz.prog 122 #[.int .i64 i, x] w fun e w' => e = .returned (.int .i64 (baseF i xs)) ∧ Below w.heap.size w w' := by
 have HB : Hid (∀ W, Below w.heap.size w W → Calls Tryz.prog 177 #[x] W fun e w' => e = .returned (.int .i64 (balFault xs)) ∧ Below W.heap.size W w') := fun W hW => specBalFault_any x xs W (balsR.below hx hW)
 obtain ⟨a, c, rfl⟩ := bals_form hx
 clear hx
 generalize xs.length = n at *
 unfold baseF
 cases h : inB i 0 2
 ·
  go_enter Tryz.func122, Tryz.ntmps122
  go_wp2_with (first | (go_at_call 75; refine (l1In_any _ _ _ _).mono ?_; rintro e w' ⟨rfl, rfl⟩; rw [h]))
  go_ret
  exact ⟨rfl, qBq⟩
 ·
  go_enter Tryz.func122, Tryz.ntmps122
  go_wp2_with (first | (go_at_call 75; refine (l1In_any _ _ _ _).mono ?_; rintro e w' ⟨rfl, rfl⟩; rw [h]) | (go_at_call 177; refine (HB.out _ (qBq)).mono ?_; rintro e w' ⟨rfl, hb1⟩))
  go_ret
  exact ⟨rfl, qBq⟩
theorem specShdF_any (x : Value) (d : Shd) (w : World) (hx : shdR.V w x d) :
  Calls Tryz.prog 71 #[x] w fun e w' => e = .returned (.int .i64 (shdF d)) ∧ Below w.heap.size w w' := by
 have HHd : Hid (∀ W, Below w.heap.size w W → BalsOk d.bals → Calls Tryz.prog 124 #[x] W fun e w' => e = .returned (.int .i64 (tailF d)) ∧ Below W.heap.size W w') := fun W hW hb => l10Held_any x d W (shdR.below hx hW) hb
 obtain ⟨u1, u2, u3, u4, u5, rfl, h1, h2, h3, h4, h5⟩ := hx
 have HBa : Hid (∀ W, Below w.heap.size w W → Calls Tryz.prog 122 #[.int .i64 d.idx, u1] W fun e w' => e = .returned (.int .i64 (baseF d.idx d.bals)) ∧ Below W.heap.size W w') := fun W hW => l10Base_any _ u1 _ W (balsR.below h1 hW)
 have HVo : Hid (∀ W, Below w.heap.size w W → Calls Tryz.prog 123 #[u2] W fun e w' => e = .returned (.int .i64 (mrkF d.votes)) ∧ Below W.heap.size W w') := fun W hW => l10Marks_any u2 _ W (mrksR.below h2 hW)
 have HDo : Hid (∀ W, Below w.heap.size w W → Calls Tryz.prog 123 #[u4] W fun e w' => e = .returned (.int .i64 (mrkF d.done)) ∧ Below W.heap.size W w') := fun W hW => l10Marks_any u4 _ W (mrksR.below h4 hW)
 obtain ⟨a1, c1, rfl⟩ := bals_form h1
 obtain ⟨a2, c2, rfl, hc2, hm2, _⟩ := h2
 obtain ⟨a3, c3, rfl, hc3, hm3, _⟩ := conts_at h3
 obtain ⟨a4, c4, rfl, hc4, hm4, _⟩ := h4
 obtain ⟨a5, c5, rfl, hc5, hm5, _⟩ := h5
 unfold maxLen at hm2 hm3 hm4 hm5
 have HD0 : Hid (¬ baseF d.idx d.bals = 0 → shdF d = baseF d.idx d.bals) := fun h => by unfold shdF listsF; rw [if_neg h, if_neg h]
 have HD1 : Hid (baseF d.idx d.bals = 0 → (100 < d.votes.length ∨ 100 < d.held.length ∨ 100 < d.done.length ∨ 100 < d.appl.length) → shdF d = 2) := fun h h1 => by unfold shdF listsF; rw [if_pos h, if_pos h1]; rfl
 have HD2 : Hid (baseF d.idx d.bals = 0 → ¬ (100 < d.votes.length ∨ 100 < d.held.length ∨ 100 < d.done.length ∨ 100 < d.appl.length) → ¬ mrkF d.votes = 0 → shdF d = mrkF d.votes) := fun h h1 h2 => by unfold shdF listsF; rw [if_pos h, if_neg h1, if_neg h2, if_neg h2]
 have HD3 : Hid (baseF d.idx d.bals = 0 → ¬ (100 < d.votes.length ∨ 100 < d.held.length ∨ 100 < d.done.length ∨ 100 < d.appl.length) → mrkF d.votes = 0 → ¬ mrkF d.done = 0 → shdF d = mrkF d.done) := fun h h1 h2 h3 => by unfold shdF listsF; rw [if_pos h, if_neg h1, if_pos h2, if_neg h3, if_neg h3]
 have HD4 : Hid (baseF d.idx d.bals = 0 → ¬ (100 < d.votes.length ∨ 100 < d.held.length ∨ 100 < d.done.length ∨ 100 < d.appl.length) → mrkF d.votes = 0 → mrkF d.done = 0 → shdF d = tailF d) := fun h h1 h2 h3 => shdF_tail h h1 h2 h3
 have HBO : Hid (baseF d.idx d.bals = 0 → BalsOk d.bals) := fun h => by
  unfold baseF at h
  split at h
  ·
   exact balsOk_of h
  ·
   omega
 generalize d.bals.length = n1 at *
 generalize d.votes.length = n2 at *
 generalize d.held.length = n3 at *
 generalize d.done.length = n4 at *
 generalize d.appl.length = n5 at *
 generalize tailF d = tf at *
 generalize mrkF d.votes = fv at *
 generalize mrkF d.done = fd at *
 generalize hbf : baseF d.idx d.bals = bf at *
 obtain ⟨Z, hZ⟩ : ∃ Z, Z = shdF d := ⟨_, rfl⟩
 rw [← hZ] at HD0 HD1 HD2 HD3 HD4 ⊢
 clear hZ hbf h1 h3
 go_enter Tryz.func71, Tryz.ntmps71
 go_wp2_with fail
 refine (HBa.out _ (qBq)).mono ?_
 rintro e w1 ⟨rfl, hb1⟩
 have y0 : w1.cell? ⟨w.heap.size, 0, none⟩ = some (.int .i64 d.idx) := cK hb1 (by simp [go_sem])
 have y1 : w1.cell? ⟨w.heap.size, 1, none⟩ = some (.slice a1 n1 c1) := cK hb1 (by simp [go_sem])
 have y2 : w1.cell? ⟨w.heap.size, 2, none⟩ = some (.slice a2 n2 c2) := cK hb1 (by simp [go_sem])
 have y3 : w1.cell? ⟨w.heap.size, 3, none⟩ = some (.slice a3 n3 c3) := cK hb1 (by simp [go_sem])
 have y4 : w1.cell? ⟨w.heap.size, 4, none⟩ = some (.slice a4 n4 c4) := cK hb1 (by simp [go_sem])
 have y5 : w1.cell? ⟨w.heap.size, 5, none⟩ = some (.slice a5 n5 c5) := cK hb1 (by simp [go_sem])
 have hB1 : Below w.heap.size w w1 := bS (qBq) hb1
 clear hb1 HBa
 by_cases hbf : bf = 0
 rotate_left
 ·
  have HC := HD0.out hbf
  have hbf' : (bf != 0) = true := by simp [hbf]
  go_wp2; go_ret
  exact ⟨by rw [HC]; rfl, qBq⟩
 have HBO' := HBO.out hbf
 have HHd' : Hid (∀ W, Below w.heap.size w W → Calls Tryz.prog 124 #[.agg #[.int .i64 d.idx, .slice a1 n1 c1, .slice a2 n2 c2, .slice a3 n3 c3, .slice a4 n4 c4, .slice a5 n5 c5]] W fun e w' => e = .returned (.int .i64 tf) ∧ Below W.heap.size W w') := fun W hW => HHd.out W hW HBO'
 have HD1' : Hid ((100 < n2 ∨ 100 < n3 ∨ 100 < n4 ∨ 100 < n5) → Z = 2) := fun h => HD1.out hbf h
 have HD2' : Hid (¬ (100 < n2 ∨ 100 < n3 ∨ 100 < n4 ∨ 100 < n5) → ¬ fv = 0 → Z = fv) := fun h h2 => HD2.out hbf h h2
 have HD3' : Hid (¬ (100 < n2 ∨ 100 < n3 ∨ 100 < n4 ∨ 100 < n5) → fv = 0 → ¬ fd = 0 → Z = fd) := fun h h2 h3 => HD3.out hbf h h2 h3
 have HD4' : Hid (¬ (100 < n2 ∨ 100 < n3 ∨ 100 < n4 ∨ 100 < n5) → fv = 0 → fd = 0 → Z = tf) := fun h h2 h3 => HD4.out hbf h h2 h3
 rw [hbf]
 clear HD0 HD1 HD2 HD3 HD4 HBO HBO' HHd hbf
 by_cases m2 : 100 < n2
 ·
  have HC := HD1'.out (.inl m2)
  have m2' : (100 : Int) < n2 := by omega
  go_wp2; go_ret
  exact ⟨by rw [HC]; rfl, qBq⟩
 have m2' : ¬ (100 : Int) < n2 := by omega
 by_cases m3 : 100 < n3
 ·
  have HC := HD1'.out (.inr (.inl m3))
  have m3' : (100 : Int) < n3 := by omega
  go_wp2; go_ret
  exact ⟨by rw [HC]; rfl, qBq⟩
 have m3' : ¬ (100 : Int) < n3 := by omega
 by_cases m4 : 100 < n4
 ·
  have HC := HD1'.out (.inr (.inr (.inl m4)))
  have m4' : (100 : Int) < n4 := by omega
  go_wp2; go_ret
  exact ⟨by rw [HC]; rfl, qBq⟩
 have m4' : ¬ (100 : Int) < n4 := by omega
 by_cases m5 : 100 < n5
 ·
  have HC := HD1'.out (.inr (.inr (.inr m5)))
  have m5' : (100 : Int) < n5 := by omega
  go_wp2; go_ret
  exact ⟨by rw [HC]; rfl, qBq⟩
 have m5' : ¬ (100 : Int) < n5 := by omega
 have hmany : ¬ (100 < n2 ∨ 100 < n3 ∨ 100 < n4 ∨ 100 < n5) := by omega
 have HE2 : Hid (¬ fv = 0 → Z = fv) := fun h => HD2'.out hmany h
 have HE3 : Hid (fv = 0 → ¬ fd = 0 → Z = fd) := fun h h2 => HD3'.out hmany h h2
 have HE4 : Hid (fv = 0 → fd = 0 → Z = tf) := fun h h2 => HD4'.out hmany h h2
 clear HD1' HD2' HD3' HD4' hmany
 go_wp2_with fail
 refine (HVo.out _ hB1).mono ?_
 rintro e w2 ⟨rfl, hb2⟩
 have hB2 : Below w.heap.size w w2 := bS hB1 hb2
 replace y0 := cK hb2 y0
 replace y1 := cK hb2 y1
 replace y2 := cK hb2 y2
 replace y3 := cK hb2 y3
 replace y4 := cK hb2 y4
 replace y5 := cK hb2 y5
 clear hb2 HVo
 by_cases hfv : fv = 0
 rotate_left
 ·
  have HC := HE2.out hfv
  have hfv' : (fv != 0) = true := by simp [hfv]
  go_wp2; go_ret
  exact ⟨by rw [HC]; rfl, qBq⟩
 rw [hfv]
 go_wp2_with fail
 refine (HDo.out _ hB2).mono ?_
 rintro e w3 ⟨rfl, hb3⟩
 have hB3 : Below w.heap.size w w3 := bS hB2 hb3
 replace y0 := cK hb3 y0
 replace y1 := cK hb3 y1
 replace y2 := cK hb3 y2
 replace y3 := cK hb3 y3
 replace y4 := cK hb3 y4
 replace y5 := cK hb3 y5
 clear hb3 HDo
 by_cases hfd : fd = 0
 rotate_left
 ·
  have HC := HE3.out hfv hfd
  have hfd' : (fd != 0) = true := by simp [hfd]
  go_wp2; go_ret
  exact ⟨by rw [HC]; rfl, qBq⟩
 have HC : Hid (Z = tf) := HE4.out hfv hfd
 rw [hfd]
 clear HE2 HE3 HE4 hfv hfd
 go_wp2_with fail
 refine (HHd'.out _ hB3).mono ?_
 rintro e w4 ⟨rfl, hb4⟩
 go_wp2; go_ret
 exact ⟨by rw [HC.out]; rfl, bS hB3 hb4⟩
end Go.Proofs.YtackhljepbhpgaaGreat

namespace Go.Proofs.YtackhljepbhpgaaGreat
open Go.RowKit
variable [DecidableEq Leg] [Inhabited Leg]
attribute [local go_sem ↓] Go.wp_at_zero Go.wp_at_succ

theorem eqGuardLeg2 : Tryz.prog.eqGuardType Tryz.prog.depth 152 = false := by kernel_rfl
theorem neqLeg (o l : Leg) (w : World) : (binOp .neq 152 (.agg #[.int .i64 o.sh, .int .i64 o.ac, .int .i64 o.ast, .int .i64 o.am]) (.agg #[.int .i64 l.sh, .int .i64 l.ac, .int .i64 l.ast, .int .i64 l.am])).run Tryz.prog w = .ok (.bool (!decide (o = l))) w := by
 rw [run_neq_struct, run_equalIn_struct w 9999 152 _ _ (by kernel_rfl) (by kernel_rfl)]
 have hf : (Tryz.prog.fieldsOf 152).toList = [{ name := "Shard", type := 2, offset := 0, embedded := false, tag := "", pkgPath := "", byteOffset := 0 }, { name := "Account", type := 2, offset := 1, embedded := false, tag := "", pkgPath := "", byteOffset := 8 }, { name := "Asset", type := 2, offset := 2, embedded := false, tag := "", pkgPath := "", byteOffset := 16 }, { name := "Amount", type := 2, offset := 3, embedded := false, tag := "", pkgPath := "", byteOffset := 24 }] := by kernel_rfl
 rw [hf]
 obtain ⟨a, b, c, d⟩ := o
 obtain ⟨a', b', c', d'⟩ := l
 simp [Op.eqFields, go_sem]
 by_cases e1 : a = a' <;> by_cases e2 : b = b' <;> by_cases e3 : c = c' <;> by_cases e4 : d = d' <;> simp [e1, e2, e3, e4]
theorem slicesEqual_any (x y : Value) (xs ys : List Leg) (w : World) (hx : LegsV w x xs) (hy : LegsV w y ys) :
  Calls Tryz.prog 198 #[x, y] w fun e w' => e = .returned (.bool (decide (xs = ys))) ∧ Below w.heap.size w w' := by
 obtain ⟨ax, cx, rfl, hcx, hmx, hx⟩ := hx
 obtain ⟨ay, cy, rfl, hcy, hmy, hy⟩ := hy
 unfold maxLen at hmx hmy
 by_cases hl : ys.length = xs.length
 ·
  rw [hl] at hcy hy ⊢
  have HL : Hid (ys.length = xs.length) := hl
  clear hl
  generalize hn : xs.length = n at *
  have HN : Hid (xs.length = n) := hn
  clear hn
  go_enter Tryz.func198, Tryz.ntmps198
  go_wp2
  go_loopw [13] (fun i w' => ∃ k : Nat, k ≤ n ∧ i = .int .i64 k ∧ (∀ j, j < k → xs.getD j default = ys.getD j default) ∧ Below w.heap.size w w') (fun i _ => n - (intOf i).toNat)
  case atStart => exact ⟨0, Nat.zero_le _, rfl, fun j h => absurd h (Nat.not_lt_zero _), Below.refl _ _⟩
  case round =>
   obtain ⟨k, hk, rfl, hpre, hbl⟩ := hrel
   have HP : Hid (∀ j, j < k → xs.getD j default = ys.getD j default) := hpre
   clear hpre
   by_cases hlt : k < n
   ·
    obtain ⟨bx, ox, rfl, h1⟩ := hx k hlt
    obtain ⟨b2, oy, rfl, h2⟩ := hy k hlt
    obtain ⟨l1, hl1⟩ : ∃ l, l = xs.getD k default := ⟨_, rfl⟩
    obtain ⟨l2, hl2⟩ : ∃ l, l = ys.getD k default := ⟨_, rfl⟩
    rw [← hl1] at h1
    rw [← hl2] at h2
    have H1 : Hid (l1 = xs.getD k default) := hl1
    have H2 : Hid (l2 = ys.getD k default) := hl2
    clear hl1 hl2 hx hy
    have heq := neqLeg l1 l2
    have hgd := eqGuardLeg2
    go_wp2
    go_region_held3 (fun w' => Below w.heap.size w w' ∧ (w'.cell? ⟨bx, ox + k * 4, none⟩ = some (.int .i64 l1.sh) ∧ w'.cell? ⟨bx, ox + k * 4 + 1, none⟩ = some (.int .i64 l1.ac) ∧ w'.cell? ⟨bx, ox + k * 4 + 2, none⟩ = some (.int .i64 l1.ast) ∧ w'.cell? ⟨bx, ox + k * 4 + 3, none⟩ = some (.int .i64 l1.am)) ∧ (w'.cell? ⟨b2, oy + k * 4, none⟩ = some (.int .i64 l2.sh) ∧ w'.cell? ⟨b2, oy + k * 4 + 1, none⟩ = some (.int .i64 l2.ac) ∧ w'.cell? ⟨b2, oy + k * 4 + 2, none⟩ = some (.int .i64 l2.ast) ∧ w'.cell? ⟨b2, oy + k * 4 + 3, none⟩ = some (.int .i64 l2.am))) ((refine keep2 ?_ h1 h2; repeat (first | exact bR _ _ | assumption | refine bD ?_ | refine bA ?_ _ | refine bS ?_ (by assumption)))) (fail)
    rename_i hH
    have hB := hH.1
    clear hH heq hgd
    go_wp2
    ·
     rename_i hle
     go_ret
     refine ⟨?_, hB⟩
     have : ¬ xs = ys := fun h => by
      have : l1 = l2 := by rw [H1.out, H2.out, h]
      simp [this] at hle
     simp [this]
    ·
     rename_i hle
     refine ⟨⟨k + 1, by omega, by go_num, fun j hj => ?_, hB⟩, by simp [intOf]; omega⟩
     by_cases hjk : j < k
     ·
      exact HP.out j hjk
     ·
      have : j = k := by omega
      subst this
      rw [← H1.out, ← H2.out]
      simpa using hle
   ·
    go_wp2; go_ret
    have : k = n := by omega
    subst this
    refine ⟨?_, hbl⟩
    have : xs = ys := list_eq_of (by rw [HL.out, HN.out]) (by rw [HN.out]; exact HP.out)
    simp [this]
 ·
  go_enter Tryz.func198, Tryz.ntmps198
  have hl' : ((xs.length : Int) == (ys.length : Int)) = false := by simp; omega
  go_wp2; go_ret
  have : ¬ xs = ys := fun h => hl (by rw [h])
  exact ⟨by simp [this], Below.refl _ _⟩
theorem implSame_any (id id' : Int) (x y : Value) (xs ys : List Leg) (w : World) (hx : LegsV w x xs) (hy : LegsV w y ys) :
  Calls Tryz.prog 147 #[.agg #[.int .i64 id, x], .agg #[.int .i64 id', y]] w fun e w' => e = .returned (.bool (decide (id = id' ∧ xs = ys))) ∧ Below w.heap.size w w' := by
 by_cases hid : id = id'
 ·
  have hd : (id == id') = true := by simp [hid]
  have HI : Hid (id = id') := hid
  clear hid
  go_enter Tryz.func147, Tryz.ntmps147
  go_wp2_with fail
  refine (slicesEqual_any x y xs ys _ (LegsV_below hx (bA (bA (Below.refl _ _) _) _)) (LegsV_below hy (bA (bA (Below.refl _ _) _) _))).mono ?_
  rintro e w1 ⟨rfl, hb⟩
  go_wp2; go_ret
  exact ⟨by simp [HI.out], bS (bA (bA (Below.refl _ _) _) _) hb⟩
 ·
  have hd : (id == id') = false := by simp [hid]
  go_enter Tryz.func147, Tryz.ntmps147
  go_wp2; go_ret
  exact ⟨by simp [hid], bA (bA (Below.refl _ _) _) _⟩
theorem specSame_any (id id' : Int) (x y : Value) (xs ys : List Leg) (w : World) (hx : LegsV w x xs) (hy : LegsV w y ys) :
  Calls Tryz.prog 73 #[.agg #[.int .i64 id, x], .agg #[.int .i64 id', y]] w fun e w' => e = .returned (.bool (decide (id = id' ∧ xs = ys))) ∧ Below w.heap.size w w' := by
 obtain ⟨ax, cx, rfl, hcx, hmx, hx⟩ := hx
 obtain ⟨ay, cy, rfl, hcy, hmy, hy⟩ := hy
 unfold maxLen at hmx hmy
 by_cases hid : id = id'
 ·
  have hd : (id == id') = true := by simp [hid]
  have HI : Hid (id = id') := hid
  clear hid
  by_cases hl : ys.length = xs.length
  ·
   rw [hl] at hcy hy ⊢
   have HL : Hid (ys.length = xs.length) := hl
   clear hl
   generalize hn : xs.length = n at *
   have HN : Hid (xs.length = n) := hn
   clear hn
   go_enter Tryz.func73, Tryz.ntmps73
   go_wp2
   go_loopw [5] (fun i w' => ∃ k : Nat, k ≤ n ∧ i = .int .i64 k ∧ (∀ j, j < k → xs.getD j default = ys.getD j default) ∧ w'.cell? ⟨w.heap.size, 1, none⟩ = some (.slice ax n cx) ∧ w'.cell? ⟨w.heap.size + 1, 1, none⟩ = some (.slice ay n cy) ∧ Below w.heap.size w w') (fun i _ => n - (intOf i).toNat)
   case atStart => exact ⟨0, Nat.zero_le _, rfl, fun j h => absurd h (Nat.not_lt_zero _), by simp [go_sem], by simp [go_sem], bA (bA (Below.refl _ _) _) _⟩
   case round =>
    obtain ⟨k, hk, rfl, hpre, e1, e2, hbl⟩ := hrel
    have HP : Hid (∀ j, j < k → xs.getD j default = ys.getD j default) := hpre
    clear hpre
    by_cases hlt : k < n
    ·
     obtain ⟨bx, ox, rfl, h1⟩ := hx k hlt
     obtain ⟨b2, oy, rfl, h2⟩ := hy k hlt
     obtain ⟨l1, hl1⟩ : ∃ l, l = xs.getD k default := ⟨_, rfl⟩
     obtain ⟨l2, hl2⟩ : ∃ l, l = ys.getD k default := ⟨_, rfl⟩
     rw [← hl1] at h1
     rw [← hl2] at h2
     have H1 : Hid (l1 = xs.getD k default) := hl1
     have H2 : Hid (l2 = ys.getD k default) := hl2
     clear hl1 hl2 hx hy
     have heq := neqLeg l1 l2
     have hgd := eqGuardLeg2
     have h1' := legCells_below hbl h1
     have h2' := legCells_below hbl h2
     go_wp2
     go_region_held3 (fun w' => (Below wr.heap.size wr w' ∧ (w'.cell? ⟨bx, ox + k * 4, none⟩ = some (.int .i64 l1.sh) ∧ w'.cell? ⟨bx, ox + k * 4 + 1, none⟩ = some (.int .i64 l1.ac) ∧ w'.cell? ⟨bx, ox + k * 4 + 2, none⟩ = some (.int .i64 l1.ast) ∧ w'.cell? ⟨bx, ox + k * 4 + 3, none⟩ = some (.int .i64 l1.am)) ∧ (w'.cell? ⟨b2, oy + k * 4, none⟩ = some (.int .i64 l2.sh) ∧ w'.cell? ⟨b2, oy + k * 4 + 1, none⟩ = some (.int .i64 l2.ac) ∧ w'.cell? ⟨b2, oy + k * 4 + 2, none⟩ = some (.int .i64 l2.ast) ∧ w'.cell? ⟨b2, oy + k * 4 + 3, none⟩ = some (.int .i64 l2.am))) ∧ (Below wr.heap.size wr w' ∧ w'.cell? ⟨w.heap.size, 1, none⟩ = some (.slice (some ⟨bx, ox, none⟩) n cx) ∧ w'.cell? ⟨w.heap.size + 1, 1, none⟩ = some (.slice (some ⟨b2, oy, none⟩) n cy))) ((refine ⟨keep2 ?_ h1' h2', keepC2 ?_ e1 e2⟩; all_goals (repeat (first | exact bR _ _ | assumption | refine bD ?_ | refine bA ?_ _ | refine bS ?_ (by assumption))))) (fail)
     rename_i hH
     have hB := bS hbl hH.1.1
     have e1' := hH.2.2.1
     have e2' := hH.2.2.2
     clear hH heq hgd
     go_wp2
     ·
      rename_i hle
      go_ret
      refine ⟨?_, hB⟩
      have : ¬ xs = ys := fun h => by
       have : l1 = l2 := by rw [H1.out, H2.out, h]
       simp [this] at hle
      simp [this]
     ·
      rename_i hle
      refine ⟨⟨k + 1, by omega, by go_num, fun j hj => ?_, e1', e2', hB⟩, by simp [intOf]; omega⟩
      by_cases hjk : j < k
      ·
       exact HP.out j hjk
      ·
       have : j = k := by omega
       subst this
       rw [← H1.out, ← H2.out]
       simpa using hle
    ·
     go_wp2; go_ret
     have : k = n := by omega
     subst this
     refine ⟨?_, hbl⟩
     have : xs = ys := list_eq_of (by rw [HL.out, HN.out]) (by rw [HN.out]; exact HP.out)
     simp [this, HI.out]
  ·
   have hl' : ((xs.length : Int) == (ys.length : Int)) = false := by simp; omega
   go_enter Tryz.func73, Tryz.ntmps73
   go_wp2; go_ret
   have : ¬ xs = ys := fun h => hl (by rw [h])
   exact ⟨by simp [this], bA (bA (Below.refl _ _) _) _⟩
 ·
  have hd : (id == id') = false := by simp [hid]
  go_enter Tryz.func73, Tryz.ntmps73
  go_wp2; go_ret
  exact ⟨by simp [hid], bA (bA (Below.refl _ _) _) _⟩
variable [DecidableEq Mrk] [Inhabited Mrk] [DecidableEq Bal] [Inhabited Bal]
theorem appAny_mrks10 {w : World} {v : Value} {xs : List Mrk} (h : mrksR.V w v xs) : AppAny w v xs.length (mrksC xs) := by
 obtain ⟨a, c, rfl, _, _, hc⟩ := h
 cases a with
 | none =>
  have h0 : xs = [] := by
   cases xs with
   | nil => rfl
   | cons x r => obtain ⟨b, o, e, _⟩ := hc 0 (by simp); cases e
  subst h0
  exact .inl ⟨c, rfl, rfl, rfl⟩
 | some ad =>
  refine .inr ⟨ad, c, rfl, fun j x hj => ?_⟩
  have hjl : j < xs.length * 2 := by
   have := (List.getElem?_eq_some_iff.1 hj).1
   rw [length_mrksC] at this
   exact this
  have hi : j / 2 < xs.length := by omega
  obtain ⟨b, o, e, g0, g1⟩ := hc (j / 2) hi
  obtain ⟨q0, q1⟩ := get_mrksC xs (j / 2) hi
  simp only [Option.some.injEq] at e
  subst e
  have hadd : (Addr.mk b o none).add j = ⟨b, o + j, none⟩ := by
   by_cases h : j = 0
   ·
    subst h; simp [Addr.add]
   ·
    simp [Addr.add, h]
  rw [hadd]
  have hm : j % 2 = 0 ∨ j % 2 = 1 := by omega
  rcases hm with hm | hm
  ·
   have e : j = j / 2 * 2 := by omega
   have e2 : o + j = o + j / 2 * 2 := by omega
   rw [e2, g0]
   rw [e, q0] at hj
   exact hj
  ·
   have e : j = j / 2 * 2 + 1 := by omega
   have e2 : o + j = o + j / 2 * 2 + 1 := by omega
   rw [e2, g1]
   rw [e, q1] at hj
   exact hj
theorem mrks_one10 (xs : List Mrk) : ∀ u ∈ mrksC xs, u.oneCell' = true := by
 intro u hu
 simp only [mrksC, List.mem_flatMap] at hu
 obtain ⟨b, _, hb⟩ := hu
 simp [mrkC] at hb
 rcases hb with rfl | rfl <;> rfl
theorem mrks_app10 (xs ys : List Mrk) : mrksC (xs ++ ys) = mrksC xs ++ mrksC ys := by simp [mrksC]
theorem step_app10M (w : World) {ops : Array Oper} {o : Oper} {a : Act} {K : Act → World → Prop} {Q : Exit → Act → World → Prop} {E : Prop} (hgd : o.guard = none) (s x : Operand)
  (ho : o.op = .call { callee := .builtin .append, args := #[s, x], argTypes := #[94, 94] })
  (base : Nat) (v : Value) (xs : List Mrk) (hs : a.eval s = v) (u : Value) (ys : List Mrk) (hx : a.eval x = u)
  (hown : w.ownsRow base 135 2 v xs.length (mrksC xs)) (hsrc : AppAny w u ys.length (mrksC ys)) (hlen : xs.length + ys.length ≤ 1073741824) (hbase : base ≤ w.heap.size)
  (h : ∀ v' w', w'.ownsRow base 135 2 v' (xs ++ ys).length (mrksC (xs ++ ys)) → w.grownBy w' v.ownBlock → (∀ W : World, Below base W w → Below base W w') → K (a.put o.dst v') w') :
  if Region.wanted o (yielded ops a.tmps) = true then Oper.wp Tryz.prog o a w K Q else E := by
 obtain ⟨i0, hi, hz0, hz1, hz2⟩ := info_parts infoMrk
 refine step_appAny w hgd s x 94 ho base 135 i0 _ 2 16 Tryz.underlying94 hi hz0 hz1 hz2 rfl (by decide) v xs.length (mrksC xs) hs u ys.length (mrksC ys) hx hown hsrc (by rw [length_mrksC]) (mrks_one10 ys) (by unfold maxLen; omega) (by omega) hbase ?_
 intro v' w' h1 h2 h3
 refine h v' w' ?_ h2 h3
 rw [List.length_append, mrks_app10]
 exact h1
variable [DecidableEq Cont] [Inhabited Cont] [DecidableEq Shd] [Inhabited Shd] [DecidableEq Vot] [Inhabited Vot] [DecidableEq Slt] [Inhabited Slt] [DecidableEq Acc] [Inhabited Acc] [DecidableEq Trr] [Inhabited Trr] [DecidableEq Hrd] [Inhabited Hrd] [DecidableEq Ldr] [Inhabited Ldr] [DecidableEq Msg] [Inhabited Msg] [DecidableEq Clu] [Inhabited Clu] [DecidableEq Ledg] [Inhabited Ledg] [DecidableEq SltR] [Inhabited SltR] [DecidableEq AccR] [Inhabited AccR] [DecidableEq AccsR] [Inhabited AccsR] [DecidableEq SltsR] [Inhabited SltsR] [DecidableEq Rw] [Inhabited Rw] [DecidableEq LedgR] [Inhabited LedgR] [DecidableEq OutcR] [Inhabited OutcR] [DecidableEq ShdR] [Inhabited ShdR]
theorem mrks_atF {w : World} {a : Option Addr} {n c : Nat} {xs : List Mrk} (hx : mrksR.V w (.slice a n c) xs) : xs.length = n ∧ n ≤ c ∧ c ≤ maxLen ∧ ∀ k, k < n → ∃ b o, a = some ⟨b, o, none⟩ ∧ w.cell? ⟨b, o + k * 2, none⟩ = some (.int .i64 (xs.getD k default).con) ∧ w.cell? ⟨b, o + k * 2 + 1, none⟩ = some (.int .i64 (xs.getD k default).val) := by
 obtain ⟨a', c', e, h1, h2, h3⟩ := hx
 simp only [Value.slice.injEq] at e
 obtain ⟨rfl, rfl, rfl⟩ := e
 exact ⟨rfl, h1, h2, fun k hk => h3 k hk⟩
theorem knows_mark {c : Clu} {s : Shd} {j : Nat} (hj : j < (s.votes ++ s.done).length) (h : hasL c ((s.votes ++ s.done).getD j default).con s.idx = false) : knowsB c s = false := by
 have hm : (s.votes ++ s.done).getD j default ∈ s.votes ++ s.done := by simp only [List.getD, List.getElem?_eq_getElem hj, Option.getD_some]; exact List.getElem_mem hj
 unfold knowsB strange
 rw [List.mem_append] at hm
 rcases hm with hm | hm
 ·
  rw [show s.votes.any (fun m => !hasL c m.con s.idx) = true from List.any_eq_true.2 ⟨_, hm, by rw [h]; rfl⟩]; rfl
 ·
  rw [show s.done.any (fun m => !hasL c m.con s.idx) = true from List.any_eq_true.2 ⟨_, hm, by rw [h]; rfl⟩]; simp
theorem knows_held {c : Clu} {s : Shd} {j : Nat} (hj : j < s.held.length) (h : sameIn c (s.held.getD j default) = false) : knowsB c s = false := by
 have hm : s.held.getD j default ∈ s.held := by simp only [List.getD, List.getElem?_eq_getElem hj, Option.getD_some]; exact List.getElem_mem hj
 unfold knowsB heldOff
 rw [show s.held.any (fun x => !sameIn c x) = true from List.any_eq_true.2 ⟨_, hm, by rw [h]; rfl⟩]; simp
theorem knows_all {c : Clu} {s : Shd} (h1 : ∀ j, j < (s.votes ++ s.done).length → hasL c ((s.votes ++ s.done).getD j default).con s.idx = true) (h2 : ∀ j, j < s.held.length → sameIn c (s.held.getD j default) = true) : knowsB c s = true := by
 have g1 : ∀ m, m ∈ s.votes ++ s.done → hasL c m.con s.idx = true := by
  intro m hm
  obtain ⟨i, hi, rfl⟩ := List.getElem_of_mem hm
  have := h1 i hi
  simpa only [List.getD, List.getElem?_eq_getElem hi, Option.getD_some] using this
 have g2 : ∀ x, x ∈ s.held → sameIn c x = true := by
  intro m hm
  obtain ⟨i, hi, rfl⟩ := List.getElem_of_mem hm
  have := h2 i hi
  simpa only [List.getD, List.getElem?_eq_getElem hi, Option.getD_some] using this
 unfold knowsB strange heldOff
 rw [show s.votes.any (fun m => !hasL c m.con s.idx) = false from List.any_eq_false.2 (fun m hm => by rw [g1 m (List.mem_append.2 (.inl hm))]; simp)]
 rw [show s.done.any (fun m => !hasL c m.con s.idx) = false from List.any_eq_false.2 (fun m hm => by rw [g1 m (List.mem_append.2 (.inr hm))]; simp)]
 rw [show s.held.any (fun x => !sameIn c x) = false from List.any_eq_false.2 (fun m hm => by rw [g2 m hm]; simp)]
 rfl
theorem sh6keep {w W : World} {B : Nat} {ix : Int} {p1 p2 p3 p4 p5 : Option Addr} {l1 l2 l3 l4 l5 q1 q2 q3 q4 q5 : Nat} (h : Below w.heap.size w W) (y : w.cell? ⟨B, 0, none⟩ = some (.int .i64 ix) ∧ w.cell? ⟨B, 1, none⟩ = some (.slice p1 l1 q1) ∧ w.cell? ⟨B, 2, none⟩ = some (.slice p2 l2 q2) ∧ w.cell? ⟨B, 3, none⟩ = some (.slice p3 l3 q3) ∧ w.cell? ⟨B, 4, none⟩ = some (.slice p4 l4 q4) ∧ w.cell? ⟨B, 5, none⟩ = some (.slice p5 l5 q5)) : W.cell? ⟨B, 0, none⟩ = some (.int .i64 ix) ∧ W.cell? ⟨B, 1, none⟩ = some (.slice p1 l1 q1) ∧ W.cell? ⟨B, 2, none⟩ = some (.slice p2 l2 q2) ∧ W.cell? ⟨B, 3, none⟩ = some (.slice p3 l3 q3) ∧ W.cell? ⟨B, 4, none⟩ = some (.slice p4 l4 q4) ∧ W.cell? ⟨B, 5, none⟩ = some (.slice p5 l5 q5) := ⟨cK h y.1, cK h y.2.1, cK h y.2.2.1, cK h y.2.2.2.1, cK h y.2.2.2.2.1, cK h y.2.2.2.2.2⟩
theorem l11Shards_any (B : Nat) (c : Clu) (w : World) (h : CluB w B c) (hlen : ∀ k, k < c.cons.length → (c.cons.getD k default).legs.length ≤ 1048576) (hsz : ∀ k, k < c.shards.length → (c.shards.getD k default).votes.length ≤ 1048576 ∧ (c.shards.getD k default).done.length ≤ 1048576) :
  Calls Tryz.prog 34 #[.pointer (some ⟨B, 0, none⟩)] w fun e w' => e = .returned (.int .i64 (shdsF c)) ∧ Below w.heap.size w w' := by
 have HHas : Hid (∀ (a s : Int) W, Below w.heap.size w W → Calls Tryz.prog 72 #[.pointer (some ⟨B, 0, none⟩), .int .i64 a, .int .i64 s] W fun e w' => e = .returned (.bool (hasL c a s)) ∧ Below W.heap.size W w') := fun a s W hW => l11Has_any B c a s W ((h.below hW).p) hlen
 have HFi : Hid (∀ (a : Int) W, Below w.heap.size w W → Calls Tryz.prog 38 #[.pointer (some ⟨B, 0, none⟩), .int .i64 a] W fun e w' => e = .returned (.int .i64 (findI c.cons a)) ∧ Below W.heap.size W w') := fun a W hW => l11Find_any B c a W ((h.below hW).p)
 have HP : Hid (∀ W, Below w.heap.size w W → CluP W B c) := fun W hW => (h.below hW).p
 obtain ⟨a0, a1, a2, a3, a4, c0, c1, c2, c3, c4, n0, n1, n2, n3, n4, ⟨y0, y1, y2, y3, y4⟩, hx⟩ := h
 have hf := clu_lens hx
 obtain ⟨e0, e1, e2, e3, e4, L0, L1, L2, L3, L4⟩ := hf
 obtain ⟨u1, u2, u3, u4, u5, eq, h1, h2, h3, h4, h5⟩ := hx
 simp only [Value.agg.injEq, Array.mk.injEq, List.cons.injEq, and_true] at eq
 obtain ⟨rfl, rfl, rfl, rfl, rfl⟩ := eq
 have zB : B < w.heap.size := wL w _ y0
 obtain ⟨_, hnc, hmc, HA⟩ := shds_at h2
 unfold maxLen at hmc
 have HX : Hid _ := HA
 obtain ⟨hncc, hmcc, HAc⟩ := conts_atM (by rw [e0]; exact h1)
 unfold maxLen at hmcc
 rw [e0] at HAc
 have HXc : Hid _ := HAc
 have E0 : Hid (c.cons.length = n0) := e0
 rw [e1] at hsz
 have HSz : Hid _ := hsz
 have H1 : Hid (∀ k, k < n1 → scanI (shdAt c) k = 0 → ¬ shdAt c k = 0 → shdsF c = shdAt c k) := fun k hk hs h0 => by unfold shdsF; exact scanI_hit hs h0 _ (by rw [e1]; exact hk)
 have H2 : Hid (scanI (shdAt c) n1 = 0 → shdsF c = 0) := fun h => by unfold shdsF; rw [e1]; exact h
 clear HA HAc h1 h2 h3 h4 h5 hlen hsz e0 e1 e2 e3 e4 L2 L3 L4 HP y2 y3 y4
 generalize shdsF c = R at *
 go_enter Tryz.func34, Tryz.ntmps34
 go_wp2
 go_loopw [3] (fun i w' => ∃ k : Nat, k ≤ n1 ∧ i = .int .i64 k ∧ Hid (scanI (shdAt c) k = 0) ∧ Below w.heap.size w w') (fun i _ => n1 - (intOf i).toNat)
 case atStart => exact ⟨0, Nat.zero_le _, rfl, rfl, qBq⟩
 case round =>
  obtain ⟨k, hk, rfl, HS, hbl⟩ := hrel
  have y1' := cK hbl y1
  have zB' : B < wr.heap.size := wL wr _ y1'
  by_cases hlt : k < n1
  ·
   have HA := HX.out k hlt
   have HSk := HSz.out k hlt
   have HH : Hid (¬ shdAt c k = 0 → R = shdAt c k) := fun h => H1.out k hlt HS.out h
   have HZ : Hid (shdAt c k = 0 → scanI (shdAt c) (k + 1) = 0) := fun h => scanI_succ HS.out h
   have HD : Hid (shdAt c k = orF (shdF (c.shards.getD k default)) (if (c.shards.getD k default).idx = (k : Int) ∧ knowsB c (c.shards.getD k default) = true then 0 else 1)) := rfl
   obtain ⟨s, hs0⟩ : ∃ s, s = c.shards.getD k default := ⟨_, rfl⟩
   rw [← hs0] at HA HD HSk
   clear hs0
   obtain ⟨b, o, v1, v2, v3, v4, v5, rfl, g0, g1, g2, g3, g4, g5, hv⟩ := HA
   have HF : Hid (∀ W, Below w.heap.size w W → Calls Tryz.prog 71 #[.agg #[.int .i64 s.idx, v1, v2, v3, v4, v5]] W fun e w' => e = .returned (.int .i64 (shdF s)) ∧ Below W.heap.size W w') := fun W hW => specShdF_any _ s W (shdR.below hv hW)
   obtain ⟨_, _, _, _, _, eq, f1, f2, f3, f4, f5⟩ := hv
   simp only [Value.agg.injEq, Array.mk.injEq, List.cons.injEq, and_true, true_and] at eq
   obtain ⟨rfl, rfl, rfl, rfl, rfl⟩ := eq
   have HAv : Hid (∀ W, Below w.heap.size w W → AppAny W v2 s.votes.length (mrksC s.votes)) := fun W hW => appAny_mrks10 (mrksR.below f2 hW)
   have HAd : Hid (∀ W, Below w.heap.size w W → AppAny W v4 s.done.length (mrksC s.done)) := fun W hW => appAny_mrks10 (mrksR.below f4 hW)
   obtain ⟨p1, q1, rfl⟩ := bals_form f1
   obtain ⟨p2, q2, rfl⟩ := mrks_form f2
   obtain ⟨p3, q3, rfl⟩ := conts_form f3
   obtain ⟨p4, q4, rfl⟩ := mrks_form f4
   obtain ⟨p5, q5, rfl⟩ := ints_form f5
   obtain ⟨hnh, hmh, HAh⟩ := conts_atM f3
   unfold maxLen at hmh
   have HXh : Hid _ := HAh
   have HKm : Hid (∀ j, j < (s.votes ++ s.done).length → hasL c ((s.votes ++ s.done).getD j default).con s.idx = false → knowsB c s = false) := fun j hj h => knows_mark hj h
   have HKh : Hid (∀ j, j < s.held.length → sameIn c (s.held.getD j default) = false → knowsB c s = false) := fun j hj h => knows_held hj h
   have HKa : Hid ((∀ j, j < (s.votes ++ s.done).length → hasL c ((s.votes ++ s.done).getD j default).con s.idx = true) → (∀ j, j < s.held.length → sameIn c (s.held.getD j default) = true) → knowsB c s = true) := fun h1 h2 => knows_all h1 h2
   clear f1 f2 f3 f4 f5 HAh
   replace g0 := cK hbl g0
   replace g1 := cK hbl g1
   replace g2 := cK hbl g2
   replace g3 := cK hbl g3
   replace g4 := cK hbl g4
   replace g5 := cK hbl g5
   have zb : b < wr.heap.size := wL wr _ g0
   have hti : (k : Int) < (n1 : Int) := by omega
   generalize shdAt c k = z at *
   generalize knowsB c s = kn at *
   generalize shdF s = sf at *
   have HLm : Hid ((s.votes ++ s.done).length = s.votes.length + s.done.length) := List.length_append
   generalize hl1 : s.bals.length = l1 at *
   generalize hl2 : s.votes.length = l2 at *
   generalize hl3 : s.held.length = l3 at *
   generalize hl4 : s.done.length = l4 at *
   generalize hl5 : s.appl.length = l5 at *
   generalize s.idx = ix at *
   have HL2 : Hid (s.votes.length = l2) := hl2
   have HL4 : Hid (s.done.length = l4) := hl4
   clear hl1 hl2 hl3 hl4 hl5
   go_wp2_with fail
   refine (HF.out _ (qBq)).mono ?_
   rintro e w1 ⟨rfl, hb1⟩
   have hB1 : Below w.heap.size w w1 := bS (qBq) hb1
   have T1 : w1.cell? ⟨wr.heap.size, 0, none⟩ = some (.int .i64 ix) ∧ w1.cell? ⟨wr.heap.size, 1, none⟩ = some (.slice p1 l1 q1) ∧ w1.cell? ⟨wr.heap.size, 2, none⟩ = some (.slice p2 l2 q2) ∧ w1.cell? ⟨wr.heap.size, 3, none⟩ = some (.slice p3 l3 q3) ∧ w1.cell? ⟨wr.heap.size, 4, none⟩ = some (.slice p4 l4 q4) ∧ w1.cell? ⟨wr.heap.size, 5, none⟩ = some (.slice p5 l5 q5) := ⟨cK hb1 (by simp [go_sem]), cK hb1 (by simp [go_sem]), cK hb1 (by simp [go_sem]), cK hb1 (by simp [go_sem]), cK hb1 (by simp [go_sem]), cK hb1 (by simp [go_sem])⟩
   obtain ⟨wl, hwl⟩ : ∃ wl, wl = wr.heap.size := ⟨_, rfl⟩
   have zwl : w.heap.size ≤ wl := by rw [hwl]; exact hbl.size
   rw [← hwl] at T1 ⊢
   clear hwl hb1 HF g0 g1 g2 g3 g4 g5 y1' zB' zb
   have zw1 : wl < w1.heap.size := wL w1 _ T1.1
   by_cases hsf : sf = 0
   rotate_left
   ·
    have hz : z = sf := by rw [HD.out, orF_n hsf]
    have HC : Hid (R = sf) := by show _ = _; rw [← hz]; exact HH.out (by rw [hz]; exact hsf)
    have hsf' : (sf != 0) = true := by simp [hsf]
    clear HH HZ HD hz HXh HKm HKh HKa HAv HAd T1
    go_wp2; go_ret
    exact ⟨by rw [HC.out]; rfl, hB1⟩
   subst hsf
   have HD2 : Hid (z = if ix = (k : Int) ∧ kn = true then 0 else 1) := by show _ = _; rw [HD.out, orF_z rfl]
   clear HD
   obtain ⟨s0, s1, s2, s3, s4, s5⟩ := T1
   by_cases hix : ix = (k : Int)
   rotate_left
   ·
    have hz : z = 1 := by rw [HD2.out, if_neg (fun h => hix h.1)]
    have HC : Hid (R = 1) := by show _ = _; rw [← hz]; exact HH.out (by rw [hz]; omega)
    have hix' : (ix != (k : Int)) = true := by simp [hix]
    clear HH HZ HD2 hz HXh HKm HKh HKa HAv HAd
    go_wp2; go_ret
    exact ⟨by rw [HC.out]; rfl, hB1⟩
   have hix' : (ix != (k : Int)) = false := by simp [hix]
   have HBd : Hid (kn = false → R = 1) := fun h => by
    have hz : z = 1 := by rw [HD2.out, if_neg (fun x => by rw [h] at x; cases x.2)]
    show _ = _
    rw [← hz]
    exact HH.out (by rw [hz]; omega)
   have HGd : Hid (kn = true → scanI (shdAt c) (k + 1) = 0) := fun h => HZ.out (by rw [HD2.out, if_pos ⟨hix, h⟩])
   clear HH HZ HD2 hix
   obtain ⟨hv1, hv2⟩ := HSk
   go_wp2
   refine wp_region_noPanic ?_
   refine region_upto (fun W => W.cell? ⟨wl, 0, none⟩ = some (.int .i64 ix) ∧ W.cell? ⟨wl, 1, none⟩ = some (.slice p1 l1 q1) ∧ W.cell? ⟨wl, 2, none⟩ = some (.slice p2 l2 q2) ∧ W.cell? ⟨wl, 3, none⟩ = some (.slice p3 l3 q3) ∧ W.cell? ⟨wl, 4, none⟩ = some (.slice p4 l4 q4) ∧ W.cell? ⟨wl, 5, none⟩ = some (.slice p5 l5 q5)) 8 (by kernel_rfl) ⟨cK (qBq) s0, cK (qBq) s1, cK (qBq) s2, cK (qBq) s3, cK (qBq) s4, cK (qBq) s5⟩ (fun hS => ?_)
   clear hix'
   refine tM 1 rfl hS ?_; try simp only [jX]
   refine tM 2 rfl hS ?_; try simp only [jX]
   refine tM 4 rfl hS ?_; try simp only [jX]
   refine tM 5 rfl hS ?_; try simp only [jX]
   have hBd : Below w.heap.size w w1.drew := qBq
   clear hB1 s0 s1 s2 s3 s4 s5
   generalize w1.drew = wd at *
   refine uS 0 rfl (fun K hK => ?_)
   go_simp
   have hSa : (wd.alloc (.cells #[] 135)).cell? ⟨wl, 0, none⟩ = some (.int .i64 ix) ∧ (wd.alloc (.cells #[] 135)).cell? ⟨wl, 1, none⟩ = some (.slice p1 l1 q1) ∧ (wd.alloc (.cells #[] 135)).cell? ⟨wl, 2, none⟩ = some (.slice p2 l2 q2) ∧ (wd.alloc (.cells #[] 135)).cell? ⟨wl, 3, none⟩ = some (.slice p3 l3 q3) ∧ (wd.alloc (.cells #[] 135)).cell? ⟨wl, 4, none⟩ = some (.slice p4 l4 q4) ∧ (wd.alloc (.cells #[] 135)).cell? ⟨wl, 5, none⟩ = some (.slice p5 l5 q5) := sh6keep (qBq) hS
   refine hK _ _ (fun _ => hSa) ?_
   clear hK K
   try simp only [jX]
   refine uS 3 rfl (fun K hK => ?_)
   refine step_app10M (wd.alloc (.cells #[] 135)) rfl (.tmp 35) (.tmp 37) rfl wd.heap.size _ [] rfl _ s.votes rfl (World.ownsRow_lit (base := wd.heap.size) (e := 135) (size := 2) wd #[] 0 (Nat.le_refl _) (by decide) rfl) (by rw [HL2.out]; exact HAv.out _ (qBq)) (by rw [HL2.out]; simp; omega) (by simp) ?_
   intro v3 w3 ho3 _ hB3
   have hb3 : Below wd.heap.size wd w3 := hB3 wd (qBq)
   have hS3 : (fun W => W.cell? ⟨wl, 0, none⟩ = some (.int .i64 ix) ∧ W.cell? ⟨wl, 1, none⟩ = some (.slice p1 l1 q1) ∧ W.cell? ⟨wl, 2, none⟩ = some (.slice p2 l2 q2) ∧ W.cell? ⟨wl, 3, none⟩ = some (.slice p3 l3 q3) ∧ W.cell? ⟨wl, 4, none⟩ = some (.slice p4 l4 q4) ∧ W.cell? ⟨wl, 5, none⟩ = some (.slice p5 l5 q5)) w3 := sh6keep hb3 hS
   refine hK _ _ (fun _ => hS3) ?_
   clear hK K
   try simp only [jX]
   refine uS 6 rfl (fun K hK => ?_)
   rw [List.nil_append] at ho3
   refine step_app10M w3 rfl (.tmp 38) (.tmp 40) rfl wd.heap.size v3 s.votes rfl _ s.done rfl ho3 (by rw [HL4.out]; exact HAd.out _ (bS hBd hb3)) (by rw [HL2.out, HL4.out]; omega) hb3.size ?_
   intro v4 w4 ho4 _ hB4
   have hb4 : Below wd.heap.size wd w4 := hB4 wd hb3
   have hS4 : (fun W => W.cell? ⟨wl, 0, none⟩ = some (.int .i64 ix) ∧ W.cell? ⟨wl, 1, none⟩ = some (.slice p1 l1 q1) ∧ W.cell? ⟨wl, 2, none⟩ = some (.slice p2 l2 q2) ∧ W.cell? ⟨wl, 3, none⟩ = some (.slice p3 l3 q3) ∧ W.cell? ⟨wl, 4, none⟩ = some (.slice p4 l4 q4) ∧ W.cell? ⟨wl, 5, none⟩ = some (.slice p5 l5 q5)) w4 := sh6keep hb4 hS
   refine hK _ _ (fun _ => hS4) ?_
   clear hK K
   try simp only [jX]
   have hV4 : mrksR.V w4 v4 (s.votes ++ s.done) := MrksV_of_owns ho4
   have hB5 : Below w.heap.size w w4 := bS hBd hb4
   clear hS hSa ho3 hB3 hb3 hS3 ho4 hB4 hb4 HAv HAd hBd
   obtain ⟨MS, hMS⟩ : ∃ MS, MS = s.votes ++ s.done := ⟨_, rfl⟩
   rw [← hMS] at hV4 HKm HKa HLm
   clear hMS
   obtain ⟨bm', cm, rfl⟩ := mrks_form hV4
   obtain ⟨_, hnm, hmm, HAm⟩ := mrks_atF hV4
   unfold maxLen at hmm
   have HXm : Hid _ := HAm
   have hml := HLm.out
   clear HAm hV4
   generalize hmm' : MS.length = mm at *
   clear hmm' HLm
   refine tM 7 rfl hS4 ?_; try simp only [jX]
   refine dN (NoPanic.normal ?_)
   obtain ⟨s0, s1, s2, s3, s4, s5⟩ := hS4
   have zw4 : wl < w4.heap.size := wL w4 _ s0
   go_wp2
   go_loopw [7] (fun i w' => ∃ j : Nat, j ≤ mm ∧ i = .int .i64 j ∧ Hid (∀ j', j' < j → hasL c (MS.getD j' default).con ix = true) ∧ Below w4.heap.size w4 w') (fun i _ => mm - (intOf i).toNat)
   case atStart => exact ⟨0, Nat.zero_le _, rfl, fun j hj => absurd hj (Nat.not_lt_zero _), Below.refl _ _⟩
   case round =>
    obtain ⟨j, hj, rfl, HS1, hbl1⟩ := hrel
    have hblw := bS hB5 hbl1
    have s0' := cK hbl1 s0
    by_cases hlt1 : j < mm
    ·
     obtain ⟨bm, om, rfl, m0, _⟩ := HXm.out j hlt1
     have HC1 : Hid _ := HHas.out (MS.getD j default).con ix
     have HN : Hid (hasL c (MS.getD j default).con ix = false → R = 1) := fun h => HBd.out (HKm.out j hlt1 h)
     have HG : Hid (hasL c (MS.getD j default).con ix = true → ∀ j', j' < j + 1 → hasL c (MS.getD j' default).con ix = true) := fun h j' hj' => by
      by_cases e : j' = j
      ·
       rw [e]; exact h
      ·
       exact HS1.out j' (by omega)
     replace m0 := cK hbl1 m0
     generalize hasL c (MS.getD j default).con ix = hl at *
     generalize (MS.getD j default).con = mc at *
     have hti1 : (j : Int) < (mm : Int) := by omega
     have hj0 : (0 : Int) ≤ (j : Int) := by omega
     go_wp2
     refine wp_region_noPanic ?_
     refine region_upto (fun W => W.cell? ⟨wl, 0, none⟩ = some (.int .i64 ix) ∧ W.cell? ⟨bm, om + j * 2, none⟩ = some (.int .i64 mc)) 10 (by kernel_rfl) ⟨cK (qBq) s0', cK (qBq) m0⟩ (fun hS => ?_)
     refine tM 0 rfl hS ?_; try simp only [jX]
     refine tM 1 rfl hS ?_; try simp only [jX]
     refine tM 2 rfl hS ?_; try simp only [jX]
     refine tM 3 rfl hS ?_; try simp only [jX]
     refine tM 4 rfl hS ?_; try simp only [jX]
     refine tM 5 rfl hS ?_; try simp only [jX]
     refine tM 6 rfl hS ?_; try simp only [jX]
     refine tM 7 rfl hS ?_; try simp only [jX]
     refine uS 8 rfl (fun K hK => ?_)
     go_simp
     refine (HC1.out _ (qBq)).mono ?_
     rintro e w6 ⟨rfl, hb6⟩
     have hB6 : Below w4.heap.size w4 w6 := bS (qBq) hb6
     have hS6 := And.intro (cK hb6 hS.1) (cK hb6 hS.2)
     refine hK _ _ (fun _ => hS6) ?_
     clear hK K hb6
     try simp only [jX]
     cases hl
     ·
      have HC : Hid _ := HN.out rfl
      have hB7 := bS hB5 hB6
      clear HN HG
      refine tM 9 rfl hS6 ?_; try simp only [jX]
      refine dN (NoPanic.normal ?_)
      go_wp2; go_ret
      exact ⟨by rw [HC.out]; rfl, hB7⟩
     ·
      have HQ : Hid _ := HG.out rfl
      clear HN HG
      refine tM 9 rfl hS6 ?_; try simp only [jX]
      refine dN (NoPanic.normal ?_)
      go_wp2
      exact ⟨⟨j + 1, by omega, by go_num, HQ, hB6⟩, by simp [intOf]; omega⟩
    ·
     obtain rfl : j = mm := by omega
     have hti1 : ¬ (j : Int) < (j : Int) := by omega
     have HKa' : Hid ((∀ j, j < l3 → sameIn c (s.held.getD j default) = true) → kn = true) := HKa.out HS1.out
     clear HKa HKm HXm HS1 s0'
     have s3' := cK hbl1 s3
     have zl : wl < _ := wL _ _ s3'
     go_wp2
     go_loopw [8] (fun i w' => ∃ j' : Nat, j' ≤ l3 ∧ i = .int .i64 j' ∧ Hid (∀ j, j < j' → sameIn c (s.held.getD j default) = true) ∧ w'.cell? ⟨wl, 3, none⟩ = some (.slice p3 l3 q3) ∧ Below w.heap.size w w') (fun i _ => l3 - (intOf i).toNat)
     case atStart => exact ⟨0, Nat.zero_le _, rfl, fun j hj => absurd hj (Nat.not_lt_zero _), s3', hblw⟩
     case round =>
      clear s3' zl hblw hbl1
      obtain ⟨i, hi, rfl, HS2, s3', hblw⟩ := hrel
      have zl : wl < _ := wL _ _ s3'
      by_cases hlt2 : i < l3
      ·
       obtain ⟨bh, oh, ph, qh, rfl, k0, k1, hvl⟩ := HXh.out i hlt2
       have HN : Hid (sameIn c (s.held.getD i default) = false → R = 1) := fun h => HBd.out (HKh.out i hlt2 h)
       have HG : Hid (sameIn c (s.held.getD i default) = true → ∀ j', j' < i + 1 → sameIn c (s.held.getD j' default) = true) := fun h j' hj' => by
        by_cases e : j' = i
        ·
         rw [e]; exact h
        ·
         exact HS2.out j' (by omega)
       obtain ⟨x, hx0⟩ : ∃ x, x = s.held.getD i default := ⟨_, rfl⟩
       rw [← hx0] at k0 k1 hvl HN HG
       clear hx0
       have HLg : Hid (∀ W, Below w.heap.size w W → LegsV W (.slice ph x.legs.length qh) x.legs) := fun W hW => legsR.below hvl hW
       have HCf : Hid _ := HFi.out x.id
       replace k0 := cK hblw k0
       replace k1 := cK hblw k1
       have hti2 : (i : Int) < (l3 : Int) := by omega
       clear hvl
       have HSi : Hid (sameIn c x = (decide (firstC c.cons x.id < n0) && decide ((c.cons.getD (firstC c.cons x.id) default).id = x.id ∧ (c.cons.getD (firstC c.cons x.id) default).legs = x.legs))) := by show _ = _; unfold sameIn; rw [E0.out]
       have HFn : Hid (findI c.cons x.id = if firstC c.cons x.id < n0 then (firstC c.cons x.id : Int) else -1) := by show _ = _; unfold findI; rw [E0.out]
       generalize sameIn c x = sm at *
       generalize findI c.cons x.id = fx at *
       by_cases hff : firstC c.cons x.id < n0
       rotate_left
       ·
        obtain rfl : fx = -1 := by rw [HFn.out, if_neg hff]
        have HC : Hid (R = 1) := HN.out (by rw [HSi.out, decide_eq_false hff]; rfl)
        clear HN HG HSi HFn hff HLg
        generalize hxl : x.legs.length = hl_ at *
        generalize x.id = hid at *
        clear hxl
        go_wp2_with fail
        refine (HCf.out _ (qBq)).mono ?_
        rintro e w6 ⟨rfl, hb6⟩
        have hB6 : Below w.heap.size w w6 := bS (qBq) hb6
        have s6 := cK hb6 (by first | exact s3' | exact cK (qBq) s3')
        go_wp2
        refine wp_region_noPanic ?_
        refine region_upto (fun W => W.cell? ⟨wl, 3, none⟩ = some (.slice (some ⟨bh, oh, none⟩) l3 q3)) 18 (by kernel_rfl) (cK (qBq) s6) (fun hS => ?_)
        refine tM 0 rfl hS ?_; try simp only [jX]
        refine tM 1 (v := (.bool true)) rfl hS ?_; try simp only [jX]
        refine tM 2 rfl hS ?_; try simp only [jX]
        refine sN 3 rfl hS (fun _ => ?_); try simp only [jX]
        refine sN 4 rfl hS (fun _ => ?_); try simp only [jX]
        refine sN 5 rfl hS (fun _ => ?_); try simp only [jX]
        refine sN 6 rfl hS (fun _ => ?_); try simp only [jX]
        refine sN 7 rfl hS (fun _ => ?_); try simp only [jX]
        refine sN 8 rfl hS (fun _ => ?_); try simp only [jX]
        refine sN 9 rfl hS (fun _ => ?_); try simp only [jX]
        refine sN 10 rfl hS (fun _ => ?_); try simp only [jX]
        refine sN 11 rfl hS (fun _ => ?_); try simp only [jX]
        refine sN 12 rfl hS (fun _ => ?_); try simp only [jX]
        refine sN 13 rfl hS (fun _ => ?_); try simp only [jX]
        refine sN 14 rfl hS (fun _ => ?_); try simp only [jX]
        refine sN 15 rfl hS (fun _ => ?_); try simp only [jX]
        refine sN 16 rfl hS (fun _ => ?_); try simp only [jX]
        refine tM 17 rfl hS ?_; try simp only [jX]
        refine dN (NoPanic.normal ?_)
        go_wp2; go_ret
        exact ⟨by rw [HC.out]; rfl, qBq⟩
       obtain ⟨bc, oc, pc, qc, hac, c0', c1', hvc⟩ := HXc.out _ hff
       have HLc : Hid (∀ W, Below w.heap.size w W → LegsV W (.slice pc (c.cons.getD (firstC c.cons x.id) default).legs.length qc) (c.cons.getD (firstC c.cons x.id) default).legs) := fun W hW => legsR.below hvc hW
       have hfx : fx = (firstC c.cons x.id : Int) := by rw [HFn.out, if_pos hff]
       have HSi2 : Hid (sm = decide ((c.cons.getD (firstC c.cons x.id) default).id = x.id ∧ (c.cons.getD (firstC c.cons x.id) default).legs = x.legs)) := by show _ = _; rw [HSi.out, decide_eq_true hff]; rfl
       subst hac
       have y0' := cK hblw y0
       have HSa : Hid (∀ W, Below w.heap.size w W → Calls Tryz.prog 73 #[.agg #[.int .i64 (c.cons.getD (firstC c.cons x.id) default).id, .slice pc (c.cons.getD (firstC c.cons x.id) default).legs.length qc], .agg #[.int .i64 x.id, .slice ph x.legs.length qh]] W fun e w' => e = .returned (.bool sm) ∧ Below W.heap.size W w') := fun W hW => by
        rw [HSi2.out]
        exact specSame_any _ _ _ _ _ _ W (HLc.out W hW) (HLg.out W hW)
       clear HSi HSi2 HFn HLc HLg hvc
       replace c0' := cK hblw c0'
       replace c1' := cK hblw c1'
       have hf1 : (firstC c.cons x.id : Int) < (n0 : Int) := by omega
       have hf0 : (0 : Int) ≤ (firstC c.cons x.id : Int) := by omega
       have hf2 : ¬ (firstC c.cons x.id : Int) < 0 := by omega
       generalize c.cons.getD (firstC c.cons x.id) default = xc at *
       generalize firstC c.cons x.id = f at *
       subst hfx
       generalize hxl : x.legs.length = hl_ at *
       generalize hcl : xc.legs.length = cl_ at *
       generalize x.id = hid at *
       generalize xc.id = cid at *
       clear hxl hcl
       have hi0 : (0 : Int) ≤ (i : Int) := by omega
       go_wp2_with fail
       refine (HCf.out _ (qBq)).mono ?_
       rintro e w6 ⟨rfl, hb6⟩
       have hB6 : Below w.heap.size w w6 := bS (qBq) hb6
       have s6 := cK hb6 (by first | exact s3' | exact cK (qBq) s3')
       have d0 := cK hb6 (by first | exact y0' | exact cK (qBq) y0')
       have d1 := cK hb6 (by first | exact k0 | exact cK (qBq) k0)
       have d2 := cK hb6 (by first | exact k1 | exact cK (qBq) k1)
       have d3 := cK hb6 (by first | exact c0' | exact cK (qBq) c0')
       have d4 := cK hb6 (by first | exact c1' | exact cK (qBq) c1')
       clear hb6 k0 k1 c0' c1' y0'
       go_wp2
       refine wp_region_noPanic ?_
       refine region_upto (fun W => W.cell? ⟨wl, 3, none⟩ = some (.slice (some ⟨bh, oh, none⟩) l3 q3) ∧ W.cell? ⟨B, 0, none⟩ = some (.slice (some ⟨bc, oc, none⟩) n0 c0) ∧ W.cell? ⟨bh, oh + i * 2, none⟩ = some (.int .i64 hid) ∧ W.cell? ⟨bh, oh + i * 2 + 1, none⟩ = some (.slice ph hl_ qh) ∧ W.cell? ⟨bc, oc + f * 2, none⟩ = some (.int .i64 cid) ∧ W.cell? ⟨bc, oc + f * 2 + 1, none⟩ = some (.slice pc cl_ qc)) 18 (by kernel_rfl) ⟨cK (qBq) s6, cK (qBq) d0, cK (qBq) d1, cK (qBq) d2, cK (qBq) d3, cK (qBq) d4⟩ (fun hS => ?_)
       refine tM 0 rfl hS ?_; try simp only [jX]
       refine tM 1 (v := (.bool false)) rfl hS ?_; try simp only [jX]
       refine tM 2 rfl hS ?_; try simp only [jX]
       refine tM 3 rfl hS ?_; try simp only [jX]
       refine tM 4 rfl hS ?_; try simp only [jX]
       refine tM 5 rfl hS ?_; try simp only [jX]
       refine tM 6 rfl hS ?_; try simp only [jX]
       refine tM 7 rfl hS ?_; try simp only [jX]
       refine tM 8 rfl hS ?_; try simp only [jX]
       refine tM 9 rfl hS ?_; try simp only [jX]
       refine tM 10 rfl hS ?_; try simp only [jX]
       refine tM 11 rfl hS ?_; try simp only [jX]
       refine tM 12 rfl hS ?_; try simp only [jX]
       refine tM 13 rfl hS ?_; try simp only [jX]
       refine tM 14 rfl hS ?_; try simp only [jX]
       refine uS 15 rfl (fun K hK => ?_)
       go_simp
       refine (HSa.out _ (qBq)).mono ?_
       rintro e w7 ⟨rfl, hb7⟩
       have hB7 : Below w.heap.size w w7 := bS (qBq) hb7
       have hS7 := And.intro (cK hb7 hS.1) (And.intro (cK hb7 hS.2.1) (And.intro (cK hb7 hS.2.2.1) (And.intro (cK hb7 hS.2.2.2.1) (And.intro (cK hb7 hS.2.2.2.2.1) (cK hb7 hS.2.2.2.2.2)))))
       refine hK _ _ (fun _ => hS7) ?_
       clear hK K hb7
       try simp only [jX]
       cases sm
       ·
        have HC : Hid _ := HN.out rfl
        clear HN HG
        refine tM 16 rfl hS7 ?_; try simp only [jX]
        refine tM 17 rfl hS7 ?_; try simp only [jX]
        refine dN (NoPanic.normal ?_)
        go_wp2; go_ret
        exact ⟨by rw [HC.out]; rfl, hB7⟩
       ·
        have HQ : Hid _ := HG.out rfl
        clear HN HG
        refine tM 16 rfl hS7 ?_; try simp only [jX]
        refine tM 17 rfl hS7 ?_; try simp only [jX]
        refine dN (NoPanic.normal ?_)
        go_wp2
        exact ⟨⟨i + 1, by omega, by go_num, HQ, hS7.1, hB7⟩, by simp [intOf]; omega⟩
      ·
       obtain rfl : i = l3 := by omega
       have hti2 : ¬ (i : Int) < (i : Int) := by omega
       have HQ : Hid (scanI (shdAt c) (k + 1) = 0) := HGd.out (HKa'.out HS2.out)
       clear HKa' HKh HXh HBd HGd
       go_wp2
       exact ⟨⟨k + 1, by omega, by go_num, HQ, hblw⟩, by simp [intOf]; omega⟩
  ·
   obtain rfl : k = n1 := by omega
   have hti : ¬ (k : Int) < (k : Int) := by omega
   have HC : Hid (R = 0) := H2.out HS.out
   go_wp2; go_ret
   exact ⟨by rw [HC.out]; rfl, hbl⟩
end Go.Proofs.YtackhljepbhpgaaGreat

namespace Go.Proofs.YtackhljepbhpgaaGreat
open Go.RowKit
variable [DecidableEq Vot] [Inhabited Vot] [DecidableEq Slt] [Inhabited Slt] [DecidableEq SltR] [Inhabited SltR] [DecidableEq Bal] [Inhabited Bal] [DecidableEq Ledg] [Inhabited Ledg] [DecidableEq Leg] [Inhabited Leg] [DecidableEq Acc] [Inhabited Acc] [DecidableEq AccR] [Inhabited AccR] [DecidableEq AccsR] [Inhabited AccsR] [DecidableEq SltsR] [Inhabited SltsR]
attribute [local go_sem ↓] Go.wp_at_zero Go.wp_at_succ

theorem sltKeep3 {w w' : World} {b o b' o' : Nat} {x y : Slt} {u v : Value} {p : Addr} {q : Value} (hb : Below w.heap.size w w') (h : w.cell? ⟨b, o, none⟩ = some (.int .i64 x.con) ∧ w.cell? ⟨b, o + 1, none⟩ = some (.int .i64 x.sh) ∧ w.cell? ⟨b, o + 2, none⟩ = some (.int .i64 x.pr) ∧ w.cell? ⟨b, o + 3, none⟩ = some (.int .i64 x.lb) ∧ w.cell? ⟨b, o + 4, none⟩ = some (.int .i64 x.lv) ∧ w.cell? ⟨b, o + 5, none⟩ = some (u)) (h' : w.cell? ⟨b', o', none⟩ = some (.int .i64 y.con) ∧ w.cell? ⟨b', o' + 1, none⟩ = some (.int .i64 y.sh) ∧ w.cell? ⟨b', o' + 2, none⟩ = some (.int .i64 y.pr) ∧ w.cell? ⟨b', o' + 3, none⟩ = some (.int .i64 y.lb) ∧ w.cell? ⟨b', o' + 4, none⟩ = some (.int .i64 y.lv) ∧ w.cell? ⟨b', o' + 5, none⟩ = some (v)) (hq : w.cell? p = some q) :
  Below w.heap.size w w' ∧ (w'.cell? ⟨b, o, none⟩ = some (.int .i64 x.con) ∧ w'.cell? ⟨b, o + 1, none⟩ = some (.int .i64 x.sh) ∧ w'.cell? ⟨b, o + 2, none⟩ = some (.int .i64 x.pr) ∧ w'.cell? ⟨b, o + 3, none⟩ = some (.int .i64 x.lb) ∧ w'.cell? ⟨b, o + 4, none⟩ = some (.int .i64 x.lv) ∧ w'.cell? ⟨b, o + 5, none⟩ = some (u)) ∧ (w'.cell? ⟨b', o', none⟩ = some (.int .i64 y.con) ∧ w'.cell? ⟨b', o' + 1, none⟩ = some (.int .i64 y.sh) ∧ w'.cell? ⟨b', o' + 2, none⟩ = some (.int .i64 y.pr) ∧ w'.cell? ⟨b', o' + 3, none⟩ = some (.int .i64 y.lb) ∧ w'.cell? ⟨b', o' + 4, none⟩ = some (.int .i64 y.lv) ∧ w'.cell? ⟨b', o' + 5, none⟩ = some (v)) ∧ w'.cell? p = some q :=
 ⟨hb, ⟨cK hb h.1, cK hb h.2.1, cK hb h.2.2.1, cK hb h.2.2.2.1, cK hb h.2.2.2.2.1, cK hb h.2.2.2.2.2⟩, ⟨cK hb h'.1, cK hb h'.2.1, cK hb h'.2.2.1, cK hb h'.2.2.2.1, cK hb h'.2.2.2.2.1, cK hb h'.2.2.2.2.2⟩, cK hb hq⟩
end Go.Proofs.YtackhljepbhpgaaGreat

namespace Go.Proofs.YtackhljepbhpgaaGreat
open Go.RowKit
variable [DecidableEq Vot] [Inhabited Vot] [DecidableEq Slt] [Inhabited Slt] [DecidableEq Bal] [Inhabited Bal] [DecidableEq Ledg] [Inhabited Ledg] [DecidableEq Leg] [Inhabited Leg]
attribute [local go_sem ↓] Go.wp_at_zero Go.wp_at_succ

theorem l8Last_any (x : Value) (d : Slt) (w : World) (hx : sltR.V w x d) :
  Calls Tryz.prog 183 #[x] w fun e w' => e = .returned (.agg #[.int .i64 (lastV d.cast d.cast.length).bal, .int .i64 (lastV d.cast d.cast.length).val]) ∧ Below w.heap.size w w' := by
 obtain ⟨u1, rfl, hx⟩ := hx
 obtain ⟨ax, cx, rfl, hcx, hmx, hx⟩ := hx
 unfold maxLen at hmx
 cases hn : d.cast.length with
 | zero =>
  rw [hn] at hcx hx
  clear hx
  rw [lastV_zero]
  go_enter Tryz.func183, Tryz.ntmps183
  go_wp2_with fail
  refine (l8None_any _).mono ?_
  rintro e w1 ⟨rfl, hb1⟩
  have hB : Below w.heap.size w w1 := bS (qBq) hb1
  obtain ⟨c1, f1⟩ := bcell hb1
  go_wp2
  refine bodyPost_ret (v := .agg #[.int .i64 (-1), .int .i64 0]) ?_ rfl ⟨rfl, by (repeat (first | refine bset ?_ (by simp; omega) _ | refine bset ?_ (by simp) _ | refine bA ?_ _ | assumption))⟩
  simp [results, Tryz.results183, go_sem, c1]
 | succ m =>
  rw [hn] at hcx hx
  rw [lastV_succ]
  obtain ⟨bx, ox, rfl, g1⟩ := hx m (by omega)
  clear hx
  generalize d.cast.getD m default = l at *
  clear hn
  obtain ⟨g0, g1⟩ := g1
  have v1 : IntKind.i64.wrap (m : Int) = m := wrapId (by omega) (by omega)
  have z5 : bx < w.heap.size := wL w _ g0
  go_enter Tryz.func183, Tryz.ntmps183
  go_wp2
  refine bodyPost_ret (v := .agg #[.int .i64 l.bal, .int .i64 l.val]) ?_ rfl ⟨rfl, qBq⟩
  simp [results, Tryz.results183, go_sem]
theorem specSlotF_any (x : Value) (d : Slt) (w : World) (hx : sltR.V w x d) :
  Calls Tryz.prog 126 #[x] w fun e w' => e = .returned (.int .i64 (sltFault d)) ∧ Below w.heap.size w w' := by
 have hX := hx
 obtain ⟨u1, rfl, hx⟩ := hx
 obtain ⟨ax, cx, rfl, hcx, hmx, hx⟩ := hx
 unfold maxLen at hmx
 cases h1 : inB d.con 1 1000000000
 ·
  rw [sltF_range (by simp [sltRange, h1])]
  go_enter Tryz.func126, Tryz.ntmps126
  go_wp2_with (first | (go_at_call 120; refine (l1Id_any _ _).mono ?_; rintro e w' ⟨rfl, rfl⟩) | (go_at_call 75; refine (l1In_any _ _ _ _).mono ?_; rintro e w' ⟨rfl, rfl⟩))
  go_ret
  exact ⟨rfl, qBq⟩
 cases h2 : inB d.sh 0 2
 ·
  rw [sltF_range (by simp [sltRange, h2])]
  go_enter Tryz.func126, Tryz.ntmps126
  go_wp2_with (first | (go_at_call 120; refine (l1Id_any _ _).mono ?_; rintro e w' ⟨rfl, rfl⟩) | (go_at_call 75; refine (l1In_any _ _ _ _).mono ?_; rintro e w' ⟨rfl, rfl⟩))
  go_ret
  exact ⟨rfl, qBq⟩
 cases h3 : inB d.pr (-1) 1000
 ·
  rw [sltF_range (by simp [sltRange, h3])]
  go_enter Tryz.func126, Tryz.ntmps126
  go_wp2_with (first | (go_at_call 120; refine (l1Id_any _ _).mono ?_; rintro e w' ⟨rfl, rfl⟩) | (go_at_call 75; refine (l1In_any _ _ _ _).mono ?_; rintro e w' ⟨rfl, rfl⟩))
  go_ret
  exact ⟨rfl, qBq⟩
 have hR : Hid (sltRange d = true) := by show _ = _; simp [sltRange, h1, h2, h3]
 by_cases h6 : 60 < d.cast.length
 ·
  rw [sltF_many hR.out h6]
  go_enter Tryz.func126, Tryz.ntmps126
  go_wp2_with (first | (go_at_call 120; refine (l1Id_any _ _).mono ?_; rintro e w' ⟨rfl, rfl⟩) | (go_at_call 75; refine (l1In_any _ _ _ _).mono ?_; rintro e w' ⟨rfl, rfl⟩))
  go_ret
  exact ⟨rfl, qBq⟩
 obtain ⟨xs, hxs⟩ : ∃ xs, xs = d.cast := ⟨_, rfl⟩
 have HXS : Hid (d.cast = xs) := hxs.symm
 rw [← hxs] at h6 hcx hx hX ⊢
 clear hxs
 obtain ⟨n, hn'⟩ : ∃ n, n = xs.length := ⟨_, rfl⟩
 have HN : Hid (xs.length = n) := hn'.symm
 rw [← hn'] at h6 hcx hx hX ⊢
 clear hn'
 go_enter Tryz.func126, Tryz.ntmps126
 go_wp2_with (first | (go_at_call 120; refine (l1Id_any _ _).mono ?_; rintro e w' ⟨rfl, rfl⟩) | (go_at_call 75; refine (l1In_any _ _ _ _).mono ?_; rintro e w' ⟨rfl, rfl⟩))
 go_loopw [3] (fun i w' => ∃ k : Nat, k ≤ n ∧ i = .int .i64 k ∧ scanI (votAt xs) k = 0 ∧ (w'.cell? ⟨w.heap.size, 0, none⟩ = some (.int .i64 d.con) ∧ w'.cell? ⟨w.heap.size, 1, none⟩ = some (.int .i64 d.sh) ∧ w'.cell? ⟨w.heap.size, 2, none⟩ = some (.int .i64 d.pr) ∧ w'.cell? ⟨w.heap.size, 3, none⟩ = some (.int .i64 d.lb) ∧ w'.cell? ⟨w.heap.size, 4, none⟩ = some (.int .i64 d.lv) ∧ w'.cell? ⟨w.heap.size, 5, none⟩ = some (.slice ax n cx)) ∧ Below w.heap.size w w') (fun i _ => n - (intOf i).toNat)
 case atStart => exact ⟨0, Nat.zero_le _, rfl, rfl, ⟨by simp [go_sem], by simp [go_sem], by simp [go_sem], by simp [go_sem], by simp [go_sem], by simp [go_sem]⟩, qBq⟩
 case round =>
  obtain ⟨k, hk, rfl, hs, ⟨c0, c1, c2, c3, c4, c5⟩, hbl⟩ := hrel
  have HS : Hid (scanI (votAt xs) k = 0) := hs
  clear hs
  have z0 : w.heap.size < wr.heap.size := wL wr _ c0
  by_cases hlt : k < n
  ·
   obtain ⟨bx, ox, rfl, g1⟩ := hx k hlt
   obtain ⟨l, hl⟩ : ∃ l, l = xs.getD k default := ⟨_, rfl⟩
   rw [← hl] at g1
   have HL : Hid (l = xs.getD k default) := hl
   clear hl
   obtain ⟨a1, a2⟩ := votCells_below hbl g1
   cases v1 : inB l.bal 0 1000
   ·
    clear hx
    go_wp2_with (first | (go_at_call 77; refine (l8Ballot_any _ _).mono ?_; rintro e w' ⟨rfl, rfl⟩) | (go_at_call 78; refine (l8Value_any _ _).mono ?_; rintro e w' ⟨rfl, rfl⟩))
    go_ret
    refine ⟨?_, qBq⟩
    rw [sltF_hit (k := k) (c := 3) hR.out (by rw [HXS.out, HN.out]; omega) (by rw [HXS.out, HN.out]; exact hlt) (by rw [HXS.out]; exact HS.out) (by rw [HXS.out]; exact votAt_bad (by rw [← HL.out]; simp [votB, v1])) (by omega)]
    rfl
   cases v2 : inB l.val 1 2
   ·
    clear hx
    go_wp2_with (first | (go_at_call 77; refine (l8Ballot_any _ _).mono ?_; rintro e w' ⟨rfl, rfl⟩) | (go_at_call 78; refine (l8Value_any _ _).mono ?_; rintro e w' ⟨rfl, rfl⟩))
    go_ret
    refine ⟨?_, qBq⟩
    rw [sltF_hit (k := k) (c := 3) hR.out (by rw [HXS.out, HN.out]; omega) (by rw [HXS.out, HN.out]; exact hlt) (by rw [HXS.out]; exact HS.out) (by rw [HXS.out]; exact votAt_bad (by rw [← HL.out]; simp [votB, v2])) (by omega)]
    rfl
   have hok : Hid (votB (xs.getD k default) = true) := by show _ = _; rw [← HL.out]; simp [votB, v1, v2]
   cases k with
   | zero =>
    clear hx
    simp only [Nat.zero_mul, Nat.add_zero] at a1 a2
    go_wp2_with (first | (go_at_call 77; refine (l8Ballot_any _ _).mono ?_; rintro e w' ⟨rfl, rfl⟩) | (go_at_call 78; refine (l8Value_any _ _).mono ?_; rintro e w' ⟨rfl, rfl⟩))
    go_quiet (fail)
    go_wp2
    exact ⟨⟨1, by omega, by go_num, scanI_succ HS.out (votAt_ok hok.out (by rw [lastV_zero]; exact other_none hok.out)), ⟨cK (bdrewN (bA (Below.refl _ _) _) _) c0, cK (bdrewN (bA (Below.refl _ _) _) _) c1, cK (bdrewN (bA (Below.refl _ _) _) _) c2, cK (bdrewN (bA (Below.refl _ _) _) _) c3, cK (bdrewN (bA (Below.refl _ _) _) _) c4, cK (bdrewN (bA (Below.refl _ _) _) _) c5⟩, bdrewN (bA hbl _) _⟩, by simp [intOf]; omega⟩
   | succ m =>
    obtain ⟨b', o', he, g2⟩ := hx m (by omega)
    simp only [Option.some.injEq, Addr.mk.injEq, and_true] at he
    obtain ⟨rfl, rfl⟩ := he
    obtain ⟨o, ho⟩ : ∃ o, o = xs.getD m default := ⟨_, rfl⟩
    rw [← ho] at g2
    have HO : Hid (o = xs.getD m default) := ho
    clear ho hx
    obtain ⟨d1, d2⟩ := votCells_below hbl g2
    have i1 : (m : Int) < (n : Int) := by omega
    have z5 : bx < wr.heap.size := wL wr _ d1
    have i2 : m < n := by omega
    have w1 : IntKind.i64.wrap (m : Int) = m := wrapId (by omega) (by omega)
    have hL : Hid (∀ c, votAt xs (m + 1) = c ↔ (if other l o = true then 1 else 0) = c) := by
     intro c
     unfold votAt
     rw [hok.out, lastV_succ, ← HL.out, ← HO.out]
     simp
    by_cases q1 : l.bal < o.bal
    ·
     have e1 : decide (l.bal < o.bal) = true := by simp [q1]
     go_wp2_with (first | (go_at_call 77; refine (l8Ballot_any _ _).mono ?_; rintro e w' ⟨rfl, rfl⟩) | (go_at_call 78; refine (l8Value_any _ _).mono ?_; rintro e w' ⟨rfl, rfl⟩))
     go_quiet (fail)
     go_wp2; go_ret
     refine ⟨?_, bdrewN (bA hbl _) _⟩
     rw [sltF_hit (k := m + 1) (c := 1) hR.out (by rw [HXS.out, HN.out]; omega) (by rw [HXS.out, HN.out]; exact hlt) (by rw [HXS.out]; exact HS.out) (by rw [HXS.out]; exact (hL.out 1).2 (by simp [other, q1])) (by omega)]
     rfl
    have e1 : decide (l.bal < o.bal) = false := by simp [q1]
    by_cases q2 : l.bal = o.bal
    ·
     have e2 : (l.bal == o.bal) = true := by simp [q2]
     by_cases q3 : l.val = o.val
     ·
      have e3 : (l.val != o.val) = false := by simp [q3]
      have HQ : Hid (other l o = false) := by show _ = _; simp [other, q2, q3]
      clear q1 q2 q3
      go_wp2_with (first | (go_at_call 77; refine (l8Ballot_any _ _).mono ?_; rintro e w' ⟨rfl, rfl⟩) | (go_at_call 78; refine (l8Value_any _ _).mono ?_; rintro e w' ⟨rfl, rfl⟩))
      go_quiet (fail)
      go_wp2
      exact ⟨⟨m + 1 + 1, by omega, by go_num, scanI_succ HS.out ((hL.out 0).2 (by rw [HQ.out]; rfl)), ⟨cK (bdrewN (bA (Below.refl _ _) _) _) c0, cK (bdrewN (bA (Below.refl _ _) _) _) c1, cK (bdrewN (bA (Below.refl _ _) _) _) c2, cK (bdrewN (bA (Below.refl _ _) _) _) c3, cK (bdrewN (bA (Below.refl _ _) _) _) c4, cK (bdrewN (bA (Below.refl _ _) _) _) c5⟩, bdrewN (bA hbl _) _⟩, by simp [intOf]; omega⟩
     ·
      have e3 : (l.val != o.val) = true := by simp [q3]
      have HQ : Hid (other l o = true) := by show _ = _; simp [other, q2, q3]
      clear q1 q2 q3
      go_wp2_with (first | (go_at_call 77; refine (l8Ballot_any _ _).mono ?_; rintro e w' ⟨rfl, rfl⟩) | (go_at_call 78; refine (l8Value_any _ _).mono ?_; rintro e w' ⟨rfl, rfl⟩))
      go_quiet (fail)
      go_wp2; go_ret
      refine ⟨?_, bdrewN (bA hbl _) _⟩
      rw [sltF_hit (k := m + 1) (c := 1) hR.out (by rw [HXS.out, HN.out]; omega) (by rw [HXS.out, HN.out]; exact hlt) (by rw [HXS.out]; exact HS.out) (by rw [HXS.out]; exact (hL.out 1).2 (by rw [HQ.out]; rfl)) (by omega)]
      rfl
    ·
     have e2 : (l.bal == o.bal) = false := by simp [q2]
     have HQ : Hid (other l o = false) := by show _ = _; simp [other, q1, q2]
     clear q1 q2
     go_wp2_with (first | (go_at_call 77; refine (l8Ballot_any _ _).mono ?_; rintro e w' ⟨rfl, rfl⟩) | (go_at_call 78; refine (l8Value_any _ _).mono ?_; rintro e w' ⟨rfl, rfl⟩))
     go_quiet (fail)
     go_wp2
     exact ⟨⟨m + 1 + 1, by omega, by go_num, scanI_succ HS.out ((hL.out 0).2 (by rw [HQ.out]; rfl)), ⟨cK (bdrewN (bA (Below.refl _ _) _) _) c0, cK (bdrewN (bA (Below.refl _ _) _) _) c1, cK (bdrewN (bA (Below.refl _ _) _) _) c2, cK (bdrewN (bA (Below.refl _ _) _) _) c3, cK (bdrewN (bA (Below.refl _ _) _) _) c4, cK (bdrewN (bA (Below.refl _ _) _) _) c5⟩, bdrewN (bA hbl _) _⟩, by simp [intOf]; omega⟩
  ·
   have hkn : k = n := by omega
   subst hkn
   have HE : Hid (sltFault d = if (d.lb = (lastV xs k).bal ∧ d.lv = (lastV xs k).val) ∧ d.lb ≤ d.pr then 0 else 1) := by
    show _ = _
    rw [sltF_end hR.out (by rw [HXS.out, HN.out]; omega) (by rw [HXS.out, HN.out]; exact HS.out), HXS.out, HN.out]
   have hLast := fun W h => l8Last_any (.agg #[.int .i64 d.con, .int .i64 d.sh, .int .i64 d.pr, .int .i64 d.lb, .int .i64 d.lv, .slice ax k cx]) d W h
   rw [HXS.out, HN.out] at hLast
   obtain ⟨q, hq⟩ : ∃ q, q = lastV xs k := ⟨_, rfl⟩
   have HQ : Hid (lastV xs k = q) := hq.symm
   rw [← hq] at hLast
   clear hq hx hlt
   have HLast : Hid (∀ W, Below wr.heap.size wr W → Calls Tryz.prog 183 #[.agg #[.int .i64 d.con, .int .i64 d.sh, .int .i64 d.pr, .int .i64 d.lb, .int .i64 d.lv, .slice ax k cx]] W fun e w' => e = .returned (.agg #[.int .i64 q.bal, .int .i64 q.val]) ∧ Below W.heap.size W w') := fun W h => hLast W (sltR.below hX (bS hbl h))
   clear hLast hX
   cases he : (decide (d.lb = q.bal) && decide (d.lv = q.val))
   ·
    clear h1 h2 h3
    have heq : ∀ w, (binOp .neq 87 (.agg #[.int .i64 d.lb, .int .i64 d.lv]) (.agg #[.int .i64 q.bal, .int .i64 q.val])).run Tryz.prog w = .ok (.bool true) w := fun w => by rw [neqVot, he]; rfl
    go_wp2
    refine wp_region_noPanic ?_
    refine region_upto (fun W => Below wr.heap.size wr W ∧ W.cell? ⟨w.heap.size, 0, none⟩ = some (.int .i64 d.con) ∧ W.cell? ⟨w.heap.size, 1, none⟩ = some (.int .i64 d.sh) ∧ W.cell? ⟨w.heap.size, 2, none⟩ = some (.int .i64 d.pr) ∧ W.cell? ⟨w.heap.size, 3, none⟩ = some (.int .i64 d.lb) ∧ W.cell? ⟨w.heap.size, 4, none⟩ = some (.int .i64 d.lv) ∧ W.cell? ⟨w.heap.size, 5, none⟩ = some (.slice ax k cx)) 13 (by kernel_rfl) (keepN6 (qBq) c0 c1 c2 c3 c4 c5) (fun hS => ?_)
    refine tM 0 rfl hS ?_; try simp only [jX]
    refine tM 1 rfl hS ?_; try simp only [jX]
    refine tM 2 rfl hS ?_; try simp only [jX]
    refine uS 3 rfl (fun K hK => ?_)
    go_simp
    refine (HLast.out _ hS.1).mono ?_
    rintro e w3 ⟨rfl, hb3⟩
    have hS3 : (fun W => Below wr.heap.size wr W ∧ W.cell? ⟨w.heap.size, 0, none⟩ = some (.int .i64 d.con) ∧ W.cell? ⟨w.heap.size, 1, none⟩ = some (.int .i64 d.sh) ∧ W.cell? ⟨w.heap.size, 2, none⟩ = some (.int .i64 d.pr) ∧ W.cell? ⟨w.heap.size, 3, none⟩ = some (.int .i64 d.lb) ∧ W.cell? ⟨w.heap.size, 4, none⟩ = some (.int .i64 d.lv) ∧ W.cell? ⟨w.heap.size, 5, none⟩ = some (.slice ax k cx)) w3 := ⟨bS hS.1 hb3, cK hb3 hS.2.1, cK hb3 hS.2.2.1, cK hb3 hS.2.2.2.1, cK hb3 hS.2.2.2.2.1, cK hb3 hS.2.2.2.2.2.1, cK hb3 hS.2.2.2.2.2.2⟩
    refine hK _ _ (fun _ => hS3) ?_
    clear hK K hS hb3
    try simp only [jX]
    refine tM 4 (v := (.bool true)) rfl hS3 ?_; try simp only [jX]
    refine tM 5 (v := (.bool true)) rfl hS3 ?_; try simp only [jX]
    refine sN 6 rfl hS3 (fun _ => ?_); try simp only [jX]
    refine sN 7 rfl hS3 (fun _ => ?_); try simp only [jX]
    refine sN 8 rfl hS3 (fun _ => ?_); try simp only [jX]
    refine sN 9 rfl hS3 (fun _ => ?_); try simp only [jX]
    refine sN 10 rfl hS3 (fun _ => ?_); try simp only [jX]
    refine sN 11 rfl hS3 (fun _ => ?_); try simp only [jX]
    refine tM 12 (v := (.bool true)) rfl hS3 ?_; try simp only [jX]
    refine dN (NoPanic.normal ?_)
    have hB3 := bS hbl hS3.1
    clear hS3
    go_wp2; go_ret
    refine ⟨?_, hB3⟩
    rw [HE.out, HQ.out, if_neg (by simp at he; rintro ⟨⟨e1, e2⟩, _⟩; exact he e1 e2)]
    rfl
   ·
    clear h1 h2 h3
    have heq : ∀ w, (binOp .neq 87 (.agg #[.int .i64 d.lb, .int .i64 d.lv]) (.agg #[.int .i64 q.bal, .int .i64 q.val])).run Tryz.prog w = .ok (.bool false) w := fun w => by rw [neqVot, he]; rfl
    go_wp2
    refine wp_region_noPanic ?_
    refine region_upto (fun W => Below wr.heap.size wr W ∧ W.cell? ⟨w.heap.size, 0, none⟩ = some (.int .i64 d.con) ∧ W.cell? ⟨w.heap.size, 1, none⟩ = some (.int .i64 d.sh) ∧ W.cell? ⟨w.heap.size, 2, none⟩ = some (.int .i64 d.pr) ∧ W.cell? ⟨w.heap.size, 3, none⟩ = some (.int .i64 d.lb) ∧ W.cell? ⟨w.heap.size, 4, none⟩ = some (.int .i64 d.lv) ∧ W.cell? ⟨w.heap.size, 5, none⟩ = some (.slice ax k cx)) 13 (by kernel_rfl) (keepN6 (qBq) c0 c1 c2 c3 c4 c5) (fun hS => ?_)
    refine tM 0 rfl hS ?_; try simp only [jX]
    refine tM 1 rfl hS ?_; try simp only [jX]
    refine tM 2 rfl hS ?_; try simp only [jX]
    refine uS 3 rfl (fun K hK => ?_)
    go_simp
    refine (HLast.out _ hS.1).mono ?_
    rintro e w3 ⟨rfl, hb3⟩
    have hS3 : (fun W => Below wr.heap.size wr W ∧ W.cell? ⟨w.heap.size, 0, none⟩ = some (.int .i64 d.con) ∧ W.cell? ⟨w.heap.size, 1, none⟩ = some (.int .i64 d.sh) ∧ W.cell? ⟨w.heap.size, 2, none⟩ = some (.int .i64 d.pr) ∧ W.cell? ⟨w.heap.size, 3, none⟩ = some (.int .i64 d.lb) ∧ W.cell? ⟨w.heap.size, 4, none⟩ = some (.int .i64 d.lv) ∧ W.cell? ⟨w.heap.size, 5, none⟩ = some (.slice ax k cx)) w3 := ⟨bS hS.1 hb3, cK hb3 hS.2.1, cK hb3 hS.2.2.1, cK hb3 hS.2.2.2.1, cK hb3 hS.2.2.2.2.1, cK hb3 hS.2.2.2.2.2.1, cK hb3 hS.2.2.2.2.2.2⟩
    refine hK _ _ (fun _ => hS3) ?_
    clear hK K hS hb3
    try simp only [jX]
    refine tM 4 (v := (.bool false)) rfl hS3 ?_; try simp only [jX]
    refine tM 5 (v := (.bool false)) rfl hS3 ?_; try simp only [jX]
    refine tM 6 rfl hS3 ?_; try simp only [jX]
    refine tM 7 rfl hS3 ?_; try simp only [jX]
    refine tM 8 rfl hS3 ?_; try simp only [jX]
    refine tM 9 rfl hS3 ?_; try simp only [jX]
    refine tM 10 rfl hS3 ?_; try simp only [jX]
    refine tM 11 rfl hS3 ?_; try simp only [jX]
    refine tM 12 rfl hS3 ?_; try simp only [jX]
    refine dN (NoPanic.normal ?_)
    have hB3 := bS hbl hS3.1
    clear hS3
    go_wp2
    ·
     rename_i hle
     go_ret
     refine ⟨?_, hB3⟩
     rw [HE.out, HQ.out, if_neg (by rintro ⟨_, h⟩; omega)]
     rfl
    ·
     rename_i hle
     go_ret
     refine ⟨?_, hB3⟩
     simp at he
     rw [HE.out, HQ.out, if_pos ⟨he, by omega⟩]
     rfl
variable [DecidableEq SltR] [Inhabited SltR] [DecidableEq Acc] [Inhabited Acc] [DecidableEq AccR] [Inhabited AccR] [DecidableEq AccsR] [Inhabited AccsR] [DecidableEq SltsR] [Inhabited SltsR]
theorem specAccF_any (x : Value) (d : Acc) (w : World) (hx : accR.V w x d) :
  Calls Tryz.prog 74 #[x] w fun e w' => e = .returned (.int .i64 (accF d.slots)) ∧ Below w.heap.size w w' := by
 obtain ⟨u1, rfl, hx⟩ := hx
 obtain ⟨ax, cx, rfl, hcx, hmx, hx⟩ := hx
 unfold maxLen at hmx
 obtain ⟨xs⟩ := d
 dsimp only at hx hcx ⊢
 obtain ⟨n, hn'⟩ : ∃ n, n = xs.length := ⟨_, rfl⟩
 have HN : Hid (xs.length = n) := hn'.symm
 rw [← hn'] at hcx hx ⊢
 clear hn'
 by_cases h6 : 60 < n
 ·
  have HC : Hid (accF xs = 2) := accF_many (by rw [HN.out]; exact h6)
  have h6' : (60 : Int) < n := by omega
  clear hx
  go_enter Tryz.func74, Tryz.ntmps74
  go_wp2; go_ret
  exact ⟨by rw [HC.out]; rfl, qBq⟩
 have h6' : ¬ (60 : Int) < n := by omega
 have HH : Hid (∀ k c, k < n → scanI (accAt xs) k = 0 → accAt xs k = c → ¬ c = 0 → accF xs = c) := fun k c hk hs hc h0 => accF_hit (by rw [HN.out]; exact h6) (by rw [HN.out]; exact hk) hs hc h0
 have HE : Hid (scanI (accAt xs) n = 0 → accF xs = 0) := fun hs => accF_end (by rw [HN.out]; exact h6) (by rw [HN.out]; exact hs)
 clear h6
 go_enter Tryz.func74, Tryz.ntmps74
 go_wp2
 go_loopw [3] (fun i w' => ∃ k : Nat, k ≤ n ∧ i = .int .i64 k ∧ scanI (accAt xs) k = 0 ∧ w'.cell? ⟨w.heap.size, 0, none⟩ = some (.slice ax n cx) ∧ Below w.heap.size w w') (fun i _ => n - (intOf i).toNat)
 case atStart => exact ⟨0, Nat.zero_le _, rfl, rfl, by simp [go_sem], qBq⟩
 case round =>
  obtain ⟨k, hk, rfl, hs, hq, hbl⟩ := hrel
  have HS : Hid (scanI (accAt xs) k = 0) := hs
  clear hs
  by_cases hlt : k < n
  ·
   obtain ⟨bxa, oxa, ua, rfl, _, pa, hva⟩ := hx k (by omega)
   obtain ⟨l, hla⟩ : ∃ l, l = xs.getD k default := ⟨_, rfl⟩
   rw [← hla] at hva
   have HLa : Hid (l = xs.getD k default) := hla
   clear hla
   have hVa := hva
   obtain ⟨sa, rfl, hca⟩ := hva
   obtain ⟨aua, cua, rfl⟩ := vots_form hca
   clear hca
   have ga0 : w.cell? ⟨bxa, oxa + k * 6, none⟩ = some (.int .i64 l.con) := pa 0 (by omega)
   have ga1 : w.cell? ⟨bxa, oxa + k * 6 + 1, none⟩ = some (.int .i64 l.sh) := pa 1 (by omega)
   have ga2 : w.cell? ⟨bxa, oxa + k * 6 + 2, none⟩ = some (.int .i64 l.pr) := pa 2 (by omega)
   have ga3 : w.cell? ⟨bxa, oxa + k * 6 + 3, none⟩ = some (.int .i64 l.lb) := pa 3 (by omega)
   have ga4 : w.cell? ⟨bxa, oxa + k * 6 + 4, none⟩ = some (.int .i64 l.lv) := pa 4 (by omega)
   have ga5 : w.cell? ⟨bxa, oxa + k * 6 + 5, none⟩ = some (.slice aua l.cast.length cua) := pa 5 (by omega)
   clear pa
   have HF : Hid (∀ W, Below w.heap.size w W → Calls Tryz.prog 126 #[.agg #[.int .i64 l.con, .int .i64 l.sh, .int .i64 l.pr, .int .i64 l.lb, .int .i64 l.lv, .slice aua l.cast.length cua]] W fun e w' => e = .returned (.int .i64 (sltFault l)) ∧ Below W.heap.size W w') := fun W h => specSlotF_any _ l W (sltR.below hVa h)
   clear hVa
   have hX : Hid (∀ i, i < n → ∃ b o u, some (⟨bxa, oxa, none⟩ : Addr) = some ⟨b, o, none⟩ ∧ (lvSlt u).length = 6 ∧ (∀ j, j < 6 → w.cell? ⟨b, o + i * 6 + j, none⟩ = (lvSlt u)[j]?) ∧ sltR.V w u (xs.getD i default)) := hx
   clear hx
   replace ga0 := cK hbl ga0
   replace ga1 := cK hbl ga1
   replace ga2 := cK hbl ga2
   replace ga3 := cK hbl ga3
   replace ga4 := cK hbl ga4
   replace ga5 := cK hbl ga5
   have zb : bxa < wr.heap.size := wL wr _ ga0
   have zq : w.heap.size < wr.heap.size := wL wr _ hq
   go_wp2_with fail
   refine (HF.out _ (qBq)).mono ?_
   rintro e w1 ⟨rfl, hb1⟩
   have hB1 : Below w.heap.size w w1 := bS (qBq) hb1
   have hq1 : w1.cell? ⟨w.heap.size, 0, none⟩ = some (.slice (some ⟨bxa, oxa, none⟩) n cx) := cK hb1 (by simp [go_sem, hq, zq])
   replace ga0 := cK hb1 (cK (qBq) ga0)
   replace ga1 := cK hb1 (cK (qBq) ga1)
   replace ga2 := cK hb1 (cK (qBq) ga2)
   replace ga3 := cK hb1 (cK (qBq) ga3)
   replace ga4 := cK hb1 (cK (qBq) ga4)
   replace ga5 := cK hb1 (cK (qBq) ga5)
   clear hb1 hq
   have HX : Hid (accAt xs k = if sltFault l = 0 then (if k = 0 then 0 else if aheadS (xs.getD (k - 1) default) l = true then 0 else 1) else sltFault l) := by show _ = _; unfold accAt; rw [← HLa.out]
   by_cases hf : sltFault l = 0
   ·
    rw [hf]
    have HX2 : Hid (accAt xs k = if k = 0 then 0 else if aheadS (xs.getD (k - 1) default) l = true then 0 else 1) := by show _ = _; rw [HX.out, if_pos hf]
    clear hf HX
    cases k with
    | zero =>
     have H0 : Hid (accAt xs 0 = 0) := by show _ = _; rw [HX2.out, if_pos rfl]
     clear HX2
     clear ga0 ga1 ga2 ga3 ga4 ga5 hX
     go_wp2
     go_quiet (fail)
     go_wp2
     exact ⟨⟨1, by omega, by go_num, scanI_succ HS.out H0.out, cK (bdrewN (Below.refl _ _) _) hq1, bdrewN hB1 _⟩, by simp [intOf]; omega⟩
    | succ p =>
     have hx := hX.out
     clear hX
     have hxz := hx p (by omega)
     obtain ⟨bxz, oxz, uz, hez, _, pz, hvz⟩ := hxz
     simp only [Option.some.injEq, Addr.mk.injEq, and_true] at hez
     obtain ⟨rfl, rfl⟩ := hez
     obtain ⟨z, hlz⟩ : ∃ l, l = xs.getD p default := ⟨_, rfl⟩
     rw [← hlz] at hvz
     have HLz : Hid (z = xs.getD p default) := hlz
     clear hlz
     have hVz := hvz
     obtain ⟨sz, rfl, hcz⟩ := hvz
     obtain ⟨auz, cuz, rfl⟩ := vots_form hcz
     clear hcz
     have gz0 : w.cell? ⟨bxa, oxa + p * 6, none⟩ = some (.int .i64 z.con) := pz 0 (by omega)
     have gz1 : w.cell? ⟨bxa, oxa + p * 6 + 1, none⟩ = some (.int .i64 z.sh) := pz 1 (by omega)
     have gz2 : w.cell? ⟨bxa, oxa + p * 6 + 2, none⟩ = some (.int .i64 z.pr) := pz 2 (by omega)
     have gz3 : w.cell? ⟨bxa, oxa + p * 6 + 3, none⟩ = some (.int .i64 z.lb) := pz 3 (by omega)
     have gz4 : w.cell? ⟨bxa, oxa + p * 6 + 4, none⟩ = some (.int .i64 z.lv) := pz 4 (by omega)
     have gz5 : w.cell? ⟨bxa, oxa + p * 6 + 5, none⟩ = some (.slice auz z.cast.length cuz) := pz 5 (by omega)
     clear pz
     clear hx hVz
     replace gz0 := cK hB1 gz0
     replace gz1 := cK hB1 gz1
     replace gz2 := cK hB1 gz2
     replace gz3 := cK hB1 gz3
     replace gz4 := cK hB1 gz4
     replace gz5 := cK hB1 gz5
     have i1 : (p : Int) < (n : Int) := by omega
     have i2 : ((p + 1 : Nat) : Int) < (n : Int) := by omega
     have i3 : (0 : Int) < ((p + 1 : Nat) : Int) := by omega
     have i4 : decide (0 < p + 1) = true := decide_eq_true (by omega)
     have i5 : IntKind.i64.wrap (((p + 1 : Nat) : Int) - 1) = (p : Int) := by rw [IntKind.wrap_i64]; omega
     have i6 : (0 : Int) ≤ ((p + 1 : Nat) : Int) := by omega
     have i7 : (0 : Int) ≤ (p : Int) := by omega
     have i8 : (p : Int) + 1 < (n : Int) := by omega
     have i9 : (0 : Int) ≤ (p : Int) + 1 := by omega
     have i10 : ((p : Int) + 1).toNat = p + 1 := by omega
     have w1' : IntKind.i64.wrap (p : Int) = p := wrapId (by omega) (by omega)
     have HX3 : Hid (accAt xs (p + 1) = if aheadS z l = true then 0 else 1) := by show _ = _; rw [HX2.out, if_neg (by omega), Nat.add_sub_cancel, ← HLz.out]
     clear HX2
     obtain ⟨u, hu⟩ : ∃ u : Value, u = .slice aua l.cast.length cua := ⟨_, rfl⟩
     obtain ⟨u', hu'⟩ : ∃ u : Value, u = .slice auz z.cast.length cuz := ⟨_, rfl⟩
     have rA : w1.cell? ⟨bxa, oxa + (p + 1) * 6, none⟩ = some (.int .i64 l.con) ∧ w1.cell? ⟨bxa, oxa + (p + 1) * 6 + 1, none⟩ = some (.int .i64 l.sh) ∧ w1.cell? ⟨bxa, oxa + (p + 1) * 6 + 2, none⟩ = some (.int .i64 l.pr) ∧ w1.cell? ⟨bxa, oxa + (p + 1) * 6 + 3, none⟩ = some (.int .i64 l.lb) ∧ w1.cell? ⟨bxa, oxa + (p + 1) * 6 + 4, none⟩ = some (.int .i64 l.lv) ∧ w1.cell? ⟨bxa, oxa + (p + 1) * 6 + 5, none⟩ = some (.slice aua l.cast.length cua) := ⟨ga0, ga1, ga2, ga3, ga4, ga5⟩
     have rZ : w1.cell? ⟨bxa, oxa + p * 6, none⟩ = some (.int .i64 z.con) ∧ w1.cell? ⟨bxa, oxa + p * 6 + 1, none⟩ = some (.int .i64 z.sh) ∧ w1.cell? ⟨bxa, oxa + p * 6 + 2, none⟩ = some (.int .i64 z.pr) ∧ w1.cell? ⟨bxa, oxa + p * 6 + 3, none⟩ = some (.int .i64 z.lb) ∧ w1.cell? ⟨bxa, oxa + p * 6 + 4, none⟩ = some (.int .i64 z.lv) ∧ w1.cell? ⟨bxa, oxa + p * 6 + 5, none⟩ = some (.slice auz z.cast.length cuz) := ⟨gz0, gz1, gz2, gz3, gz4, gz5⟩
     clear ga0 gz0 ga1 gz1 ga2 gz2 ga3 gz3 ga4 gz4 ga5 gz5 hu hu'
     cases hah : aheadS z l
     ·
      have hah' : aheadS z l = false := hah
      have HAH : Hid (aheadS z l = false) := hah'
      clear hah'
      go_wp2
      go_region_held3 (fun W => Below w1.heap.size w1 W ∧ (W.cell? ⟨bxa, oxa + (p + 1) * 6, none⟩ = some (.int .i64 l.con) ∧ W.cell? ⟨bxa, oxa + (p + 1) * 6 + 1, none⟩ = some (.int .i64 l.sh) ∧ W.cell? ⟨bxa, oxa + (p + 1) * 6 + 2, none⟩ = some (.int .i64 l.pr) ∧ W.cell? ⟨bxa, oxa + (p + 1) * 6 + 3, none⟩ = some (.int .i64 l.lb) ∧ W.cell? ⟨bxa, oxa + (p + 1) * 6 + 4, none⟩ = some (.int .i64 l.lv) ∧ W.cell? ⟨bxa, oxa + (p + 1) * 6 + 5, none⟩ = some (.slice aua l.cast.length cua)) ∧ (W.cell? ⟨bxa, oxa + p * 6, none⟩ = some (.int .i64 z.con) ∧ W.cell? ⟨bxa, oxa + p * 6 + 1, none⟩ = some (.int .i64 z.sh) ∧ W.cell? ⟨bxa, oxa + p * 6 + 2, none⟩ = some (.int .i64 z.pr) ∧ W.cell? ⟨bxa, oxa + p * 6 + 3, none⟩ = some (.int .i64 z.lb) ∧ W.cell? ⟨bxa, oxa + p * 6 + 4, none⟩ = some (.int .i64 z.lv) ∧ W.cell? ⟨bxa, oxa + p * 6 + 5, none⟩ = some (.slice auz z.cast.length cuz)) ∧ W.cell? ⟨w.heap.size, 0, none⟩ = some (.slice (some ⟨bxa, oxa, none⟩) n cx)) ((refine sltKeep3 ?_ rA rZ hq1; repeat (first | exact bR _ _ | assumption | refine bD ?_ | refine bA ?_ _ | refine bS ?_ (by assumption)))) (first | (go_at_call 127; refine (l9Ahead_any z l _ _ _).mono ?_; rintro e wa ⟨rfl, hb2⟩; rw [hah]))
      rename_i hH
      have hB2 := bS hB1 hH.1
      have hq2 := hH.2.2.2
      clear hH
      have HC : Hid (accF xs = 1) := HH.out (p + 1) 1 hlt HS.out (by rw [HX3.out, HAH.out]; rfl) (by omega)
      go_wp2; go_ret
      exact ⟨by rw [HC.out]; rfl, hB2⟩
     ·
      have hah' : aheadS z l = true := hah
      have HAH : Hid (aheadS z l = true) := hah'
      clear hah'
      go_wp2
      go_region_held3 (fun W => Below w1.heap.size w1 W ∧ (W.cell? ⟨bxa, oxa + (p + 1) * 6, none⟩ = some (.int .i64 l.con) ∧ W.cell? ⟨bxa, oxa + (p + 1) * 6 + 1, none⟩ = some (.int .i64 l.sh) ∧ W.cell? ⟨bxa, oxa + (p + 1) * 6 + 2, none⟩ = some (.int .i64 l.pr) ∧ W.cell? ⟨bxa, oxa + (p + 1) * 6 + 3, none⟩ = some (.int .i64 l.lb) ∧ W.cell? ⟨bxa, oxa + (p + 1) * 6 + 4, none⟩ = some (.int .i64 l.lv) ∧ W.cell? ⟨bxa, oxa + (p + 1) * 6 + 5, none⟩ = some (.slice aua l.cast.length cua)) ∧ (W.cell? ⟨bxa, oxa + p * 6, none⟩ = some (.int .i64 z.con) ∧ W.cell? ⟨bxa, oxa + p * 6 + 1, none⟩ = some (.int .i64 z.sh) ∧ W.cell? ⟨bxa, oxa + p * 6 + 2, none⟩ = some (.int .i64 z.pr) ∧ W.cell? ⟨bxa, oxa + p * 6 + 3, none⟩ = some (.int .i64 z.lb) ∧ W.cell? ⟨bxa, oxa + p * 6 + 4, none⟩ = some (.int .i64 z.lv) ∧ W.cell? ⟨bxa, oxa + p * 6 + 5, none⟩ = some (.slice auz z.cast.length cuz)) ∧ W.cell? ⟨w.heap.size, 0, none⟩ = some (.slice (some ⟨bxa, oxa, none⟩) n cx)) ((refine sltKeep3 ?_ rA rZ hq1; repeat (first | exact bR _ _ | assumption | refine bD ?_ | refine bA ?_ _ | refine bS ?_ (by assumption)))) (first | (go_at_call 127; refine (l9Ahead_any z l _ _ _).mono ?_; rintro e wa ⟨rfl, hb2⟩; rw [hah]))
      rename_i hH
      have hB2 := bS hB1 hH.1
      have hq2 := hH.2.2.2
      clear hH
      have H0 : Hid (accAt xs (p + 1) = 0) := by show _ = _; rw [HX3.out, HAH.out]; rfl
      go_wp2
      exact ⟨⟨p + 1 + 1, by omega, by go_num, scanI_succ HS.out H0.out, hq2, hB2⟩, by simp [intOf]; omega⟩
   ·
    have HC : Hid (accF xs = sltFault l) := HH.out k _ hlt HS.out (by rw [HX.out, if_neg hf]) hf
    clear HX hX
    generalize sltFault l = c at *
    go_wp2; go_ret
    exact ⟨by rw [HC.out]; rfl, hB1⟩
  ·
   have hkn : k = n := by omega
   subst hkn
   have HC : Hid (accF xs = 0) := HE.out HS.out
   go_wp2; go_ret
   exact ⟨by rw [HC.out]; rfl, qBq⟩
variable [DecidableEq Cont] [Inhabited Cont] [DecidableEq Mrk] [Inhabited Mrk] [DecidableEq Shd] [Inhabited Shd] [DecidableEq Trr] [Inhabited Trr] [DecidableEq Hrd] [Inhabited Hrd] [DecidableEq Ldr] [Inhabited Ldr] [DecidableEq Msg] [Inhabited Msg] [DecidableEq Clu] [Inhabited Clu] [DecidableEq Rw] [Inhabited Rw] [DecidableEq LedgR] [Inhabited LedgR] [DecidableEq OutcR] [Inhabited OutcR] [DecidableEq ShdR] [Inhabited ShdR]
theorem slts_atF {w : World} {a : Option Addr} {n c : Nat} {ss : List Slt} (hx : sltsR.V w (.slice a n c) ss) : ss.length = n ∧ n ≤ c ∧ c ≤ maxLen ∧ ∀ j, j < n → ∃ b o au nu cu, a = some ⟨b, o, none⟩ ∧ w.cell? ⟨b, o + j * 6, none⟩ = some (.int .i64 (ss.getD j default).con) ∧ w.cell? ⟨b, o + j * 6 + 1, none⟩ = some (.int .i64 (ss.getD j default).sh) ∧ w.cell? ⟨b, o + j * 6 + 2, none⟩ = some (.int .i64 (ss.getD j default).pr) ∧ w.cell? ⟨b, o + j * 6 + 3, none⟩ = some (.int .i64 (ss.getD j default).lb) ∧ w.cell? ⟨b, o + j * 6 + 4, none⟩ = some (.int .i64 (ss.getD j default).lv) ∧ w.cell? ⟨b, o + j * 6 + 5, none⟩ = some (.slice au nu cu) := by
 obtain ⟨a', c', e, h1, h2, h3⟩ := hx
 simp only [Value.slice.injEq] at e
 obtain ⟨rfl, rfl, rfl⟩ := e
 refine ⟨rfl, h1, h2, fun k hk => ?_⟩
 obtain ⟨b, o, u, e, _, p, hv⟩ := h3 k hk
 obtain ⟨s, rfl, hc⟩ := hv
 obtain ⟨au, cu, rfl⟩ := vots_form hc
 exact ⟨b, o, _, _, _, e, p 0 (by omega), p 1 (by omega), p 2 (by omega), p 3 (by omega), p 4 (by omega), p 5 (by omega)⟩
theorem l11Acceptors_any (B : Nat) (c : Clu) (w : World) (h : CluB w B c) (hlen : ∀ k, k < c.cons.length → (c.cons.getD k default).legs.length ≤ 1048576) :
  Calls Tryz.prog 35 #[.pointer (some ⟨B, 0, none⟩)] w fun e w' => e = .returned (.int .i64 (accsF c)) ∧ Below w.heap.size w w' := by
 have HP : Hid (∀ W, Below w.heap.size w W → CluP W B c) := fun W hW => (h.below hW).p
 obtain ⟨a0, a1, a2, a3, a4, c0, c1, c2, c3, c4, n0, n1, n2, n3, n4, ⟨y0, y1, y2, y3, y4⟩, hx⟩ := h
 have hf := clu_lens hx
 obtain ⟨e0, e1, e2, e3, e4, L0, L1, L2, L3, L4⟩ := hf
 obtain ⟨u1, u2, u3, u4, u5, eq, h1, h2, h3, h4, h5⟩ := hx
 simp only [Value.agg.injEq, Array.mk.injEq, List.cons.injEq, and_true] at eq
 obtain ⟨rfl, rfl, rfl, rfl, rfl⟩ := eq
 have zB : B < w.heap.size := wL w _ y0
 obtain ⟨_, hnc, hmc, HA⟩ := accs_atC h3
 unfold maxLen at hmc
 have HX : Hid _ := HA
 have HHas : Hid (∀ (a s : Int) W, Below w.heap.size w W → Calls Tryz.prog 72 #[.pointer (some ⟨B, 0, none⟩), .int .i64 a, .int .i64 s] W fun e w' => e = .returned (.bool (hasL c a s)) ∧ Below W.heap.size W w') := fun a s W hW => l11Has_any B c a s W (HP.out W hW) hlen
 have H1 : Hid (∀ k, k < n2 → scanI (accAtC c) k = 0 → ¬ accAtC c k = 0 → accsF c = accAtC c k) := fun k hk hs h0 => by unfold accsF; exact scanI_hit hs h0 _ (by rw [e2]; exact hk)
 have H2 : Hid (scanI (accAtC c) n2 = 0 → accsF c = 0) := fun h => by unfold accsF; rw [e2]; exact h
 clear HA h1 h2 h3 h4 h5 hlen e0 e1 e2 e3 e4 L0 L1 L3 L4 HP y0 y1 y3 y4
 generalize accsF c = R at *
 go_enter Tryz.func35, Tryz.ntmps35
 go_wp2
 go_loopw [3] (fun i w' => ∃ k : Nat, k ≤ n2 ∧ i = .int .i64 k ∧ Hid (scanI (accAtC c) k = 0) ∧ Below w.heap.size w w') (fun i _ => n2 - (intOf i).toNat)
 case atStart => exact ⟨0, Nat.zero_le _, rfl, rfl, qBq⟩
 case round =>
  obtain ⟨k, hk, rfl, HS, hbl⟩ := hrel
  replace y2 := cK hbl y2
  have zB' : B < wr.heap.size := wL wr _ y2
  by_cases hlt : k < n2
  ·
   have HA := HX.out k hlt
   have HH : Hid (¬ accAtC c k = 0 → R = accAtC c k) := fun h => H1.out k hlt HS.out h
   have HZ : Hid (accAtC c k = 0 → scanI (accAtC c) (k + 1) = 0) := fun h => scanI_succ HS.out h
   have HD : Hid (accAtC c k = orF (accF (c.accs.getD k default).slots) (if slotOff c (c.accs.getD k default).slots = true then 4 else 0)) := rfl
   obtain ⟨l, hl0⟩ : ∃ l, l = c.accs.getD k default := ⟨_, rfl⟩
   rw [← hl0] at HA HD
   clear hl0
   obtain ⟨b, o, p, q, rfl, g0, hv⟩ := HA
   have HF : Hid (∀ W, Below w.heap.size w W → Calls Tryz.prog 74 #[.agg #[.slice p l.slots.length q]] W fun e w' => e = .returned (.int .i64 (accF l.slots)) ∧ Below W.heap.size W w') := fun W hW => specAccF_any _ l W ⟨_, rfl, sltsR.below hv hW⟩
   obtain ⟨_, hnc2, hmc2, HA2⟩ := slts_atF hv
   unfold maxLen at hmc2
   obtain ⟨ss, hss⟩ : ∃ ss, ss = l.slots := ⟨_, rfl⟩
   rw [← hss] at HF HD HA2 g0 hnc2
   have HY : Hid _ := HA2
   have HN : Hid (∀ j, j < ss.length → hasL c (ss.getD j default).con (ss.getD j default).sh = false → slotOff c ss = true) := fun j hj h => by
    show _ = _
    unfold slotOff
    rw [List.any_eq_true]
    exact ⟨ss.getD j default, by simp [List.getD, hj], by rw [h]; rfl⟩
   have HA3 : Hid ((∀ j, j < ss.length → hasL c (ss.getD j default).con (ss.getD j default).sh = true) → slotOff c ss = false) := fun h => by
    show _ = _
    unfold slotOff
    rw [List.any_eq_false]
    intro y hy
    obtain ⟨i, hi, rfl⟩ := List.getElem_of_mem hy
    have := h i hi
    simp only [List.getD, List.getElem?_eq_getElem hi, Option.getD_some] at this
    rw [this]
    simp
   clear hv HA2 hss
   replace g0 := cK hbl g0
   have zb : b < wr.heap.size := wL wr _ g0
   have hti : (k : Int) < (n2 : Int) := by omega
   generalize accAtC c k = z at *
   generalize slotOff c ss = so at *
   generalize accF ss = sf at *
   generalize hm' : ss.length = m at *
   clear hm'
   go_wp2_with fail
   refine (HF.out _ (qBq)).mono ?_
   rintro e w1 ⟨rfl, hb1⟩
   have hB1 : Below w.heap.size w w1 := bS (qBq) hb1
   replace y2 := cK hb1 (by first | exact y2 | exact cK (qBq) y2)
   replace g0 := cK hb1 (by first | exact g0 | exact cK (qBq) g0)
   clear hb1 HF
   by_cases hsf : sf = 0
   rotate_left
   ·
    have hz : z = sf := by rw [HD.out, orF_n hsf]
    have HC : Hid (R = sf) := by show _ = _; rw [← hz]; exact HH.out (by rw [hz]; exact hsf)
    have hsf' : (sf != 0) = true := by simp [hsf]
    clear HH HZ HD hz HN HA3 HY
    go_wp2; go_ret
    exact ⟨by rw [HC.out]; rfl, hB1⟩
   subst hsf
   have HD2 : Hid (z = if so = true then 4 else 0) := by show _ = _; rw [HD.out, orF_z rfl]
   clear HD
   go_wp2
   go_loopw [5] (fun i w' => ∃ j : Nat, j ≤ m ∧ i = .int .i64 j ∧ Hid (∀ j', j' < j → hasL c (ss.getD j' default).con (ss.getD j' default).sh = true) ∧ Below w1.heap.size w1 w') (fun i _ => m - (intOf i).toNat)
   case atStart => exact ⟨0, Nat.zero_le _, rfl, fun j hj => absurd hj (Nat.not_lt_zero _), Below.refl _ _⟩
   case round =>
    obtain ⟨j, hj, rfl, HS2, hbl2⟩ := hrel
    have hblw := bS hB1 hbl2
    replace y2 := cK hbl2 y2
    replace g0 := cK hbl2 g0
    by_cases hlt2 : j < m
    ·
     have HA4 := HY.out j hlt2
     have HNj := HN.out j hlt2
     have HSt : Hid (hasL c (ss.getD j default).con (ss.getD j default).sh = true → ∀ j', j' < j + 1 → hasL c (ss.getD j' default).con (ss.getD j' default).sh = true) := fun h j' hj' => by
      by_cases e : j' = j
      ·
       rw [e]; exact h
      ·
       exact HS2.out j' (by omega)
     obtain ⟨s, hs0⟩ : ∃ s, s = ss.getD j default := ⟨_, rfl⟩
     rw [← hs0] at HA4 HNj HSt
     clear hs0
     have HNj' : Hid (hasL c s.con s.sh = false → so = true) := HNj
     clear HNj
     obtain ⟨bs, os, au, nu, cu, rfl, k0, k1, k2, k3, k4, k5⟩ := HA4
     replace k0 := cK hblw k0
     replace k1 := cK hblw k1
     replace k2 := cK hblw k2
     replace k3 := cK hblw k3
     replace k4 := cK hblw k4
     replace k5 := cK hblw k5
     have zbs : bs < _ := wL _ _ k0
     have hti2 : (j : Int) < (m : Int) := by omega
     have HC1 := HHas.out s.con s.sh
     have HC2 : Hid _ := HC1
     clear HC1
     generalize hasL c s.con s.sh = hl at *
     go_wp2_with fail
     refine (HC2.out _ (qBq)).mono ?_
     rintro e w3 ⟨rfl, hb3⟩
     have hB3 : Below w1.heap.size w1 w3 := bS (qBq) hb3
     clear hb3 HC2 k0 k1 k2 k3 k4 k5
     cases hl
     ·
      have hso : so = true := HNj'.out rfl
      have hz : z = 4 := by rw [HD2.out, hso]; rfl
      have HC : Hid (R = 4) := by show _ = _; rw [← hz]; exact HH.out (by rw [hz]; omega)
      have hB4 := bS hB1 hB3
      clear HH HZ HD2 hz hso HSt HNj'
      go_wp2; go_ret
      exact ⟨by rw [HC.out]; rfl, hB4⟩
     ·
      have HQ : Hid _ := HSt.out rfl
      clear HSt HNj'
      go_wp2
      exact ⟨⟨j + 1, by omega, by go_num, HQ, hB3⟩, by simp [intOf]; omega⟩
    ·
     obtain rfl : j = m := by omega
     have hti2 : ¬ (j : Int) < (j : Int) := by omega
     have hso : so = false := HA3.out HS2.out
     have hz : z = 0 := by rw [HD2.out, hso]; rfl
     have HQ : Hid _ := HZ.out hz
     clear HH HZ HD2 hz hso HN HA3 HY
     go_wp2
     exact ⟨⟨k + 1, by omega, by go_num, HQ, hblw⟩, by simp [intOf]; omega⟩
  ·
   obtain rfl : k = n2 := by omega
   have hti : ¬ (k : Int) < (k : Int) := by omega
   have HC : Hid (R = 0) := H2.out HS.out
   go_wp2; go_ret
   exact ⟨by rw [HC.out]; rfl, hbl⟩
end Go.Proofs.YtackhljepbhpgaaGreat


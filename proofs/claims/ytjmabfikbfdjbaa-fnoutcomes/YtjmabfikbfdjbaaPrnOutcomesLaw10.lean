import Derived.Test.YtjmabfikbfdjbaaPrnOutcomesLaw9
import Derived.Test.YtjmabfikbfdjbaaPrnOutcomesLaw4
import Derived.Test.YtjmabfikbfdjbaaPrnOutcomesLaw7
import Derived.BigQuiet
import Derived.Deep.QuietTactic
import Derived.Deep.RegionHeld3
import Derived.Test.YtjmabfikbfdjbaaPrnOutcomesLaw8
import Derived.Deep.DrawnRows
import Derived.Test.YtjmabfikbfdjbaaPrnOutcomesLaw6

/-
  slices.Insert of one slot, whatever room there is.
-/
namespace Go.Proofs.Ytjmabfikbfdjbaa
open Go.RowKit Go.Shelf
set_option linter.unusedSectionVars false
variable [DecidableEq Vot] [Inhabited Vot] [DecidableEq Slt] [Inhabited Slt] [DecidableEq Bal] [Inhabited Bal] [DecidableEq Ledg] [Inhabited Ledg] [DecidableEq Leg] [Inhabited Leg]
set_option linter.unusedVariables false
set_option linter.unusedSimpArgs false

theorem slt_cells {w : World} {base : Nat} {F : Nat → Prop} {u : Value} {x : Slt} (h : sltR.O w base F u x) : ∃ a c, u = .agg #[.int .i64 x.con, .int .i64 x.sh, .int .i64 x.pr, .int .i64 x.lb, .int .i64 x.lv, .slice a x.cast.length c] ∧ lvSlt u = [.int .i64 x.con, .int .i64 x.sh, .int .i64 x.pr, .int .i64 x.lb, .int .i64 x.lv, .slice a x.cast.length c] := by
  obtain ⟨u1, F1, rfl, h1, _⟩ := h
  obtain ⟨a, c, rfl⟩ := owns_form h1.1
  exact ⟨a, c, rfl, rfl⟩
theorem slt_one6 {w : World} {base : Nat} {F : Nat → Prop} {u : Value} {x : Slt} (h : sltR.O w base F u x) : (lvSlt u).length = 6 ∧ ∀ y ∈ lvSlt u, y.oneCell' = true := by
  obtain ⟨a, c, rfl, e⟩ := slt_cells h
  rw [e]
  refine ⟨rfl, fun y hy => ?_⟩
  simp at hy
  rcases hy with rfl | rfl | rfl | rfl | rfl | rfl <;> rfl
theorem slts_one {w : World} {base : Nat} {v : Value} {n : Nat} {d : Nat → Slt} {cs : List Value} {us : Nat → Value} {fs : Nat → Nat → Prop} (hp : PO sltR 61 6 lvSlt w base v n n d cs us fs) : ∀ y ∈ cs, y.oneCell' = true := by
  intro y hy
  obtain ⟨k, hk, rfl⟩ := List.getElem_of_mem hy
  have hcl : cs.length = n * 6 := hp.row.1
  have h1 := hp.cell (k / 6) (by omega) (k % 6) (by omega)
  have e : k / 6 * 6 + k % 6 = k := by omega
  rw [e, List.getElem?_eq_getElem hk] at h1
  exact (slt_one6 (hp.el (k / 6) (by omega))).2 _ (List.mem_of_getElem? h1.symm)
theorem insertS_any (base : Nat) (v : Value) (i vb : Nat) (xs : List Slt) (u : Value) (x : Slt) (F Fu : Nat → Prop) (w : World) (hown : sltsR.O w base F v xs) (hi : i ≤ xs.length) (hn : xs.length ≤ 1048000) (hbase : base ≤ w.heap.size)
    (hu : sltR.O w base Fu u x) (hd : ∀ b, F b → ¬ Fu b) (hv : w.heap[vb]? = some (.cells (lvSlt u).toArray 61 (0, 0))) (hvb : v.ownBlock ≠ some vb) :
    Calls Try.prog 111 #[v, .int .i64 i, .slice (some ⟨vb, 0, none⟩) 1 1] w fun e w' =>
      ∃ v' F', e = .returned v' ∧ sltsR.O w' base F' v' (xs.take i ++ [x] ++ xs.drop i) ∧ Mod (fun b => v.ownBlock = some b) w w' ∧ (∀ b, F' b → F b ∨ Fu b ∨ w.heap.size ≤ b) := by
  obtain ⟨cs, us, fs, hp, hF⟩ := hown
  have hcl : cs.length = xs.length * 6 := hp.row.1
  obtain ⟨hul, hu1⟩ := slt_one6 hu
  have h1c := slts_one hp
  have hown := hp.row
  have fin : ∀ (v' : Value) (w' : World), w'.ownsRow base 61 6 v' (xs.length + 1) (cs.take (i * 6) ++ lvSlt u ++ cs.drop (i * 6)) → Mod (fun b => v.ownBlock = some b) w w' → (∀ b, v'.ownBlock = some b → v.ownBlock = some b ∨ w.heap.size ≤ b) →
      ∃ F', sltsR.O w' base F' v' (xs.take i ++ [x] ++ xs.drop i) ∧ (∀ b, F' b → F b ∨ Fu b ∨ w.heap.size ≤ b) := fun v' w' h1 h2 h3 => NO.ins hp hF hi hu hul hd h1 h2 h3
  by_cases hie : i = xs.length
  · subst hie
    refine (insertS_end base v xs.length vb cs (lvSlt u) w hown (by omega) hbase hul hv hu1).mono ?_
    rintro e w' ⟨v', rfl, h1, h2, h3⟩
    have h4 : ∀ b, v'.ownBlock = some b → v.ownBlock = some b ∨ w.heap.size ≤ b := fun b hb => by
      rcases h3 with h3 | h3
      · exact .inl (h3 ▸ hb)
      · rw [h3] at hb
        simp only [Option.some.injEq] at hb
        exact .inr (by omega)
    obtain ⟨F', h5, h6⟩ := fin v' w' (by rw [List.take_of_length_le (by omega), List.drop_of_length_le (by omega), List.append_nil]; exact h1) (Mod.of_grown h2) h4
    exact ⟨v', F', rfl, h5, Mod.of_grown h2, h6⟩
  · rcases hown.2 with ⟨_, h0⟩ | ⟨g, cap, cur, rfl, hbg, hg, hnc, hcm, hcs, htake⟩
    · omega
    · have hne : vb ≠ g := fun e => hvb (by rw [e]; rfl)
      have hgl : g < w.heap.size := (Array.getElem?_eq_some_iff.1 hg).1
      have hcl2 : (cs.take (i * 6) ++ lvSlt u ++ cs.drop (i * 6)).length = (xs.length + 1) * 6 := by
        simp only [List.length_append, List.length_take, List.length_drop, hul, hcl]
        omega
      by_cases hroom : xs.length + 1 ≤ cap
      · refine (insertS_shift g xs.length cap i vb cs (lvSlt u) cur w hg (by omega) hroom (by unfold maxLen at hcm; omega) hne hcs hcl htake hul hv h1c hu1).mono ?_
        rintro e w' ⟨rfl, cur', h1, h2, h3, h4⟩
        obtain ⟨F', h5, h6⟩ := fin (.slice (some ⟨g, 0, none⟩) (xs.length + 1) cap) w' ⟨hcl2, .inr ⟨g, cap, cur', rfl, hbg, h1, hroom, hcm, h2, h3⟩⟩ (h4.mono (fun b h => by rw [h]; rfl)) (fun b hb => .inl hb)
        exact ⟨_, F', rfl, h5, h4.mono (fun b h => by rw [h]; rfl), h6⟩
      · refine (insertS_grow g xs.length cap i vb cs (lvSlt u) w (by omega) hnc (by omega) (by omega) hcl (fun j v hj => ?_) hul hv h1c hu1).mono ?_
        · refine cell_rowS hg ?_
          rw [← htake, List.getElem?_take] at hj
          split at hj
          · exact hj
          · cases hj
        · rintro e w' ⟨G, rfl, cur', h1, h2, h3, h4, h5, h6⟩
          have h6' : Mod (fun b => (Value.slice (some ⟨g, 0, none⟩) xs.length cap).ownBlock = some b) w w' := h6.mono (fun b h => h.elim)
          obtain ⟨F', h7, h8⟩ := fin (.slice (some ⟨w.heap.size, 0, none⟩) (xs.length + 1) G) w' ⟨hcl2, .inr ⟨w.heap.size, G, cur', rfl, hbase, h1, h2, h3, h4, h5⟩⟩ h6' (fun b hb => by simp only [Value.ownBlock, Option.some.injEq] at hb; exact .inr (by omega))
          exact ⟨_, F', rfl, h7, h6', h8⟩
end Go.Proofs.Ytjmabfikbfdjbaa

/-
  A new slot, said plainly.
-/
set_option linter.unusedSimpArgs false
set_option linter.unusedVariables false
namespace Go.Proofs.Ytjmabfikbfdjbaa
open Go.RowKit
set_option linter.unusedSectionVars false
variable [DecidableEq Vot] [Inhabited Vot] [DecidableEq Slt] [Inhabited Slt] [DecidableEq SltR] [Inhabited SltR] [DecidableEq Bal] [Inhabited Bal] [DecidableEq Ledg] [Inhabited Ledg] [DecidableEq Leg] [Inhabited Leg] [DecidableEq Acc] [Inhabited Acc] [DecidableEq AccR] [Inhabited AccR] [DecidableEq AccsR] [Inhabited AccsR] [DecidableEq SltsR] [Inhabited SltsR]
attribute [local go_sem ↓] Go.wp_at_zero Go.wp_at_succ

def NewE (c s : Int) (W : World) (e : Ending) (w' : World) : Prop :=
  ∃ p q F, e = .returned (.agg #[.int .i64 0, .int .i64 0, .int .i64 0, .int .i64 c, .int .i64 s, .int .i64 (-1), .int .i64 (-1), .int .i64 0, .slice p 0 q]) ∧ sltR.O w' W.heap.size F (.agg #[.int .i64 c, .int .i64 s, .int .i64 (-1), .int .i64 (-1), .int .i64 0, .slice p 0 q]) (freS c s) ∧ Below W.heap.size W w'
theorem slotField (a b c d e f g h : Int) (p : Option Addr) (n q : Nat) (w : World) : (Instr.field 63 (.agg #[.int .i64 a, .int .i64 b, .int .i64 c, .int .i64 d, .int .i64 e, .int .i64 f, .int .i64 g, .int .i64 h, .slice p n q]) 2).run Try.prog w = .ok (.agg #[.int .i64 d, .int .i64 e, .int .i64 f, .int .i64 g, .int .i64 h, .slice p n q]) w := by kernel_rfl
theorem newE_of {c s : Int} {W : World} {e : Ending} {w' : World} (h : ∃ v F, e = .returned v ∧ sltRR.O w' W.heap.size F v ⟨0, 0, 0, freS c s⟩ ∧ Below W.heap.size W w') : NewE c s W e w' := by
  obtain ⟨v, F, rfl, h, hb⟩ := h
  obtain ⟨u, F1, rfl, h1, _⟩ := h
  obtain ⟨p, q, e, _⟩ := slt_cells h1
  simp only [freS, Value.agg.injEq, Array.mk.injEq, List.cons.injEq, and_true, true_and, List.length_nil] at e
  subst e
  exact ⟨p, q, F1, rfl, h1, hb⟩
theorem implNew_ok (c s : Int) (W : World) (h : idOk c s = true) : Calls Try.prog 36 #[.int .i64 c, .int .i64 s] W (NewE c s W) := by
  refine (implNewS_u c s W).mono ?_
  intro e w' h1
  rw [newSlt_ok h] at h1
  exact newE_of h1
def NewB (W : World) (e : Ending) (w' : World) : Prop :=
  e = .returned (.agg #[.int .i64 3, .int .i64 0, .int .i64 0, .int .i64 0, .int .i64 0, .int .i64 0, .int .i64 0, .int .i64 0, .slice none 0 0]) ∧ Below W.heap.size W w'
set_option maxHeartbeats 1000000 in
theorem implNew_bad (c s : Int) (W : World) (h : idOk c s = false) : Calls Try.prog 36 #[.int .i64 c, .int .i64 s] W (NewB W) := by
  unfold idOk at h
  cases h1 : inB c 1 1000000000
  · go_enter Try.func36, Try.ntmps36
    go_wp2_with (first | (go_at_call 53; refine (isId_any _ _).mono ?_; rintro e w' ⟨rfl, rfl⟩; rw [h1]) | (go_at_call 68; refine (isShard_any _ _).mono ?_; rintro e w' ⟨rfl, rfl⟩))
    exact bodyPost_ret (v := .agg #[.int .i64 3, .int .i64 0, .int .i64 0, .int .i64 0, .int .i64 0, .int .i64 0, .int .i64 0, .int .i64 0, .slice none 0 0]) (by simp [results, Try.results36, go_sem]) rfl ⟨rfl, by (repeat (first | exact Below.refl _ _ | assumption | refine Below.drew ?_ | refine balloc ?_ _ | refine bset ?_ (by simp; omega) _ | refine bset ?_ (by simp) _ | refine bstep ?_ (by assumption)))⟩
  · rw [h1, Bool.true_and] at h
    go_enter Try.func36, Try.ntmps36
    go_wp2_with (first | (go_at_call 53; refine (isId_any _ _).mono ?_; rintro e w' ⟨rfl, rfl⟩; rw [h1]) | (go_at_call 68; refine (isShard_any _ _).mono ?_; rintro e w' ⟨rfl, rfl⟩; rw [h]))
    exact bodyPost_ret (v := .agg #[.int .i64 3, .int .i64 0, .int .i64 0, .int .i64 0, .int .i64 0, .int .i64 0, .int .i64 0, .int .i64 0, .slice none 0 0]) (by simp [results, Try.results36, go_sem]) rfl ⟨rfl, by (repeat (first | exact Below.refl _ _ | assumption | refine Below.drew ?_ | refine balloc ?_ _ | refine bset ?_ (by simp; omega) _ | refine bset ?_ (by simp) _ | refine bstep ?_ (by assumption)))⟩
end Go.Proofs.Ytjmabfikbfdjbaa

/-
  Lists of acceptors: their fault.
-/
set_option linter.unusedSimpArgs false
set_option linter.unusedVariables false
namespace Go.Proofs.Ytjmabfikbfdjbaa
open Go.RowKit
set_option linter.unusedSectionVars false
variable [DecidableEq Vot] [Inhabited Vot] [DecidableEq Slt] [Inhabited Slt] [DecidableEq SltR] [Inhabited SltR] [DecidableEq Bal] [Inhabited Bal] [DecidableEq Ledg] [Inhabited Ledg] [DecidableEq Leg] [Inhabited Leg] [DecidableEq Acc] [Inhabited Acc] [DecidableEq AccR] [Inhabited AccR] [DecidableEq AccsR] [Inhabited AccsR] [DecidableEq SltsR] [Inhabited SltsR]
attribute [local go_sem ↓] Go.wp_at_zero Go.wp_at_succ

theorem accs_at {w : World} {x : Value} {l : List Acc} (hx : accsR.V w x l) : ∃ a c, x = .slice a l.length c ∧ l.length ≤ c ∧ c ≤ maxLen ∧ ∀ k, k < l.length → ∃ b o p q, a = some ⟨b, o, none⟩ ∧ w.cell? ⟨b, o + k, none⟩ = some (.slice p (l.getD k default).slots.length q) ∧ accR.V w (.agg #[.slice p (l.getD k default).slots.length q]) (l.getD k default) := by
  obtain ⟨a, c, rfl, h1, h2, h3⟩ := hx
  refine ⟨a, c, rfl, h1, h2, fun k hk => ?_⟩
  obtain ⟨b, o, u, e, _, hc, hv⟩ := h3 k hk
  have hV := hv
  obtain ⟨u1, rfl, hs⟩ := hv
  obtain ⟨p, q, rfl⟩ := slts_form hs
  have h0 := hc 0 (by omega)
  exact ⟨b, o, p, q, e, by simpa [lvAcc, one] using h0, hV⟩
set_option maxHeartbeats 4000000 in
theorem implListF_any (x : Value) (l : List Acc) (w : World) (hx : accsR.V w x l) :
    Calls Try.prog 34 #[x] w fun e w' => e = .returned (.int .i64 (listF l)) ∧ Below w.heap.size w w' := by
  obtain ⟨a, c, rfl, hcx, hmx, hx⟩ := accs_at hx
  unfold maxLen at hmx
  have hXs : Hid (∀ k, k < l.length → ∃ b o p q, a = some ⟨b, o, none⟩ ∧ w.cell? ⟨b, o + k, none⟩ = some (.slice p (l.getD k default).slots.length q) ∧ accR.V w (.agg #[.slice p (l.getD k default).slots.length q]) (l.getD k default)) := hx
  clear hx
  have H1 : Hid ((l.length < 1 ∨ 5 < l.length) → listF l = 2) := fun h => listF_many h
  have H2 : Hid (¬ (l.length < 1 ∨ 5 < l.length) → scanI (fun k => accF (l.getD k default).slots) l.length = 0 → listF l = 0) := fun h h' => listF_end h h'
  have H3 : Hid (∀ k c, ¬ (l.length < 1 ∨ 5 < l.length) → k < l.length → scanI (fun k => accF (l.getD k default).slots) k = 0 → accF (l.getD k default).slots = c → ¬ c = 0 → listF l = c) := fun k c h hk hs hc h0 => listF_hit h hk hs hc h0
  generalize listF l = R at *
  generalize hn : l.length = n at *
  clear hn
  by_cases h1 : n < 1
  · have HC : Hid (R = 2) := H1.out (.inl h1)
    have h1' : (n : Int) < 1 := by omega
    clear H1 H2 H3 hXs
    go_enter Try.func34, Try.ntmps34
    go_wp2
    go_ret
    exact ⟨by rw [HC.out]; rfl, by (repeat (first | exact Below.refl _ _ | assumption | refine Below.drew ?_ | refine balloc ?_ _ | refine bset ?_ (by simp; omega) _ | refine bset ?_ (by simp) _ | refine bstep ?_ (by assumption)))⟩
  by_cases h5 : 5 < n
  · have HC : Hid (R = 2) := H1.out (.inr h5)
    have h1' : ¬ (n : Int) < 1 := by omega
    have h5' : (5 : Int) < n := by omega
    clear H1 H2 H3 hXs
    go_enter Try.func34, Try.ntmps34
    go_wp2
    go_ret
    exact ⟨by rw [HC.out]; rfl, by (repeat (first | exact Below.refl _ _ | assumption | refine Below.drew ?_ | refine balloc ?_ _ | refine bset ?_ (by simp; omega) _ | refine bset ?_ (by simp) _ | refine bstep ?_ (by assumption)))⟩
  have HNo : Hid (¬ (n < 1 ∨ 5 < n)) := by show ¬ _; omega
  have h1' : ¬ (n : Int) < 1 := by omega
  have h5' : ¬ (5 : Int) < n := by omega
  clear H1
  go_enter Try.func34, Try.ntmps34
  go_wp2
  go_loopw [16] (fun i w' => ∃ k : Nat, k ≤ n ∧ i = .int .i64 k ∧ Hid (scanI (fun k => accF (l.getD k default).slots) k = 0) ∧ Below w.heap.size w w') (fun i _ => n - (intOf i).toNat)
  case atStart => exact ⟨0, Nat.zero_le _, rfl, rfl, Below.refl _ _⟩
  case round =>
    obtain ⟨k, hk, rfl, HS, hbl⟩ := hrel
    by_cases hlt : k < n
    · obtain ⟨b, o, p, q, rfl, hc, hV⟩ := hXs.out k hlt
      have HF : Hid (∀ W, Below w.heap.size w W → Calls Try.prog 64 #[.agg #[.slice p (l.getD k default).slots.length q]] W fun e w' => e = .returned (.int .i64 (accF (l.getD k default).slots)) ∧ Below W.heap.size W w') := fun W hW => implAccF_any _ _ W (accR.below hV hW)
      have HH : Hid (¬ accF (l.getD k default).slots = 0 → R = accF (l.getD k default).slots) := fun h => H3.out k _ HNo.out hlt HS.out rfl h
      have HZ : Hid (accF (l.getD k default).slots = 0 → scanI (fun k => accF (l.getD k default).slots) (k + 1) = 0) := fun h => scanI_succ (f := fun k => accF (l.getD k default).slots) HS.out h
      replace hc := cell_keep hbl hc
      clear hV
      generalize (l.getD k default).slots.length = m at *
      generalize accF (l.getD k default).slots = g at *
      go_wp2_with fail
      refine (HF.out _ (by (repeat (first | exact Below.refl _ _ | assumption | refine Below.drew ?_ | refine balloc ?_ _ | refine bset ?_ (by simp; omega) _ | refine bset ?_ (by simp) _ | refine bstep ?_ (by assumption))))).mono ?_
      rintro e w1 ⟨rfl, hb1⟩
      have hB1 : Below w.heap.size w w1 := bstep (by (repeat (first | exact Below.refl _ _ | assumption | refine Below.drew ?_ | refine balloc ?_ _ | refine bset ?_ (by simp; omega) _ | refine bset ?_ (by simp) _ | refine bstep ?_ (by assumption)))) hb1
      clear hb1 hc HF
      by_cases hg : g = 0
      · have HZ2 : Hid (scanI (fun k => accF (l.getD k default).slots) (k + 1) = 0) := HZ.out hg
        subst hg
        clear HH HZ
        go_wp2
        exact ⟨⟨k + 1, by omega, by go_num, HZ2, hB1⟩, by simp [intOf]; omega⟩
      · have HC : Hid (R = g) := HH.out hg
        have hg' : (g != 0) = true := by simp [hg]
        clear HH HZ
        go_wp2
        go_ret
        exact ⟨by rw [HC.out]; rfl, hB1⟩
    · have hkn : k = n := by omega
      subst hkn
      have HC : Hid (R = 0) := H2.out HNo.out HS.out
      go_wp2
      go_ret
      exact ⟨by rw [HC.out]; rfl, hbl⟩
def freC (l : List Acc) (c s : Int) : Int := if listF l = 0 then (if idOk c s = true then 0 else 3) else listF l
def FreE (l : List Acc) (c s : Int) (W : World) (e : Ending) (w' : World) : Prop :=
  (freC l c s = 0 → NewE c s W e w') ∧ (¬ freC l c s = 0 → e = .returned (.agg #[.int .i64 (freC l c s), .int .i64 0, .int .i64 0, .int .i64 0, .int .i64 0, .int .i64 0, .int .i64 0, .int .i64 0, .slice none 0 0]) ∧ Below W.heap.size W w')
theorem freC_ok {l : List Acc} {c s : Int} (h : freC l c s = 0) : listF l = 0 ∧ idOk c s = true := by
  unfold freC at h
  by_cases h1 : listF l = 0
  · rw [if_pos h1] at h
    refine ⟨h1, ?_⟩
    cases h2 : idOk c s with
    | true => rfl
    | false => rw [h2] at h; simp at h
  · rw [if_neg h1] at h
    exact absurd h h1
set_option maxHeartbeats 2000000 in
theorem freshFor_u (x : Value) (l : List Acc) (c s : Int) (w : World) (hx : accsR.V w x l) :
    Calls Try.prog 27 #[x, .int .i64 c, .int .i64 s] w (FreE l c s w) := by
  have HL : Hid (∀ W, Below w.heap.size w W → Calls Try.prog 34 #[x] W fun e w' => e = .returned (.int .i64 (listF l)) ∧ Below W.heap.size W w') := fun W hW => implListF_any x l W (accsR.below hx hW)
  obtain ⟨a, cc, rfl⟩ := accs_form hx
  clear hx
  generalize l.length = n at *
  by_cases hf : listF l = 0
  · cases hid : idOk c s
    · have HC : Hid (freC l c s = 3) := by show _ = _; unfold freC; rw [if_pos hf, hid]; rfl
      have HNw : Hid (∀ W, Calls Try.prog 36 #[.int .i64 c, .int .i64 s] W (NewB W)) := fun W => implNew_bad c s W hid
      rw [hf] at HL
      go_enter Try.func27, Try.ntmps27
      go_wp2_with fail
      refine (HL.out _ (by (repeat (first | exact Below.refl _ _ | assumption | refine Below.drew ?_ | refine balloc ?_ _ | refine bset ?_ (by simp; omega) _ | refine bset ?_ (by simp) _ | refine bstep ?_ (by assumption))))).mono ?_
      rintro e w1 ⟨rfl, hb1⟩
      have hB1 : Below w.heap.size w w1 := by (repeat (first | exact Below.refl _ _ | assumption | refine Below.drew ?_ | refine balloc ?_ _ | refine bset ?_ (by simp; omega) _ | refine bset ?_ (by simp) _ | refine bstep ?_ (by assumption)))
      have hz1 := hb1.size
      simp at hz1
      obtain ⟨c1, f1⟩ := bcell hb1
      have r0 : w1.cell? ⟨w.heap.size, 0, none⟩ = some (.int .i64 0) := cell_keep hb1 (by simp [go_sem])
      have r1 : w1.cell? ⟨w.heap.size, 1, none⟩ = some (.int .i64 0) := cell_keep hb1 (by simp [go_sem])
      have r2 : w1.cell? ⟨w.heap.size, 2, none⟩ = some (.int .i64 0) := cell_keep hb1 (by simp [go_sem])
      have r3 : w1.cell? ⟨w.heap.size, 3, none⟩ = some (.int .i64 0) := cell_keep hb1 (by simp [go_sem])
      have r4 : w1.cell? ⟨w.heap.size, 4, none⟩ = some (.int .i64 0) := cell_keep hb1 (by simp [go_sem])
      have r5 : w1.cell? ⟨w.heap.size, 5, none⟩ = some (.int .i64 0) := cell_keep hb1 (by simp [go_sem])
      have r6 : w1.cell? ⟨w.heap.size, 6, none⟩ = some (.int .i64 0) := cell_keep hb1 (by simp [go_sem])
      have r7 : w1.cell? ⟨w.heap.size, 7, none⟩ = some (.int .i64 0) := cell_keep hb1 (by simp [go_sem])
      have r8 : w1.cell? ⟨w.heap.size, 8, none⟩ = some (.slice none 0 0) := cell_keep hb1 (by simp [go_sem])
      have rf : ∀ o, w1.frozen? ⟨w.heap.size, o, none⟩ = false := fun o => by rw [f1 _ _ (by simp; try omega)]; simp [go_sem]
      clear hb1 c1 f1
      go_wp2_with fail
      refine (HNw.out _).mono ?_
      rintro e w2 ⟨rfl, hb2⟩
      have hB2 : Below w.heap.size w w2 := bstep hB1 hb2
      replace r0 := cell_keep hb2 r0
      replace r1 := cell_keep hb2 r1
      replace r2 := cell_keep hb2 r2
      replace r3 := cell_keep hb2 r3
      replace r4 := cell_keep hb2 r4
      replace r5 := cell_keep hb2 r5
      replace r6 := cell_keep hb2 r6
      replace r7 := cell_keep hb2 r7
      replace r8 := cell_keep hb2 r8
      replace rf : ∀ o, w2.frozen? ⟨w.heap.size, o, none⟩ = false := fun o => by rw [(bcell hb2).2 _ _ (by omega)]; exact rf o
      clear hb2
      go_wp2
      refine bodyPost_ret (v := .agg #[.int .i64 3, .int .i64 0, .int .i64 0, .int .i64 0, .int .i64 0, .int .i64 0, .int .i64 0, .int .i64 0, .slice none 0 0]) (by simp [results, Try.results27, go_sem, r0, r1, r2, r3, r4, r5, r6, r7, r8, rf]) rfl ⟨fun h => by rw [HC.out] at h; omega, fun _ => ⟨by rw [HC.out], by (repeat (first | refine bset ?_ (by simp; omega) _ | refine bset ?_ (by simp) _ | refine balloc ?_ _ | assumption))⟩⟩
    · have HC : Hid (freC l c s = 0) := by show _ = _; unfold freC; rw [if_pos hf, hid]; rfl
      have HNw : Hid (∀ W, Calls Try.prog 36 #[.int .i64 c, .int .i64 s] W (NewE c s W)) := fun W => implNew_ok c s W hid
      rw [hf] at HL
      go_enter Try.func27, Try.ntmps27
      go_wp2_with fail
      refine (HL.out _ (by (repeat (first | exact Below.refl _ _ | assumption | refine Below.drew ?_ | refine balloc ?_ _ | refine bset ?_ (by simp; omega) _ | refine bset ?_ (by simp) _ | refine bstep ?_ (by assumption))))).mono ?_
      rintro e w1 ⟨rfl, hb1⟩
      have hB1 : Below w.heap.size w w1 := by (repeat (first | exact Below.refl _ _ | assumption | refine Below.drew ?_ | refine balloc ?_ _ | refine bset ?_ (by simp; omega) _ | refine bset ?_ (by simp) _ | refine bstep ?_ (by assumption)))
      have hz1 := hb1.size
      simp at hz1
      obtain ⟨c1, f1⟩ := bcell hb1
      have r0 : w1.cell? ⟨w.heap.size, 0, none⟩ = some (.int .i64 0) := cell_keep hb1 (by simp [go_sem])
      have r1 : w1.cell? ⟨w.heap.size, 1, none⟩ = some (.int .i64 0) := cell_keep hb1 (by simp [go_sem])
      have r2 : w1.cell? ⟨w.heap.size, 2, none⟩ = some (.int .i64 0) := cell_keep hb1 (by simp [go_sem])
      have r3 : w1.cell? ⟨w.heap.size, 3, none⟩ = some (.int .i64 0) := cell_keep hb1 (by simp [go_sem])
      have r4 : w1.cell? ⟨w.heap.size, 4, none⟩ = some (.int .i64 0) := cell_keep hb1 (by simp [go_sem])
      have r5 : w1.cell? ⟨w.heap.size, 5, none⟩ = some (.int .i64 0) := cell_keep hb1 (by simp [go_sem])
      have r6 : w1.cell? ⟨w.heap.size, 6, none⟩ = some (.int .i64 0) := cell_keep hb1 (by simp [go_sem])
      have r7 : w1.cell? ⟨w.heap.size, 7, none⟩ = some (.int .i64 0) := cell_keep hb1 (by simp [go_sem])
      have r8 : w1.cell? ⟨w.heap.size, 8, none⟩ = some (.slice none 0 0) := cell_keep hb1 (by simp [go_sem])
      have rf : ∀ o, w1.frozen? ⟨w.heap.size, o, none⟩ = false := fun o => by rw [f1 _ _ (by simp; try omega)]; simp [go_sem]
      clear hb1 c1 f1
      go_wp2_with fail
      refine (HNw.out _).mono ?_
      rintro e w2 ⟨p2, q2, F2, rfl, o2, hb2⟩
      have hB2 : Below w.heap.size w w2 := bstep hB1 hb2
      have hz2 := hb2.size
      have HO : Hid (sltR.O w2 (w.heap.size + 1) F2 (.agg #[.int .i64 c, .int .i64 s, .int .i64 (-1), .int .i64 (-1), .int .i64 0, .slice p2 0 q2]) (freS c s)) := sltR.base o2 (by omega)
      replace r0 := cell_keep hb2 r0
      replace r1 := cell_keep hb2 r1
      replace r2 := cell_keep hb2 r2
      replace r3 := cell_keep hb2 r3
      replace r4 := cell_keep hb2 r4
      replace r5 := cell_keep hb2 r5
      replace r6 := cell_keep hb2 r6
      replace r7 := cell_keep hb2 r7
      replace r8 := cell_keep hb2 r8
      replace rf : ∀ o, w2.frozen? ⟨w.heap.size, o, none⟩ = false := fun o => by rw [(bcell hb2).2 _ _ (by omega)]; exact rf o
      clear hb2 o2
      go_wp2
      refine bodyPost_ret (v := .agg #[.int .i64 0, .int .i64 0, .int .i64 0, .int .i64 c, .int .i64 s, .int .i64 (-1), .int .i64 (-1), .int .i64 0, .slice p2 0 q2]) (by simp [results, Try.results27, go_sem, r0, r1, r2, r3, r4, r5, r6, r7, r8, rf]) rfl ⟨fun _ => ⟨p2, q2, F2, rfl, ?_, by (repeat (first | refine bset ?_ (by simp; omega) _ | refine bset ?_ (by simp) _ | refine balloc ?_ _ | assumption))⟩, fun h => absurd HC.out h⟩
      have hk : ∀ (W : World) (u : Value) (j : Nat), sltR.O W (w.heap.size + 1) F2 (.agg #[.int .i64 c, .int .i64 s, .int .i64 (-1), .int .i64 (-1), .int .i64 0, .slice p2 0 q2]) (freS c s) → sltR.O (W.setCell ⟨w.heap.size, j, none⟩ u) (w.heap.size + 1) F2 (.agg #[.int .i64 c, .int .i64 s, .int .i64 (-1), .int .i64 (-1), .int .i64 0, .slice p2 0 q2]) (freS c s) := fun W u j h => Rep.set _ h u (by simp)
      exact sltR.base (hk _ _ _ (hk _ _ _ (hk _ _ _ (hk _ _ _ (hk _ _ _ (hk _ _ _ (hk _ _ _ (hk _ _ _ (hk _ _ _ HO.out))))))))) (by omega)
  · have HC : Hid (freC l c s = listF l) := by show _ = _; unfold freC; rw [if_neg hf]
    generalize listF l = g at *
    have hg' : (g != 0) = true := by simp [hf]
    go_enter Try.func27, Try.ntmps27
    go_wp2_with fail
    refine (HL.out _ (by (repeat (first | exact Below.refl _ _ | assumption | refine Below.drew ?_ | refine balloc ?_ _ | refine bset ?_ (by simp; omega) _ | refine bset ?_ (by simp) _ | refine bstep ?_ (by assumption))))).mono ?_
    rintro e w1 ⟨rfl, hb1⟩
    have hB1 : Below w.heap.size w w1 := by (repeat (first | exact Below.refl _ _ | assumption | refine Below.drew ?_ | refine balloc ?_ _ | refine bset ?_ (by simp; omega) _ | refine bset ?_ (by simp) _ | refine bstep ?_ (by assumption)))
    have hz1 := hb1.size
    simp at hz1
    obtain ⟨c1, f1⟩ := bcell hb1
    have r0 : w1.cell? ⟨w.heap.size, 0, none⟩ = some (.int .i64 0) := cell_keep hb1 (by simp [go_sem])
    have r1 : w1.cell? ⟨w.heap.size, 1, none⟩ = some (.int .i64 0) := cell_keep hb1 (by simp [go_sem])
    have r2 : w1.cell? ⟨w.heap.size, 2, none⟩ = some (.int .i64 0) := cell_keep hb1 (by simp [go_sem])
    have r3 : w1.cell? ⟨w.heap.size, 3, none⟩ = some (.int .i64 0) := cell_keep hb1 (by simp [go_sem])
    have r4 : w1.cell? ⟨w.heap.size, 4, none⟩ = some (.int .i64 0) := cell_keep hb1 (by simp [go_sem])
    have r5 : w1.cell? ⟨w.heap.size, 5, none⟩ = some (.int .i64 0) := cell_keep hb1 (by simp [go_sem])
    have r6 : w1.cell? ⟨w.heap.size, 6, none⟩ = some (.int .i64 0) := cell_keep hb1 (by simp [go_sem])
    have r7 : w1.cell? ⟨w.heap.size, 7, none⟩ = some (.int .i64 0) := cell_keep hb1 (by simp [go_sem])
    have r8 : w1.cell? ⟨w.heap.size, 8, none⟩ = some (.slice none 0 0) := cell_keep hb1 (by simp [go_sem])
    have rf : ∀ o, w1.frozen? ⟨w.heap.size, o, none⟩ = false := fun o => by rw [f1 _ _ (by simp; try omega)]; simp [go_sem]
    clear hb1 c1 f1
    go_wp2
    refine bodyPost_ret (v := .agg #[.int .i64 g, .int .i64 0, .int .i64 0, .int .i64 0, .int .i64 0, .int .i64 0, .int .i64 0, .int .i64 0, .slice none 0 0]) (by simp [results, Try.results27, go_sem, r0, r1, r2, r3, r4, r5, r6, r7, r8, rf]) rfl ⟨fun h => absurd (by rw [HC.out] at h; exact h) hf, fun _ => ⟨by rw [HC.out], by (repeat (first | refine bset ?_ (by simp; omega) _ | refine bset ?_ (by simp) _ | refine balloc ?_ _ | assumption))⟩⟩
end Go.Proofs.Ytjmabfikbfdjbaa

/-
  One slot more behind slots, one acceptor more behind acceptors.
-/
set_option linter.unusedVariables false
namespace Go.Proofs.Ytjmabfikbfdjbaa
open Go.RowKit
set_option linter.unusedSectionVars false
variable [DecidableEq Vot] [Inhabited Vot] [DecidableEq Slt] [Inhabited Slt] [DecidableEq Bal] [Inhabited Bal] [DecidableEq Ledg] [Inhabited Ledg] [DecidableEq Leg] [Inhabited Leg] [DecidableEq Acc] [Inhabited Acc]

theorem wpl_appS (w : World) {ops : Array Oper} {rest : List Oper} {o : Oper} {a : Act} {Q : Exit → Act → World → Prop} (hgd : o.guard = none) (s x : Operand)
    (ho : o.op = .call { callee := .builtin .append, args := #[s, x], argTypes := #[71, 71] })
    (base : Nat) (F Fu : Nat → Prop) (v : Value) (xs : List Slt) (y : Slt) (g : Nat) (p : Option Addr) (q : Nat) (hs : a.eval s = v) (hx : a.eval x = .slice (some ⟨g, 0, none⟩) 1 1) (hown : sltsR.O w base F v xs) (hu : sltR.O w base Fu (.agg #[.int .i64 y.con, .int .i64 y.sh, .int .i64 y.pr, .int .i64 y.lb, .int .i64 y.lv, .slice p y.cast.length q]) y) (hd : ∀ b, F b → ¬ Fu b)
    (hc : w.cell? ⟨g, 0, none⟩ = some (.int .i64 y.con) ∧ w.cell? ⟨g, 0 + 1, none⟩ = some (.int .i64 y.sh) ∧ w.cell? ⟨g, 0 + 2, none⟩ = some (.int .i64 y.pr) ∧ w.cell? ⟨g, 0 + 3, none⟩ = some (.int .i64 y.lb) ∧ w.cell? ⟨g, 0 + 4, none⟩ = some (.int .i64 y.lv) ∧ w.cell? ⟨g, 0 + 5, none⟩ = some (.slice p y.cast.length q)) (hn : xs.length ≤ 2000000) (hbase : base ≤ w.heap.size)
    (h : ∀ v' w' F', sltsR.O w' base F' v' (xs ++ [y]) → Below base w w' → (∀ b, F' b → F b ∨ Fu b ∨ w.heap.size ≤ b) → wpList Try.prog ops Q rest (a.put o.dst v') w') : wpList Try.prog ops Q (o :: rest) a w := by
  obtain ⟨i0, hi, hz0, hz1, hz2⟩ := info_parts infoSlts
  obtain ⟨h6, h1⟩ := slt_one6 hu
  exact wpl_appN w hgd s x 71 ho 61 i0 _ 6 64 Try.underlying71 hi hz0 hz1 hz2 rfl (by decide) (by decide) base F Fu v _ xs y ⟨g, 0, none⟩ 1 hs hx hown hu h6 h1 hd (fun j y' hj => by
    match j, hj with
    | 0, hj => simp [lvSlt, one] at hj; subst hj; simpa [Addr.add] using hc.1
    | 1, hj => simp [lvSlt, one] at hj; subst hj; simpa [Addr.add] using hc.2.1
    | 2, hj => simp [lvSlt, one] at hj; subst hj; simpa [Addr.add] using hc.2.2.1
    | 3, hj => simp [lvSlt, one] at hj; subst hj; simpa [Addr.add] using hc.2.2.2.1
    | 4, hj => simp [lvSlt, one] at hj; subst hj; simpa [Addr.add] using hc.2.2.2.2.1
    | 5, hj => simp [lvSlt, one] at hj; subst hj; simpa [Addr.add] using hc.2.2.2.2.2
    | j + 6, hj => simp [lvSlt, one] at hj) hn hbase h
theorem acc_cells {w : World} {base : Nat} {F : Nat → Prop} {u : Value} {x : Acc} (h : accR.O w base F u x) : ∃ a c, u = .agg #[.slice a x.slots.length c] ∧ lvAcc u = [.slice a x.slots.length c] := by
  obtain ⟨u1, F1, rfl, h1, _⟩ := h
  obtain ⟨a, c, rfl⟩ := slts_form (sltsR.ofO h1)
  exact ⟨a, c, rfl, rfl⟩
theorem wpl_appA (w : World) {ops : Array Oper} {rest : List Oper} {o : Oper} {a : Act} {Q : Exit → Act → World → Prop} (hgd : o.guard = none) (s x : Operand)
    (ho : o.op = .call { callee := .builtin .append, args := #[s, x], argTypes := #[32, 32] })
    (base : Nat) (F Fu : Nat → Prop) (v : Value) (xs : List Acc) (y : Acc) (g : Nat) (p : Option Addr) (q : Nat) (hs : a.eval s = v) (hx : a.eval x = .slice (some ⟨g, 0, none⟩) 1 1) (hown : accsR.O w base F v xs) (hu : accR.O w base Fu (.agg #[.slice p y.slots.length q]) y) (hd : ∀ b, F b → ¬ Fu b)
    (hc : w.cell? ⟨g, 0, none⟩ = some (.slice p y.slots.length q)) (hn : xs.length ≤ 2000000) (hbase : base ≤ w.heap.size)
    (h : ∀ v' w' F', accsR.O w' base F' v' (xs ++ [y]) → Below base w w' → (∀ b, F' b → F b ∨ Fu b ∨ w.heap.size ≤ b) → wpList Try.prog ops Q rest (a.put o.dst v') w') : wpList Try.prog ops Q (o :: rest) a w := by
  obtain ⟨i0, hi, hz0, hz1, hz2⟩ := info_parts infoAccs
  exact wpl_appN w hgd s x 32 ho 73 i0 _ 1 24 Try.underlying32 hi hz0 hz1 hz2 rfl (by decide) (by decide) base F Fu v _ xs y ⟨g, 0, none⟩ 1 hs hx hown hu rfl (fun y' hy => by simp [lvAcc, one] at hy; subst hy; rfl) hd (fun j y' hj => by
    match j, hj with
    | 0, hj => simp [lvAcc, one] at hj; subst hj; simpa [Addr.add] using hc
    | j + 1, hj => simp [lvAcc, one] at hj) hn hbase h
end Go.Proofs.Ytjmabfikbfdjbaa


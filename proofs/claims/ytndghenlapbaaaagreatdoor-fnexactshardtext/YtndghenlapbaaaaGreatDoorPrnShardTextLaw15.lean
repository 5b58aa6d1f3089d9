import Derived.Test.YtndghenlapbaaaaGreatDoorPrnShardTextLaw3
import Derived.Test.YtndghenlapbaaaaGreatDoorPrnShardTextLaw11
import Derived.Test.YtndghenlapbaaaaGreatDoorPrnShardTextLaw4
import Derived.Test.YtndghenlapbaaaaGreatDoorPrnShardTextLaw13
import Derived.RegionTactic
import Derived.ChangeAlike
import Derived.BigRegion
import Derived.Test.YtndghenlapbaaaaGreatDoorPrnShardTextLaw6
import Derived.Test.YtndghenlapbaaaaGreatDoorPrnShardTextLaw1
import Derived.Deep.DeepAppendRoom
import Derived.Test.YtndghenlapbaaaaGreatDoorPrnShardTextLaw14
import Derived.Test.YtndghenlapbaaaaGreatDoorPrnShardTextLaw5
import Derived.Maps.AppendAt
import Derived.Test.YtndghenlapbaaaaGreatDoorPrnShardTextLaw12
import Derived.Shelf.SlSortCmp.WholeK
import Derived.WideKeyEntry

/-
  The legs of one shard, on both sides.
-/
namespace Go.Proofs.YtndghenlapbaaaaGreatDoor
open Go.RowKit
set_option linter.unusedSectionVars false
variable [DecidableEq Leg] [Inhabited Leg]
attribute [local go_sem ↓] Go.wp_at_zero Go.wp_at_succ

def onSh (s : Int) (xs : List Leg) : List Leg := xs.filter (fun l => l.sh == s)
theorem onSh_hit (s : Int) (xs : List Leg) (k : Nat) (h : k < xs.length) (hs : (xs.getD k default).sh = s) : onSh s (xs.take (k + 1)) = onSh s (xs.take k) ++ [xs.getD k default] := by
  rw [take_snoc xs k h]; simp only [onSh, List.filter_append]; simp only [List.filter_cons, List.filter_nil, hs, beq_self_eq_true, if_true]
theorem onSh_miss (s : Int) (xs : List Leg) (k : Nat) (h : k < xs.length) (hs : ¬ (xs.getD k default).sh = s) : onSh s (xs.take (k + 1)) = onSh s (xs.take k) := by
  rw [take_snoc xs k h]; simp only [onSh, List.filter_append, List.filter_cons, List.filter_nil, beq_eq_false_iff_ne.2 hs]; simp
theorem onSh_le (s : Int) (xs : List Leg) (k : Nat) : (onSh s (xs.take k)).length ≤ k := by
  have := List.length_filter_le (fun l : Leg => l.sh == s) (xs.take k)
  have h2 := List.length_take_le k xs
  simp only [onSh]; omega
theorem legsC_snoc (xs : List Leg) (l : Leg) : legsC (xs ++ [l]) = legsC xs ++ legC l := by simp [legsC]
theorem legC_one (l : Leg) : ∀ u ∈ legC l, u.oneCell' = true := by
  intro u hu
  simp only [legC, List.mem_cons, List.not_mem_nil, or_false] at hu
  rcases hu with rfl | rfl | rfl | rfl <;> rfl
theorem legC_cells {w : World} {b o : Nat} {l : Leg} (h : legCells w b o l) : ∀ j u, (legC l)[j]? = some u → w.cell? ((⟨b, o, none⟩ : Addr).add j) = some u := by
  obtain ⟨h0, h1, h2, h3⟩ := h
  intro j u hj
  match j, hj with
  | 0, hj => simp [legC] at hj; subst hj; simpa [Addr.add] using h0
  | 1, hj => simp [legC] at hj; subst hj; simpa [Addr.add] using h1
  | 2, hj => simp [legC] at hj; subst hj; simpa [Addr.add] using h2
  | 3, hj => simp [legC] at hj; subst hj; simpa [Addr.add] using h3
  | j + 4, hj => simp [legC] at hj
theorem owns_grown {w w' : World} {B : Nat} {base e size : Nat} {v : Value} {n : Nat} {xs : List Value} (h : w.ownsRow base e size v n xs) {W : World} (hb : Below B W w) (hB : B ≤ w.heap.size) (hbase : B ≤ base) (hg : w.grownBy w' v.ownBlock) : Below B W w' :=
  hb.grown hg hB (fun k hk => Nat.le_trans hbase (h.lt k hk).1)
set_option maxHeartbeats 1000000 in
theorem legsOn_any (x : Value) (xs : List Leg) (s : Int) (w : World) (hx : LegsV w x xs) (hn : xs.length ≤ 1048576) :
    Calls Tryz.prog 71 #[x, .int .i64 s] w fun e w' => ∃ v, e = .returned v ∧ w'.ownsRow w.heap.size 119 4 v (onSh s xs).length (legsC (onSh s xs)) ∧ Below w.heap.size w w' := by
  obtain ⟨ax, cx, rfl, hcx, hmx, hx⟩ := hx
  unfold maxLen at hmx
  obtain ⟨i0, hi, hz0, hz1, hz2⟩ := info_parts infoLeg
  generalize hn' : xs.length = n at *
  have HN : Hid (xs.length = n) := hn'
  clear hn'
  go_enter Tryz.func71, Tryz.ntmps71
  go_wp2
  go_loopw [5, 10] (fun v i w' => ∃ k : Nat, k ≤ n ∧ i = .int .i64 k ∧ w'.ownsRow w.heap.size 119 4 v (onSh s (xs.take k)).length (legsC (onSh s (xs.take k))) ∧ Below w.heap.size w w') (fun _ i _ => n - (intOf i).toNat)
  case atStart => exact ⟨0, Nat.zero_le _, rfl, by simpa [onSh, legsC] using World.ownsRow_nil _ _ _ _, Below.refl _ _⟩
  case round =>
    obtain ⟨k, hk, rfl, ho, hbl⟩ := hrel
    by_cases hlt : k < n
    · obtain ⟨bx, ox, rfl, g1⟩ := hx k hlt
      obtain ⟨l, hl⟩ : ∃ l, l = xs.getD k default := ⟨_, rfl⟩
      rw [← hl] at g1
      have HL : Hid (l = xs.getD k default) := hl
      clear hl hx
      obtain ⟨a1, a2, a3, a4⟩ := legCells_below hbl g1
      have hkx : k < xs.length := by have := HN.out; omega
      have hle := onSh_le s xs k
      have hsz := hbl.size
      by_cases hs : l.sh = s
      · have e1 := onSh_hit s xs k hkx (by rw [← HL.out]; exact hs)
        rw [← HL.out] at e1
        have HE : Hid (onSh s (xs.take (k + 1)) = onSh s (xs.take k) ++ [l]) := e1
        have HS : Hid (l.sh = s) := hs
        have hd : (l.sh == s) = true := by simpa using hs
        generalize onSh s (xs.take k) = ys at *
        clear e1 hs
        go_wp2_with (at_builtin; refine wpList_append_own _ rfl _ _ 64 rfl w.heap.size 119 i0 _ 4 32 Tryz.underlying64 hi hz0 hz1 hz2 rfl (by decide) _ _ _ rfl ((ho.alloc _).alloc _) ⟨wr.heap.size + 1, 0, none⟩ 1 1 (legC l) rfl rfl ?c1 (legC_one l) ?c3 ?c4 ?c5 ?_)
        case c1 => exact legC_cells (b := wr.heap.size + 1) (o := 0) ⟨by simp [go_sem], by simp [go_sem], by simp [go_sem], by simp [go_sem]⟩
        case c3 => unfold maxLen; omega
        case c4 => omega
        case c5 => simp; omega
        · intro v' w1 hown' hgrow _
          have hB1 : Below w.heap.size w w1 := owns_grown ((ho.alloc _).alloc _) (balloc (balloc hbl _) _) (by simp; omega) (Nat.le_refl _) hgrow
          clear hgrow ho a1 a2 a3 a4
          go_wp2
          refine ⟨⟨k + 1, by omega, by go_num, ?_, hB1⟩, by simp [intOf]; omega⟩
          rw [HE.out, legsC_snoc, List.length_append]
          exact hown'
      · have e1 := onSh_miss s xs k hkx (by rw [← HL.out]; exact hs)
        have HE : Hid (onSh s (xs.take (k + 1)) = onSh s (xs.take k)) := e1
        have hd : (l.sh == s) = false := by simpa using hs
        clear e1 hs
        go_wp2
        refine ⟨⟨k + 1, by omega, by go_num, ?_, balloc hbl _⟩, by simp [intOf]; omega⟩
        rw [HE.out]
        exact ho.alloc _
    · go_wp2
      go_ret
      have hkn : k = n := by omega
      subst hkn
      have t0 : xs.take k = xs := by rw [← HN.out]; exact List.take_length
      rw [t0] at ho
      exact ⟨_, rfl, ho, hbl⟩
set_option maxHeartbeats 1000000 in
theorem l1Legs_any (id : Int) (x : Value) (xs : List Leg) (s : Int) (w : World) (hx : LegsV w x xs) (hn : xs.length ≤ 1048576) :
    Calls Tryz.prog 53 #[.agg #[.int .i64 id, x], .int .i64 s] w fun e w' => ∃ v, e = .returned v ∧ w'.ownsRow w.heap.size 119 4 v (onSh s xs).length (legsC (onSh s xs)) ∧ Below w.heap.size w w' := by
  obtain ⟨ax, cx, rfl, hcx, hmx, hx⟩ := hx
  unfold maxLen at hmx
  obtain ⟨i0, hi, hz0, hz1, hz2⟩ := info_parts infoLeg
  generalize hn' : xs.length = n at *
  have HN : Hid (xs.length = n) := hn'
  clear hn'
  go_enter Tryz.func53, Tryz.ntmps53
  go_wp2
  go_loopw [5, 6] (fun v i w' => ∃ k : Nat, k ≤ n ∧ i = .int .i64 k ∧ w'.ownsRow (w.heap.size + 1) 119 4 v (onSh s (xs.take k)).length (legsC (onSh s (xs.take k))) ∧ w'.cell? ⟨w.heap.size, 1, none⟩ = some (.slice ax n cx) ∧ w.heap.size + 1 ≤ w'.heap.size ∧ Below w.heap.size w w') (fun _ i _ => n - (intOf i).toNat)
  case atStart =>
    refine ⟨0, Nat.zero_le _, rfl, ?_, by simp [go_sem], by simp, balloc (balloc (Below.refl _ _) _) _⟩
    have := World.ownsRow_lit (base := w.heap.size + 1) (e := 119) (size := 4) (w.alloc (.cells #[.int .i64 id, .slice ax n cx] 66)) #[] 0 (by simp) (by unfold maxLen; omega) rfl
    simpa [onSh, legsC] using this
  case round =>
    obtain ⟨k, hk, rfl, ho, hbx, hsz, hbl⟩ := hrel
    by_cases hlt : k < n
    · obtain ⟨bx, ox, rfl, g1⟩ := hx k hlt
      obtain ⟨l, hl⟩ : ∃ l, l = xs.getD k default := ⟨_, rfl⟩
      rw [← hl] at g1
      have HL : Hid (l = xs.getD k default) := hl
      clear hl hx
      obtain ⟨a1, a2, a3, a4⟩ := legCells_below hbl g1
      have hkx : k < xs.length := by have := HN.out; omega
      have hle := onSh_le s xs k
      by_cases hs : l.sh = s
      · have e1 := onSh_hit s xs k hkx (by rw [← HL.out]; exact hs)
        rw [← HL.out] at e1
        have HE : Hid (onSh s (xs.take (k + 1)) = onSh s (xs.take k) ++ [l]) := e1
        have hd : (l.sh == s) = true := by simpa using hs
        generalize onSh s (xs.take k) = ys at *
        clear e1 hs
        go_wp2_with (at_builtin; refine wpList_append_own _ rfl _ _ 64 rfl (w.heap.size + 1) 119 i0 _ 4 32 Tryz.underlying64 hi hz0 hz1 hz2 rfl (by decide) _ _ _ rfl (ho.alloc _) ⟨wr.heap.size, 0, none⟩ 1 1 (legC l) rfl rfl ?c1 (legC_one l) ?c3 ?c4 ?c5 ?_)
        case c1 => exact legC_cells (b := wr.heap.size) (o := 0) ⟨by simp [go_sem], by simp [go_sem], by simp [go_sem], by simp [go_sem]⟩
        case c3 => unfold maxLen; omega
        case c4 => omega
        case c5 => simp; omega
        · intro v' w1 hown' hgrow _
          have hz : w.heap.size < wr.heap.size := World.block_lt_of_cell? _ _ hbx
          have hB1 : Below w.heap.size w w1 := owns_grown (ho.alloc _) (balloc hbl _) (by simp; omega) (by omega) hgrow
          have hbx1 : w1.cell? ⟨w.heap.size, 1, none⟩ = some (.slice (some ⟨bx, ox, none⟩) n cx) := by
            refine hgrow.cell (cell_keep (balloc (Below.refl _ _) _) hbx) ?_
            intro h
            have := (ho.alloc (.cells #[.int .i64 l.sh, .int .i64 l.ac, .int .i64 l.ast, .int .i64 l.am] 119)).lt _ h.symm
            simp at this
            omega
          have hz1 : w.heap.size + 1 ≤ w1.heap.size := World.block_lt_of_cell? _ _ hbx1
          clear hgrow ho a1 a2 a3 a4
          go_wp2
          refine ⟨⟨k + 1, by omega, by go_num, ?_, hbx1, hz1, hB1⟩, by simp [intOf]; omega⟩
          rw [HE.out, legsC_snoc, List.length_append]
          exact hown'
      · have e1 := onSh_miss s xs k hkx (by rw [← HL.out]; exact hs)
        have HE : Hid (onSh s (xs.take (k + 1)) = onSh s (xs.take k)) := e1
        have hd : (l.sh == s) = false := by simpa using hs
        clear e1 hs
        go_wp2
        refine ⟨⟨k + 1, by omega, by go_num, ?_, hbx, hsz, hbl⟩, by simp [intOf]; omega⟩
        rw [HE.out]
        exact ho
    · go_wp2
      go_ret
      have hkn : k = n := by omega
      subst hkn
      have t0 : xs.take k = xs := by rw [← HN.out]; exact List.take_length
      rw [t0] at ho
      exact ⟨_, rfl, owns_base ho (by omega), hbl⟩
end Go.Proofs.YtndghenlapbaaaaGreatDoor

/-
  LedgerResult. (Written by program: nest.py.)
-/
namespace Go.Proofs.YtndghenlapbaaaaGreatDoor
open Go.RowKit
set_option linter.unusedSectionVars false
variable [DecidableEq Bal] [Inhabited Bal] [DecidableEq Ledg] [Inhabited Ledg]
attribute [local go_sem ↓] Go.wp_at_zero Go.wp_at_succ

set_option linter.unusedSimpArgs false

structure LedgR where
  code : Int
  ledger : Ledg
variable [DecidableEq LedgR] [Inhabited LedgR]

end Go.Proofs.YtndghenlapbaaaaGreatDoor

/-
  The specification's l2Settle: legs added, shard by shard.
-/
namespace Go.Proofs.YtndghenlapbaaaaGreatDoor
open Go.RowKit
set_option linter.unusedSectionVars false
variable [DecidableEq Bal] [Inhabited Bal] [DecidableEq Ledg] [Inhabited Ledg] [DecidableEq Leg] [Inhabited Leg] [DecidableEq Cont] [Inhabited Cont] [DecidableEq LedgR] [Inhabited LedgR]
set_option linter.unusedVariables false
set_option linter.unusedSimpArgs false
attribute [local go_sem ↓] Go.wp_at_zero Go.wp_at_succ

theorem mod_frozen {F : Nat → Prop} {w w' : World} (h : Mod F w w') {a : Addr} (hl : a.block < w.heap.size) (hn : ¬ F a.block) : w'.frozen? a = w.frozen? a := World.frozen?_of_block (h.block a.block hl hn)
structure StSt (w W : World) (n : Nat) (ag : Option Addr) (cg : Nat) (id : Int) (ac : Option Addr) (m cc : Nat) (v : Value) : Prop where
  g0 : W.cell? ⟨w.heap.size, 0, none⟩ = some (.slice ag n cg)
  y0 : W.cell? ⟨w.heap.size + 1, 0, none⟩ = some (.int .i64 id)
  y1 : W.cell? ⟨w.heap.size + 1, 1, none⟩ = some (.slice ac m cc)
  r0 : W.cell? ⟨w.heap.size + 1 + 1, 0, none⟩ = some (.slice none 0 0)
  o0 : W.cell? ⟨w.heap.size + 1 + 1 + 1, 0, none⟩ = some v
  rf : ∀ o, W.frozen? ⟨w.heap.size + 1 + 1, o, none⟩ = false
  of : ∀ o, W.frozen? ⟨w.heap.size + 1 + 1 + 1, o, none⟩ = false
  sz : w.heap.size + 4 ≤ W.heap.size
  blw : Below w.heap.size w W
theorem StSt.mod {w W W' : World} {n : Nat} {ag : Option Addr} {cg : Nat} {id : Int} {ac : Option Addr} {m cc : Nat} {v : Value} {F : Nat → Prop} (h : StSt w W n ag cg id ac m cc v) (hm : Mod F W W') (hF : ∀ b, F b → w.heap.size + 4 ≤ b) : StSt w W' n ag cg id ac m cc v := by
  have hsz := h.sz
  have hn : ∀ b, b < w.heap.size + 4 → ¬ F b := fun b hb e => by have := hF b e; omega
  exact ⟨hm.cell h.g0 (hn _ (by dsimp only; omega)), hm.cell h.y0 (hn _ (by dsimp only; omega)), hm.cell h.y1 (hn _ (by dsimp only; omega)), hm.cell h.r0 (hn _ (by dsimp only; omega)), hm.cell h.o0 (hn _ (by dsimp only; omega)),
    fun o => (mod_frozen hm (a := ⟨w.heap.size + 1 + 1, o, none⟩) (by dsimp only; omega) (hn _ (by dsimp only; omega))).trans (h.rf o), fun o => (mod_frozen hm (a := ⟨w.heap.size + 1 + 1 + 1, o, none⟩) (by dsimp only; omega) (hn _ (by dsimp only; omega))).trans (h.of o), Nat.le_trans hsz hm.size, hm.below h.blw (by omega) (fun b hb => by have := hF b hb; omega)⟩
theorem StSt.below {w W W' : World} {n : Nat} {ag : Option Addr} {cg : Nat} {id : Int} {ac : Option Addr} {m cc : Nat} {v : Value} (h : StSt w W n ag cg id ac m cc v) (hb : Below W.heap.size W W') : StSt w W' n ag cg id ac m cc v :=
  h.mod (F := fun _ => False) (Mod.of_below hb) (fun _ e => e.elim)
theorem StSt.put {w W : World} {n : Nat} {ag : Option Addr} {cg : Nat} {id : Int} {ac : Option Addr} {m cc : Nat} {v : Value} (h : StSt w W n ag cg id ac m cc v) (v' : Value) : StSt w (W.setCell ⟨w.heap.size + 1 + 1 + 1, 0, none⟩ v') n ag cg id ac m cc v' :=
  ⟨by rw [set_other (by simp)]; exact h.g0, by rw [set_other (by simp)]; exact h.y0, by rw [set_other (by simp)]; exact h.y1, by rw [set_other (by simp)]; exact h.r0, set_same h.o0, fun o => by rw [World.frozen?_setCell]; exact h.rf o, fun o => by rw [World.frozen?_setCell]; exact h.of o, by simpa using h.sz, h.blw.setCell (by dsimp only; omega) _⟩
theorem StSt.all {w W : World} {n : Nat} {ag : Option Addr} {cg : Nat} {id : Int} {ac : Option Addr} {m cc : Nat} {v : Value} {b o k : Nat} {u : Value} (h : StSt w W n ag cg id ac m cc v) (hc : W.cell? ⟨b, o + k, none⟩ = some u) :
    StSt w W n ag cg id ac m cc v ∧ W.cell? ⟨w.heap.size + 1 + 1 + 1, 0, none⟩ = some v ∧ W.cell? ⟨w.heap.size, 0, none⟩ = some (.slice ag n cg) ∧ W.cell? ⟨w.heap.size + 1, 0, none⟩ = some (.int .i64 id) ∧ W.cell? ⟨w.heap.size + 1, 1, none⟩ = some (.slice ac m cc) ∧ W.cell? ⟨b, o + k, none⟩ = some u :=
  ⟨h, h.o0, h.g0, h.y0, h.y1, hc⟩
end Go.Proofs.YtndghenlapbaaaaGreatDoor

/-
  The keys of a book, sorted and laid shard by shard: what lies there rises and tells the book.
-/
namespace Go.Proofs.YtndghenlapbaaaaGreatDoor
open Go.RowKit Go.Sort Go.Shelf
set_option linter.unusedSectionVars false
variable [DecidableEq Rw] [Inhabited Rw] [DecidableEq Bal] [Inhabited Bal] [DecidableEq Ledg] [Inhabited Ledg] [DecidableEq Leg] [Inhabited Leg] [DecidableEq Cont] [Inhabited Cont] [DecidableEq LedgR] [Inhabited LedgR]
set_option linter.unusedVariables false
set_option linter.unusedSimpArgs false

theorem nodup_lt : ∀ (N : Nat) (l : List Nat), l.Nodup → (∀ x ∈ l, x < N) → l.length ≤ N
  | 0, l, _, h => by
    cases l with
    | nil => simp
    | cons x r => exact absurd (h x (by simp)) (Nat.not_lt_zero _)
  | N + 1, l, hn, h => by
    have h1 := nodup_lt N (l.erase N) (hn.erase N) (fun x hx => by
      obtain ⟨h2, h3⟩ := (hn.mem_erase_iff).1 hx
      have := h x h3
      omega)
    rw [List.length_erase] at h1
    split at h1 <;> omega
def KDom (n : Nat) (f : Int → Int → Int → Option Int) : Prop := ∀ s a t, (f s a t).isSome = true → (0 ≤ s ∧ s < (n : Int)) ∧ keyOk a t = true
theorem KDom.len {n : Nat} {f : Int → Int → Int → Option Int} (h : KDom n f) {ys : List K3} (hy : KOk f ys) : ys.length ≤ n * 18 := by
  have h1 := nodup_lt (n * 18) (ys.map (fun k : K3 => k.1.toNat * 18 + k.2.1.toNat * 3 + k.2.2.toNat)) ?_ ?_
  · simpa using h1
  · rw [List.Nodup, List.pairwise_map]
    refine List.Pairwise.imp_of_mem ?_ hy.1
    rintro ⟨s, a, t⟩ ⟨s', a', t'⟩ hx hx' hne e
    obtain ⟨⟨_, _⟩, hk⟩ := h s a t (hy.2 _ hx)
    obtain ⟨⟨_, _⟩, hk'⟩ := h s' a' t' (hy.2 _ hx')
    obtain ⟨⟨_, _⟩, _, _⟩ := keyOk_iff.1 hk
    obtain ⟨⟨_, _⟩, _, _⟩ := keyOk_iff.1 hk'
    apply hne
    dsimp only at e
    have e1 : s = s' := by omega
    have e2 : a = a' := by omega
    have e3 : t = t' := by omega
    rw [e1, e2, e3]
  · intro x hx
    obtain ⟨⟨s, a, t⟩, hm, rfl⟩ := List.mem_map.1 hx
    obtain ⟨⟨_, _⟩, hk⟩ := h s a t (hy.2 _ hm)
    obtain ⟨⟨_, _⟩, _, _⟩ := keyOk_iff.1 hk
    dsimp only
    omega
end Go.Proofs.YtndghenlapbaaaaGreatDoor


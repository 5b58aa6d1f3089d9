/-
  Rows of texts: read, owned, compared, marked.
-/
import Derived.Test.YtjhfdefgbloapaaTabN
namespace Go.Proofs.Ytjhfdefgbloapaa
open Go.RowKit
set_option linter.unusedSectionVars false
variable [DecidableEq Rw] [Inhabited Rw]
set_option linter.unusedVariables false
set_option linter.unusedSimpArgs false
attribute [local go_sem ↓] Go.wp_at_zero Go.wp_at_succ

def strsC (ys : List ByteArray) : List Value := ys.map Value.string
theorem infoStr : (Try.prog.info? 9).map (fun i => (i.zero, i.size, i.bytes)) = some (some (.string ⟨#[]⟩), 1, 16) := by kernel_rfl
def StrsV (w : World) (v : Value) (ys : List ByteArray) : Prop :=
  ∃ a cap, v = .slice a ys.length cap ∧ ys.length ≤ cap ∧ cap ≤ maxLen ∧ ∀ i, i < ys.length → ∃ b o, a = some ⟨b, o, none⟩ ∧ w.cell? ⟨b, o + i, none⟩ = some (.string (ys.getD i default))
theorem StrsV_below {w w' : World} {v : Value} {ys : List ByteArray} (h : StrsV w v ys) (hb : Below w.heap.size w w') : StrsV w' v ys := by
  obtain ⟨a, cap, rfl, h1, h2, h3⟩ := h
  exact ⟨a, cap, rfl, h1, h2, fun i hi => by
    obtain ⟨b, o, ha, hc⟩ := h3 i hi
    exact ⟨b, o, ha, cell_keep hb hc⟩⟩
theorem StrsV_of_owns {w : World} {base e : Nat} {v : Value} {ys : List ByteArray} (h : w.ownsRow base e 1 v ys.length (strsC ys)) : StrsV w v ys := by
  rcases h.2 with ⟨rfl, hn⟩ | ⟨g, cap, cur, rfl, hb, hg, hnc, hcm, hcs, htake⟩
  · exact ⟨none, 0, by rw [hn], by omega, by unfold maxLen; omega, fun i hi => by omega⟩
  · refine ⟨some ⟨g, 0, none⟩, cap, rfl, hnc, hcm, fun i hi => ⟨g, 0, rfl, ?_⟩⟩
    rw [Nat.zero_add]
    refine (h.cellAt i (by omega)).trans ?_
    simp [strsC, List.getD, hi]
theorem strs_eq_of {xs ys : List ByteArray} (hl : ys.length = xs.length) (h : ∀ j, j < xs.length → xs.getD j default = ys.getD j default) : xs = ys := by
  apply List.ext_getElem (by omega)
  intro i h1 h2
  have := h i h1
  simpa [List.getD, h1, h2] using this

set_option maxHeartbeats 1000000 in
theorem eqStringS_any (x y : Value) (xs ys : List ByteArray) (w : World) (hx : StrsV w x xs) (hy : StrsV w y ys) :
    Calls Try.prog 60 #[x, y] w fun e w' => e = .returned (.bool (decide (xs = ys))) ∧ Below w.heap.size w w' := by
  obtain ⟨ax, cx, rfl, hcx, hmx, hx⟩ := hx
  obtain ⟨ay, cy, rfl, hcy, hmy, hy⟩ := hy
  unfold maxLen at hmx hmy
  by_cases hl : ys.length = xs.length
  · rw [hl] at hcy hy ⊢
    have HL : Hid (ys.length = xs.length) := hl
    clear hl
    generalize hn : xs.length = n at *
    have HN : Hid (xs.length = n) := hn
    clear hn
    go_enter Try.func60, Try.ntmps60
    go_wp2
    go_loopw [5] (fun i w' => ∃ k : Nat, k ≤ n ∧ i = .int .i64 k ∧ (∀ j, j < k → xs.getD j default = ys.getD j default) ∧ Below w.heap.size w w') (fun i _ => n - (intOf i).toNat)
    case atStart => exact ⟨0, Nat.zero_le _, rfl, fun j h => absurd h (Nat.not_lt_zero _), Below.refl _ _⟩
    case round =>
      obtain ⟨k, hk, rfl, hpre, hbl⟩ := hrel
      have HP : Hid (∀ j, j < k → xs.getD j default = ys.getD j default) := hpre
      clear hpre
      by_cases hlt : k < n
      · obtain ⟨bx, ox, rfl, h1⟩ := hx k hlt
        obtain ⟨b2, oy, rfl, h2⟩ := hy k hlt
        obtain ⟨l1, hl1⟩ : ∃ l, l = xs.getD k default := ⟨_, rfl⟩
        obtain ⟨l2, hl2⟩ : ∃ l, l = ys.getD k default := ⟨_, rfl⟩
        rw [← hl1] at h1
        rw [← hl2] at h2
        have H1 : Hid (l1 = xs.getD k default) := hl1
        have H2 : Hid (l2 = ys.getD k default) := hl2
        clear hl1 hl2 hx hy
        go_wp2
        go_region_held3 (fun w' => Below w.heap.size w w' ∧ w'.cell? ⟨bx, ox + k, none⟩ = some (.string l1) ∧ w'.cell? ⟨b2, oy + k, none⟩ = some (.string l2)) ((refine keepC2 ?_ h1 h2; repeat (first | exact Below.refl _ _ | assumption | refine Below.drew ?_ | refine balloc ?_ _ | refine bstep ?_ (by assumption)))) (fail)
        rename_i hH
        have hB := hH.1
        clear hH
        go_wp2
        · rename_i hle
          go_ret
          refine ⟨?_, hB⟩
          have : ¬ xs = ys := fun h => by
            have : l1 = l2 := by rw [H1.out, H2.out, h]
            simp [this] at hle
          simp [this]
        · rename_i hle
          refine ⟨⟨k + 1, by omega, by go_num, fun j hj => ?_, hB⟩, by simp [intOf]; omega⟩
          by_cases hjk : j < k
          · exact HP.out j hjk
          · have : j = k := by omega
            subst this
            rw [← H1.out, ← H2.out]
            simpa [tl_inj] using hle
      · go_wp2
        go_ret
        have : k = n := by omega
        subst this
        refine ⟨?_, hbl⟩
        have : xs = ys := strs_eq_of (by rw [HL.out, HN.out]) (by rw [HN.out]; exact HP.out)
        simp [this]
  · go_enter Try.func60, Try.ntmps60
    have hl' : ((xs.length : Int) == (ys.length : Int)) = false := by simp; omega
    go_wp2
    go_ret
    have : ¬ xs = ys := fun h => hl (by rw [h])
    exact ⟨by simp [this], Below.refl _ _⟩

def strMarks (k : Int) (n : Nat) : List ByteArray := (List.range n).map (fun i : Nat => markT (k + (i : Int)))
theorem length_strMarks (k : Int) (n : Nat) : (strMarks k n).length = n := by simp [strMarks]
theorem getD_strMarks (k : Int) (n i : Nat) (h : i < n) : (strMarks k n).getD i default = markT (k + i) := by simp [strMarks, List.getD, h]
def uptoS (k : Nat) (cs : List Value) (ys : List ByteArray) : Prop := ∀ j, j < k → cs[j]? = (strsC ys)[j]?
theorem uptoS_full {n : Nat} {cs : List Value} {ys : List ByteArray} (h : uptoS n cs ys) (hl : cs.length = n * 1) (hn : ys.length = n) : cs = strsC ys := by
  apply List.ext_getElem?
  intro j
  by_cases hj : j < n
  · exact h j hj
  · rw [List.getElem?_eq_none (by omega), List.getElem?_eq_none (by simp [strsC]; omega)]
theorem uptoS_set {k : Nat} {cs : List Value} {ys : List ByteArray} {l : ByteArray} (h : uptoS k cs ys) (hk : k < ys.length) (hl : cs.length = ys.length * 1) (he : l = ys.getD k default) : uptoS (k + 1) (cs.set k (.string l)) ys := by
  intro j hj
  rw [List.getElem?_set]
  by_cases e : k = j
  · subst e
    rw [if_pos rfl, if_pos (by omega)]
    simp [strsC, he, List.getD, hk]
  · rw [if_neg e]
    exact h j (by omega)

set_option maxHeartbeats 1000000 in
theorem markStringS_any (v : Value) (n : Nat) (cs : List Value) (base e : Nat) (k : Int) (w : World) (ho : w.ownsRow base e 1 v n cs) (hn : n ≤ 1048576) (hk0 : 0 ≤ k) (hk1 : k + n ≤ 1073741824) :
    Calls Try.prog 61 #[v, .int .i64 k] w fun r w' => r = .returned (.int .i64 (k + n)) ∧ w'.ownsRow base e 1 v n (strsC (strMarks k n)) ∧ w.grownBy w' v.ownBlock := by
  rcases ho.2 with ⟨rfl, rfl⟩ | ⟨g, cap, cur, rfl, hb, hg, hnc, hcm, _, _⟩
  · go_enter Try.func61, Try.ntmps61
    go_wp2
    go_loopw [1, 5] (fun q i w' => q = .int .i64 k ∧ i = .int .i64 0 ∧ w' = w) (fun _ _ _ => 0)
    case atStart => exact ⟨rfl, rfl, rfl⟩
    case round =>
      obtain ⟨rfl, rfl, rfl⟩ := hrel
      go_wp2
      go_ret
      exact ⟨by simp, World.ownsRow_nil _ _ _ _, ⟨rfl, rfl, rfl, Nat.le_refl _, fun _ _ _ => rfl⟩⟩
  · unfold maxLen at hcm
    go_enter Try.func61, Try.ntmps61
    go_wp2
    go_loopw [1, 5] (fun q i w' => ∃ (j : Nat) (cs' : List Value), j ≤ n ∧ i = .int .i64 j ∧ q = .int .i64 (k + j) ∧ w'.ownsRow base e 1 (.slice (some ⟨g, 0, none⟩) n cap) n cs' ∧ Hid (uptoS j cs' (strMarks k n)) ∧ w.grownBy w' (some g)) (fun _ i _ => n - (intOf i).toNat)
    case atStart => exact ⟨0, cs, Nat.zero_le _, rfl, by simp, ho, fun j h => by omega, ⟨rfl, rfl, rfl, Nat.le_refl _, fun _ _ _ => rfl⟩⟩
    case round =>
      obtain ⟨j, cs', hj, rfl, rfl, ho1, HU, hgr⟩ := hrel
      clear ho hg
      by_cases hlt : j < n
      · go_wp2_with fail
        refine (markText_any (k + j) _ (by omega) (by omega)).mono ?_
        rintro r wa ⟨rfl, hba⟩
        have ho2 := owns_below ho1 hba
        obtain ⟨u0, g0⟩ := owns_some ho2 j (by omega)
        have hf := fun j => ho2.frozenAt j
        generalize hT0 : markT (k + j) = T0 at *
        have HT0 : Hid (markT (k + j) = T0) := hT0
        clear hT0
        have s0 := ho2.stored j (.string T0)
        go_wp2
        refine ⟨⟨j + 1, _, by omega, by go_num, by congr 1; omega, s0.1, uptoS_set HU.out (by rw [length_strMarks]; exact hlt) (by rw [length_strMarks]; exact ho1.1) (by rw [getD_strMarks k n j hlt, HT0.out]), grownTrans (grownTrans hgr (grownAny (grown_of_below hba))) s0.2⟩, by simp [intOf]; omega⟩
      · go_wp2
        go_ret
        have hjn : j = n := by omega
        subst hjn
        have e' := uptoS_full HU.out ho1.1 (length_strMarks k j)
        rw [e'] at ho1
        exact ⟨rfl, ho1, hgr⟩

set_option maxRecDepth 20000 in
set_option maxHeartbeats 2000000 in
theorem heldStringS_any (v : Value) (n : Nat) (k : Int) (w : World) (hv : StrsV w v (strMarks k n)) (hn : n ≤ 1048576) (hk0 : 0 ≤ k) (hk1 : k + n ≤ 1073741824) :
    Calls Try.prog 62 #[v, .int .i64 k] w fun r w' => r = .returned (.int .i64 (k + n)) ∧ Below w.heap.size w w' := by
  obtain ⟨a, cap, rfl, hnc, hcm, hc⟩ := hv
  rw [length_strMarks] at hnc hc ⊢
  unfold maxLen at hcm
  go_enter Try.func62, Try.ntmps62
  go_wp2
  go_loopw [1, 5] (fun q i w' => ∃ j : Nat, j ≤ n ∧ i = .int .i64 j ∧ q = .int .i64 (k + j) ∧ Below w.heap.size w w') (fun _ i _ => n - (intOf i).toNat)
  case atStart => exact ⟨0, Nat.zero_le _, rfl, by simp, Below.refl _ _⟩
  case round =>
    obtain ⟨j, hj, rfl, rfl, hbl⟩ := hrel
    by_cases hlt : j < n
    · obtain ⟨b, o, rfl, h1⟩ := hc j hlt
      rw [getD_strMarks k n j hlt] at h1
      replace h1 := cell_keep hbl h1
      have hq1 : (0 : Int) ≤ k + j := by omega
      have hq3 : k + j ≤ 1073741830 := by omega
      obtain ⟨T0, hT0⟩ : ∃ T, markT (k + j) = T := ⟨_, rfl⟩
      rw [hT0] at h1
      have HT0 : Hid (markT (k + j) = T0) := hT0
      clear hc hT0
      have hjn : (j : Int) < n := by omega
      go_wp2
      go_region_held3 (fun w' => Below wr.heap.size wr w' ∧ w'.cell? ⟨b, o + j, none⟩ = some (.string T0))
        ((refine ⟨?_, cell_keep ?_ h1⟩; all_goals repeat (first | exact Below.refl _ _ | assumption | refine Below.drew ?_ | refine balloc ?_ _ | refine bstep ?_ (by assumption)))) (first | (go_at_call 56; refine (markText_any (k + j) _ hq1 hq3).mono ?_; rintro e wa ⟨rfl, hba⟩; rw [HT0.out]))
      rename_i hH
      have hB := bstep hbl hH.1
      obtain ⟨_, c0⟩ := hH
      go_wp2
      refine ⟨⟨j + 1, by omega, by go_num, ?_, hB⟩, by simp [intOf]; omega⟩
      congr 1
      omega
    · go_wp2
      go_ret
      have hjn : j = n := by omega
      subst hjn
      exact ⟨rfl, hbl⟩

def strsR : Rep (List ByteArray) := fRep 9 1 strsC StrsV StrsV_below StrsV_of_owns
def wtStrs (xs : List ByteArray) : Nat := xs.length
def cntStrs (xs : List ByteArray) : Nat := xs.length
def mkStrs (k : Int) (xs : List ByteArray) : List ByteArray := strMarks k xs.length
theorem strs_form {w : World} {v : Value} {xs : List ByteArray} (h : strsR.V w v xs) : ∃ a c, v = .slice a xs.length c := by
  obtain ⟨a, c, rfl, _⟩ := h
  exact ⟨_, _, rfl⟩
theorem strs_cnt (d : List ByteArray) : cntStrs d ≤ 1 * wtStrs d := by unfold cntStrs wtStrs; omega
theorem eqStringS_u (x y : Value) (d d' : List ByteArray) (w : World) (hx : strsR.V w x d) (hy : strsR.V w y d') :
    Calls Try.prog 60 #[x, y] w fun e w' => e = .returned (.bool (decide (d = d'))) ∧ Below w.heap.size w w' := eqStringS_any x y d d' w hx hy
theorem markStringS_u (v : Value) (d : List ByteArray) (base : Nat) (F : Nat → Prop) (k : Int) (w : World) (ho : strsR.O w base F v d) (hw : wtStrs d ≤ 1048576) (hn : k + cntStrs d ≤ 1073741824) (hk0 : 0 ≤ k) :
    Calls Try.prog 61 #[v, .int .i64 k] w fun r w' => r = .returned (.int .i64 (k + cntStrs d)) ∧ strsR.O w' base F v (mkStrs k d) ∧ Mod F w w' := by
  refine (markStringS_any v d.length _ base _ k w ho.1 hw hk0 hn).mono ?_
  rintro e w' ⟨rfl, h1, h2⟩
  refine ⟨by simp [cntStrs], ⟨?_, ho.2⟩, by rw [ho.2]; exact Mod.of_grown h2⟩
  unfold mkStrs
  rw [length_strMarks]
  exact h1
theorem heldStringS_u (v : Value) (d : List ByteArray) (k : Int) (w : World) (hv : strsR.V w v (mkStrs k d)) (hw : wtStrs d ≤ 1048576) (hn : k + cntStrs d ≤ 1073741824) (hk0 : 0 ≤ k) :
    Calls Try.prog 62 #[v, .int .i64 k] w fun r w' => r = .returned (.int .i64 (k + cntStrs d)) ∧ Below w.heap.size w w' := by
  refine (heldStringS_any v d.length k w hv hw hk0 hn).mono ?_
  rintro e w' ⟨rfl, hb⟩
  exact ⟨by simp [cntStrs], hb⟩

end Go.Proofs.Ytjhfdefgbloapaa

import Derived.Test.YtdfapehonegeeaaGreatPrnWriteBatchLaw1
import Derived.Deep.RegionHeld3
import Derived.Deep.DrawnRows
import Derived.BigQuiet
import Derived.Deep.QuietTactic
import Derived.Deep.DeepAppendRoom

/-
  Rows of Write, in a slice: read, owned, copied, compared, counted. (Written by program: strow.py.)
-/
namespace Go.Proofs.YtdfapehonegeeaaGreat
open Go.RowKit
set_option linter.unusedSectionVars false
variable [DecidableEq Wri] [Inhabited Wri]
set_option linter.unusedSimpArgs false
attribute [local go_sem ↓] Go.wp_at_zero Go.wp_at_succ

def wriCells (w : World) (b o : Nat) (x : Wri) : Prop := w.cell? ⟨b, o, none⟩ = some (.string x.key) ∧ w.cell? ⟨b, o + 1, none⟩ = some (.string x.val) ∧ w.cell? ⟨b, o + 2, none⟩ = some (.bool x.gone)
def FitWri (xs : List Wri) : Prop := ∀ i, i < xs.length → (xs.getD i default).key.size ≤ maxLen ∧ (xs.getD i default).val.size ≤ maxLen
def WrisV (w : World) (v : Value) (xs : List Wri) : Prop :=
  ∃ a cap, v = .slice a xs.length cap ∧ xs.length ≤ cap ∧ cap ≤ maxLen ∧ ∀ i, i < xs.length → ∃ b o, a = some ⟨b, o, none⟩ ∧ wriCells w b (o + i * 3) (xs.getD i default)
theorem wriCells_below {w w' : World} {b o : Nat} {x : Wri} (hb : Below w.heap.size w w') (h : wriCells w b o x) : wriCells w' b o x := by
  obtain ⟨h0, h1, h2⟩ := h
  exact ⟨cell_keep hb h0, cell_keep hb h1, cell_keep hb h2⟩
theorem WrisV_below {w w' : World} {v : Value} {xs : List Wri} (h : WrisV w v xs) (hb : Below w.heap.size w w') : WrisV w' v xs := by
  obtain ⟨a, cap, rfl, h1, h2, h3⟩ := h
  exact ⟨a, cap, rfl, h1, h2, fun i hi => by
    obtain ⟨b, o, ha, hc⟩ := h3 i hi
    exact ⟨b, o, ha, wriCells_below hb hc⟩⟩
theorem wriKeep2 {w w' : World} {b o b' o' : Nat} {x y : Wri} (hb : Below w.heap.size w w') (h : wriCells w b o x) (h' : wriCells w b' o' y) :
    Below w.heap.size w w' ∧ (w'.cell? ⟨b, o, none⟩ = some (.string x.key) ∧ w'.cell? ⟨b, o + 1, none⟩ = some (.string x.val) ∧ w'.cell? ⟨b, o + 2, none⟩ = some (.bool x.gone)) ∧ (w'.cell? ⟨b', o', none⟩ = some (.string y.key) ∧ w'.cell? ⟨b', o' + 1, none⟩ = some (.string y.val) ∧ w'.cell? ⟨b', o' + 2, none⟩ = some (.bool y.gone)) :=
  ⟨hb, wriCells_below hb h, wriCells_below hb h'⟩
set_option maxRecDepth 100000 in
set_option maxHeartbeats 1000000 in
theorem eqWriteS_any (x y : Value) (xs ys : List Wri) (w : World) (hx : WrisV w x xs) (hy : WrisV w y ys) :
    Calls Tryz.prog 20 #[x, y] w fun e w' => e = .returned (.bool (decide (xs = ys))) ∧ Below w.heap.size w w' := by
  obtain ⟨ax, cx, rfl, hcx, hmx, hx⟩ := hx
  obtain ⟨ay, cy, rfl, hcy, hmy, hy⟩ := hy
  unfold maxLen at hmx hmy
  by_cases hl : ys.length = xs.length
  · rw [hl] at hcy hy ⊢
    have HL : Hid (ys.length = xs.length) := hl
    clear hl
    generalize hn : xs.length = n at *
    have HN : Hid (xs.length = n) := hn
    clear hn
    go_enter Tryz.func20, Tryz.ntmps20
    go_wp2
    go_loopw [5] (fun i w' => ∃ k : Nat, k ≤ n ∧ i = .int .i64 k ∧ (∀ j, j < k → xs.getD j default = ys.getD j default) ∧ Below w.heap.size w w') (fun i _ => n - (intOf i).toNat)
    case atStart => exact ⟨0, Nat.zero_le _, rfl, fun j h => absurd h (Nat.not_lt_zero _), Below.refl _ _⟩
    case round =>
      obtain ⟨k, hk, rfl, hpre, hbl⟩ := hrel
      have HP : Hid (∀ j, j < k → xs.getD j default = ys.getD j default) := hpre
      clear hpre
      by_cases hlt : k < n
      · obtain ⟨bx, ox, rfl, h1⟩ := hx k hlt
        obtain ⟨b2, oy, rfl, h2⟩ := hy k hlt
        obtain ⟨l1, hl1⟩ : ∃ l, l = xs.getD k default := ⟨_, rfl⟩
        obtain ⟨l2, hl2⟩ : ∃ l, l = ys.getD k default := ⟨_, rfl⟩
        rw [← hl1] at h1
        rw [← hl2] at h2
        have H1 : Hid (l1 = xs.getD k default) := hl1
        have H2 : Hid (l2 = ys.getD k default) := hl2
        clear hl1 hl2 hx hy
        go_wp2
        go_region_held3 (fun w' => Below w.heap.size w w' ∧ (w'.cell? ⟨bx, ox + k * 3, none⟩ = some (.string l1.key) ∧ w'.cell? ⟨bx, ox + k * 3 + 1, none⟩ = some (.string l1.val) ∧ w'.cell? ⟨bx, ox + k * 3 + 2, none⟩ = some (.bool l1.gone)) ∧ (w'.cell? ⟨b2, oy + k * 3, none⟩ = some (.string l2.key) ∧ w'.cell? ⟨b2, oy + k * 3 + 1, none⟩ = some (.string l2.val) ∧ w'.cell? ⟨b2, oy + k * 3 + 2, none⟩ = some (.bool l2.gone))) ((refine wriKeep2 ?_ h1 h2; repeat (first | exact Below.refl _ _ | assumption | refine Below.drew ?_ | refine balloc ?_ _ | refine bstep ?_ (by assumption)))) (first | (go_at_call 80; refine (eqWrite_any l1 l2 _).mono ?_; rintro e w' ⟨rfl, hb1⟩))
        rename_i hH
        have hB := hH.1
        clear hH
        go_wp2
        · rename_i hle
          go_ret
          refine ⟨?_, hB⟩
          have : ¬ xs = ys := fun h => by
            have : l1 = l2 := by rw [H1.out, H2.out, h]
            simp [this] at hle
          simp [this]
        · rename_i hle
          refine ⟨⟨k + 1, by omega, by go_num, fun j hj => ?_, hB⟩, by simp [intOf]; omega⟩
          by_cases hjk : j < k
          · exact HP.out j hjk
          · have : j = k := by omega
            subst this
            rw [← H1.out, ← H2.out]
            simpa using hle
      · go_wp2
        go_ret
        have : k = n := by omega
        subst this
        refine ⟨?_, hbl⟩
        have : xs = ys := rows_eq_of (by rw [HL.out, HN.out]) (by rw [HN.out]; exact HP.out)
        simp [this]
  · go_enter Tryz.func20, Tryz.ntmps20
    have hl' : ((xs.length : Int) == (ys.length : Int)) = false := by simp; omega
    go_wp2
    go_ret
    have : ¬ xs = ys := fun h => hl (by rw [h])
    exact ⟨by simp [this], Below.refl _ _⟩
def wriC (x : Wri) : List Value := [.string x.key, .string x.val, .bool x.gone]
def wrisC (xs : List Wri) : List Value := xs.flatMap wriC
theorem infoWri : (Tryz.prog.info? 96).map (fun i => (i.zero, i.size, i.bytes)) = some (some (.agg #[.string ⟨#[]⟩, .string ⟨#[]⟩, .bool false]), 3, 40) := by kernel_rfl
theorem length_wrisC (xs : List Wri) : (wrisC xs).length = xs.length * 3 := by
  induction xs with
  | nil => rfl
  | cons x r ih =>
    have e : wrisC (x :: r) = wriC x ++ wrisC r := by simp [wrisC]
    have l4 : (wriC x).length = 3 := rfl
    rw [e, List.length_append, l4, ih, List.length_cons]
    omega
theorem get_wrisC (xs : List Wri) : ∀ i, i < xs.length → (wrisC xs)[i * 3]? = some (.string (xs.getD i default).key) ∧ (wrisC xs)[i * 3 + 1]? = some (.string (xs.getD i default).val) ∧ (wrisC xs)[i * 3 + 2]? = some (.bool (xs.getD i default).gone) := by
  induction xs with
  | nil => intro i h; simp at h
  | cons x r ih =>
    intro i h
    cases i with
    | zero => simp [wrisC, wriC]
    | succ i =>
      have := ih i (by simpa using h)
      have e : wrisC (x :: r) = wriC x ++ wrisC r := by simp [wrisC]
      have l4 : (wriC x).length = 3 := rfl
      rw [e]
      refine ⟨?_, ?_, ?_⟩
      all_goals rw [List.getElem?_append_right (by omega), l4]
      · rw [show (i + 1) * 3 - 3 = i * 3 by omega]; simpa using this.1
      · rw [show (i + 1) * 3 + 1 - 3 = i * 3 + 1 by omega]; simpa using this.2.1
      · rw [show (i + 1) * 3 + 2 - 3 = i * 3 + 2 by omega]; simpa using this.2.2
theorem WrisV_of_owns {w : World} {base e : Nat} {v : Value} {xs : List Wri} (h : w.ownsRow base e 3 v xs.length (wrisC xs)) : WrisV w v xs := by
  rcases h.2 with ⟨rfl, hn⟩ | ⟨g, cap, cur, rfl, hb, hg, hnc, hcm, hcs, htake⟩
  · exact ⟨none, 0, by rw [hn], by omega, by unfold maxLen; omega, fun i hi => by omega⟩
  · refine ⟨some ⟨g, 0, none⟩, cap, rfl, hnc, hcm, fun i hi => ⟨g, 0, rfl, ?_⟩⟩
    obtain ⟨h0, h1, h2⟩ := get_wrisC xs i hi
    simp only [Nat.zero_add, wriCells]
    exact ⟨(h.cellAt _ (by omega)).trans h0, (h.cellAt _ (by omega)).trans h1, (h.cellAt _ (by omega)).trans h2⟩
def wrisUpto (k : Nat) (cs : List Value) (xs : List Wri) : Prop := ∀ j, j < k * 3 → cs[j]? = (wrisC xs)[j]?
theorem wrisUpto_full {n : Nat} {cs : List Value} {xs : List Wri} (h : wrisUpto n cs xs) (hl : cs.length = n * 3) (hn : xs.length = n) : cs = wrisC xs := by
  apply List.ext_getElem?
  intro j
  by_cases hj : j < n * 3
  · exact h j hj
  · rw [List.getElem?_eq_none (by omega), List.getElem?_eq_none (by rw [length_wrisC]; omega)]
theorem wrisUpto_set {k : Nat} {cs : List Value} {xs : List Wri} {x : Wri} (h : wrisUpto k cs xs) (hk : k < xs.length) (hl : cs.length = xs.length * 3) (he : x = xs.getD k default) :
    wrisUpto (k + 1) (((cs.set (k * 3) (.string x.key)).set (k * 3 + 1) (.string x.val)).set (k * 3 + 2) (.bool x.gone)) xs := by
  intro j hj
  obtain ⟨h0, h1, h2⟩ := get_wrisC xs k hk
  subst he
  simp only [List.getElem?_set, List.length_set]
  by_cases e2 : k * 3 + 2 = j
  · subst e2; simp [h2]; omega
  by_cases e1 : k * 3 + 1 = j
  · subst e1; simp [h1]; omega
  by_cases e0 : k * 3 = j
  · subst e0; simp [h0]; omega
  simp [e0, e1, e2]
  exact h j (by omega)
set_option maxRecDepth 100000 in
set_option maxHeartbeats 1000000 in
theorem toWriteS_any (x : Value) (xs : List Wri) (w : World) (hx : WrisV w x xs) (hn : xs.length ≤ 1048576) :
    Calls Tryz.prog 17 #[x] w fun e w' => ∃ v, e = .returned v ∧ w'.ownsRow w.heap.size 96 3 v xs.length (wrisC xs) ∧ Below w.heap.size w w' := by
  obtain ⟨ax, cx, rfl, hcx, hmx, hx⟩ := hx
  unfold maxLen at hmx
  obtain ⟨i0, hi, hz0, hz1, hz2⟩ := info_parts infoWri
  obtain ⟨w1, hmk, hown, hgr⟩ := run_make_full (P := Tryz.prog) w w.heap.size 44 96 i0 _ 3 Tryz.underlying44 hi hz0 hz1 .i64 .i64 xs.length (by rw [hz2]; omega) (by unfold maxLen; omega) (Nat.le_refl _)
  have hbl0 : Below w.heap.size w w1 := (Below.refl _ _).grown hgr (Nat.le_refl _) (fun k h => by cases h)
  generalize hn' : xs.length = n at *
  have HN : Hid (xs.length = n) := hn'
  clear hn'
  go_enter Tryz.func17, Tryz.ntmps17
  go_wp2
  go_loopw [4] (fun i w' => ∃ (k : Nat) (cs : List Value), k ≤ n ∧ i = .int .i64 k ∧ w'.ownsRow w.heap.size 96 3 (.slice (some ⟨w.heap.size, 0, none⟩) n n) n cs ∧ wrisUpto k cs xs ∧ Below w.heap.size w w') (fun i _ => n - (intOf i).toNat)
  case atStart => exact ⟨0, _, Nat.zero_le _, rfl, hown, fun j h => by omega, hbl0⟩
  case round =>
    obtain ⟨k, cs, hk, rfl, ho, hup, hbl⟩ := hrel
    have HU : Hid (wrisUpto k cs xs) := hup
    clear hup hown hmk hgr hbl0
    by_cases hlt : k < n
    · obtain ⟨bx, ox, rfl, h1⟩ := hx k hlt
      obtain ⟨l, hl⟩ : ∃ l, l = xs.getD k default := ⟨_, rfl⟩
      rw [← hl] at h1
      have H1 : Hid (l = xs.getD k default) := hl
      clear hl hx
      obtain ⟨a0, a1, a2⟩ := wriCells_below hbl h1
      go_wp2_with fail
      refine (toWrite_any l _).mono ?_
      rintro e wa ⟨rfl, hba⟩
      have ho1 := owns_below ho hba
      obtain ⟨u0, g0⟩ := owns_some ho1 (k * 3) (by omega)
      obtain ⟨u1, g1⟩ := owns_some ho1 (k * 3 + 1) (by omega)
      obtain ⟨u2, g2⟩ := owns_some ho1 (k * 3 + 2) (by omega)
      have hf := fun j => ho1.frozenAt j
      simp only [wriV]
      go_wp2
      have s0 := ho1.stored (k * 3) (.string l.key)
      have s1 := s0.1.stored (k * 3 + 1) (.string l.val)
      have s2 := s1.1.stored (k * 3 + 2) (.bool l.gone)
      refine ⟨⟨k + 1, _, by omega, by go_num, s2.1, wrisUpto_set HU.out (by have := HN.out; omega) (by have := HN.out; have := ho.1; omega) H1.out, ?_⟩, by simp [intOf]; omega⟩
      exact (((bstep hbl hba).setCell (Nat.le_refl _) _).setCell (Nat.le_refl _) _).setCell (Nat.le_refl _) _
    · go_wp2
      go_ret
      have hkn : k = n := by omega
      subst hkn
      have e := wrisUpto_full HU.out ho.1 HN.out
      subst e
      exact ⟨_, rfl, ho, hbl⟩
def wtWris (xs : List Wri) : Nat := xs.length + (xs.map wtWri).sum
theorem wri_take (xs : List Wri) (k : Nat) (h : k < xs.length) : ((xs.take (k + 1)).map wtWri).sum = ((xs.take k).map wtWri).sum + wtWri (xs.getD k default) := by
  rw [List.take_add_one, List.map_append, List.sum_append, List.getElem?_eq_getElem h]
  simp [List.getD, h]
theorem wri_part (xs : List Wri) (k : Nat) : ((xs.take k).map wtWri).sum ≤ (xs.map wtWri).sum := by
  conv => rhs; rw [← List.take_append_drop k xs]
  rw [List.map_append, List.sum_append]
  omega
set_option maxRecDepth 100000 in
set_option maxHeartbeats 1000000 in
theorem szWriteS_any (x : Value) (xs : List Wri) (left : Int) (w : World) (hx : WrisV w x xs) (hfit : FitWri xs) (h0 : 0 ≤ left) (h1 : left ≤ 1048576) :
    Calls Tryz.prog 15 #[x, .int .i64 left] w fun e w' => e = .returned (.int .i64 (szLen left (wtWris xs))) ∧ Below w.heap.size w w' := by
  obtain ⟨ax, cx, rfl, hcx, hmx, hx⟩ := hx
  unfold maxLen at hmx
  by_cases h : left < xs.length
  · have h' : left - (xs.length : Int) < 0 := by omega
    have e : szLen left (wtWris xs) = -1 := by unfold szLen wtWris; rw [if_pos (by omega)]
    rw [e]
    clear e hfit
    generalize xs.length = n at *
    go_enter Tryz.func15, Tryz.ntmps15
    go_wp2
    go_ret
    exact ⟨rfl, Below.refl _ _⟩
  · have h' : ¬ left - (xs.length : Int) < 0 := by omega
    have HT : Hid (∀ k, k < xs.length → ((xs.take (k + 1)).map wtWri).sum = ((xs.take k).map wtWri).sum + wtWri (xs.getD k default)) := fun k hk => wri_take xs k hk
    have HP : Hid (∀ k, ((xs.take k).map wtWri).sum ≤ (xs.map wtWri).sum) := wri_part xs
    have HF : Hid (FitWri xs) := hfit
    have HW : Hid (wtWris xs = xs.length + (xs.map wtWri).sum) := rfl
    have HA : Hid (((xs.take xs.length).map wtWri).sum = (xs.map wtWri).sum) := by rw [Hid, List.take_length]
    clear hfit
    generalize hn : xs.length = n at *
    have HN : Hid (xs.length = n) := hn
    clear hn
    go_enter Tryz.func15, Tryz.ntmps15
    go_wp2
    go_loopw [1, 5] (fun q i w' => ∃ (k : Nat) (r : Nat), k ≤ n ∧ i = .int .i64 k ∧ q = .int .i64 r ∧ (r : Int) = left - n - ((xs.take k).map wtWri).sum ∧ Below w.heap.size w w') (fun _ i _ => n - (intOf i).toNat)
    case atStart => exact ⟨0, (left - n).toNat, Nat.zero_le _, rfl, by congr 1; omega, by simp; omega, Below.refl _ _⟩
    case round =>
      obtain ⟨k, r, hk, rfl, rfl, hr, hbl⟩ := hrel
      by_cases hlt : k < n
      · obtain ⟨bx, ox, rfl, h2⟩ := hx k hlt
        have hf := HF.out k (by rw [HN.out]; exact hlt)
        have ht := HT.out k hlt
        have hp := HP.out (k + 1)
        have hW := HW.out
        obtain ⟨l, hl⟩ : ∃ l, l = xs.getD k default := ⟨_, rfl⟩
        rw [← hl] at h2 hf ht
        obtain ⟨a0, a1, a2⟩ := wriCells_below hbl h2
        generalize ((xs.take k).map wtWri).sum = S0 at *
        generalize hS1 : ((xs.take (k + 1)).map wtWri).sum = S1 at *
        have HS1 : Hid (((xs.take (k + 1)).map wtWri).sum = S1) := hS1
        clear hS1
        generalize (xs.map wtWri).sum = S at *
        have HR : Hid ((r : Int) = left - n - S0 ∧ S1 = S0 + wtWri l ∧ wtWris xs = n + S) := ⟨hr, ht, hW⟩
        have hr0 : (r : Int) ≤ 1048576 := by omega
        clear hl hx hr ht hW
        go_wp2_with fail
        refine (szWrite_any l r _ hf.1 hf.2 (by omega) hr0).mono ?_
        rintro e wa ⟨rfl, hba⟩
        have hB := bstep hbl hba
        by_cases hs : (r : Int) < (wtWri l : Nat)
        · have es : szLen r (wtWri l : Nat) = -1 := by unfold szLen; rw [if_pos hs]
          rw [es]
          go_wp2
          go_ret
          have hR := HR.out
          exact ⟨by unfold szLen; rw [if_pos (by omega)]; rfl, hB⟩
        · have es : szLen r (wtWri l : Nat) = ((r - wtWri l : Nat) : Int) := by unfold szLen; rw [if_neg hs]; omega
          rw [es]
          clear es
          go_wp2
          have hR := HR.out
          exact ⟨⟨k + 1, r - wtWri l, by omega, by go_num, rfl, by have := HS1.out; omega, hB⟩, by simp [intOf]; omega⟩
      · have hkn : k = n := by omega
        subst hkn
        have HR : Hid ((r : Int) = left - k - ((xs.take k).map wtWri).sum) := hr
        clear hr
        go_wp2
        go_ret
        have hA := HA.out
        have hW := HW.out
        have hR := HR.out
        exact ⟨congrArg (fun z => Ending.returned (Value.int .i64 z)) (by unfold szLen; rw [if_neg (by omega)]; omega), hbl⟩
theorem fitWri_mem {xs : List Wri} : FitWri xs ↔ ∀ x ∈ xs, x.key.size ≤ maxLen ∧ x.val.size ≤ maxLen := by
  constructor
  · intro h x hx
    obtain ⟨i, hi, rfl⟩ := List.mem_iff_getElem.1 hx
    have := h i hi
    simpa [List.getD, hi] using this
  · intro h i hi
    have := h (xs[i]) (List.getElem_mem hi)
    simpa [List.getD, hi] using this
def wrisR : Rep (List Wri) where
  V := fun w v xs => WrisV w v xs ∧ FitWri xs
  O := fun w base F v xs => (w.ownsRow base 96 3 v xs.length (wrisC xs) ∧ F = (fun b => v.ownBlock = some b)) ∧ FitWri xs
  below := fun h hb => ⟨WrisV_below h.1 hb, h.2⟩
  ofO := fun h => ⟨WrisV_of_owns h.1.1, h.2⟩
  mod := fun h hm hd => ⟨⟨hm.owns h.1.1 (fun b hb => hd b (by rw [h.1.2]; exact hb)), h.1.2⟩, h.2⟩
  rng := fun h b hb => by rw [h.1.2] at hb; exact h.1.1.lt b hb
  base := fun h hb => ⟨⟨owns_base h.1.1 hb, h.1.2⟩, h.2⟩
theorem wris_form {w : World} {v : Value} {xs : List Wri} (h : wrisR.V w v xs) : ∃ a c, v = .slice a xs.length c := by
  obtain ⟨⟨a, c, rfl, _⟩, _⟩ := h
  exact ⟨_, _, rfl⟩
theorem toWriteS_u (x : Value) (d : List Wri) (w : World) (hx : wrisR.V w x d) (hn : wtWris d ≤ 1048576) :
    Calls Tryz.prog 17 #[x] w fun e w' => ∃ v F, e = .returned v ∧ wrisR.O w' w.heap.size F v d ∧ Below w.heap.size w w' := by
  refine (toWriteS_any x d w hx.1 (by unfold wtWris at hn; omega)).mono ?_
  rintro e w' ⟨v, rfl, ho, hb⟩
  exact ⟨v, _, rfl, ⟨⟨ho, rfl⟩, hx.2⟩, hb⟩
theorem eqWriteS_u (x y : Value) (d d' : List Wri) (w : World) (hx : wrisR.V w x d) (hy : wrisR.V w y d') :
    Calls Tryz.prog 20 #[x, y] w fun e w' => e = .returned (.bool (decide (d = d'))) ∧ Below w.heap.size w w' := eqWriteS_any x y d d' w hx.1 hy.1
theorem szWriteS_u (x : Value) (d : List Wri) (left : Int) (w : World) (hx : wrisR.V w x d) (h0 : 0 ≤ left) (h1 : left ≤ 1048576) :
    Calls Tryz.prog 15 #[x, .int .i64 left] w fun e w' => e = .returned (.int .i64 (szLen left (wtWris d))) ∧ Below w.heap.size w w' := szWriteS_any x d left w hx.1 hx.2 h0 h1
end Go.Proofs.YtdfapehonegeeaaGreat

/-
  Rows of bytes: copied, compared, counted, marked and read back.
-/
namespace Go.Proofs.YtdfapehonegeeaaGreat
open Go.RowKit
attribute [local go_sem ↓] Go.wp_at_zero Go.wp_at_succ

abbrev Byte := Fin 256
def toB (n : Int) : Byte := ⟨(n % 256).toNat, by omega⟩
theorem toB_val (n : Int) : ((toB n).val : Int) = n % 256 := by simp only [toB]; omega
theorem wrapB (n : Int) : IntKind.u8.wrap n = ((toB n).val : Int) := by rw [toB_val, IntKind.wrap_u8]
theorem byte_lt (b : Byte) : (0 : Int) ≤ (b.val : Int) ∧ (b.val : Int) ≤ 255 := by have := b.isLt; omega
def bytesC (ys : List Byte) : List Value := ys.map (fun b => Value.int .u8 (b.val : Int))
theorem length_bytesC (ys : List Byte) : (bytesC ys).length = ys.length := by simp [bytesC]
theorem bytesC_append (xs ys : List Byte) : bytesC (xs ++ ys) = bytesC xs ++ bytesC ys := by simp [bytesC]
theorem bytesC_one (xs : List Byte) : ∀ u ∈ bytesC xs, u.oneCell' = true := by
  intro u hu
  simp only [bytesC, List.mem_map] at hu
  obtain ⟨b, _, rfl⟩ := hu
  rfl
theorem get_bytesC (ys : List Byte) (i : Nat) (h : i < ys.length) : (bytesC ys)[i]? = some (.int .u8 ((ys.getD i 0).val : Int)) := by
  simp [bytesC, List.getD, h]
theorem infoByte : (Tryz.prog.info? 5).map (fun i => (i.zero, i.size, i.bytes)) = some (some (.int .u8 0), 1, 1) := by kernel_rfl
def BytesV (w : World) (v : Value) (ys : List Byte) : Prop :=
  ∃ a cap, v = .slice a ys.length cap ∧ ys.length ≤ cap ∧ cap ≤ maxLen ∧ ∀ i, i < ys.length → ∃ b o, a = some ⟨b, o, none⟩ ∧ w.cell? ⟨b, o + i, none⟩ = some (.int .u8 ((ys.getD i 0).val : Int))
theorem BytesV_below {w w' : World} {v : Value} {ys : List Byte} (h : BytesV w v ys) (hb : Below w.heap.size w w') : BytesV w' v ys := by
  obtain ⟨a, cap, rfl, h1, h2, h3⟩ := h
  exact ⟨a, cap, rfl, h1, h2, fun i hi => by
    obtain ⟨b, o, ha, hc⟩ := h3 i hi
    exact ⟨b, o, ha, cell_keep hb hc⟩⟩
theorem BytesV_of_owns {w : World} {base e : Nat} {v : Value} {ys : List Byte} (h : w.ownsRow base e 1 v ys.length (bytesC ys)) : BytesV w v ys := by
  rcases h.2 with ⟨rfl, hn⟩ | ⟨g, cap, cur, rfl, hb, hg, hnc, hcm, hcs, htake⟩
  · exact ⟨none, 0, by rw [hn], by omega, by unfold maxLen; omega, fun i hi => by omega⟩
  · refine ⟨some ⟨g, 0, none⟩, cap, rfl, hnc, hcm, fun i hi => ⟨g, 0, rfl, ?_⟩⟩
    rw [Nat.zero_add]
    exact (h.cellAt i (by omega)).trans (get_bytesC ys i hi)
theorem bytes_eq_of {xs ys : List Byte} (hl : ys.length = xs.length) (h : ∀ j, j < xs.length → xs.getD j 0 = ys.getD j 0) : xs = ys := by
  apply List.ext_getElem (by omega)
  intro i h1 h2
  have := h i h1
  simpa [List.getD, h1, h2] using this
set_option maxHeartbeats 1000000 in
theorem eqByteS_any (x y : Value) (xs ys : List Byte) (w : World) (hx : BytesV w x xs) (hy : BytesV w y ys) :
    Calls Tryz.prog 113 #[x, y] w fun e w' => e = .returned (.bool (decide (xs = ys))) ∧ Below w.heap.size w w' := by
  obtain ⟨ax, cx, rfl, hcx, hmx, hx⟩ := hx
  obtain ⟨ay, cy, rfl, hcy, hmy, hy⟩ := hy
  unfold maxLen at hmx hmy
  by_cases hl : ys.length = xs.length
  · rw [hl] at hcy hy ⊢
    have HL : Hid (ys.length = xs.length) := hl
    clear hl
    generalize hn : xs.length = n at *
    have HN : Hid (xs.length = n) := hn
    clear hn
    go_enter Tryz.func113, Tryz.ntmps113
    go_wp2
    go_loopw [5] (fun i w' => ∃ k : Nat, k ≤ n ∧ i = .int .i64 k ∧ (∀ j, j < k → xs.getD j 0 = ys.getD j 0) ∧ Below w.heap.size w w') (fun i _ => n - (intOf i).toNat)
    case atStart => exact ⟨0, Nat.zero_le _, rfl, fun j h => absurd h (Nat.not_lt_zero _), Below.refl _ _⟩
    case round =>
      obtain ⟨k, hk, rfl, hpre, hbl⟩ := hrel
      have HP : Hid (∀ j, j < k → xs.getD j 0 = ys.getD j 0) := hpre
      clear hpre
      by_cases hlt : k < n
      · obtain ⟨bx, ox, rfl, h1⟩ := hx k hlt
        obtain ⟨b2, oy, rfl, h2⟩ := hy k hlt
        obtain ⟨l1, hl1⟩ : ∃ l : Int, l = ((xs.getD k 0).val : Int) := ⟨_, rfl⟩
        obtain ⟨l2, hl2⟩ : ∃ l : Int, l = ((ys.getD k 0).val : Int) := ⟨_, rfl⟩
        rw [← hl1] at h1
        rw [← hl2] at h2
        have H1 : Hid (l1 = ((xs.getD k 0).val : Int)) := hl1
        have H2 : Hid (l2 = ((ys.getD k 0).val : Int)) := hl2
        clear hl1 hl2 hx hy
        go_wp2
        go_region_held3 (fun w' => Below w.heap.size w w' ∧ w'.cell? ⟨bx, ox + k, none⟩ = some (.int .u8 l1) ∧ w'.cell? ⟨b2, oy + k, none⟩ = some (.int .u8 l2)) ((refine keepC2 ?_ h1 h2; repeat (first | exact Below.refl _ _ | assumption | refine Below.drew ?_ | refine balloc ?_ _ | refine bstep ?_ (by assumption)))) (fail)
        rename_i hH
        have hB := hH.1
        clear hH
        go_wp2
        · rename_i hle
          go_ret
          refine ⟨?_, hB⟩
          have : ¬ xs = ys := fun h => by
            have : l1 = l2 := by rw [H1.out, H2.out, h]
            simp [this] at hle
          simp [this]
        · rename_i hle
          refine ⟨⟨k + 1, by omega, by go_num, fun j hj => ?_, hB⟩, by simp [intOf]; omega⟩
          by_cases hjk : j < k
          · exact HP.out j hjk
          · have : j = k := by omega
            subst this
            have e : l1 = l2 := by simpa using hle
            rw [H1.out, H2.out] at e
            exact Fin.ext (by omega)
      · go_wp2
        go_ret
        have : k = n := by omega
        subst this
        refine ⟨?_, hbl⟩
        have : xs = ys := bytes_eq_of (by rw [HL.out, HN.out]) (by rw [HN.out]; exact HP.out)
        simp [this]
  · go_enter Tryz.func113, Tryz.ntmps113
    have hl' : ((xs.length : Int) == (ys.length : Int)) = false := by simp; omega
    go_wp2
    go_ret
    have : ¬ xs = ys := fun h => hl (by rw [h])
    exact ⟨by simp [this], Below.refl _ _⟩
def marksB (k : Int) (n : Nat) : List Byte := (List.range n).map (fun i : Nat => toB (k + (i : Int)))
theorem length_marksB (k : Int) (n : Nat) : (marksB k n).length = n := by simp [marksB]
theorem getD_marksB (k : Int) (n i : Nat) (h : i < n) : (marksB k n).getD i 0 = toB (k + i) := by simp [marksB, List.getD, h]
def uptoB (k : Nat) (cs : List Value) (ys : List Byte) : Prop := ∀ j, j < k → cs[j]? = (bytesC ys)[j]?
theorem uptoB_full {n : Nat} {cs : List Value} {ys : List Byte} (h : uptoB n cs ys) (hl : cs.length = n * 1) (hn : ys.length = n) : cs = bytesC ys := by
  apply List.ext_getElem?
  intro j
  by_cases hj : j < n
  · exact h j hj
  · rw [List.getElem?_eq_none (by omega), List.getElem?_eq_none (by simp [bytesC]; omega)]
theorem uptoB_set {k : Nat} {cs : List Value} {ys : List Byte} {l : Int} (h : uptoB k cs ys) (hk : k < ys.length) (hl : cs.length = ys.length * 1) (he : l = ((ys.getD k 0).val : Int)) : uptoB (k + 1) (cs.set k (.int .u8 l)) ys := by
  intro j hj
  rw [List.getElem?_set]
  by_cases e : k = j
  · subst e
    rw [if_pos rfl, if_pos (by omega), get_bytesC ys k hk, he]
  · rw [if_neg e]
    exact h j (by omega)
theorem grownB_refl (w : World) (r : Option Nat) : w.grownBy w r := ⟨rfl, rfl, rfl, Nat.le_refl _, fun _ _ _ => rfl⟩
set_option maxHeartbeats 1000000 in
theorem markByteS_any (v : Value) (n : Nat) (cs : List Value) (base e : Nat) (k : Int) (w : World) (ho : w.ownsRow base e 1 v n cs) (hn : n ≤ 1048576) (hk0 : 0 ≤ k) (hk1 : k ≤ 1073741824) :
    Calls Tryz.prog 133 #[v, .int .i64 k] w fun r w' => r = .returned (.int .i64 (k + n)) ∧ w'.ownsRow base e 1 v n (bytesC (marksB k n)) ∧ w.grownBy w' v.ownBlock := by
  rcases ho.2 with ⟨rfl, rfl⟩ | ⟨g, cap, cur, rfl, hb, hg, hnc, hcm, _, _⟩
  · go_enter Tryz.func133, Tryz.ntmps133
    go_wp2
    go_loopw [1, 5] (fun q i w' => q = .int .i64 k ∧ i = .int .i64 0 ∧ w' = w) (fun _ _ _ => 0)
    case atStart => exact ⟨rfl, rfl, rfl⟩
    case round =>
      obtain ⟨rfl, rfl, rfl⟩ := hrel
      go_wp2
      go_ret
      exact ⟨by simp, World.ownsRow_nil _ _ _ _, grownB_refl _ _⟩
  · unfold maxLen at hcm
    go_enter Tryz.func133, Tryz.ntmps133
    go_wp2
    go_loopw [1, 5] (fun q i w' => ∃ (j : Nat) (cs' : List Value), j ≤ n ∧ i = .int .i64 j ∧ q = .int .i64 (k + j) ∧ w'.ownsRow base e 1 (.slice (some ⟨g, 0, none⟩) n cap) n cs' ∧ uptoB j cs' (marksB k n) ∧ w.grownBy w' (some g)) (fun _ i _ => n - (intOf i).toNat)
    case atStart => exact ⟨0, cs, Nat.zero_le _, rfl, by simp, ho, fun j h => by omega, grownB_refl _ _⟩
    case round =>
      obtain ⟨j, cs', hj, rfl, rfl, ho1, hup, hgr⟩ := hrel
      have HU : Hid (uptoB j cs' (marksB k n)) := hup
      clear hup ho hg
      by_cases hlt : j < n
      · obtain ⟨u0, g0⟩ := owns_some ho1 j (by omega)
        have hf := fun j => ho1.frozenAt j
        obtain ⟨q, hq⟩ : ∃ q, q = IntKind.u8.wrap (k + (j : Int)) := ⟨_, rfl⟩
        have hq' := hq.symm
        have HQ : Hid (q = IntKind.u8.wrap (k + (j : Int))) := hq
        clear hq
        go_wp2
        have s0 := ho1.stored j (.int .u8 q)
        refine ⟨⟨j + 1, _, by omega, by go_num, ?_, s0.1, uptoB_set HU.out (by rw [length_marksB]; exact hlt) (by rw [length_marksB]; exact ho1.1) (by rw [getD_marksB k n j hlt, HQ.out, wrapB]), grownTrans hgr s0.2⟩, by simp [intOf]; omega⟩
        congr 1
        omega
      · go_wp2
        go_ret
        have hjn : j = n := by omega
        subst hjn
        have e' := uptoB_full HU.out ho1.1 (length_marksB k j)
        rw [e'] at ho1
        exact ⟨rfl, ho1, hgr⟩
set_option maxHeartbeats 1000000 in
theorem heldByteS_any (v : Value) (n : Nat) (k : Int) (w : World) (hv : BytesV w v (marksB k n)) (hn : n ≤ 1048576) (hk0 : 0 ≤ k) (hk1 : k ≤ 1073741824) :
    Calls Tryz.prog 162 #[v, .int .i64 k] w fun r w' => r = .returned (.int .i64 (k + n)) ∧ w' = w := by
  obtain ⟨a, cap, rfl, hnc, hcm, hc⟩ := hv
  rw [length_marksB] at hnc hc ⊢
  unfold maxLen at hcm
  go_enter Tryz.func162, Tryz.ntmps162
  go_wp2
  go_loopw [1, 5] (fun q i w' => ∃ j : Nat, j ≤ n ∧ i = .int .i64 j ∧ q = .int .i64 (k + j) ∧ w' = w) (fun _ i _ => n - (intOf i).toNat)
  case atStart => exact ⟨0, Nat.zero_le _, rfl, by simp, rfl⟩
  case round =>
    obtain ⟨j, hj, rfl, rfl, rfl⟩ := hrel
    by_cases hlt : j < n
    · obtain ⟨b, o, rfl, h1⟩ := hc j hlt
      rw [getD_marksB k n j hlt, ← wrapB] at h1
      clear hc
      generalize hq : IntKind.u8.wrap (k + (j : Int)) = q at h1
      go_wp2
      refine ⟨⟨j + 1, by omega, by go_num, ?_, trivial⟩, by simp [intOf]; omega⟩
      congr 1
      omega
    · go_wp2
      go_ret
      have hjn : j = n := by omega
      subst hjn
      exact ⟨rfl, rfl⟩
set_option maxHeartbeats 1000000 in
theorem toByteS_any (x : Value) (xs : List Byte) (w : World) (hx : BytesV w x xs) (hn : xs.length ≤ 1048576) :
    Calls Tryz.prog 105 #[x] w fun e w' => ∃ v, e = .returned v ∧ w'.ownsRow w.heap.size 5 1 v xs.length (bytesC xs) ∧ Below w.heap.size w w' := by
  obtain ⟨ax, cx, rfl, hcx, hmx, hx⟩ := hx
  unfold maxLen at hmx
  obtain ⟨i0, hi, hz0, hz1, hz2⟩ := info_parts infoByte
  obtain ⟨w1, hmk, hown, hgr⟩ := run_make_full (P := Tryz.prog) w w.heap.size 22 5 i0 _ 1 Tryz.underlying22 hi hz0 hz1 .i64 .i64 xs.length (by rw [hz2]; omega) (by unfold maxLen; omega) (Nat.le_refl _)
  have hbl0 : Below w.heap.size w w1 := (Below.refl _ _).grown hgr (Nat.le_refl _) (fun k h => by cases h)
  generalize hn' : xs.length = n at *
  have HN : Hid (xs.length = n) := hn'
  clear hn'
  go_enter Tryz.func105, Tryz.ntmps105
  go_wp2
  go_loopw [4] (fun i w' => ∃ (k : Nat) (cs : List Value), k ≤ n ∧ i = .int .i64 k ∧ w'.ownsRow w.heap.size 5 1 (.slice (some ⟨w.heap.size, 0, none⟩) n n) n cs ∧ uptoB k cs xs ∧ Below w.heap.size w w') (fun i _ => n - (intOf i).toNat)
  case atStart => exact ⟨0, _, Nat.zero_le _, rfl, hown, fun j h => by omega, hbl0⟩
  case round =>
    obtain ⟨k, cs, hk, rfl, ho, hup, hbl⟩ := hrel
    have HU : Hid (uptoB k cs xs) := hup
    clear hup hown hmk hgr hbl0
    by_cases hlt : k < n
    · obtain ⟨bx, ox, rfl, h1⟩ := hx k hlt
      obtain ⟨l, hl⟩ : ∃ l : Int, l = ((xs.getD k 0).val : Int) := ⟨_, rfl⟩
      rw [← hl] at h1
      have H1 : Hid (l = ((xs.getD k 0).val : Int)) := hl
      clear hl hx
      have a1 := cell_keep hbl h1
      obtain ⟨u0, g0⟩ := owns_some ho k (by omega)
      have hf := fun j => ho.frozenAt j
      go_wp2
      have s0 := ho.stored k (.int .u8 l)
      refine ⟨⟨k + 1, _, by omega, by go_num, s0.1, uptoB_set HU.out (by have := HN.out; omega) (by have := HN.out; have := ho.1; omega) H1.out, ?_⟩, by simp [intOf]; omega⟩
      exact hbl.setCell (Nat.le_refl _) _
    · go_wp2
      go_ret
      have hkn : k = n := by omega
      subst hkn
      have e := uptoB_full HU.out ho.1 HN.out
      subst e
      exact ⟨_, rfl, ho, hbl⟩
set_option maxHeartbeats 1000000 in
theorem szByteS_any (x : Value) (xs : List Byte) (left : Int) (w : World) (hx : BytesV w x xs) (h0 : 0 ≤ left) (h1 : left ≤ 1048576) :
    Calls Tryz.prog 99 #[x, .int .i64 left] w fun e w' => e = .returned (.int .i64 (szLen left xs.length)) ∧ w' = w := by
  obtain ⟨a, cap, rfl, hnc, hcm, _⟩ := hx
  unfold maxLen at hcm
  unfold szLen
  generalize xs.length = n at *
  by_cases h : left < n
  · rw [if_pos h]
    go_enter Tryz.func99, Tryz.ntmps99
    go_wp2
    go_ret
    exact ⟨rfl, rfl⟩
  · rw [if_neg h]
    go_enter Tryz.func99, Tryz.ntmps99
    go_wp2
    go_ret
    exact ⟨rfl, rfl⟩
end Go.Proofs.YtdfapehonegeeaaGreat

/-
  Appending what lies anywhere, or nothing.
-/
namespace Go.Proofs.YtdfapehonegeeaaGreat
open Go.RowKit

def AppAny (w : World) (u : Value) (m : Nat) (news : List Value) : Prop :=
  (∃ c, u = .slice none 0 c ∧ m = 0 ∧ news = []) ∨ ∃ ad c, u = .slice (some ad) m c ∧ ∀ j x, news[j]? = some x → w.cell? (ad.add j) = some x
section
variable {P : Program} (w : World)
theorem run_append_none_any (base : Nat) (t ty e : TypeId) (i : TypeInfo) (size c : Nat) (ht : P.underlying t = some (.slice e)) (hi : P.info? e = some i)
    (v : Value) (n : Nat) (xs : List Value) (hown : w.ownsRow base e size v n xs) :
    (Builtin.append_ #[t, t] ty #[v, .slice none 0 c]).run P w = .ok v w := by
  rcases hown.2 with ⟨rfl, rfl⟩ | ⟨g, cap, cur, rfl, _, _, hnc, _⟩
  · simp [Builtin.append_, run_underlying ht, sizeOf, typeInfo, hi, Builtin.lenOf, Builtin.firstCells]
  · simp [Builtin.append_, run_underlying ht, sizeOf, typeInfo, hi, Builtin.lenOf, Builtin.firstCells, hnc, storeCells]
theorem wp_appAny {o : Oper} {a : Act} {K : Act → World → Prop} {Q : Exit → Act → World → Prop} (s x : Operand) (t : TypeId)
    (ho : o.op = .call { callee := .builtin .append, args := #[s, x], argTypes := #[t, t] })
    (base : Nat) (e : TypeId) (i : TypeInfo) (z : Value) (size bytes : Nat) (ht : P.underlying t = some (.slice e)) (hi : P.info? e = some i) (hz : i.zero = some z)
    (hsize : i.size = size) (hby : i.bytes = bytes) (hzs : z.cells.size = size) (hsz : 0 < size)
    (v : Value) (n : Nat) (xs : List Value) (hs : a.eval s = v) (u : Value) (m : Nat) (news : List Value) (hx : a.eval x = u)
    (hown : w.ownsRow base e size v n xs) (hsrc : AppAny w u m news) (hl : news.length = m * size) (h1 : ∀ u ∈ news, u.oneCell' = true)
    (h63 : n + m ≤ maxLen) (hbytes : (n + m) * bytes ≤ 140737488355328) (hbase : base ≤ w.heap.size)
    (h : ∀ v' w', w'.ownsRow base e size v' (n + m) (xs ++ news) → w.grownBy w' v.ownBlock → (∀ W : World, Below base W w → Below base W w') → K (a.put o.dst v') w') : o.wp P a w K Q := by
  rcases hsrc with ⟨c, rfl, rfl, rfl⟩ | ⟨ad, c, rfl, hnews⟩
  · have hr := run_append_none_any (P := P) w base t o.type e i size c ht hi v n xs hown
    unfold Oper.wp execOp
    simp only [ho, resolve, invoke, builtin, Sem.run_bind, Sem.run_pure, Result.andThen_ok, List.map_toArray, List.map_cons, List.map_nil, hs, hx, hr]
    exact h v w (by simpa using hown) ⟨rfl, rfl, rfl, Nat.le_refl _, fun _ _ _ => rfl⟩ (fun _ hW => hW)
  · exact wp_append_own w s x t ho base e i z size bytes ht hi hz hsize hby hzs hsz v n xs hs hown ad m c news hx hl hnews h1 h63 hbytes hbase (fun v' w' q1 q2 _ => h v' w' q1 q2 (fun W hW => hW.grown q2 hbase (fun k hk => (hown.lt k hk).1)))
theorem step_appAny {ops : Array Oper} {o : Oper} {a : Act} {K : Act → World → Prop} {Q : Exit → Act → World → Prop} {E : Prop} (hgd : o.guard = none) (s x : Operand) (t : TypeId)
    (ho : o.op = .call { callee := .builtin .append, args := #[s, x], argTypes := #[t, t] })
    (base : Nat) (e : TypeId) (i : TypeInfo) (z : Value) (size bytes : Nat) (ht : P.underlying t = some (.slice e)) (hi : P.info? e = some i) (hz : i.zero = some z)
    (hsize : i.size = size) (hby : i.bytes = bytes) (hzs : z.cells.size = size) (hsz : 0 < size)
    (v : Value) (n : Nat) (xs : List Value) (hs : a.eval s = v) (u : Value) (m : Nat) (news : List Value) (hx : a.eval x = u)
    (hown : w.ownsRow base e size v n xs) (hsrc : AppAny w u m news) (hl : news.length = m * size) (h1 : ∀ u ∈ news, u.oneCell' = true)
    (h63 : n + m ≤ maxLen) (hbytes : (n + m) * bytes ≤ 140737488355328) (hbase : base ≤ w.heap.size)
    (h : ∀ v' w', w'.ownsRow base e size v' (n + m) (xs ++ news) → w.grownBy w' v.ownBlock → (∀ W : World, Below base W w → Below base W w') → K (a.put o.dst v') w') :
    if Region.wanted o (yielded ops a.tmps) = true then Oper.wp P o a w K Q else E := by
  have hw : Region.wanted o (yielded ops a.tmps) = true := by simp [Region.wanted, hgd]
  rw [if_pos hw]
  exact wp_appAny w s x t ho base e i z size bytes ht hi hz hsize hby hzs hsz v n xs hs u m news hx hown hsrc hl h1 h63 hbytes hbase h
theorem wpList_appAny {ops : Array Oper} {rest : List Oper} {o : Oper} {a : Act} {Q : Exit → Act → World → Prop} (hgd : o.guard = none) (s x : Operand) (t : TypeId)
    (ho : o.op = .call { callee := .builtin .append, args := #[s, x], argTypes := #[t, t] })
    (base : Nat) (e : TypeId) (i : TypeInfo) (z : Value) (size bytes : Nat) (ht : P.underlying t = some (.slice e)) (hi : P.info? e = some i) (hz : i.zero = some z)
    (hsize : i.size = size) (hby : i.bytes = bytes) (hzs : z.cells.size = size) (hsz : 0 < size)
    (v : Value) (n : Nat) (xs : List Value) (hs : a.eval s = v) (u : Value) (m : Nat) (news : List Value) (hx : a.eval x = u)
    (hown : w.ownsRow base e size v n xs) (hsrc : AppAny w u m news) (hl : news.length = m * size) (h1 : ∀ u ∈ news, u.oneCell' = true)
    (h63 : n + m ≤ maxLen) (hbytes : (n + m) * bytes ≤ 140737488355328) (hbase : base ≤ w.heap.size)
    (h : ∀ v' w', w'.ownsRow base e size v' (n + m) (xs ++ news) → w.grownBy w' v.ownBlock → (∀ W : World, Below base W w → Below base W w') → wpList P ops Q rest (a.put o.dst v') w') :
    wpList P ops Q (o :: rest) a w := by
  refine wpList_plain hgd fun K' hK' => ?_
  exact wp_appAny w s x t ho base e i z size bytes ht hi hz hsize hby hzs hsz v n xs hs u m news hx hown hsrc hl h1 h63 hbytes hbase (fun v' w' q1 q2 q3 => hK' _ _ (h v' w' q1 q2 q3))
end

end Go.Proofs.YtdfapehonegeeaaGreat

/-
  Appending bytes.
-/
namespace Go.Proofs.YtdfapehonegeeaaGreat
open Go.RowKit

theorem appAny_bytes {w : World} {v : Value} {xs : List Byte} (h : BytesV w v xs) : AppAny w v xs.length (bytesC xs) := by
  obtain ⟨a, c, rfl, _, _, hc⟩ := h
  cases a with
  | none =>
    have h0 : xs = [] := by
      cases xs with
      | nil => rfl
      | cons x r => obtain ⟨b, o, e, _⟩ := hc 0 (by simp); cases e
    subst h0
    exact .inl ⟨c, rfl, rfl, rfl⟩
  | some ad =>
    refine .inr ⟨ad, c, rfl, fun j x hj => ?_⟩
    have hjl : j < xs.length := by
      have := (List.getElem?_eq_some_iff.1 hj).1
      rw [length_bytesC] at this
      exact this
    obtain ⟨b, o, e, g0⟩ := hc j hjl
    simp only [Option.some.injEq] at e
    subst e
    have hadd : (Addr.mk b o none).add j = ⟨b, o + j, none⟩ := by
      by_cases h : j = 0
      · subst h; simp [Addr.add]
      · simp [Addr.add, h]
    rw [hadd, g0, ← get_bytesC xs j hjl]
    exact hj
theorem appAny_one {w : World} {g : Nat} {c : Nat} {b : Byte} {q : Int} (h : w.cell? ⟨g, 0, none⟩ = some (.int .u8 q)) (hq : q = (b.val : Int)) : AppAny w (.slice (some ⟨g, 0, none⟩) 1 c) 1 (bytesC [b]) := by
  subst hq
  refine .inr ⟨_, _, rfl, fun j x hj => ?_⟩
  match j, hj with
  | 0, hj => simp [bytesC] at hj; subst hj; simpa [Addr.add] using h
  | j + 1, hj => simp [bytesC] at hj
theorem wpList_appB (w : World) {ops : Array Oper} {rest : List Oper} {o : Oper} {a : Act} {Q : Exit → Act → World → Prop} (hgd : o.guard = none) (s x : Operand)
    (ho : o.op = .call { callee := .builtin .append, args := #[s, x], argTypes := #[22, 22] })
    (base : Nat) (v : Value) (xs : List Byte) (hs : a.eval s = v) (u : Value) (ys : List Byte) (hx : a.eval x = u)
    (hown : w.ownsRow base 5 1 v xs.length (bytesC xs)) (hsrc : AppAny w u ys.length (bytesC ys)) (hlen : xs.length + ys.length ≤ 1073741824) (hbase : base ≤ w.heap.size)
    (h : ∀ v' w', w'.ownsRow base 5 1 v' (xs ++ ys).length (bytesC (xs ++ ys)) → w.grownBy w' v.ownBlock → (∀ W : World, Below base W w → Below base W w') → wpList Tryz.prog ops Q rest (a.put o.dst v') w') :
    wpList Tryz.prog ops Q (o :: rest) a w := by
  obtain ⟨i0, hi, hz0, hz1, hz2⟩ := info_parts infoByte
  refine wpList_appAny w hgd s x 22 ho base 5 i0 _ 1 1 Tryz.underlying22 hi hz0 hz1 hz2 rfl (by decide) v xs.length (bytesC xs) hs u ys.length (bytesC ys) hx hown hsrc (by rw [length_bytesC]; omega) (bytesC_one ys) (by unfold maxLen; omega) (by omega) hbase ?_
  intro v' w' h1 h2 h3
  refine h v' w' ?_ h2 h3
  rw [List.length_append, bytesC_append]
  exact h1
end Go.Proofs.YtdfapehonegeeaaGreat


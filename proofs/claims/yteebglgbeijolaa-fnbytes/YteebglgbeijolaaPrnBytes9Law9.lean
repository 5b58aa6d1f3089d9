import Derived.Test.YteebglgbeijolaaPrnBytes9Law8
import Derived.Test.YteebglgbeijolaaPrnBytes9Law5
import Derived.RegionTactic
import Derived.ChangeAlike
import Derived.BigRegion
import Derived.Test.YteebglgbeijolaaPrnBytes9Law7
import Derived.Test.YteebglgbeijolaaPrnBytes9Law4

/-
  What is asked of a contract, as plain mathematics: the first leg that is wrong, and the sums of the assets.
-/
namespace Go.Proofs.Yteebglgbeijolaa
open Go.RowKit
set_option linter.unusedSectionVars false
variable [DecidableEq Leg] [Inhabited Leg]

def samePlace (a b : Leg) : Bool := a.sh == b.sh && (a.ac == b.ac && a.ast == b.ast)
def hasPlace (pre : List Leg) (l : Leg) : Bool := pre.any (fun o => samePlace o l)
def scan (pre : List Leg) : List Leg → Int
  | [] => 0
  | l :: r => if legFault l = 0 then (if hasPlace pre l then 7 else scan (pre ++ [l]) r) else legFault l
def sumA (a : Int) : List Leg → Int
  | [] => 0
  | l :: r => (if l.ast = a then l.am else 0) + sumA a r
def contractFault (id : Int) (xs : List Leg) : Int :=
  if inB id 1 1000000000 then
    (if xs.length < 2 ∨ 8 < xs.length then 2
    else if scan [] xs = 0 then (if sumA 0 xs = 0 ∧ sumA 1 xs = 0 ∧ sumA 2 xs = 0 then 0 else 1) else scan [] xs)
  else 3
def okTo (xs : List Leg) (k : Nat) : Prop := ∀ j, j < k → legFault (xs.getD j default) = 0 ∧ hasPlace (xs.take j) (xs.getD j default) = false
theorem drop_cons (xs : List Leg) (k : Nat) (h : k < xs.length) : xs.drop k = xs.getD k default :: xs.drop (k + 1) := by
  rw [List.drop_eq_getElem_cons h]
  simp [List.getD, h]
theorem take_snoc (xs : List Leg) (k : Nat) (h : k < xs.length) : xs.take (k + 1) = xs.take k ++ [xs.getD k default] := by
  rw [List.take_succ_eq_append_getElem h]
  simp [List.getD, h]
theorem scan_at (xs : List Leg) : ∀ k, k ≤ xs.length → okTo xs k → scan [] xs = scan (xs.take k) (xs.drop k)
  | 0, _, _ => by simp
  | k + 1, hk, h => by
    have ih := scan_at xs k (by omega) (fun j hj => h j (by omega))
    obtain ⟨h1, h2⟩ := h k (by omega)
    rw [ih, drop_cons xs k (by omega), scan, if_pos h1, if_neg (by rw [h2]; decide), take_snoc xs k (by omega)]
theorem scan_bad {xs : List Leg} {k : Nat} (hk : k < xs.length) (h : okTo xs k) (hb : ¬ legFault (xs.getD k default) = 0) : scan [] xs = legFault (xs.getD k default) := by
  rw [scan_at xs k (by omega) h, drop_cons xs k hk, scan, if_neg hb]
theorem scan_taken {xs : List Leg} {k : Nat} (hk : k < xs.length) (h : okTo xs k) (h0 : legFault (xs.getD k default) = 0) (hb : hasPlace (xs.take k) (xs.getD k default) = true) : scan [] xs = 7 := by
  rw [scan_at xs k (by omega) h, drop_cons xs k hk, scan, if_pos h0, if_pos hb]
theorem scan_ok {xs : List Leg} (h : okTo xs xs.length) : scan [] xs = 0 := by
  rw [scan_at xs xs.length (Nat.le_refl _) h]; simp [scan]
theorem okTo_succ {xs : List Leg} {k : Nat} (h : okTo xs k) (h0 : legFault (xs.getD k default) = 0) (h1 : hasPlace (xs.take k) (xs.getD k default) = false) : okTo xs (k + 1) := by
  intro j hj
  by_cases e : j < k
  · exact h j e
  · have : j = k := by omega
    subst this
    exact ⟨h0, h1⟩
theorem inB_iff (n lo hi : Int) : inB n lo hi = true ↔ lo ≤ n ∧ n ≤ hi := by simp [inB]
theorem legFault_zero {l : Leg} (h : legFault l = 0) : (0 ≤ l.sh ∧ l.sh ≤ 2) ∧ (0 ≤ l.ac ∧ l.ac ≤ 5) ∧ (0 ≤ l.ast ∧ l.ast ≤ 2) ∧ (-1000000000000 ≤ l.am ∧ l.am ≤ 1000000000000) ∧ l.am ≠ 0 := by
  unfold legFault at h
  split at h
  · rename_i hp
    simp [placeB, inB_iff] at hp
    split at h
    · omega
    · exact ⟨by omega, by omega, by omega, by omega, by assumption⟩
  · omega
theorem sumA_append (a : Int) (l r : List Leg) : sumA a (l ++ r) = sumA a l + sumA a r := by
  induction l with
  | nil => simp [sumA]
  | cons x l ih => simp only [List.cons_append, sumA, ih]; omega
theorem sumA_snoc (a : Int) (xs : List Leg) (k : Nat) (h : k < xs.length) : sumA a (xs.take (k + 1)) = sumA a (xs.take k) + if (xs.getD k default).ast = a then (xs.getD k default).am else 0 := by
  rw [take_snoc xs k h, sumA_append]; simp [sumA]
theorem sumA_bound (a : Int) (xs : List Leg) : ∀ k, k ≤ xs.length → okTo xs k → -(k * 1000000000000 : Int) ≤ sumA a (xs.take k) ∧ sumA a (xs.take k) ≤ k * 1000000000000
  | 0, _, _ => by simp [sumA]
  | k + 1, hk, h => by
    have ih := sumA_bound a xs k (by omega) (fun j hj => h j (by omega))
    have hb := (legFault_zero (h k (by omega)).1).2.2.2.1
    rw [sumA_snoc a xs k (by omega)]
    split <;> omega
theorem hasPlace_snoc (xs : List Leg) (k : Nat) (h : k < xs.length) (l : Leg) : hasPlace (xs.take (k + 1)) l = (hasPlace (xs.take k) l || samePlace (xs.getD k default) l) := by
  rw [take_snoc xs k h]; simp [hasPlace]
theorem hasPlace_mono {xs : List Leg} {k m : Nat} {l : Leg} (hkm : k ≤ m) (h : hasPlace (xs.take k) l = true) : hasPlace (xs.take m) l = true := by
  simp only [hasPlace, List.any_eq_true] at h ⊢
  obtain ⟨o, ho, hs⟩ := h
  exact ⟨o, (List.take_subset_take_left xs hkm) ho, hs⟩
theorem cf_val {id : Int} {xs : List Leg} (hid : inB id 1 1000000000 = true) (h2 : 2 ≤ xs.length) (h8 : xs.length ≤ 8) : contractFault id xs = if scan [] xs = 0 then (if sumA 0 xs = 0 ∧ sumA 1 xs = 0 ∧ sumA 2 xs = 0 then 0 else 1) else scan [] xs := by
  rw [contractFault, if_pos hid, if_neg (by omega)]
theorem cf_bad {id : Int} {xs : List Leg} (hid : inB id 1 1000000000 = true) (h2 : 2 ≤ xs.length) (h8 : xs.length ≤ 8) {k : Nat} (hk : k < xs.length) (h : okTo xs k) (hb : ¬ legFault (xs.getD k default) = 0) : contractFault id xs = legFault (xs.getD k default) := by
  rw [cf_val hid h2 h8, scan_bad hk h hb, if_neg hb]
theorem cf_taken {id : Int} {xs : List Leg} (hid : inB id 1 1000000000 = true) (h2 : 2 ≤ xs.length) (h8 : xs.length ≤ 8) {k : Nat} (hk : k < xs.length) (h : okTo xs k) (h0 : legFault (xs.getD k default) = 0) (hb : hasPlace (xs.take k) (xs.getD k default) = true) : contractFault id xs = 7 := by
  rw [cf_val hid h2 h8, scan_taken hk h h0 hb, if_neg (by decide)]
theorem cf_sum {id : Int} {xs : List Leg} (hid : inB id 1 1000000000 = true) (h2 : 2 ≤ xs.length) (h8 : xs.length ≤ 8) (h : okTo xs xs.length) (hs : ¬ (sumA 0 xs = 0 ∧ sumA 1 xs = 0 ∧ sumA 2 xs = 0)) : contractFault id xs = 1 := by
  rw [cf_val hid h2 h8, scan_ok h, if_pos rfl, if_neg hs]
theorem cf_zero {id : Int} {xs : List Leg} (hid : inB id 1 1000000000 = true) (h2 : 2 ≤ xs.length) (h8 : xs.length ≤ 8) (h : okTo xs xs.length) (hs : sumA 0 xs = 0 ∧ sumA 1 xs = 0 ∧ sumA 2 xs = 0) : contractFault id xs = 0 := by
  rw [cf_val hid h2 h8, scan_ok h, if_pos rfl, if_pos hs]
end Go.Proofs.Yteebglgbeijolaa

/-
  The specification's ContractFault answers as the plain mathematics says.
-/
namespace Go.Proofs.Yteebglgbeijolaa
open Go.RowKit
set_option linter.unusedSectionVars false
variable [DecidableEq Leg] [Inhabited Leg]
attribute [local go_sem ↓] Go.wp_at_zero Go.wp_at_succ

theorem make3 (w : World) : (Instr.makeSlice 32 (.int .i64 3) (.int .i64 3)).run Try.prog w = .ok (.slice (some ⟨w.heap.size, 0, none⟩) 3 3) (w.alloc (.cells #[.int .i64 0, .int .i64 0, .int .i64 0] 2)) := by kernel_rfl
set_option maxHeartbeats 1000000 in
theorem specFault_early (id : Int) (x : Value) (xs : List Leg) (w : World) (hx : LegsV w x xs) (h : inB id 1 1000000000 = false ∨ xs.length < 2 ∨ 8 < xs.length) :
    Calls Try.prog 25 #[.agg #[.int .i64 id, x]] w fun e w' => e = .returned (.int .i64 (contractFault id xs)) ∧ Below w.heap.size w w' := by
  obtain ⟨ax, cx, rfl, hcx, hmx, hx⟩ := hx
  unfold maxLen at hmx
  clear hx
  by_cases hid : inB id 1 1000000000 = false
  · go_enter Try.func25, Try.ntmps25
    go_wp2_with (go_at_call 52; refine (l1Id_any _ _).mono ?_; rintro e w' ⟨rfl, rfl⟩)
    go_ret
    exact ⟨by simp [contractFault, hid], balloc (Below.refl _ _) _⟩
  · have hid' : inB id 1 1000000000 = true := by simpa using hid
    have hn : xs.length < 2 ∨ 8 < xs.length := by
      rcases h with h | h
      · exact absurd h hid
      · exact h
    have hcf : contractFault id xs = 2 := by simp [contractFault, hid', hn]
    rw [hcf]
    generalize xs.length = n at *
    clear hid h hcf
    rcases hn with hn | hn
    · have h1 : (n : Int) < 2 := by omega
      go_enter Try.func25, Try.ntmps25
      go_wp2_with (go_at_call 52; refine (l1Id_any _ _).mono ?_; rintro e w' ⟨rfl, rfl⟩)
      go_ret
      exact ⟨rfl, balloc (Below.refl _ _) _⟩
    · have h1 : ¬ (n : Int) < 2 := by omega
      have h2 : (8 : Int) < (n : Int) := by omega
      go_enter Try.func25, Try.ntmps25
      go_wp2_with (go_at_call 52; refine (l1Id_any _ _).mono ?_; rintro e w' ⟨rfl, rfl⟩)
      go_ret
      exact ⟨rfl, balloc (Below.refl _ _) _⟩
set_option maxHeartbeats 2000000 in
theorem specFault_late (id : Int) (x : Value) (xs : List Leg) (w : World) (hx : LegsV w x xs) (hid : inB id 1 1000000000 = true) (hn2 : 2 ≤ xs.length) (hn8 : xs.length ≤ 8) :
    Calls Try.prog 25 #[.agg #[.int .i64 id, x]] w fun e w' => e = .returned (.int .i64 (contractFault id xs)) ∧ Below w.heap.size w w' := by
  obtain ⟨ax, cx, rfl, hcx, hmx, hx⟩ := hx
  unfold maxLen at hmx
  generalize hn' : xs.length = n at *
  have HN : Hid (xs.length = n) := hn'
  clear hn'
  have h1 : ¬ (n : Int) < 2 := by omega
  have h2 : ¬ (8 : Int) < (n : Int) := by omega
  have hmk := make3
  go_enter Try.func25, Try.ntmps25
  go_wp2_with (go_at_call 52; refine (l1Id_any _ _).mono ?_; rintro e w' ⟨rfl, rfl⟩)
  go_loopw [4] (fun i w' => ∃ k : Nat, k ≤ n ∧ i = .int .i64 k ∧ okTo xs k ∧ (∀ j : Nat, j < 3 → w'.cell? ⟨w.heap.size + 1, j, none⟩ = some (.int .i64 (sumA j (xs.take k))) ∧ w'.frozen? ⟨w.heap.size + 1, j, none⟩ = false) ∧
      w'.cell? ⟨w.heap.size, 1, none⟩ = some (.slice ax n cx) ∧ w.heap.size + 1 < w'.heap.size ∧ Below w.heap.size w w') (fun i _ => n - (intOf i).toNat)
  case atStart =>
    refine ⟨0, Nat.zero_le _, rfl, fun j h => by omega, fun j hj => ?_, by simp [go_sem], by simp, balloc (balloc (Below.refl _ _) _) _⟩
    match j, hj with
    | 0, _ => exact ⟨by simp [go_sem, sumA], by simp [go_sem]⟩
    | 1, _ => exact ⟨by simp [go_sem, sumA], by simp [go_sem]⟩
    | 2, _ => exact ⟨by simp [go_sem, sumA], by simp [go_sem]⟩
  case round =>
    obtain ⟨k, hk, rfl, hok, hs, hcx1, hsz, hbl⟩ := hrel
    generalize wr = wo at *
    have HO : Hid (okTo xs k) := hok
    have HS : Hid (∀ j : Nat, j < 3 → wo.cell? ⟨w.heap.size + 1, j, none⟩ = some (.int .i64 (sumA j (xs.take k))) ∧ wo.frozen? ⟨w.heap.size + 1, j, none⟩ = false) := hs
    clear hok hs
    by_cases hlt : k < n
    · obtain ⟨bx, ox, rfl, g1⟩ := hx k hlt
      obtain ⟨l, hl⟩ : ∃ l, l = xs.getD k default := ⟨_, rfl⟩
      rw [← hl] at g1
      have HL : Hid (l = xs.getD k default) := hl
      clear hl
      obtain ⟨a1, a2, a3, a4⟩ := legCells_below hbl g1
      go_wp2_with fail
      refine (specLegFault_any l _).mono ?_
      rintro e w2 ⟨rfl, hb2⟩
      obtain ⟨hc2, hf2⟩ := bcell hb2
      have hbl2 : Below w.heap.size w w2 := bstep (balloc hbl _) hb2
      have hz2 : wo.heap.size < w2.heap.size := by have := hb2.size; simp at this; omega
      have hcx2 : w2.cell? ⟨w.heap.size, 1, none⟩ = some (.slice (some ⟨bx, ox, none⟩) n cx) := by
        rw [hc2 _ _ (by simp; omega)]; simp [go_sem, hcx1, show w.heap.size < wo.heap.size by omega]
      have hl2 : legCells w2 wo.heap.size 0 l := by
        refine ⟨?_, ?_, ?_, ?_⟩ <;> (rw [hc2 _ _ (by simp)]; simp [go_sem])
      have HS2 : Hid (∀ j : Nat, j < 3 → w2.cell? ⟨w.heap.size + 1, j, none⟩ = some (.int .i64 (sumA j (xs.take k))) ∧ w2.frozen? ⟨w.heap.size + 1, j, none⟩ = false) := by
        intro j hj
        have := HS.out j hj
        rw [hc2 _ _ (by simp; omega), hf2 _ _ (by simp; omega)]
        simpa [go_sem, hsz] using this
      clear hc2 hf2 hb2 a1 a2 a3 a4 hcx1 HS hbl
      by_cases hlf : legFault l = 0
      · have HF : Hid (legFault l = 0) := hlf
        rw [hlf]
        clear hlf
        go_wp2
        go_loopw [7] (fun i w' => ∃ m : Nat, m ≤ k ∧ i = .int .i64 m ∧ hasPlace (xs.take m) l = false ∧ Below w2.heap.size w2 w') (fun i _ => k - (intOf i).toNat)
        case atStart => exact ⟨0, Nat.zero_le _, rfl, by simp [hasPlace], Below.refl _ _⟩
        case round =>
          obtain ⟨m, hm, rfl, hp, hb3⟩ := hrel
          have HP : Hid (hasPlace (xs.take m) l = false) := hp
          clear hp
          by_cases hmk' : m < k
          · obtain ⟨b', o', he, g2⟩ := hx m (by omega)
            simp only [Option.some.injEq, Addr.mk.injEq, and_true] at he
            obtain ⟨rfl, rfl⟩ := he
            obtain ⟨o, ho⟩ : ∃ o, o = xs.getD m default := ⟨_, rfl⟩
            rw [← ho] at g2
            have HO2 : Hid (o = xs.getD m default) := ho
            clear ho
            obtain ⟨c1, c2, c3, c4⟩ := legCells_below (bstep hbl2 hb3) g2
            obtain ⟨d1, d2, d3, d4⟩ := legCells_below hb3 hl2
            simp only [Nat.zero_add] at d1 d2 d3 d4
            have e1 : wr.cell? ⟨w.heap.size, 1, none⟩ = some (.slice (some ⟨bx, ox, none⟩) n cx) := by
              rw [(bcell hb3).1 _ _ (by omega)]; exact hcx2
            have hz3 : wo.heap.size < wr.heap.size := by have := hb3.size; omega
            have hz4 : w.heap.size < wr.heap.size := by omega
            have hz5 : bx < wr.heap.size := World.block_lt_of_cell? wr _ c1
            go_wp2
            · rename_i s1 s2 s3
              go_ret
              refine ⟨?_, balloc (bstep hbl2 hb3) _⟩
              have hp : hasPlace (xs.take k) (xs.getD k default) = true := by
                refine hasPlace_mono (k := m + 1) (by omega) ?_
                rw [hasPlace_snoc xs m (by have := HN.out; omega), ← HL.out, ← HO2.out]
                have : l.ast = o.ast := by simpa using (Eq.symm (by simpa using s3 : o.ast = l.ast))
                simp [samePlace, s1, s2, this]
              have := HN.out
              rw [cf_taken hid (by omega) (by omega) (k := k) (by omega) HO.out (by rw [← HL.out]; exact HF.out) hp]
              rfl
            all_goals
              refine ⟨⟨m + 1, by omega, by go_num, ?_, balloc hb3 _⟩, by simp [intOf]; omega⟩
              rw [hasPlace_snoc xs m (by have := HN.out; omega), ← HO2.out, HP.out]
              simp_all [samePlace]
          · have hmk2 : m = k := by omega
            subst hmk2
            obtain ⟨d1, d2, d3, d4⟩ := legCells_below hb3 hl2
            simp only [Nat.zero_add] at d1 d2 d3 d4
            have hz3 : wo.heap.size < wr.heap.size := by have := hb3.size; omega
            have hz4 : w.heap.size < wr.heap.size := by omega
            have lz := legFault_zero HF.out
            obtain ⟨_, _, ⟨q1, q2⟩, ⟨q3, q4⟩, _⟩ := lz
            have q2' : l.ast < 3 := by omega
            have HS3 : Hid (∀ j : Nat, j < 3 → wr.cell? ⟨w.heap.size + 1, j, none⟩ = some (.int .i64 (sumA j (xs.take m))) ∧ wr.frozen? ⟨w.heap.size + 1, j, none⟩ = false) := by
              intro j hj
              rw [(bcell hb3).1 _ _ (by omega), (bcell hb3).2 _ _ (by omega)]
              exact HS2.out j hj
            have f1 := HS3.out l.ast.toNat (by omega)
            obtain ⟨f1, f2⟩ := f1
            rw [show ((l.ast.toNat : Nat) : Int) = l.ast by omega] at f1
            obtain ⟨s, hs⟩ : ∃ s, s = sumA l.ast (xs.take m) := ⟨_, rfl⟩
            have sb := sumA_bound l.ast xs m (by have := HN.out; omega) HO.out
            rw [← hs] at f1 sb
            have HSS : Hid (s = sumA l.ast (xs.take m)) := hs
            clear hs
            obtain ⟨sb1, sb2⟩ := sb
            have sb3 : -8000000000000 ≤ s := by omega
            have sb4 : s ≤ 8000000000000 := by omega
            clear sb1 sb2
            go_wp2
            go_region
            go_wp2
            have hmn : m < xs.length := by have := HN.out; omega
            refine ⟨⟨m + 1, by omega, by go_num, okTo_succ HO.out (by rw [← HL.out]; exact HF.out) (by rw [← HL.out]; exact HP.out), ?_, ?_, by simp; omega, ?_⟩, by simp [intOf]; omega⟩
            · intro j hj
              have old := HS3.out j hj
              show (wr.setCell _ _).cell? _ = _ ∧ (wr.setCell _ _).frozen? _ = _
              rw [World.frozen?_setCell]
              refine ⟨?_, old.2⟩
              rw [sumA_snoc (j : Int) xs m hmn, ← HL.out]
              by_cases hje : l.ast.toNat = j
              · subst hje
                rw [set_same f1, HSS.out, show ((l.ast.toNat : Nat) : Int) = l.ast by omega, if_pos rfl]
              · rw [set_other (by simp), old.1, if_neg (by omega), Int.add_zero]
            · show (wr.setCell _ _).cell? _ = _
              rw [set_other (by simp)]
              rw [(bcell hb3).1 _ _ (by omega)]; exact hcx2
            · exact (bset (bstep hbl2 hb3) (by simp) _).drew
      · have hd : (legFault l == 0) = false := by simpa using hlf
        go_wp2
        go_ret
        refine ⟨?_, hbl2⟩
        have := HN.out
        rw [cf_bad hid (by omega) (by omega) (k := k) (by omega) HO.out (by rw [← HL.out]; exact hlf), ← HL.out]
        rfl
    · have hkn : k = n := by omega
      subst hkn
      have t0 : xs.take k = xs := by rw [← HN.out]; exact List.take_length
      rw [t0] at HS
      have HO' : Hid (okTo xs xs.length) := by rw [HN.out]; exact HO.out
      clear HO
      go_wp2
      go_loopw [9] (fun i w' => ∃ m : Nat, m ≤ 3 ∧ i = .int .i64 m ∧ (∀ j : Nat, j < m → sumA j xs = 0) ∧ w' = wo) (fun i _ => 3 - (intOf i).toNat)
      case atStart => exact ⟨0, by omega, rfl, fun j h => by omega, rfl⟩
      case round =>
        obtain ⟨m, hm, rfl, hp, rfl⟩ := hrel
        have HP : Hid (∀ j : Nat, j < m → sumA j xs = 0) := hp
        clear hp
        by_cases hm3 : m < 3
        · obtain ⟨f1, _⟩ := HS.out m hm3
          obtain ⟨s, hs⟩ : ∃ s, s = sumA m xs := ⟨_, rfl⟩
          rw [← hs] at f1
          have HSS : Hid (s = sumA m xs) := hs
          clear hs
          by_cases hs0 : s = 0
          · subst hs0
            go_wp2
            refine ⟨⟨m + 1, by omega, by go_num, fun j hj => ?_, trivial⟩, by simp [intOf]; omega⟩
            by_cases hjm : j < m
            · exact HP.out j hjm
            · have : j = m := by omega
              subst this
              exact HSS.out.symm
          · have hd : (s == 0) = false := by simpa using hs0
            go_wp2
            go_ret
            have := HN.out
            rw [cf_sum hid (by omega) (by omega) HO'.out]
            · exact ⟨rfl, hbl⟩
            · intro ⟨z0, z1, z2⟩
              apply hs0
              rw [HSS.out]
              match m, hm3 with
              | 0, _ => exact z0
              | 1, _ => exact z1
              | 2, _ => exact z2
        · have hm3' : m = 3 := by omega
          subst hm3'
          go_wp2
          go_ret
          have := HN.out
          rw [cf_zero hid (by omega) (by omega) HO'.out ⟨HP.out 0 (by omega), HP.out 1 (by omega), HP.out 2 (by omega)⟩]
          exact ⟨rfl, hbl⟩
theorem specFault_any (id : Int) (x : Value) (xs : List Leg) (w : World) (hx : LegsV w x xs) :
    Calls Try.prog 25 #[.agg #[.int .i64 id, x]] w fun e w' => e = .returned (.int .i64 (contractFault id xs)) ∧ Below w.heap.size w w' := by
  by_cases h : inB id 1 1000000000 = false ∨ xs.length < 2 ∨ 8 < xs.length
  · exact specFault_early id x xs w hx h
  · have h1 : inB id 1 1000000000 = true := by
      cases hb : inB id 1 1000000000 with
      | true => rfl
      | false => exact absurd (Or.inl hb) h
    exact specFault_late id x xs w hx h1 (by omega) (by omega)
end Go.Proofs.Yteebglgbeijolaa

/-
  The specification's draws: a right contract.
-/
namespace Go.Proofs.Yteebglgbeijolaa
open Go.RowKit
set_option linter.unusedSectionVars false
variable [DecidableEq Logg] [Inhabited Logg] [DecidableEq LoggR] [Inhabited LoggR] [DecidableEq BytesR] [Inhabited BytesR] [DecidableEq RecsR] [Inhabited RecsR] [DecidableEq Leg] [Inhabited Leg] [DecidableEq Cont] [Inhabited Cont]
set_option linter.unusedSimpArgs false
attribute [local go_sem ↓] Go.wp_at_zero Go.wp_at_succ

theorem appAny_owns {w : World} {base e size : Nat} {v : Value} {n : Nat} {cs : List Value} (h : w.ownsRow base e size v n cs) : AppAny w v n cs := by
  rcases h.2 with ⟨rfl, rfl⟩ | ⟨g, cap, cur, rfl, _, hh, _, _, _, ht⟩
  · refine .inl ⟨0, rfl, rfl, ?_⟩
    have := h.1
    simp at this
    exact this
  · refine .inr ⟨_, _, rfl, fun j x hj => ?_⟩
    have hlt : j < cs.length := by
      rcases Nat.lt_or_ge j cs.length with h | h
      · exact h
      · rw [List.getElem?_eq_none h] at hj; cases hj
    have hc := h.cellAt j (by rw [← h.1]; exact hlt)
    rw [addP]
    simpa [hj] using hc
theorem legC_oneC (l : Leg) : ∀ u ∈ legC l, u.oneCell' = true := by
  intro u hu
  simp only [legC, List.mem_cons, List.not_mem_nil, or_false] at hu
  rcases hu with rfl | rfl | rfl | rfl <;> rfl
theorem legsC_oneC (xs : List Leg) : ∀ u ∈ legsC xs, u.oneCell' = true := by
  intro u hu
  simp only [legsC, List.mem_flatMap] at hu
  obtain ⟨l, _, hu⟩ := hu
  exact legC_oneC l u hu
theorem legsC_app (xs ys : List Leg) : legsC (xs ++ ys) = legsC xs ++ legsC ys := by simp [legsC]
theorem legsC_len (xs : List Leg) : (legsC xs).length = xs.length * 4 := by
  induction xs with
  | nil => rfl
  | cons l xs ih =>
    have e : legsC (l :: xs) = legC l ++ legsC xs := rfl
    rw [e, List.length_append, ih, List.length_cons]
    have : (legC l).length = 4 := rfl
    omega
theorem step_appLegs (Y : World) {ops : Array Oper} {o : Oper} {a : Act} {K : Act → World → Prop} {Q : Exit → Act → World → Prop} {E : Prop} (hgd : o.guard = none) (s x : Operand)
    (ho : o.op = .call { callee := .builtin .append, args := #[s, x], argTypes := #[24, 24] })
    (base : Nat) (v : Value) (F1 : Nat → Prop) (xs : List Leg) (hs : a.eval s = v) (u : Value) (ys : List Leg) (hx : a.eval x = u)
    (hown : legsR.O Y base F1 v xs) (hsrc : AppAny Y u ys.length (legsC ys)) (hlen : xs.length + ys.length ≤ 1048576) (hbase : base ≤ Y.heap.size)
    (h : ∀ v' w', legsR.O w' base (fun b => v'.ownBlock = some b) v' (xs ++ ys) → Mod F1 Y w' → (∀ b, v'.ownBlock = some b → F1 b ∨ (Y.heap.size ≤ b ∧ b < w'.heap.size)) → K (a.put o.dst v') w') :
    if Region.wanted o (yielded ops a.tmps) = true then Oper.wp Try.prog o a Y K Q else E := by
  obtain ⟨i0, hi, hz0, hz1, hz2⟩ := info_parts infoLeg
  have hF1 : F1 = fun b => v.ownBlock = some b := hown.2
  rcases hsrc with ⟨c, rfl, hm, _⟩ | ⟨ad, c, rfl, hc⟩
  · have hy : ys = [] := List.eq_nil_of_length_eq_zero hm
    subst hy
    have hw : Region.wanted o (yielded ops a.tmps) = true := by simp [Region.wanted, hgd]
    rw [if_pos hw]
    have hr := run_append_none_any (P := Try.prog) Y base 24 o.type 97 i0 4 c Try.underlying24 hi v xs.length (legsC xs) hown.1
    unfold Oper.wp execOp
    simp only [ho, resolve, invoke, builtin, Sem.run_bind, Sem.run_pure, Result.andThen_ok, List.map_toArray, List.map_cons, List.map_nil, hs, hx, hr]
    refine h v Y ?_ (Mod.refl _ _) (fun b hb => .inl (by rw [hF1]; exact hb))
    rw [List.append_nil]
    exact ⟨hown.1, rfl⟩
  · refine step_append_at Y hgd s x 24 ho base 97 i0 _ 4 32 Try.underlying24 hi hz0 hz1 hz2 rfl (by decide) v xs.length (legsC xs) hs hown.1 ad ys.length c (legsC ys) hx (legsC_len ys) hc (legsC_oneC ys) (by unfold maxLen; omega) (by omega) hbase ?_
    intro v' w' h1 h2 h3
    refine h v' w' ⟨by rw [List.length_append, legsC_app]; exact h1, rfl⟩ (by rw [hF1]; exact Mod.of_grown h2) (fun b hb => ?_)
    rcases h3 with h3 | h3
    · exact .inl (by rw [hF1]; exact h3 ▸ hb)
    · rw [h3] at hb
      simp only [Option.some.injEq] at hb
      have := (h1.lt b (by rw [h3, hb])).2
      exact .inr ⟨by omega, this⟩
def drawG (base : Nat) (id : Int) (xs : List Leg) (la lb : Leg) : Nat → (Nat → Value) → (Nat → Prop) → World → Prop
  | 1, y, F, w => legsR.O w base F (y 42) []
  | 4, y, F, w => legsR.O w base F (y 45) xs
  | 7, y, F, w => legsR.O w base F (y 48) [la, lb]
  | 8, y, F, w => legsR.O w base F (y 49) (xs ++ [la, lb])
  | 9, y, _, _ => y 50 = .agg #[.int .i64 id, y 49]
  | 10, y, F, w => ∃ g, y 11 = .pointer (some ⟨g, 0, none⟩) ∧ (∀ b, F b ↔ b = g) ∧ w.cell? ⟨g, 0, none⟩ = some (.int .i64 0) ∧ w.cell? ⟨g, 1, none⟩ = some (.slice none 0 0) ∧ ∀ o, w.frozen? ⟨g, o, none⟩ = false
  | _, _, _, _ => True
def drawC : Nat → List Nat
  | 4 => [1]
  | 8 => [4]
  | _ => []
end Go.Proofs.Yteebglgbeijolaa

/-
  The specification's draws: a right contract.
-/
namespace Go.Proofs.Yteebglgbeijolaa
open Go.RowKit
set_option linter.unusedSectionVars false
variable [DecidableEq Logg] [Inhabited Logg] [DecidableEq LoggR] [Inhabited LoggR] [DecidableEq BytesR] [Inhabited BytesR] [DecidableEq RecsR] [Inhabited RecsR] [DecidableEq Leg] [Inhabited Leg] [DecidableEq Cont] [Inhabited Cont]
set_option linter.unusedSimpArgs false
attribute [local go_sem ↓] Go.wp_at_zero Go.wp_at_succ

structure CtSt (w w' : World) (id : Int) (xs : List Leg) (p : Option Addr) (q : Nat) (F : Nat → Prop) : Prop where
  x0 : w'.cell? ⟨w.heap.size + 1, 0, none⟩ = some (.int .i64 id)
  x1 : w'.cell? ⟨w.heap.size + 1, 1, none⟩ = some (.slice p xs.length q)
  xf : ∀ o, w'.frozen? ⟨w.heap.size + 1, o, none⟩ = false
  r0 : w'.cell? ⟨w.heap.size, 0, none⟩ = some (.int .i64 0)
  r1 : w'.cell? ⟨w.heap.size, 1, none⟩ = some (.slice none 0 0)
  rf : ∀ o, w'.frozen? ⟨w.heap.size, o, none⟩ = false
  hO : legsR.O w' (w.heap.size + 2) F (.slice p xs.length q) xs
  hz : w.heap.size + 2 ≤ w'.heap.size
theorem CtSt.mod {w w' w'' : World} {id : Int} {xs : List Leg} {p : Option Addr} {q : Nat} {F G : Nat → Prop} (h : CtSt w w' id xs p q F) (hm : Mod G w' w'') (hG : ∀ b, G b → b < w.heap.size ∨ w'.heap.size ≤ b) : CtSt w w'' id xs p q F := by
  have hz := h.hz
  have n0 : ¬ G w.heap.size := fun e => by have := hG _ e; omega
  have n1 : ¬ G (w.heap.size + 1) := fun e => by have := hG _ e; omega
  exact ⟨hm.cell h.x0 n1, hm.cell h.x1 n1, fun o => by rw [hm.frozenAt (a := ⟨w.heap.size + 1, o, none⟩) (by dsimp only; omega) n1]; exact h.xf o, hm.cell h.r0 n0, hm.cell h.r1 n0, fun o => by rw [hm.frozenAt (a := ⟨w.heap.size, o, none⟩) (by dsimp only; omega) n0]; exact h.rf o, legsR.mod h.hO hm (fun b hb e => by have := legsR.rng h.hO b hb; have := hG b e; omega), Nat.le_trans hz hm.size⟩
theorem CtSt.below {w w' w'' : World} {id : Int} {xs : List Leg} {p : Option Addr} {q : Nat} {F : Nat → Prop} (h : CtSt w w' id xs p q F) (hb : Below w'.heap.size w' w'') : CtSt w w'' id xs p q F :=
  h.mod (G := fun _ => False) (Mod.of_below hb) (fun _ e => e.elim)
theorem CtSt.put {w w' : World} {id : Int} {xs ys : List Leg} {p p' : Option Addr} {q q' : Nat} {F F' : Nat → Prop} (h : CtSt w w' id xs p q F) (hO : legsR.O w' (w.heap.size + 2) F' (.slice p' ys.length q') ys) :
    CtSt w ((w'.setCell ⟨w.heap.size + 1, 0, none⟩ (.int .i64 id)).setCell ⟨w.heap.size + 1, 1, none⟩ (.slice p' ys.length q')) id ys p' q' F' := by
  refine ⟨?_, ?_, fun o => by simp [h.xf], ?_, ?_, fun o => by simp [h.rf], ?_, by simpa using h.hz⟩
  · rw [set_other (by simp)]; exact set_same h.x0
  · exact set_same (by rw [set_other (by simp)]; exact h.x1)
  · rw [set_other (by simp), set_other (by simp)]; exact h.r0
  · rw [set_other (by simp), set_other (by simp)]; exact h.r1
  · exact legsR.set (legsR.set hO _ (by simp)) _ (by simp)
set_option maxHeartbeats 8000000 in
theorem l1Draw_any (B : Nat) (w : World) (bs : Nat) (a : Option Addr) (k cap t : Nat) (id : Int) (h : Src B w bs a k cap t) (ht : t ≤ 1000) :
    Calls Try.prog 101 #[.pointer (some ⟨bs, 0, none⟩), .int .i64 id] w fun e w' => ∃ v F xs t', e = .returned (.agg #[.int .i64 id, v]) ∧ legsR.O w' w.heap.size F v xs ∧ 1 ≤ xs.length ∧ xs.length ≤ 4 ∧ Src B w' bs a k cap t' ∧ t' ≤ t + 20 ∧ Mod (fun b => b = bs) w w' := by
  have hlt := h.lt
  go_enter Try.func101, Try.ntmps101
  go_wp2_with fail
  refine (l1Next_any B _ bs a k cap t 2 (h.below (by (repeat (first | exact Below.refl _ _ | assumption | refine Below.drew ?_ | refine balloc ?_ _ | refine bset ?_ (by simp; omega) _ | refine bset ?_ (by simp) _ | refine bstep ?_ (by assumption))))) (by omega) (by omega) (by omega)).mono ?_
  rintro e w1 ⟨n1, rfl, rn, hs1, hm1⟩
  have hM1 : Mod (fun b => b = bs) w w1 := (Mod.of_below (by (repeat (first | exact Below.refl _ _ | assumption | refine Below.drew ?_ | refine balloc ?_ _ | refine bset ?_ (by simp; omega) _ | refine bset ?_ (by simp) _ | refine bstep ?_ (by assumption))))).trans hm1
  have st0 : CtSt w ((w.alloc (.cells #[.int .i64 0, .slice none 0 0] 26)).alloc (.cells #[.int .i64 id, .slice none 0 0] 26)) id [] none 0 none_ :=
    ⟨by simp [go_sem], by simp [go_sem], fun o => by simp [go_sem], by simp [go_sem], by simp [go_sem], fun o => by simp [go_sem], ⟨World.ownsRow_nil _ _ _ _, by funext b; simp [none_, Value.ownBlock]⟩, by simp⟩
  have st1 := st0.mod hm1 (fun b hb => by omega)
  have y0 : IntKind.i64.wrap (1 + (n1 : Int)) = ((1 + n1 : Nat) : Int) := by rw [wrapI _ (by omega) (by omega)]; omega
  clear st0 hm1 h
  go_wp2
  go_loopw [6] (fun i w' => ∃ (m t' : Nat) (xs : List Leg) (p : Option Addr) (q : Nat) (F : Nat → Prop), i = .int .i64 m ∧ xs.length + 2 * m ≤ 4 ∧ t' + 6 * m ≤ t + 13 ∧ CtSt w w' id xs p q F ∧ Src B w' bs a k cap t' ∧ Mod (fun b => b = bs) w w') (fun i _ => (intOf i).toNat)
  case atStart =>
    exact ⟨1 + n1, t + 1, [], _, _, _, by go_num, by simp; omega, by omega, st1, hs1, hM1⟩
  case round =>
    obtain ⟨m, t', xs, p, q, F, rfl, hxm, htm, st, hs, hM⟩ := hrel
    by_cases hpos : 0 < m
    · have hq : (0 : Int) < (m : Int) := by omega
      go_wp2_with fail
      refine (l1Next_any B wr bs a k cap (t') 3 hs (by omega) (by omega) (by omega)).mono ?_
      rintro e w2 ⟨g1, rfl, hg1, hs_w2, hm⟩
      have st_w2 := st.mod hm (fun b hb => by omega)
      have hM_w2 := hM.trans hm
      have z_w2 := hm.size
      try simp only [World.size_alloc] at z_w2
      clear st hM hs hm
      go_wp2_with fail
      refine (l1Next_any B w2 bs a k cap (t' + 1) 40 hs_w2 (by omega) (by omega) (by omega)).mono ?_
      rintro e w3 ⟨g2, rfl, hg2, hs_w3, hm⟩
      have st_w3 := st_w2.mod hm (fun b hb => by omega)
      have hM_w3 := hM_w2.trans hm
      have z_w3 := hm.size
      try simp only [World.size_alloc] at z_w3
      clear st_w2 hM_w2 hs_w2 hm
      have u1 : IntKind.i64.wrap (1 + (g2 : Int)) = 1 + g2 := wrapI _ (by omega) (by omega)
      go_wp2_with fail
      refine (l1Next_any B w3 bs a k cap (t' + 1 + 1) 3 hs_w3 (by omega) (by omega) (by omega)).mono ?_
      rintro e w4 ⟨g3, rfl, hg3, hs_w4, hm⟩
      have st_w4 := st_w3.mod hm (fun b hb => by omega)
      have hM_w4 := hM_w3.trans hm
      have z_w4 := hm.size
      try simp only [World.size_alloc] at z_w4
      clear st_w3 hM_w3 hs_w3 hm
      go_wp2_with fail
      refine (l1Next_any B w4 bs a k cap (t' + 1 + 1 + 1) 4 hs_w4 (by omega) (by omega) (by omega)).mono ?_
      rintro e w5 ⟨g4, rfl, hg4, hs_w5, hm⟩
      have st_w5 := st_w4.mod hm (fun b hb => by omega)
      have hM_w5 := hM_w4.trans hm
      have z_w5 := hm.size
      try simp only [World.size_alloc] at z_w5
      clear st_w4 hM_w4 hs_w4 hm
      have hz5 := st_w5.hz
      have u2 : IntKind.i64.wrap (-(1 + (g2 : Int))) = -(1 + g2) := wrapI _ (by omega) (by omega)
      go_wp2_with fail
      refine (l1Next_any B _ bs a k cap (t' + 1 + 1 + 1 + 1) 3 (hs_w5.below (by (repeat (first | exact Below.refl _ _ | assumption | refine Below.drew ?_ | refine balloc ?_ _ | refine bset ?_ (by simp; omega) _ | refine bset ?_ (by simp) _ | refine bstep ?_ (by assumption))))) (by omega) (by omega) (by omega)).mono ?_
      rintro e w6 ⟨g5, rfl, hg5, hs_w6, hm⟩
      have st_w6 := (st_w5.below (by (repeat (first | exact Below.refl _ _ | assumption | refine Below.drew ?_ | refine balloc ?_ _ | refine bset ?_ (by simp; omega) _ | refine bset ?_ (by simp) _ | refine bstep ?_ (by assumption))))).mod hm (fun b hb => by omega)
      have hM_w6 := (hM_w5.transB (by (repeat (first | exact Below.refl _ _ | assumption | refine Below.drew ?_ | refine balloc ?_ _ | refine bset ?_ (by simp; omega) _ | refine bset ?_ (by simp) _ | refine bstep ?_ (by assumption))))).trans hm
      have z_w6 := hm.size
      try simp only [World.size_alloc] at z_w6
      have A0 : w6.cell? ⟨w5.heap.size, 0, none⟩ = some (.int .i64 (g3 : Int)) := hm.cell (by simp [go_sem]) (fun e => by dsimp only at e; have := st_w5.hz; omega)
      have A1 : w6.cell? ⟨w5.heap.size, 1, none⟩ = some (.int .i64 (g4 : Int)) := hm.cell (by simp [go_sem]) (fun e => by dsimp only at e; have := st_w5.hz; omega)
      have A2 : w6.cell? ⟨w5.heap.size, 2, none⟩ = some (.int .i64 (g1 : Int)) := hm.cell (by simp [go_sem]) (fun e => by dsimp only at e; have := st_w5.hz; omega)
      have A3 : w6.cell? ⟨w5.heap.size, 3, none⟩ = some (.int .i64 (-(1 + (g2 : Int)))) := hm.cell (by simp [go_sem]) (fun e => by dsimp only at e; have := st_w5.hz; omega)
      clear st_w5 hM_w5 hs_w5 hm
      go_wp2_with fail
      refine (l1Next_any B w6 bs a k cap (t' + 1 + 1 + 1 + 1 + 1) 4 hs_w6 (by omega) (by omega) (by omega)).mono ?_
      rintro e w7 ⟨g6, rfl, hg6, hs_w7, hm⟩
      have st_w7 := st_w6.mod hm (fun b hb => by omega)
      have hM_w7 := hM_w6.trans hm
      have z_w7 := hm.size
      try simp only [World.size_alloc] at z_w7
      replace A0 := hm.cell A0 (fun e => by dsimp only at e; have := st_w6.hz; have := z_w6; have := hz5; omega)
      replace A1 := hm.cell A1 (fun e => by dsimp only at e; have := st_w6.hz; have := z_w6; have := hz5; omega)
      replace A2 := hm.cell A2 (fun e => by dsimp only at e; have := st_w6.hz; have := z_w6; have := hz5; omega)
      replace A3 := hm.cell A3 (fun e => by dsimp only at e; have := st_w6.hz; have := z_w6; have := hz5; omega)
      clear st_w6 hM_w6 hs_w6 hm
      have hz7 := st_w7.hz
      go_wp2
      refine wp_region_noPanic ?_
      obtain ⟨la, hla⟩ : ∃ la : Leg, la = ⟨g3, g4, g1, -(1 + (g2 : Int))⟩ := ⟨_, rfl⟩
      obtain ⟨lb, hlb⟩ : ∃ lb : Leg, lb = ⟨g5, g6, g1, 1 + (g2 : Int)⟩ := ⟨_, rfl⟩
      have B0 : (w7.alloc (.cells #[.int .i64 (g5 : Int), .int .i64 (g6 : Int), .int .i64 (g1 : Int), .int .i64 (1 + (g2 : Int))] 97)).cell? ⟨w7.heap.size, 0, none⟩ = some (.int .i64 lb.sh) := by rw [hlb]; simp [go_sem]
      have B1 : (w7.alloc (.cells #[.int .i64 (g5 : Int), .int .i64 (g6 : Int), .int .i64 (g1 : Int), .int .i64 (1 + (g2 : Int))] 97)).cell? ⟨w7.heap.size, 1, none⟩ = some (.int .i64 lb.ac) := by rw [hlb]; simp [go_sem]
      have B2 : (w7.alloc (.cells #[.int .i64 (g5 : Int), .int .i64 (g6 : Int), .int .i64 (g1 : Int), .int .i64 (1 + (g2 : Int))] 97)).cell? ⟨w7.heap.size, 2, none⟩ = some (.int .i64 lb.ast) := by rw [hlb]; simp [go_sem]
      have B3 : (w7.alloc (.cells #[.int .i64 (g5 : Int), .int .i64 (g6 : Int), .int .i64 (g1 : Int), .int .i64 (1 + (g2 : Int))] 97)).cell? ⟨w7.heap.size, 3, none⟩ = some (.int .i64 lb.am) := by rw [hlb]; simp [go_sem]
      have A0' : (w7.alloc (.cells #[.int .i64 (g5 : Int), .int .i64 (g6 : Int), .int .i64 (g1 : Int), .int .i64 (1 + (g2 : Int))] 97)).cell? ⟨w5.heap.size, 0, none⟩ = some (.int .i64 la.sh) := by rw [hla]; exact cell_keep (by (repeat (first | exact Below.refl _ _ | assumption | refine Below.drew ?_ | refine balloc ?_ _ | refine bset ?_ (by simp; omega) _ | refine bset ?_ (by simp) _ | refine bstep ?_ (by assumption)))) A0
      have A1' : (w7.alloc (.cells #[.int .i64 (g5 : Int), .int .i64 (g6 : Int), .int .i64 (g1 : Int), .int .i64 (1 + (g2 : Int))] 97)).cell? ⟨w5.heap.size, 1, none⟩ = some (.int .i64 la.ac) := by rw [hla]; exact cell_keep (by (repeat (first | exact Below.refl _ _ | assumption | refine Below.drew ?_ | refine balloc ?_ _ | refine bset ?_ (by simp; omega) _ | refine bset ?_ (by simp) _ | refine bstep ?_ (by assumption)))) A1
      have A2' : (w7.alloc (.cells #[.int .i64 (g5 : Int), .int .i64 (g6 : Int), .int .i64 (g1 : Int), .int .i64 (1 + (g2 : Int))] 97)).cell? ⟨w5.heap.size, 2, none⟩ = some (.int .i64 la.ast) := by rw [hla]; exact cell_keep (by (repeat (first | exact Below.refl _ _ | assumption | refine Below.drew ?_ | refine balloc ?_ _ | refine bset ?_ (by simp; omega) _ | refine bset ?_ (by simp) _ | refine bstep ?_ (by assumption)))) A2
      have A3' : (w7.alloc (.cells #[.int .i64 (g5 : Int), .int .i64 (g6 : Int), .int .i64 (g1 : Int), .int .i64 (1 + (g2 : Int))] 97)).cell? ⟨w5.heap.size, 3, none⟩ = some (.int .i64 la.am) := by rw [hla]; exact cell_keep (by (repeat (first | exact Below.refl _ _ | assumption | refine Below.drew ?_ | refine balloc ?_ _ | refine bset ?_ (by simp; omega) _ | refine bset ?_ (by simp) _ | refine bstep ?_ (by assumption)))) A3
      have st8 := st_w7.below (w'' := w7.alloc (.cells #[.int .i64 (g5 : Int), .int .i64 (g6 : Int), .int .i64 (g1 : Int), .int .i64 (1 + (g2 : Int))] 97)) (by (repeat (first | exact Below.refl _ _ | assumption | refine Below.drew ?_ | refine balloc ?_ _ | refine bset ?_ (by simp; omega) _ | refine bset ?_ (by simp) _ | refine bstep ?_ (by assumption))))
      have hM8 := hM_w7.transB (w2 := w7.alloc (.cells #[.int .i64 (g5 : Int), .int .i64 (g6 : Int), .int .i64 (g1 : Int), .int .i64 (1 + (g2 : Int))] 97)) (by (repeat (first | exact Below.refl _ _ | assumption | refine Below.drew ?_ | refine balloc ?_ _ | refine bset ?_ (by simp; omega) _ | refine bset ?_ (by simp) _ | refine bstep ?_ (by assumption))))
      have hs8 := hs_w7.below (w' := w7.alloc (.cells #[.int .i64 (g5 : Int), .int .i64 (g6 : Int), .int .i64 (g1 : Int), .int .i64 (1 + (g2 : Int))] 97)) (by (repeat (first | exact Below.refl _ _ | assumption | refine Below.drew ?_ | refine balloc ?_ _ | refine bset ?_ (by simp; omega) _ | refine bset ?_ (by simp) _ | refine bstep ?_ (by assumption))))
      have z8 : w7.heap.size < (w7.alloc (.cells #[.int .i64 (g5 : Int), .int .i64 (g6 : Int), .int .i64 (g1 : Int), .int .i64 (1 + (g2 : Int))] 97)).heap.size := by simp
      generalize w7.alloc (.cells #[.int .i64 (g5 : Int), .int .i64 (g6 : Int), .int .i64 (g1 : Int), .int .i64 (1 + (g2 : Int))] 97) = W8 at *
      clear st_w7 hM_w7 hs_w7 A0 A1 A2 A3 hla hlb
      refine region_upto (fun w' => Below W8.heap.size W8 w' ∧ w'.cell? ⟨w.heap.size + 1, 1, none⟩ = some (.slice p xs.length q) ∧ (w'.cell? ⟨w5.heap.size, 0, none⟩ = some (.int .i64 la.sh) ∧ w'.cell? ⟨w5.heap.size, 1, none⟩ = some (.int .i64 la.ac) ∧ w'.cell? ⟨w5.heap.size, 2, none⟩ = some (.int .i64 la.ast) ∧ w'.cell? ⟨w5.heap.size, 3, none⟩ = some (.int .i64 la.am)) ∧ (w'.cell? ⟨w7.heap.size, 0, none⟩ = some (.int .i64 lb.sh) ∧ w'.cell? ⟨w7.heap.size, 1, none⟩ = some (.int .i64 lb.ac) ∧ w'.cell? ⟨w7.heap.size, 2, none⟩ = some (.int .i64 lb.ast) ∧ w'.cell? ⟨w7.heap.size, 3, none⟩ = some (.int .i64 lb.am))) 11 (by kernel_rfl) ⟨Below.drew (Below.refl _ _), cell_keep (by (repeat (first | exact Below.refl _ _ | assumption | refine Below.drew ?_ | refine balloc ?_ _ | refine bset ?_ (by simp; omega) _ | refine bset ?_ (by simp) _ | refine bstep ?_ (by assumption)))) st8.x1, ⟨cell_keep (by (repeat (first | exact Below.refl _ _ | assumption | refine Below.drew ?_ | refine balloc ?_ _ | refine bset ?_ (by simp; omega) _ | refine bset ?_ (by simp) _ | refine bstep ?_ (by assumption)))) A0', cell_keep (by (repeat (first | exact Below.refl _ _ | assumption | refine Below.drew ?_ | refine balloc ?_ _ | refine bset ?_ (by simp; omega) _ | refine bset ?_ (by simp) _ | refine bstep ?_ (by assumption)))) A1', cell_keep (by (repeat (first | exact Below.refl _ _ | assumption | refine Below.drew ?_ | refine balloc ?_ _ | refine bset ?_ (by simp; omega) _ | refine bset ?_ (by simp) _ | refine bstep ?_ (by assumption)))) A2', cell_keep (by (repeat (first | exact Below.refl _ _ | assumption | refine Below.drew ?_ | refine balloc ?_ _ | refine bset ?_ (by simp; omega) _ | refine bset ?_ (by simp) _ | refine bstep ?_ (by assumption)))) A3'⟩, ⟨cell_keep (by (repeat (first | exact Below.refl _ _ | assumption | refine Below.drew ?_ | refine balloc ?_ _ | refine bset ?_ (by simp; omega) _ | refine bset ?_ (by simp) _ | refine bstep ?_ (by assumption)))) B0, cell_keep (by (repeat (first | exact Below.refl _ _ | assumption | refine Below.drew ?_ | refine balloc ?_ _ | refine bset ?_ (by simp; omega) _ | refine bset ?_ (by simp) _ | refine bstep ?_ (by assumption)))) B1, cell_keep (by (repeat (first | exact Below.refl _ _ | assumption | refine Below.drew ?_ | refine balloc ?_ _ | refine bset ?_ (by simp; omega) _ | refine bset ?_ (by simp) _ | refine bstep ?_ (by assumption)))) B2, cell_keep (by (repeat (first | exact Below.refl _ _ | assumption | refine Below.drew ?_ | refine balloc ?_ _ | refine bset ?_ (by simp; omega) _ | refine bset ?_ (by simp) _ | refine bstep ?_ (by assumption)))) B3⟩⟩ (fun hS => ?_)
      refine upto_take (i := 0) (v := ?_) rfl (by kernel_rfl) (by kernel_rfl) (by kernel_rfl) (by kernel_rfl) (fun _ _ _ h => h) (by rfl) hS ?_ ?_
      rotate_left
      · intro wS hSw
        try dsimp only at hSw
        first | (go_simp; done) | (go_simp; with_reducible rfl)
      try simp only [Act.put, List.getElem_toArray, List.getElem_cons_zero, List.getElem_cons_succ, List.setIfInBounds_toArray, List.set_cons_zero, List.set_cons_succ]
      refine upto_take (i := 2) (v := ?_) rfl (by kernel_rfl) (by kernel_rfl) (by kernel_rfl) (by kernel_rfl) (fun _ _ _ h => h) (by rfl) hS ?_ ?_
      rotate_left
      · intro wS hSw
        try dsimp only at hSw
        first | (go_simp; done) | (go_simp; with_reducible rfl)
      try simp only [Act.put, List.getElem_toArray, List.getElem_cons_zero, List.getElem_cons_succ, List.setIfInBounds_toArray, List.set_cons_zero, List.set_cons_succ]
      refine upto_take (i := 3) (v := ?_) rfl (by kernel_rfl) (by kernel_rfl) (by kernel_rfl) (by kernel_rfl) (fun _ _ _ h => h) (by rfl) hS ?_ ?_
      rotate_left
      · intro wS hSw
        try dsimp only at hSw
        first | (go_simp; done) | (go_simp; with_reducible rfl)
      try simp only [Act.put, List.getElem_toArray, List.getElem_cons_zero, List.getElem_cons_succ, List.setIfInBounds_toArray, List.set_cons_zero, List.set_cons_succ]
      refine upto_take (i := 5) (v := ?_) rfl (by kernel_rfl) (by kernel_rfl) (by kernel_rfl) (by kernel_rfl) (fun _ _ _ h => h) (by rfl) hS ?_ ?_
      rotate_left
      · intro wS hSw
        try dsimp only at hSw
        first | (go_simp; done) | (go_simp; with_reducible rfl)
      try simp only [Act.put, List.getElem_toArray, List.getElem_cons_zero, List.getElem_cons_succ, List.setIfInBounds_toArray, List.set_cons_zero, List.set_cons_succ]
      refine upto_take (i := 6) (v := ?_) rfl (by kernel_rfl) (by kernel_rfl) (by kernel_rfl) (by kernel_rfl) (fun _ _ _ h => h) (by rfl) hS ?_ ?_
      rotate_left
      · intro wS hSw
        try dsimp only at hSw
        first | (go_simp; done) | (go_simp; with_reducible rfl)
      try simp only [Act.put, List.getElem_toArray, List.getElem_cons_zero, List.getElem_cons_succ, List.setIfInBounds_toArray, List.set_cons_zero, List.set_cons_succ]
      have hW0 : Below W8.heap.size W8 W8.drew := Below.drew (Below.refl _ _)
      have hzW : W8.heap.size = W8.drew.heap.size := rfl
      generalize W8.drew = W0 at *
      have hsr : AppAny W0 (.slice p xs.length q) xs.length (legsC xs) := appAny_owns (legsR.keep st8.hO hW0).1
      have hsv := fun (W : World) (hW : Below W0.heap.size W0 W) => appAny_owns (legsR.keep (legsR.keep st8.hO hW0) hW).1
      refine upto_cons' [(1, 42), (4, 45), (7, 48), (8, 49), (9, 50), (10, 11)] drawC (drawG W0.heap.size id xs la lb) (by kernel_rfl) hS ?_ ?_ ?_ ?_
      · intro F' W W' h hm hF
        obtain ⟨h1, h2, ⟨h3, h4, h5, h6⟩, ⟨h7, h8, h9, h10⟩⟩ := h
        exact ⟨hm.below h1 h1.size (fun b hb => by have := hF b hb; omega), hm.cell h2 (fun e => by have := hF _ e; dsimp only at this; omega), ⟨hm.cell h3 (fun e => by have := hF _ e; dsimp only at this; omega), hm.cell h4 (fun e => by have := hF _ e; dsimp only at this; omega), hm.cell h5 (fun e => by have := hF _ e; dsimp only at this; omega), hm.cell h6 (fun e => by have := hF _ e; dsimp only at this; omega)⟩, ⟨hm.cell h7 (fun e => by have := hF _ e; dsimp only at this; omega), hm.cell h8 (fun e => by have := hF _ e; dsimp only at this; omega), hm.cell h9 (fun e => by have := hF _ e; dsimp only at this; omega), hm.cell h10 (fun e => by have := hF _ e; dsimp only at this; omega)⟩⟩
      · intro pp hp
        simp only [List.mem_cons, List.not_mem_nil, or_false] at hp
        rcases hp with rfl | rfl | rfl | rfl | rfl | rfl
        · intro y y' F F' W W' h hi hm hap hF e _
          simp only [drawG] at h ⊢
          rw [e]
          exact legsR.mod h hm (fun b h1 h2 => hap b h2 h1)
        · intro y y' F F' W W' h hi hm hap hF e _
          simp only [drawG] at h ⊢
          rw [e]
          exact legsR.mod h hm (fun b h1 h2 => hap b h2 h1)
        · intro y y' F F' W W' h hi hm hap hF e _
          simp only [drawG] at h ⊢
          rw [e]
          exact legsR.mod h hm (fun b h1 h2 => hap b h2 h1)
        · intro y y' F F' W W' h hi hm hap hF e _
          simp only [drawG] at h ⊢
          rw [e]
          exact legsR.mod h hm (fun b h1 h2 => hap b h2 h1)
        · intro y y' F F' W W' h hi hm hap hF e he
          have e0 := he (8, 49) (by simp) (by kernel_rfl)
          simp only [drawG] at h ⊢
          rw [e, e0]
          exact h
        · intro y y' F F' W W' h hi hm hap hF e _
          simp only [drawG] at h ⊢
          rw [e]
          obtain ⟨g, h1, h2, h3, h4, h5⟩ := h
          have hng : ¬ F' g := fun c => hap g c ((h2 g).2 rfl)
          exact ⟨g, h1, h2, hm.cell h3 hng, hm.cell h4 hng, fun o => by rw [hm.frozenAt (a := ⟨g, o, none⟩) (hi g ((h2 g).2 rfl)).2 hng]; exact h5 o⟩
      · intro pp hp
        simp only [List.mem_cons, List.not_mem_nil, or_false] at hp
        rcases hp with rfl | rfl | rfl | rfl | rfl | rfl
        all_goals
          refine ⟨_, rfl, rfl, ?_⟩
          intro y W Φ hSW hBW hd K hK
        · clear hd
          refine ⟨?_⟩
          simp only [over, Act.put, List.getElem_toArray, List.getElem_cons_zero, List.getElem_cons_succ, List.map_cons, List.map_nil, List.foldl_cons, List.foldl_nil, List.setIfInBounds_toArray, List.set_cons_zero, List.set_cons_succ] at hK ⊢
          go_simp
          refine hK _ _ (fun b => b = W.heap.size) (Mod.of_below (by (repeat (first | exact Below.refl _ _ | assumption | refine Below.drew ?_ | refine balloc ?_ _ | refine bset ?_ (by simp; omega) _ | refine bset ?_ (by simp) _ | refine bstep ?_ (by assumption))))) (fun b hb => .inr (by simp; omega)) ?_
          simp only [drawG, updV]
          refine ⟨World.ownsRow_lit (base := W0.heap.size) (e := 97) (size := 4) W #[] 0 hBW.size (by unfold maxLen; omega) rfl, ?_⟩
          funext b
          simp [Value.ownBlock, eq_comm]
        · have g0 := (hd (1, 42) (by simp) (by kernel_rfl) (.inl (by simp [drawC]))).2
          clear hd
          simp only [drawG] at g0
          refine ⟨?_⟩
          refine step_appLegs W rfl (.tmp 42) (.tmp 44) rfl W0.heap.size (y 42) (Φ 1) [] rfl (.slice p xs.length q) xs rfl g0 (hsv W hBW) (by simp; omega) hBW.size ?_
          intro v' w' hO hm hl
          refine hK _ _ (fun b => v'.ownBlock = some b) (hm.mono (fun b hb => ⟨1, by simp [drawC], hb⟩)) (fun b hb => (hl b hb).imp (fun h => ⟨1, by simp [drawC], h⟩) (fun h => h)) ?_
          simp only [drawG, updV]
          simpa using hO
        · clear hd
          obtain ⟨h1, h2, ⟨h3, h4, h5, h6⟩, ⟨h7, h8, h9, h10⟩⟩ := hSW
          refine ⟨?_⟩
          simp only [over, Act.put, List.getElem_toArray, List.getElem_cons_zero, List.getElem_cons_succ, List.map_cons, List.map_nil, List.foldl_cons, List.foldl_nil, List.setIfInBounds_toArray, List.set_cons_zero, List.set_cons_succ] at hK ⊢
          go_simp
          refine hK _ _ (fun b => b = W.heap.size) (Mod.of_below (by (repeat (first | exact Below.refl _ _ | assumption | refine Below.drew ?_ | refine balloc ?_ _ | refine bset ?_ (by simp; omega) _ | refine bset ?_ (by simp) _ | refine bstep ?_ (by assumption))))) (fun b hb => .inr (by simp; omega)) ?_
          simp only [drawG, updV]
          refine ⟨World.ownsRow_lit (base := W0.heap.size) (e := 97) (size := 4) W #[.int .i64 la.sh, .int .i64 la.ac, .int .i64 la.ast, .int .i64 la.am, .int .i64 lb.sh, .int .i64 lb.ac, .int .i64 lb.ast, .int .i64 lb.am] 2 hBW.size (by unfold maxLen; omega) rfl, ?_⟩
          funext b
          simp [Value.ownBlock, eq_comm]
        · have g0 := (hd (4, 45) (by simp) (by kernel_rfl) (.inl (by simp [drawC]))).2
          have g1 := (hd (7, 48) (by simp) (by kernel_rfl) (.inr (by simp [drawC]))).2
          clear hd
          simp only [drawG] at g0 g1
          refine ⟨?_⟩
          refine step_appLegs W rfl (.tmp 45) (.tmp 48) rfl W0.heap.size (y 45) (Φ 4) xs rfl (y 48) [la, lb] rfl g0 (appAny_owns g1.1) (by simp; omega) hBW.size ?_
          intro v' w' hO hm hl
          refine hK _ _ (fun b => v'.ownBlock = some b) (hm.mono (fun b hb => ⟨4, by simp [drawC], hb⟩)) (fun b hb => (hl b hb).imp (fun h => ⟨4, by simp [drawC], h⟩) (fun h => h)) ?_
          simp only [drawG, updV]
          simpa using hO
        · have g0 := (hd (8, 49) (by simp) (by kernel_rfl) (.inr (by simp [drawC]))).2
          clear hd
          simp only [drawG] at g0
          obtain ⟨a9, c9, e9'⟩ := legs_form (legsR.ofO g0)
          have e9 : y 49 = .slice a9 (xs.length + 2) c9 := by simpa using e9'
          clear e9' g0
          refine ⟨?_⟩
          simp only [over, Act.put, List.getElem_toArray, List.getElem_cons_zero, List.getElem_cons_succ, List.map_cons, List.map_nil, List.foldl_cons, List.foldl_nil, List.setIfInBounds_toArray, List.set_cons_zero, List.set_cons_succ] at hK ⊢
          simp only [e9] at hK ⊢
          go_simp
          refine hK _ _ (fun _ => False) (Mod.refl _ _) (fun b hb => hb.elim) ?_
          simp only [drawG, updV]
          simp [e9]
        · clear hd
          refine ⟨?_⟩
          simp only [over, Act.put, List.getElem_toArray, List.getElem_cons_zero, List.getElem_cons_succ, List.map_cons, List.map_nil, List.foldl_cons, List.foldl_nil, List.setIfInBounds_toArray, List.set_cons_zero, List.set_cons_succ] at hK ⊢
          go_simp
          refine hK _ _ (fun b => b = W.heap.size) (Mod.of_below (by (repeat (first | exact Below.refl _ _ | assumption | refine Below.drew ?_ | refine balloc ?_ _ | refine bset ?_ (by simp; omega) _ | refine bset ?_ (by simp) _ | refine bstep ?_ (by assumption))))) (fun b hb => .inr (by simp; omega)) ?_
          simp only [drawG, updV]
          exact ⟨W.heap.size, rfl, fun b => Iff.rfl, by simp [go_sem], by simp [go_sem], fun o => by simp [go_sem]⟩
      · refine ⟨_, rfl, ?_⟩
        intro y W Φ hSW hBW hd hap K hK
        have g8 := hd (8, 49) (by simp) (by simp [drawC])
        have g9 := (hd (9, 50) (by simp) (by simp [drawC])).2
        have g10 := hd (10, 11) (by simp) (by simp [drawC])
        have ap := hap (8, 49) (by simp) (10, 11) (by simp) (by simp) (by simp [drawC]) (by simp [drawC])
        clear hd hap
        simp only [drawG] at g8 g9 g10
        obtain ⟨b8, o8⟩ := g8
        obtain ⟨b10, gB, e11, f10, k0, k1, kf⟩ := g10
        have hnB : ¬ Φ 8 gB := fun c => ap gB c ((f10 gB).2 rfl)
        have hBB := b10 gB ((f10 gB).2 rfl)
        obtain ⟨a9, c9, e9'⟩ := legs_form (legsR.ofO o8)
        have e9 : y 49 = .slice a9 (xs.length + 2) c9 := by simpa using e9'
        rw [e9] at o8 g9
        have hW89 : Below W8.heap.size W8 W := bstep hW0 hBW
        have hs9 := hs8.below hW89
        clear e9' ap b8 b10 f10 hS hSW
        refine ⟨?_⟩
        simp only [over, Act.put, List.getElem_toArray, List.getElem_cons_zero, List.getElem_cons_succ, List.map_cons, List.map_nil, List.foldl_cons, List.foldl_nil, List.setIfInBounds_toArray, List.set_cons_zero, List.set_cons_succ]
        simp only [g9, e11]
        clear g9 e11 e9
        go_simp
        refine hK _ _ ?_
        clear hK K
        refine NoPanic.normal ?_
        have hm5 : Mod (fun b => b = gB) W ((W.setCell ⟨gB, 0, none⟩ (.int .i64 id)).setCell ⟨gB, 1, none⟩ (.slice a9 (xs.length + 2) c9)) := (Mod.of_set W ⟨gB, 0, none⟩ _).trans (Mod.of_set _ ⟨gB, 1, none⟩ _)
        have t0 : ((W.setCell ⟨gB, 0, none⟩ (.int .i64 id)).setCell ⟨gB, 1, none⟩ (.slice a9 (xs.length + 2) c9)).cell? ⟨gB, 0, none⟩ = some (.int .i64 id) := by rw [set_other (by simp)]; exact set_same k0
        have t1 : ((W.setCell ⟨gB, 0, none⟩ (.int .i64 id)).setCell ⟨gB, 1, none⟩ (.slice a9 (xs.length + 2) c9)).cell? ⟨gB, 1, none⟩ = some (.slice a9 (xs.length + 2) c9) := set_same (by rw [set_other (by simp)]; exact k1)
        generalize (W.setCell ⟨gB, 0, none⟩ (.int .i64 id)).setCell ⟨gB, 1, none⟩ (.slice a9 (xs.length + 2) c9) = W5 at *
        have hm85 : Mod (fun b => b = gB) W8 W5 := (Mod.of_below hW89).trans hm5
        have st9 := st8.mod hm85 (fun b hb => .inr (by omega))
        have hM9 := hM8.trans2 hm85 (fun b hb hl => by have := hM8.size; omega)
        have hs10 := hs9.mod hm5 (fun b hb => by have := hs8.lt; omega)
        have o10 : legsR.O W5 (w.heap.size + 2) (Φ 8) (.slice a9 (xs.length + 2) c9) (xs ++ [la, lb]) := legsR.base (legsR.mod o8 hm5 (fun b h1 h2 => hnB (h2 ▸ h1))) (by have := st8.hz; omega)
        have hgB : gB < W5.heap.size := Nat.lt_of_lt_of_le hBB.2 hm5.size
        have hgB2 : w.heap.size + 2 ≤ gB := by have := st8.hz; omega
        clear st8 hM8 hs8 hs9 hm5 hm85 o8 k0 k1 kf hBB hBW hW89 hW0 hnB hsr hsv
        go_wp2_with fail
        refine (specFault_any id _ (xs ++ [la, lb]) W5 (legsR.ofO o10)).mono ?_
        rintro e w9 ⟨rfl, hb9⟩
        have st10 := st9.below hb9
        have hM10 := hM9.transB hb9
        have hs11 := hs10.below hb9
        have o11 := legsR.keep o10 hb9
        have q0 := cell_keep hb9 t0
        have q1 := cell_keep hb9 t1
        clear st9 hM9 hs10 o10 t0 t1 hb9
        have x0 := st10.x0
        have x1 := st10.x1
        have xf := st10.xf
        generalize contractFault id (xs ++ [la, lb]) = cf at *
        by_cases hcf : cf = 0
        · subst hcf
          have o12 : legsR.O w9 (w.heap.size + 2) (Φ 8) (.slice a9 (xs ++ [la, lb]).length c9) (xs ++ [la, lb]) := by simpa using o11
          have st11 := st10.put o12
          have hm6 : Mod (fun b => b = w.heap.size + 1) w9 ((w9.setCell ⟨w.heap.size + 1, 0, none⟩ (.int .i64 id)).setCell ⟨w.heap.size + 1, 1, none⟩ (.slice a9 (xs.length + 2) c9)) := (Mod.of_set w9 ⟨w.heap.size + 1, 0, none⟩ _).trans (Mod.of_set _ ⟨w.heap.size + 1, 1, none⟩ _)
          have hM11 := hM10.trans2 hm6 (fun b hb hl => by omega)
          have hs12 := hs11.mod hm6 (fun b hb => by omega)
          have HST : Hid (CtSt w ((w9.setCell ⟨w.heap.size + 1, 0, none⟩ (.int .i64 id)).setCell ⟨w.heap.size + 1, 1, none⟩ (.slice a9 (xs.length + 2) c9)) id (xs ++ [la, lb]) a9 c9 (Φ 8)) := by unfold Hid; simpa using st11
          clear st10 st11 hM10 hs11 o11 o12 hm6
          go_wp2
          exact ⟨⟨m - 1, t' + 1 + 1 + 1 + 1 + 1 + 1, xs ++ [la, lb], _, _, _, by go_num, by simp; omega, by omega, HST.out, hs12, hM11⟩, by simp [intOf]; omega⟩
        · have hcf2 : (cf == 0) = false := by rw [beq_eq_false_iff_ne]; exact hcf
          go_wp2
          exact ⟨⟨m - 1, t' + 1 + 1 + 1 + 1 + 1 + 1, xs, _, _, _, by go_num, by omega, by omega, st10, hs11, hM10⟩, by simp [intOf]; omega⟩
    · have hq : ¬ (0 : Int) < (m : Int) := by omega
      have x0 := st.x0
      have x1 := st.x1
      have xf := st.xf
      have r0 := st.r0
      have r1 := st.r1
      have rf := st.rf
      have hz := st.hz
      by_cases h0 : xs.length = 0
      · have hxe : ((xs.length : Int) == 0) = true := by simp [h0]
        have z1 : w.heap.size < wr.heap.size := by omega
        have z2 : w.heap.size + 1 < wr.heap.size := by omega
        have hm6 : Mod (fun b => b = w.heap.size ∨ b = w.heap.size + 1) wr (((wr.setCell ⟨w.heap.size + 1, 1, none⟩ (.slice (some ⟨wr.heap.size, 0, none⟩) 2 2)).setCell ⟨w.heap.size, 0, none⟩ (.int .i64 id)).setCell ⟨w.heap.size, 1, none⟩ (.slice (some ⟨wr.heap.size, 0, none⟩) 2 2)) := (((Mod.of_set wr ⟨w.heap.size + 1, 1, none⟩ _).mono (fun b hb => .inr hb)).trans ((Mod.of_set _ ⟨w.heap.size, 0, none⟩ _).mono (fun b hb => .inl hb))).trans ((Mod.of_set _ ⟨w.heap.size, 1, none⟩ _).mono (fun b hb => .inl hb))
        have hM2 : Mod (fun b => b = bs) w ((((wr.setCell ⟨w.heap.size + 1, 1, none⟩ (.slice (some ⟨wr.heap.size, 0, none⟩) 2 2)).setCell ⟨w.heap.size, 0, none⟩ (.int .i64 id)).setCell ⟨w.heap.size, 1, none⟩ (.slice (some ⟨wr.heap.size, 0, none⟩) 2 2)).alloc (.cells #[.int .i64 0, .int .i64 0, .int .i64 0, .int .i64 (-5), .int .i64 1, .int .i64 0, .int .i64 0, .int .i64 5] 97)) := (hM.trans2 hm6 (fun b hb hl => by omega)).alloc _
        have hs2 : Src B ((((wr.setCell ⟨w.heap.size + 1, 1, none⟩ (.slice (some ⟨wr.heap.size, 0, none⟩) 2 2)).setCell ⟨w.heap.size, 0, none⟩ (.int .i64 id)).setCell ⟨w.heap.size, 1, none⟩ (.slice (some ⟨wr.heap.size, 0, none⟩) 2 2)).alloc (.cells #[.int .i64 0, .int .i64 0, .int .i64 0, .int .i64 (-5), .int .i64 1, .int .i64 0, .int .i64 0, .int .i64 5] 97)) bs a k cap t' := (hs.mod hm6 (fun b hb => by omega)).below (by (repeat (first | exact Below.refl _ _ | assumption | refine Below.drew ?_ | refine balloc ?_ _ | refine bset ?_ (by simp; omega) _ | refine bset ?_ (by simp) _ | refine bstep ?_ (by assumption))))
        have hO2 : legsR.O ((((wr.setCell ⟨w.heap.size + 1, 1, none⟩ (.slice (some ⟨wr.heap.size, 0, none⟩) 2 2)).setCell ⟨w.heap.size, 0, none⟩ (.int .i64 id)).setCell ⟨w.heap.size, 1, none⟩ (.slice (some ⟨wr.heap.size, 0, none⟩) 2 2)).alloc (.cells #[.int .i64 0, .int .i64 0, .int .i64 0, .int .i64 (-5), .int .i64 1, .int .i64 0, .int .i64 0, .int .i64 5] 97)) w.heap.size (fun b => b = wr.heap.size) (.slice (some ⟨wr.heap.size, 0, none⟩) 2 2) [⟨0, 0, 0, -5⟩, ⟨1, 0, 0, 5⟩] := by
          have hh := World.ownsRow_lit (base := w.heap.size) (e := 97) (size := 4) (((wr.setCell ⟨w.heap.size + 1, 1, none⟩ (.slice (some ⟨wr.heap.size, 0, none⟩) 2 2)).setCell ⟨w.heap.size, 0, none⟩ (.int .i64 id)).setCell ⟨w.heap.size, 1, none⟩ (.slice (some ⟨wr.heap.size, 0, none⟩) 2 2)) #[.int .i64 0, .int .i64 0, .int .i64 0, .int .i64 (-5), .int .i64 1, .int .i64 0, .int .i64 0, .int .i64 5] 2 (by simp; omega) (by unfold maxLen; omega) rfl
          refine ⟨by have h := hh; simp at h; exact h, ?_⟩
          funext b
          simp [Value.ownBlock, eq_comm]
        clear hm6 st hs hM
        go_wp2
        refine bodyPost_ret (v := .agg #[.int .i64 id, (.slice (some ⟨wr.heap.size, 0, none⟩) 2 2)]) ?_ rfl ?_
        · simp [results, Try.results101, go_sem, r0, r1, x1, z1, z2]
        · first
            | exact ⟨_, _, [⟨0, 0, 0, -5⟩, ⟨1, 0, 0, 5⟩], t', rfl, hO2, by simp, by simp, hs2, by omega, hM2⟩
            | exact ⟨_, rfl, _, [⟨0, 0, 0, -5⟩, ⟨1, 0, 0, 5⟩], hO2, by simp, by simp, t', hs2, by omega, hM2⟩
      · have hxe : ((xs.length : Int) == 0) = false := by rw [beq_eq_false_iff_ne]; omega
        have hm6 : Mod (fun b => b = w.heap.size) wr ((wr.setCell ⟨w.heap.size, 0, none⟩ (.int .i64 id)).setCell ⟨w.heap.size, 1, none⟩ (.slice p xs.length q)) := (Mod.of_set wr ⟨w.heap.size, 0, none⟩ _).trans (Mod.of_set _ ⟨w.heap.size, 1, none⟩ _)
        have hM2 := hM.trans2 hm6 (fun b hb hl => by omega)
        have hs2 := hs.mod hm6 (fun b hb => by omega)
        have hO2 := legsR.base (base' := w.heap.size) (legsR.set (legsR.set st.hO (.int .i64 id) (p := ⟨w.heap.size, 0, none⟩) (by simp)) (.slice p xs.length q) (p := ⟨w.heap.size, 1, none⟩) (by simp)) (by omega)
        clear hm6
        go_wp2
        refine bodyPost_ret (v := .agg #[.int .i64 id, .slice p xs.length q]) ?_ rfl ?_
        · simp [results, Try.results101, go_sem, r0, r1]
        · first
            | exact ⟨_, F, xs, t', rfl, hO2, by omega, by omega, hs2, by omega, hM2⟩
            | exact ⟨_, rfl, F, xs, hO2, by omega, by omega, t', hs2, by omega, hM2⟩
end Go.Proofs.Yteebglgbeijolaa


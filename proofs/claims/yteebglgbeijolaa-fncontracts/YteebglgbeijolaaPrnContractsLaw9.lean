import Derived.Test.YteebglgbeijolaaPrnContractsLaw8
import Derived.Test.YteebglgbeijolaaPrnContractsLaw7
import Derived.Test.YteebglgbeijolaaPrnContractsLaw6

/-
  The program's ContractFault answers as the plain mathematics says (its loop over the legs).
-/
namespace Go.Proofs.Yteebglgbeijolaa
open Go.RowKit
set_option linter.unusedSectionVars false
variable [DecidableEq Leg] [Inhabited Leg]
attribute [local go_sem ↓] Go.wp_at_zero Go.wp_at_succ

set_option maxHeartbeats 1000000 in
theorem implFault_early (id : Int) (x : Value) (xs : List Leg) (w : World) (hx : LegsV w x xs) (h : inB id 1 1000000000 = false ∨ xs.length < 2 ∨ 8 < xs.length) :
    Calls Try.prog 15 #[.agg #[.int .i64 id, x]] w fun e w' => e = .returned (.int .i64 (contractFault id xs)) ∧ Below w.heap.size w w' := by
  obtain ⟨ax, cx, rfl, hcx, hmx, hx⟩ := hx
  unfold maxLen at hmx
  clear hx
  by_cases hid : inB id 1 1000000000 = false
  · go_enter Try.func15, Try.ntmps15
    go_wp2_with (go_at_call 50; refine (isId_any _ _).mono ?_; rintro e w' ⟨rfl, rfl⟩)
    go_ret
    exact ⟨by simp [contractFault, hid], balloc (Below.refl _ _) _⟩
  · have hid' : inB id 1 1000000000 = true := by simpa using hid
    have hn : xs.length < 2 ∨ 8 < xs.length := by
      rcases h with h | h
      · exact absurd h hid
      · exact h
    have hcf : contractFault id xs = 2 := by simp [contractFault, hid', hn]
    rw [hcf]
    generalize xs.length = n at *
    clear hid h hcf
    rcases hn with hn | hn
    · have h1 : (n : Int) < 2 := by omega
      go_enter Try.func15, Try.ntmps15
      go_wp2_with (go_at_call 50; refine (isId_any _ _).mono ?_; rintro e w' ⟨rfl, rfl⟩)
      go_ret
      exact ⟨rfl, balloc (Below.refl _ _) _⟩
    · have h1 : ¬ (n : Int) < 2 := by omega
      have h2 : (8 : Int) < (n : Int) := by omega
      go_enter Try.func15, Try.ntmps15
      go_wp2_with (go_at_call 50; refine (isId_any _ _).mono ?_; rintro e w' ⟨rfl, rfl⟩)
      go_ret
      exact ⟨rfl, balloc (Below.refl _ _) _⟩
theorem getD_takeL (xs : List Leg) (k i : Nat) (h : i < k) : (xs.take k).getD i default = xs.getD i default := by
  simp [List.getD, h]
theorem LegsV_take {w : World} {a : Option Addr} {cap n k : Nat} {xs : List Leg} (hn : xs.length = n) (hk : k ≤ n) (h1 : n ≤ cap) (h2 : cap ≤ maxLen) (h : ∀ i, i < n → ∃ b o, a = some ⟨b, o, none⟩ ∧ legCells w b (o + i * 4) (xs.getD i default)) :
    LegsV w (.slice a k cap) (xs.take k) := by
  have hl : (xs.take k).length = k := by rw [List.length_take]; omega
  refine ⟨a, cap, by rw [hl], by omega, h2, fun i hi => ?_⟩
  rw [hl] at hi
  obtain ⟨b, o, ha, hc⟩ := h i (by omega)
  exact ⟨b, o, ha, by rw [getD_takeL xs k i hi]; exact hc⟩
set_option maxHeartbeats 2000000 in
theorem implFault_late (id : Int) (x : Value) (xs : List Leg) (w : World) (hx : LegsV w x xs) (hid : inB id 1 1000000000 = true) (hn2 : 2 ≤ xs.length) (hn8 : xs.length ≤ 8) :
    Calls Try.prog 15 #[.agg #[.int .i64 id, x]] w fun e w' => e = .returned (.int .i64 (contractFault id xs)) ∧ Below w.heap.size w w' := by
  have hx0 := hx
  obtain ⟨ax, cx, rfl, hcx, hmx, hx⟩ := hx
  have HX0 : Hid (LegsV w (.slice ax xs.length cx) xs) := hx0
  clear hx0
  have HMX : Hid (cx ≤ maxLen) := hmx
  unfold maxLen at hmx
  generalize hn' : xs.length = n at *
  have HN : Hid (xs.length = n) := hn'
  clear hn'
  have h1 : ¬ (n : Int) < 2 := by omega
  have h2 : ¬ (8 : Int) < (n : Int) := by omega
  go_enter Try.func15, Try.ntmps15
  go_wp2_with (go_at_call 50; refine (isId_any _ _).mono ?_; rintro e w' ⟨rfl, rfl⟩)
  go_loopw [23] (fun i w' => ∃ k : Nat, k ≤ n ∧ i = .int .i64 k ∧ okTo xs k ∧ w'.cell? ⟨w.heap.size, 1, none⟩ = some (.slice ax n cx) ∧ w.heap.size < w'.heap.size ∧ Below w.heap.size w w') (fun i _ => n - (intOf i).toNat)
  case atStart => exact ⟨0, Nat.zero_le _, rfl, fun j h => by omega, by simp [go_sem], by simp, balloc (Below.refl _ _) _⟩
  case round =>
    obtain ⟨k, hk, rfl, hok, hcx1, hsz, hbl⟩ := hrel
    generalize wr = wo at *
    have HO : Hid (okTo xs k) := hok
    clear hok
    by_cases hlt : k < n
    · obtain ⟨bx, ox, rfl, g1⟩ := hx k hlt
      have HX : Hid (∀ i, i < n → ∃ b o, some (⟨bx, ox, none⟩ : Addr) = some ⟨b, o, none⟩ ∧ legCells w b (o + i * 4) (xs.getD i default)) := hx
      clear hx
      obtain ⟨l, hl⟩ : ∃ l, l = xs.getD k default := ⟨_, rfl⟩
      rw [← hl] at g1
      have HL : Hid (l = xs.getD k default) := hl
      clear hl
      obtain ⟨a1, a2, a3, a4⟩ := legCells_below hbl g1
      go_wp2_with fail
      refine (implLegFault_any l _).mono ?_
      rintro e w2 ⟨rfl, hb2⟩
      obtain ⟨hc2, hf2⟩ := bcell hb2
      have hbl2 : Below w.heap.size w w2 := bstep (balloc hbl _) hb2
      have hz2 : wo.heap.size < w2.heap.size := by have := hb2.size; simp at this; omega
      have hcx2 : w2.cell? ⟨w.heap.size, 1, none⟩ = some (.slice (some ⟨bx, ox, none⟩) n cx) := by
        rw [hc2 _ _ (by simp; omega)]; simp [go_sem, hcx1, show w.heap.size < wo.heap.size by omega]
      have hl2 : legCells w2 wo.heap.size 0 l := by
        refine ⟨?_, ?_, ?_, ?_⟩ <;> (rw [hc2 _ _ (by simp)]; simp [go_sem])
      clear hc2 hf2 hb2 a1 a2 a3 a4 hcx1 hbl
      by_cases hlf : legFault l = 0
      · have HF : Hid (legFault l = 0) := hlf
        rw [hlf]
        clear hlf
        have hkb : (k : Int) ≤ (cx : Int) := by omega
        have hk0 : (0 : Int) ≤ (k : Int) := by omega
        go_wp2
        go_region_held3 (fun w' => Below w2.heap.size w2 w' ∧ w'.cell? ⟨w.heap.size, 1, none⟩ = some (.slice (some ⟨bx, ox, none⟩) n cx) ∧ w'.cell? ⟨wo.heap.size, 0, none⟩ = some (.int .i64 l.sh) ∧ w'.cell? ⟨wo.heap.size, 1, none⟩ = some (.int .i64 l.ac) ∧ w'.cell? ⟨wo.heap.size, 2, none⟩ = some (.int .i64 l.ast) ∧ w'.cell? ⟨wo.heap.size, 3, none⟩ = some (.int .i64 l.am))
          ((refine (fun hb => ⟨hb, (hb.cell (p := ⟨w.heap.size, 1, none⟩) (by exact Nat.lt_trans hsz hz2)).trans hcx2, legCells_below hb hl2⟩ : Below w2.heap.size w2 _ → _) ?_; repeat (first | exact Below.refl _ _ | assumption | refine Below.drew ?_ | refine bstep ?_ (by assumption))))
          (first | (go_at_call 58; refine (hasPlaceOf_any _ (xs.take k) l _ ?_).mono ?_; exact LegsV_take HN.out hk hcx HMX.out (fun i hi => (HX.out i hi).imp fun b h => h.imp fun o h => ⟨h.1, legCells_below (bstep hbl2 (Below.refl _ _).drew) h.2⟩); rintro e w' ⟨rfl, hb3⟩))
        rename_i hH
        have hB := hH.1
        have hc1' := hH.2.1
        clear hH
        have hBw : Below w.heap.size w w' := bstep hbl2 hB
        go_wp2
        · rename_i hs
          go_ret
          refine ⟨?_, hBw⟩
          have := HN.out
          rw [cf_taken hid (by omega) (by omega) (k := k) (by omega) HO.out (by rw [← HL.out]; exact HF.out) (by rw [← HL.out]; exact hs)]
          rfl
        · rename_i hs
          refine ⟨⟨k + 1, by omega, by go_num, okTo_succ HO.out (by rw [← HL.out]; exact HF.out) (by rw [← HL.out]; simpa using hs), hc1', by have := hB.size; omega, hBw⟩, by simp [intOf]; omega⟩
      · have hd : (legFault l == 0) = false := by simpa using hlf
        go_wp2
        go_ret
        refine ⟨?_, hbl2⟩
        have := HN.out
        rw [cf_bad hid (by omega) (by omega) (k := k) (by omega) HO.out (by rw [← HL.out]; exact hlf), ← HL.out]
        rfl
    · have hkn : k = n := by omega
      subst hkn
      have HO' : Hid (okTo xs xs.length) := by rw [HN.out]; exact HO.out
      go_wp2_with fail
      refine (sumsFault_any _ xs _ (LegsV_below HX0.out hbl) (by have := HN.out; omega) (small_of_ok HO'.out)).mono ?_
      rintro e w1 ⟨rfl, hb1⟩
      go_wp2
      go_ret
      refine ⟨?_, bstep hbl hb1⟩
      have := HN.out
      have e : contractFault id xs = sumsF xs := by
        rw [cf_val hid (by omega) (by omega), scan_ok HO'.out, if_pos rfl, sumsF]
      rw [e]
      rfl
theorem implFault_any (id : Int) (x : Value) (xs : List Leg) (w : World) (hx : LegsV w x xs) :
    Calls Try.prog 15 #[.agg #[.int .i64 id, x]] w fun e w' => e = .returned (.int .i64 (contractFault id xs)) ∧ Below w.heap.size w w' := by
  by_cases h : inB id 1 1000000000 = false ∨ xs.length < 2 ∨ 8 < xs.length
  · exact implFault_early id x xs w hx h
  · have h1 : inB id 1 1000000000 = true := by
      cases hb : inB id 1 1000000000 with
      | true => rfl
      | false => exact absurd (Or.inl hb) h
    exact implFault_late id x xs w hx h1 (by omega) (by omega)
end Go.Proofs.Yteebglgbeijolaa

/-
  SumOf on both sides, and how its answers are compared.
-/
namespace Go.Proofs.Yteebglgbeijolaa
open Go.RowKit
set_option linter.unusedSectionVars false
variable [DecidableEq Leg] [Inhabited Leg]
attribute [local go_sem ↓] Go.wp_at_zero Go.wp_at_succ

theorem ok_of_scan {xs : List Leg} (h : scan [] xs = 0) : ∀ k, k ≤ xs.length → okTo xs k
  | 0, _ => fun j hj => by omega
  | k + 1, hk => by
    have ih := ok_of_scan h k (by omega)
    by_cases h0 : legFault (xs.getD k default) = 0
    · cases h1 : hasPlace (xs.take k) (xs.getD k default) with
      | false => exact okTo_succ ih h0 h1
      | true => have := scan_taken (by omega) ih h0 h1; omega
    · have := scan_bad (by omega) ih h0; omega
theorem cf_inv {id : Int} {xs : List Leg} (h : contractFault id xs = 0) : inB id 1 1000000000 = true ∧ 2 ≤ xs.length ∧ xs.length ≤ 8 ∧ okTo xs xs.length ∧ sumA 0 xs = 0 ∧ sumA 1 xs = 0 ∧ sumA 2 xs = 0 := by
  unfold contractFault at h
  split at h
  · rename_i h1
    split at h
    · omega
    · split at h
      · rename_i h3
        split at h
        · rename_i h4
          exact ⟨h1, by omega, by omega, ok_of_scan h3 _ (Nat.le_refl _), h4⟩
        · omega
      · omega
  · omega
def sumCode (id : Int) (xs : List Leg) (asset : Int) : Int := if contractFault id xs = 0 then (if inB asset 0 2 then 0 else 3) else contractFault id xs
def sumVal (id : Int) (xs : List Leg) (asset : Int) : Int := if contractFault id xs = 0 ∧ inB asset 0 2 = true then givenA asset xs else 0
set_option maxHeartbeats 1000000 in
theorem implSumOf_any (id : Int) (x : Value) (xs : List Leg) (asset : Int) (w : World) (hx : LegsV w x xs) :
    Calls Try.prog 14 #[.agg #[.int .i64 id, x], .int .i64 asset] w fun e w' => e = .returned (.agg #[.int .i64 (sumCode id xs asset), .int .i64 (sumVal id xs asset)]) ∧ Below w.heap.size w w' := by
  go_enter Try.func14, Try.ntmps14
  go_wp2_with fail
  refine (implFault_any id x xs _ (LegsV_below hx (balloc (balloc (Below.refl _ _) _) _))).mono ?_
  rintro e w1 ⟨rfl, hb1⟩
  have hB1 : Below w.heap.size w w1 := bstep (balloc (balloc (Below.refl _ _) _) _) hb1
  obtain ⟨hc1, hf1⟩ := bcell hb1
  by_cases hcf : contractFault id xs = 0
  · have HC : Hid (contractFault id xs = 0) := hcf
    rw [hcf]
    clear hcf
    cases ha : inB asset 0 2 with
    | false =>
      go_wp2_with (go_at_call 55; refine (isAsset_any _ _).mono ?_; rintro e w' ⟨rfl, rfl⟩)
      refine bodyPost_ret (v := .agg #[.int .i64 3, .int .i64 0]) ?_ rfl ⟨?_, bset (bset hB1 (by simp) _) (by simp) _⟩
      · simp [results, Try.results14, go_sem, hc1]
      · simp [sumCode, sumVal, HC.out, ha]
    | true =>
      obtain ⟨_, hl2, hl8, hok, _⟩ := cf_inv HC.out
      have HS : Hid (small xs) := small_of_ok hok
      clear hok
      have hcb : w1.cell? ⟨w.heap.size, 1, none⟩ = some x := by rw [hc1 _ _ (by simp; omega)]; simp [go_sem]
      have hr0 : w1.cell? ⟨w.heap.size + 1, 0, none⟩ = some (.int .i64 0) := by rw [hc1 _ _ (by simp)]; simp [go_sem]
      have hr1 : w1.cell? ⟨w.heap.size + 1, 1, none⟩ = some (.int .i64 0) := by rw [hc1 _ _ (by simp)]; simp [go_sem]
      have hrf : ∀ o, w1.frozen? ⟨w.heap.size + 1, o, none⟩ = false := fun o => by rw [hf1 _ _ (by simp)]; simp [go_sem]
      have hz : w.heap.size + 1 < w1.heap.size := World.block_lt_of_cell? _ _ hr0
      clear hc1 hf1 hb1
      go_wp2_with (go_at_call 55; refine (isAsset_any _ _).mono ?_; rintro e w' ⟨rfl, rfl⟩)
      go_wp2_with fail
      refine (sumsOf_any x xs asset _ (LegsV_below hx hB1) hl8 HS.out).mono ?_
      rintro e w2 ⟨rfl, hb2⟩
      have i0 : ∀ w, (Instr.index 99 (.agg #[.int .i64 (givenA asset xs), .int .i64 (takenA asset xs)]) (.int .i64 0)).run Try.prog w = .ok (.int .i64 (givenA asset xs)) w := fun _ => by kernel_rfl
      have hB2 := bstep hB1 hb2
      have hr0 := cell_keep hb2 hr0
      have hr1 := cell_keep hb2 hr1
      have hrf2 : ∀ o, w2.frozen? ⟨w.heap.size + 1, o, none⟩ = false := fun o => by rw [(bcell hb2).2 _ _ hz]; exact hrf o
      clear hb2 hrf
      go_wp2
      refine bodyPost_ret (v := .agg #[.int .i64 0, .int .i64 (givenA asset xs)]) ?_ rfl ⟨?_, bset (bset hB2 (by simp) _) (by simp) _⟩
      · simp [results, Try.results14, go_sem, hr0, hr1]
      · simp [sumCode, sumVal, HC.out, ha]
  · have hd : (contractFault id xs == 0) = false := by simpa using hcf
    go_wp2
    refine bodyPost_ret (v := .agg #[.int .i64 (contractFault id xs), .int .i64 0]) ?_ rfl ⟨?_, bset (bset hB1 (by simp) _) (by simp) _⟩
    · simp [results, Try.results14, go_sem, hc1]
    · simp [sumCode, sumVal, hcf]
end Go.Proofs.Yteebglgbeijolaa

/-
  The legs of one shard, on both sides.
-/
namespace Go.Proofs.Yteebglgbeijolaa
open Go.RowKit
set_option linter.unusedSectionVars false
variable [DecidableEq Leg] [Inhabited Leg]
attribute [local go_sem ↓] Go.wp_at_zero Go.wp_at_succ

def onSh (s : Int) (xs : List Leg) : List Leg := xs.filter (fun l => l.sh == s)
theorem onSh_hit (s : Int) (xs : List Leg) (k : Nat) (h : k < xs.length) (hs : (xs.getD k default).sh = s) : onSh s (xs.take (k + 1)) = onSh s (xs.take k) ++ [xs.getD k default] := by
  rw [take_snoc xs k h]; simp only [onSh, List.filter_append]; simp only [List.filter_cons, List.filter_nil, hs, beq_self_eq_true, if_true]
theorem onSh_miss (s : Int) (xs : List Leg) (k : Nat) (h : k < xs.length) (hs : ¬ (xs.getD k default).sh = s) : onSh s (xs.take (k + 1)) = onSh s (xs.take k) := by
  rw [take_snoc xs k h]; simp only [onSh, List.filter_append, List.filter_cons, List.filter_nil, beq_eq_false_iff_ne.2 hs]; simp
theorem onSh_le (s : Int) (xs : List Leg) (k : Nat) : (onSh s (xs.take k)).length ≤ k := by
  have := List.length_filter_le (fun l : Leg => l.sh == s) (xs.take k)
  have h2 := List.length_take_le k xs
  simp only [onSh]; omega
theorem legsC_snoc (xs : List Leg) (l : Leg) : legsC (xs ++ [l]) = legsC xs ++ legC l := by simp [legsC]
theorem legC_one (l : Leg) : ∀ u ∈ legC l, u.oneCell' = true := by
  intro u hu
  simp only [legC, List.mem_cons, List.not_mem_nil, or_false] at hu
  rcases hu with rfl | rfl | rfl | rfl <;> rfl
theorem legC_cells {w : World} {b o : Nat} {l : Leg} (h : legCells w b o l) : ∀ j u, (legC l)[j]? = some u → w.cell? ((⟨b, o, none⟩ : Addr).add j) = some u := by
  obtain ⟨h0, h1, h2, h3⟩ := h
  intro j u hj
  match j, hj with
  | 0, hj => simp [legC] at hj; subst hj; simpa [Addr.add] using h0
  | 1, hj => simp [legC] at hj; subst hj; simpa [Addr.add] using h1
  | 2, hj => simp [legC] at hj; subst hj; simpa [Addr.add] using h2
  | 3, hj => simp [legC] at hj; subst hj; simpa [Addr.add] using h3
  | j + 4, hj => simp [legC] at hj
theorem owns_grown {w w' : World} {B : Nat} {base e size : Nat} {v : Value} {n : Nat} {xs : List Value} (h : w.ownsRow base e size v n xs) {W : World} (hb : Below B W w) (hB : B ≤ w.heap.size) (hbase : B ≤ base) (hg : w.grownBy w' v.ownBlock) : Below B W w' :=
  hb.grown hg hB (fun k hk => Nat.le_trans hbase (h.lt k hk).1)
set_option maxHeartbeats 1000000 in
theorem legsOn_any (x : Value) (xs : List Leg) (s : Int) (w : World) (hx : LegsV w x xs) (hn : xs.length ≤ 1048576) :
    Calls Try.prog 53 #[x, .int .i64 s] w fun e w' => ∃ v, e = .returned v ∧ w'.ownsRow w.heap.size 97 4 v (onSh s xs).length (legsC (onSh s xs)) ∧ Below w.heap.size w w' := by
  obtain ⟨ax, cx, rfl, hcx, hmx, hx⟩ := hx
  unfold maxLen at hmx
  obtain ⟨i0, hi, hz0, hz1, hz2⟩ := info_parts infoLeg
  generalize hn' : xs.length = n at *
  have HN : Hid (xs.length = n) := hn'
  clear hn'
  go_enter Try.func53, Try.ntmps53
  go_wp2
  go_loopw [5, 10] (fun v i w' => ∃ k : Nat, k ≤ n ∧ i = .int .i64 k ∧ w'.ownsRow w.heap.size 97 4 v (onSh s (xs.take k)).length (legsC (onSh s (xs.take k))) ∧ Below w.heap.size w w') (fun _ i _ => n - (intOf i).toNat)
  case atStart => exact ⟨0, Nat.zero_le _, rfl, by simpa [onSh, legsC] using World.ownsRow_nil _ _ _ _, Below.refl _ _⟩
  case round =>
    obtain ⟨k, hk, rfl, ho, hbl⟩ := hrel
    by_cases hlt : k < n
    · obtain ⟨bx, ox, rfl, g1⟩ := hx k hlt
      obtain ⟨l, hl⟩ : ∃ l, l = xs.getD k default := ⟨_, rfl⟩
      rw [← hl] at g1
      have HL : Hid (l = xs.getD k default) := hl
      clear hl hx
      obtain ⟨a1, a2, a3, a4⟩ := legCells_below hbl g1
      have hkx : k < xs.length := by have := HN.out; omega
      have hle := onSh_le s xs k
      have hsz := hbl.size
      by_cases hs : l.sh = s
      · have e1 := onSh_hit s xs k hkx (by rw [← HL.out]; exact hs)
        rw [← HL.out] at e1
        have HE : Hid (onSh s (xs.take (k + 1)) = onSh s (xs.take k) ++ [l]) := e1
        have HS : Hid (l.sh = s) := hs
        have hd : (l.sh == s) = true := by simpa using hs
        generalize onSh s (xs.take k) = ys at *
        clear e1 hs
        go_wp2_with (at_builtin; refine wpList_append_own _ rfl _ _ 24 rfl w.heap.size 97 i0 _ 4 32 Try.underlying24 hi hz0 hz1 hz2 rfl (by decide) _ _ _ rfl ((ho.alloc _).alloc _) ⟨wr.heap.size + 1, 0, none⟩ 1 1 (legC l) rfl rfl ?c1 (legC_one l) ?c3 ?c4 ?c5 ?_)
        case c1 => exact legC_cells (b := wr.heap.size + 1) (o := 0) ⟨by simp [go_sem], by simp [go_sem], by simp [go_sem], by simp [go_sem]⟩
        case c3 => unfold maxLen; omega
        case c4 => omega
        case c5 => simp; omega
        · intro v' w1 hown' hgrow _
          have hB1 : Below w.heap.size w w1 := owns_grown ((ho.alloc _).alloc _) (balloc (balloc hbl _) _) (by simp; omega) (Nat.le_refl _) hgrow
          clear hgrow ho a1 a2 a3 a4
          go_wp2
          refine ⟨⟨k + 1, by omega, by go_num, ?_, hB1⟩, by simp [intOf]; omega⟩
          rw [HE.out, legsC_snoc, List.length_append]
          exact hown'
      · have e1 := onSh_miss s xs k hkx (by rw [← HL.out]; exact hs)
        have HE : Hid (onSh s (xs.take (k + 1)) = onSh s (xs.take k)) := e1
        have hd : (l.sh == s) = false := by simpa using hs
        clear e1 hs
        go_wp2
        refine ⟨⟨k + 1, by omega, by go_num, ?_, balloc hbl _⟩, by simp [intOf]; omega⟩
        rw [HE.out]
        exact ho.alloc _
    · go_wp2
      go_ret
      have hkn : k = n := by omega
      subst hkn
      have t0 : xs.take k = xs := by rw [← HN.out]; exact List.take_length
      rw [t0] at ho
      exact ⟨_, rfl, ho, hbl⟩
end Go.Proofs.Yteebglgbeijolaa

/-
  ReverseOf on both sides, and its answers compared, marked and read back.
-/
namespace Go.Proofs.Yteebglgbeijolaa
open Go.RowKit
set_option linter.unusedSectionVars false
variable [DecidableEq Leg] [Inhabited Leg]
attribute [local go_sem ↓] Go.wp_at_zero Go.wp_at_succ

def turnL (l : Leg) : Leg := ⟨l.sh, l.ac, l.ast, -l.am⟩
def turn (xs : List Leg) : List Leg := xs.map turnL
theorem turn_len (xs : List Leg) : (turn xs).length = xs.length := by simp [turn]
theorem turn_getD (xs : List Leg) (k : Nat) (h : k < xs.length) : (turn xs).getD k default = turnL (xs.getD k default) := by simp [turn, List.getD, h]
theorem turn_snoc (xs : List Leg) (k : Nat) (h : k < xs.length) : turn (xs.take (k + 1)) = turn (xs.take k) ++ [turnL (xs.getD k default)] := by
  rw [take_snoc xs k h]; simp [turn]
def revOk (id : Int) (xs : List Leg) (nid : Int) : Bool := decide (contractFault id xs = 0) && inB nid 1 1000000000
def revCode (id : Int) (xs : List Leg) (nid : Int) : Int := if contractFault id xs = 0 then (if inB nid 1 1000000000 then 0 else 3) else contractFault id xs
def revId (id : Int) (xs : List Leg) (nid : Int) : Int := if revOk id xs nid then nid else 0
def revLegs (id : Int) (xs : List Leg) (nid : Int) : List Leg := if revOk id xs nid then turn xs else []
set_option maxRecDepth 20000 in
set_option maxHeartbeats 1000000 in
theorem turnedRound_any (x : Value) (xs : List Leg) (w : World) (hx : LegsV w x xs) (hn : xs.length ≤ 1048576) (hs : small xs) :
    Calls Try.prog 51 #[x] w fun e w' => ∃ v, e = .returned v ∧ w'.ownsRow w.heap.size 97 4 v (turn xs).length (legsC (turn xs)) ∧ Below w.heap.size w w' := by
  obtain ⟨ax, cx, rfl, hcx, hmx, hx⟩ := hx
  unfold maxLen at hmx
  obtain ⟨i0, hi, hz0, hz1, hz2⟩ := info_parts infoLeg
  obtain ⟨w1, hmk, hown, hgr⟩ := run_make_full (P := Try.prog) w w.heap.size 24 97 i0 _ 4 Try.underlying24 hi hz0 hz1 .i64 .i64 xs.length (by rw [hz2]; omega) (by unfold maxLen; omega) (Nat.le_refl _)
  have hbl0 : Below w.heap.size w w1 := (Below.refl _ _).grown hgr (Nat.le_refl _) (fun k h => by cases h)
  have hzz : w.heap.size < w1.heap.size := by
    rcases hown.2 with ⟨h, _⟩ | ⟨g, cap, cur, h, _, hg, _⟩
    · simp at h
    · simp at h
      obtain ⟨rfl, _⟩ := h
      exact (Array.getElem?_eq_some_iff.1 hg).1
  have HS : Hid (small xs) := hs
  clear hs
  generalize hn' : xs.length = n at *
  have HN : Hid (xs.length = n) := hn'
  clear hn'
  go_enter Try.func51, Try.ntmps51
  go_wp2
  go_loopw [11] (fun i w' => ∃ (k : Nat) (cs : List Value), k ≤ n ∧ i = .int .i64 k ∧ w'.ownsRow w.heap.size 97 4 (.slice (some ⟨w.heap.size, 0, none⟩) n n) n cs ∧ upto k cs (turn xs) ∧ w.heap.size < w'.heap.size ∧ Below w.heap.size w w') (fun i _ => n - (intOf i).toNat)
  case atStart => exact ⟨0, _, Nat.zero_le _, rfl, hown, fun j h => by omega, hzz, hbl0⟩
  case round =>
    obtain ⟨k, cs, hk, rfl, ho, hup, hz, hbl⟩ := hrel
    have HU : Hid (upto k cs (turn xs)) := hup
    clear hup hown hmk hgr hbl0 hzz
    by_cases hlt : k < n
    · obtain ⟨bx, ox, rfl, h1⟩ := hx k hlt
      obtain ⟨l, hl⟩ : ∃ l, l = xs.getD k default := ⟨_, rfl⟩
      rw [← hl] at h1
      have H1 : Hid (l = xs.getD k default) := hl
      clear hl hx
      obtain ⟨a1, a2, a3, a4⟩ := legCells_below hbl h1
      have sb := HS.out k (by have := HN.out; omega)
      rw [← H1.out] at sb
      obtain ⟨sb1, sb2⟩ := sb
      obtain ⟨u0, g0⟩ := owns_some ho (k * 4) (by omega)
      obtain ⟨u1, g1⟩ := owns_some ho (k * 4 + 1) (by omega)
      obtain ⟨u2, g2⟩ := owns_some ho (k * 4 + 2) (by omega)
      obtain ⟨u3, g3⟩ := owns_some ho (k * 4 + 3) (by omega)
      have hf := fun j => ho.frozenAt j
      go_wp2
      have s0 := ho.stored (k * 4) (.int .i64 l.sh)
      have s1 := s0.1.stored (k * 4 + 1) (.int .i64 l.ac)
      have s2 := s1.1.stored (k * 4 + 2) (.int .i64 l.ast)
      have s3 := s2.1.stored (k * 4 + 3) (.int .i64 (-l.am))
      refine ⟨⟨k + 1, _, by omega, by go_num, s3.1.alloc _, upto_set (l := turnL l) HU.out (by rw [turn_len]; have := HN.out; omega) (by rw [turn_len]; have := HN.out; have := ho.1; omega) ?_, by simp; omega, ?_⟩, by simp [intOf]; omega⟩
      · rw [turn_getD xs k (by have := HN.out; omega), ← H1.out]
      · exact balloc ((((hbl.setCell (Nat.le_refl _) _).setCell (Nat.le_refl _) _).setCell (Nat.le_refl _) _).setCell (Nat.le_refl _) _) _
    · go_wp2
      go_ret
      have hkn : k = n := by omega
      subst hkn
      have e := upto_full HU.out ho.1 (by rw [turn_len]; exact HN.out)
      subst e
      refine ⟨_, rfl, ?_, hbl⟩
      rw [turn_len, HN.out]
      exact ho
set_option maxRecDepth 20000 in
set_option maxHeartbeats 1000000 in
theorem implReverseOf_any (id : Int) (x : Value) (xs : List Leg) (nid : Int) (w : World) (hx : LegsV w x xs) :
    Calls Try.prog 10 #[.agg #[.int .i64 id, x], .int .i64 nid] w fun e w' => ∃ v, e = .returned (.agg #[.int .i64 (revCode id xs nid), .int .i64 (revId id xs nid), v]) ∧ w'.ownsRow w.heap.size 97 4 v (revLegs id xs nid).length (legsC (revLegs id xs nid)) ∧ Below w.heap.size w w' := by
  go_enter Try.func10, Try.ntmps10
  go_wp2_with fail
  refine (implFault_any id x xs _ (LegsV_below hx (balloc (balloc (Below.refl _ _) _) _))).mono ?_
  rintro e w1 ⟨rfl, hb1⟩
  have hB1 : Below w.heap.size w w1 := bstep (balloc (balloc (Below.refl _ _) _) _) hb1
  obtain ⟨hc1, hf1⟩ := bcell hb1
  by_cases hcf : contractFault id xs = 0
  · have HC : Hid (contractFault id xs = 0) := hcf
    rw [hcf]
    clear hcf
    cases ha : inB nid 1 1000000000 with
    | false =>
      have hok : revOk id xs nid = false := by simp [revOk, ha]
      go_wp2_with (go_at_call 50; refine (isId_any _ _).mono ?_; rintro e w' ⟨rfl, rfl⟩)
      refine bodyPost_ret (v := .agg #[.int .i64 3, .int .i64 0, .slice none 0 0]) ?_ rfl ⟨.slice none 0 0, ?_, ?_, bset (bset (bset hB1 (by simp) _) (by simp) _) (by simp) _⟩
      · simp [results, Try.results10, go_sem, hc1]
      · simp [revCode, revId, HC.out, ha, hok]
      · rw [show revLegs id xs nid = [] by simp [revLegs, hok]]; exact World.ownsRow_nil _ _ _ _
    | true =>
      have hok : revOk id xs nid = true := by simp [revOk, ha, HC.out]
      obtain ⟨_, hl2, hl8, hokk, _⟩ := cf_inv HC.out
      have HS : Hid (small xs) := small_of_ok hokk
      clear hokk
      have hcb : w1.cell? ⟨w.heap.size, 1, none⟩ = some x := by rw [hc1 _ _ (by simp; omega)]; simp [go_sem]
      have hr0 : w1.cell? ⟨w.heap.size + 1, 0, none⟩ = some (.int .i64 0) := by rw [hc1 _ _ (by simp)]; simp [go_sem]
      have hr1 : w1.cell? ⟨w.heap.size + 1, 1, none⟩ = some (.int .i64 0) := by rw [hc1 _ _ (by simp)]; simp [go_sem]
      have hr2 : w1.cell? ⟨w.heap.size + 1, 2, none⟩ = some (.slice none 0 0) := by rw [hc1 _ _ (by simp)]; simp [go_sem]
      have hrf : ∀ o, w1.frozen? ⟨w.heap.size + 1, o, none⟩ = false := fun o => by rw [hf1 _ _ (by simp)]; simp [go_sem]
      have hz : w.heap.size + 1 < w1.heap.size := World.block_lt_of_cell? _ _ hr0
      clear hc1 hf1 hb1
      go_wp2_with (go_at_call 50; refine (isId_any _ _).mono ?_; rintro e w' ⟨rfl, rfl⟩)
      go_wp2_with fail
      refine (turnedRound_any x xs _ (LegsV_below hx hB1) (by omega) HS.out).mono ?_
      rintro e w2 ⟨v, rfl, ho, hb2⟩
      obtain ⟨p, q, rfl⟩ := owns_form ho
      have hB2 := bstep hB1 hb2
      have hr0 := cell_keep hb2 hr0
      have hr1 := cell_keep hb2 hr1
      have hr2 := cell_keep hb2 hr2
      have hrf2 : ∀ o, w2.frozen? ⟨w.heap.size + 1, o, none⟩ = false := fun o => by rw [(bcell hb2).2 _ _ hz]; exact hrf o
      clear hb2 hrf
      go_wp2
      have hal : revLegs id xs nid = turn xs := by simp [revLegs, hok]
      refine bodyPost_ret (v := .agg #[.int .i64 0, .int .i64 nid, .slice p (turn xs).length q]) ?_ rfl ⟨.slice p (turn xs).length q, ?_, ?_, bset (bset (bset hB2 (by simp) _) (by simp) _) (by simp) _⟩
      · simp [results, Try.results10, go_sem, hr0, hr1, hr2]
      · simp [revCode, revId, HC.out, ha, hok]
      · rw [hal]
        exact owns_base (owns_setCell (owns_setCell (owns_setCell ho (by simp; omega) _) (by simp; omega) _) (by simp; omega) _) (by omega)
  · have hd : (contractFault id xs == 0) = false := by simpa using hcf
    have hok : revOk id xs nid = false := by simp [revOk, hcf]
    go_wp2
    refine bodyPost_ret (v := .agg #[.int .i64 (contractFault id xs), .int .i64 0, .slice none 0 0]) ?_ rfl ⟨.slice none 0 0, ?_, ?_, bset (bset (bset hB1 (by simp) _) (by simp) _) (by simp) _⟩
    · simp [results, Try.results10, go_sem, hc1]
    · simp [revCode, revId, hcf, hok]
    · rw [show revLegs id xs nid = [] by simp [revLegs, hok]]; exact World.ownsRow_nil _ _ _ _
set_option maxRecDepth 20000 in
set_option maxHeartbeats 1000000 in
theorem specReverseOf_any (id : Int) (x : Value) (xs : List Leg) (nid : Int) (w : World) (hx : LegsV w x xs) :
    Calls Try.prog 11 #[.agg #[.int .i64 id, x], .int .i64 nid] w fun e w' => ∃ v, e = .returned (.agg #[.int .i64 (revCode id xs nid), .int .i64 (revId id xs nid), v]) ∧ w'.ownsRow w.heap.size 97 4 v (revLegs id xs nid).length (legsC (revLegs id xs nid)) ∧ Below w.heap.size w w' := by
  obtain ⟨i0, hi, hz0, hz1, hz2⟩ := info_parts infoLeg
  go_enter Try.func11, Try.ntmps11
  go_wp2_with fail
  refine (specFault_any id x xs _ (LegsV_below hx (balloc (balloc (Below.refl _ _) _) _))).mono ?_
  rintro e w1 ⟨rfl, hb1⟩
  have hB1 : Below w.heap.size w w1 := bstep (balloc (balloc (Below.refl _ _) _) _) hb1
  obtain ⟨hc1, hf1⟩ := bcell hb1
  by_cases hcf : contractFault id xs = 0
  · have HC : Hid (contractFault id xs = 0) := hcf
    rw [hcf]
    clear hcf
    cases ha : inB nid 1 1000000000 with
    | false =>
      have hok : revOk id xs nid = false := by simp [revOk, ha]
      go_wp2_with (go_at_call 52; refine (l1Id_any _ _).mono ?_; rintro e w' ⟨rfl, rfl⟩)
      refine bodyPost_ret (v := .agg #[.int .i64 3, .int .i64 0, .slice none 0 0]) ?_ rfl ⟨.slice none 0 0, ?_, ?_, bset (bset (bset hB1 (by simp) _) (by simp) _) (by simp) _⟩
      · simp [results, Try.results11, go_sem, hc1]
      · simp [revCode, revId, HC.out, ha, hok]
      · rw [show revLegs id xs nid = [] by simp [revLegs, hok]]; exact World.ownsRow_nil _ _ _ _
    | true =>
      have hok : revOk id xs nid = true := by simp [revOk, ha, HC.out]
      obtain ⟨_, hl2, hl8, hokk, _⟩ := cf_inv HC.out
      have HS : Hid (small xs) := small_of_ok hokk
      clear hokk
      have hcb : w1.cell? ⟨w.heap.size, 1, none⟩ = some x := by rw [hc1 _ _ (by simp; omega)]; simp [go_sem]
      have hr0 : w1.cell? ⟨w.heap.size + 1, 0, none⟩ = some (.int .i64 0) := by rw [hc1 _ _ (by simp)]; simp [go_sem]
      have hr1 : w1.cell? ⟨w.heap.size + 1, 1, none⟩ = some (.int .i64 0) := by rw [hc1 _ _ (by simp)]; simp [go_sem]
      have hr2 : w1.cell? ⟨w.heap.size + 1, 2, none⟩ = some (.slice none 0 0) := by rw [hc1 _ _ (by simp)]; simp [go_sem]
      have hrf : ∀ o, w1.frozen? ⟨w.heap.size + 1, o, none⟩ = false := fun o => by rw [hf1 _ _ (by simp)]; simp [go_sem]
      have hz : w.heap.size + 1 < w1.heap.size := World.block_lt_of_cell? _ _ hr0
      clear hc1 hf1 hb1
      go_wp2_with (go_at_call 52; refine (l1Id_any _ _).mono ?_; rintro e w' ⟨rfl, rfl⟩)
      obtain ⟨ax, cx, rfl, hcx, hmx, hxx⟩ := LegsV_below hx hB1
      unfold maxLen at hmx
      clear hx
      generalize hn' : xs.length = n at *
      have HN : Hid (xs.length = n) := hn'
      clear hn'
      go_loopw [7] (fun i w2 => ∃ (k : Nat) (v : Value), k ≤ n ∧ i = .int .i64 k ∧ w2.ownsRow (w'.heap.size + 1) 97 4 v (turn (xs.take k)).length (legsC (turn (xs.take k))) ∧ w2.cell? ⟨w'.heap.size, 0, none⟩ = some (.int .i64 nid) ∧ w2.cell? ⟨w'.heap.size, 1, none⟩ = some v ∧
          (∀ o, w2.frozen? ⟨w'.heap.size, o, none⟩ = false) ∧ Below w'.heap.size w' w2) (fun i _ => n - (intOf i).toNat)
      case atStart => exact ⟨0, .slice none 0 0, Nat.zero_le _, rfl, by simpa [turn, legsC] using World.ownsRow_nil _ _ _ _, by simp [go_sem], by simp [go_sem], by simp [go_sem], balloc (Below.refl _ _) _⟩
      case round =>
        obtain ⟨k, v, hk, rfl, ho, b0, b1, bf, hbl⟩ := hrel
        have hcb := cell_keep hbl hcb
        have hzw : w'.heap.size < wr.heap.size := World.block_lt_of_cell? _ _ b0
        by_cases hlt : k < n
        · obtain ⟨bx, ox, rfl, g1⟩ := hxx k hlt
          obtain ⟨l, hl⟩ : ∃ l, l = xs.getD k default := ⟨_, rfl⟩
          rw [← hl] at g1
          have HL : Hid (l = xs.getD k default) := hl
          clear hl hxx
          obtain ⟨a1, a2, a3, a4⟩ := legCells_below hbl g1
          have sb := HS.out k (by have := HN.out; omega)
          rw [← HL.out] at sb
          obtain ⟨sb1, sb2⟩ := sb
          have hkx : k < xs.length := by have := HN.out; omega
          have HE : Hid (turn (xs.take (k + 1)) = turn (xs.take k) ++ [turnL l]) := by show _ = _; rw [turn_snoc xs k hkx, ← HL.out]
          have hle : (turn (xs.take k)).length ≤ k := by rw [turn_len]; exact List.length_take_le _ _
          obtain ⟨p, q, hv⟩ := owns_form ho
          subst hv
          generalize turn (xs.take k) = ys at *
          go_wp2_with (at_builtin; refine wpList_append_own _ rfl _ _ 24 rfl (w'.heap.size + 1) 97 i0 _ 4 32 Try.underlying24 hi hz0 hz1 hz2 rfl (by decide) _ _ _ rfl ((ho.alloc _).alloc _) ⟨wr.heap.size + 1, 0, none⟩ 1 1 (legC (turnL l)) rfl rfl ?c1 (legC_one _) ?c3 ?c4 ?c5 ?_)
          case c1 => exact legC_cells (b := wr.heap.size + 1) (o := 0) ⟨by simp [go_sem, turnL], by simp [go_sem, turnL], by simp [go_sem, turnL], by simp [go_sem, turnL]⟩
          case c3 => unfold maxLen; omega
          case c4 => omega
          case c5 => simp; omega
          · intro v' w3 hown' hgrow _
            obtain ⟨p', q', hv'⟩ := owns_form hown'
            subst hv'
            have o1 := own_of ((ho.alloc (.cells #[.int .i64 l.sh, .int .i64 l.ac, .int .i64 l.ast, .int .i64 (-l.am)] 97)).alloc (.cells #[.int .i64 l.sh, .int .i64 l.ac, .int .i64 l.ast, .int .i64 (-l.am)] 97))
            have i0' := hgrow.cell (cell_keep (balloc (balloc (Below.refl _ _) _) _) b0) (own_not o1 (.inl (by simp)))
            have i1' := hgrow.cell (cell_keep (balloc (balloc (Below.refl _ _) _) _) b1) (own_not o1 (.inl (by simp)))
            have i4 : ∀ o, w3.frozen? ⟨w'.heap.size, o, none⟩ = false := fun o => by
              rw [World.frozen?_of_block (w := (wr.alloc (.cells #[.int .i64 l.sh, .int .i64 l.ac, .int .i64 l.ast, .int .i64 (-l.am)] 97)).alloc (.cells #[.int .i64 l.sh, .int .i64 l.ac, .int .i64 l.ast, .int .i64 (-l.am)] 97)) (hgrow.block w'.heap.size (by simp; omega) (own_not o1 (.inl (by omega)))), (bcell (balloc (balloc (Below.refl _ _) _) _)).2 _ _ hzw]
              exact bf o
            have i6 : Below w'.heap.size w' w3 := owns_grown ((ho.alloc _).alloc _) (balloc (balloc hbl _) _) (by simp; omega) (by omega) hgrow
            clear hgrow ho b0 b1 bf hbl o1 a1 a2 a3 a4
            go_wp2
            refine ⟨⟨k + 1, .slice p' (ys.length + 1) q', by omega, by go_num, ?_, ?_, ?_, ?_, ?_⟩, by simp [intOf]; omega⟩
            · rw [HE.out, legsC_snoc, List.length_append]
              exact owns_setCell hown' (by simp) _
            · rw [set_other (by simp)]; exact i0'
            · exact set_same i1'
            · intro o; rw [World.frozen?_setCell]; exact i4 o
            · exact i6.setCell (Nat.le_refl _) _
        · have hkn : k = n := by omega
          subst hkn
          have t0 : xs.take k = xs := by rw [← HN.out]; exact List.take_length
          rw [t0] at ho
          obtain ⟨p, q, hv⟩ := owns_form ho
          subst hv
          have hr0 := cell_keep hbl hr0
          have hr1 := cell_keep hbl hr1
          have hr2 := cell_keep hbl hr2
          have hrf2 : ∀ o, wr.frozen? ⟨w.heap.size + 1, o, none⟩ = false := fun o => by rw [(bcell hbl).2 _ _ hz]; exact hrf o
          have hB2 := bstep hB1 hbl
          clear hrf
          go_wp2
          have hal : revLegs id xs nid = turn xs := by simp [revLegs, hok]
          refine bodyPost_ret (v := .agg #[.int .i64 0, .int .i64 nid, .slice p (turn xs).length q]) ?_ rfl ⟨.slice p (turn xs).length q, ?_, ?_, bset (bset (bset hB2 (by simp) _) (by simp) _) (by simp) _⟩
          · simp [results, Try.results11, go_sem, hr0, hr1, hr2]
          · simp [revCode, revId, HC.out, ha, hok]
          · rw [hal]
            exact owns_base (owns_setCell (owns_setCell (owns_setCell ho (by simp; omega) _) (by simp; omega) _) (by simp; omega) _) (by omega)
  · have hd : (contractFault id xs == 0) = false := by simpa using hcf
    have hok : revOk id xs nid = false := by simp [revOk, hcf]
    go_wp2
    refine bodyPost_ret (v := .agg #[.int .i64 (contractFault id xs), .int .i64 0, .slice none 0 0]) ?_ rfl ⟨.slice none 0 0, ?_, ?_, bset (bset (bset hB1 (by simp) _) (by simp) _) (by simp) _⟩
    · simp [results, Try.results11, go_sem, hc1]
    · simp [revCode, revId, hcf, hok]
    · rw [show revLegs id xs nid = [] by simp [revLegs, hok]]; exact World.ownsRow_nil _ _ _ _
end Go.Proofs.Yteebglgbeijolaa


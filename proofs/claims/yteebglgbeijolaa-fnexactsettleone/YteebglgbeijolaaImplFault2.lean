/-
  The program's ContractFault answers as the plain mathematics says (its loop over the legs).
-/
import Derived.Test.YteebglgbeijolaaImplFault
namespace Go.Proofs.Yteebglgbeijolaa
open Go.RowKit
set_option linter.unusedSectionVars false
variable [DecidableEq Leg] [Inhabited Leg]
attribute [local go_sem ↓] Go.wp_at_zero Go.wp_at_succ

set_option maxHeartbeats 1000000 in
theorem implFault_early (id : Int) (x : Value) (xs : List Leg) (w : World) (hx : LegsV w x xs) (h : inB id 1 1000000000 = false ∨ xs.length < 2 ∨ 8 < xs.length) :
    Calls Try.prog 15 #[.agg #[.int .i64 id, x]] w fun e w' => e = .returned (.int .i64 (contractFault id xs)) ∧ Below w.heap.size w w' := by
  obtain ⟨ax, cx, rfl, hcx, hmx, hx⟩ := hx
  unfold maxLen at hmx
  clear hx
  by_cases hid : inB id 1 1000000000 = false
  · go_enter Try.func15, Try.ntmps15
    go_wp2_with (go_at_call 50; refine (isId_any _ _).mono ?_; rintro e w' ⟨rfl, rfl⟩)
    go_ret
    exact ⟨by simp [contractFault, hid], balloc (Below.refl _ _) _⟩
  · have hid' : inB id 1 1000000000 = true := by simpa using hid
    have hn : xs.length < 2 ∨ 8 < xs.length := by
      rcases h with h | h
      · exact absurd h hid
      · exact h
    have hcf : contractFault id xs = 2 := by simp [contractFault, hid', hn]
    rw [hcf]
    generalize xs.length = n at *
    clear hid h hcf
    rcases hn with hn | hn
    · have h1 : (n : Int) < 2 := by omega
      go_enter Try.func15, Try.ntmps15
      go_wp2_with (go_at_call 50; refine (isId_any _ _).mono ?_; rintro e w' ⟨rfl, rfl⟩)
      go_ret
      exact ⟨rfl, balloc (Below.refl _ _) _⟩
    · have h1 : ¬ (n : Int) < 2 := by omega
      have h2 : (8 : Int) < (n : Int) := by omega
      go_enter Try.func15, Try.ntmps15
      go_wp2_with (go_at_call 50; refine (isId_any _ _).mono ?_; rintro e w' ⟨rfl, rfl⟩)
      go_ret
      exact ⟨rfl, balloc (Below.refl _ _) _⟩

theorem getD_takeL (xs : List Leg) (k i : Nat) (h : i < k) : (xs.take k).getD i default = xs.getD i default := by
  simp [List.getD, h]

theorem LegsV_take {w : World} {a : Option Addr} {cap n k : Nat} {xs : List Leg} (hn : xs.length = n) (hk : k ≤ n) (h1 : n ≤ cap) (h2 : cap ≤ maxLen) (h : ∀ i, i < n → ∃ b o, a = some ⟨b, o, none⟩ ∧ legCells w b (o + i * 4) (xs.getD i default)) :
    LegsV w (.slice a k cap) (xs.take k) := by
  have hl : (xs.take k).length = k := by rw [List.length_take]; omega
  refine ⟨a, cap, by rw [hl], by omega, h2, fun i hi => ?_⟩
  rw [hl] at hi
  obtain ⟨b, o, ha, hc⟩ := h i (by omega)
  exact ⟨b, o, ha, by rw [getD_takeL xs k i hi]; exact hc⟩

set_option maxHeartbeats 2000000 in
theorem implFault_late (id : Int) (x : Value) (xs : List Leg) (w : World) (hx : LegsV w x xs) (hid : inB id 1 1000000000 = true) (hn2 : 2 ≤ xs.length) (hn8 : xs.length ≤ 8) :
    Calls Try.prog 15 #[.agg #[.int .i64 id, x]] w fun e w' => e = .returned (.int .i64 (contractFault id xs)) ∧ Below w.heap.size w w' := by
  have hx0 := hx
  obtain ⟨ax, cx, rfl, hcx, hmx, hx⟩ := hx
  have HX0 : Hid (LegsV w (.slice ax xs.length cx) xs) := hx0
  clear hx0
  have HMX : Hid (cx ≤ maxLen) := hmx
  unfold maxLen at hmx
  generalize hn' : xs.length = n at *
  have HN : Hid (xs.length = n) := hn'
  clear hn'
  have h1 : ¬ (n : Int) < 2 := by omega
  have h2 : ¬ (8 : Int) < (n : Int) := by omega
  go_enter Try.func15, Try.ntmps15
  go_wp2_with (go_at_call 50; refine (isId_any _ _).mono ?_; rintro e w' ⟨rfl, rfl⟩)
  go_loopw [23] (fun i w' => ∃ k : Nat, k ≤ n ∧ i = .int .i64 k ∧ okTo xs k ∧ w'.cell? ⟨w.heap.size, 1, none⟩ = some (.slice ax n cx) ∧ w.heap.size < w'.heap.size ∧ Below w.heap.size w w') (fun i _ => n - (intOf i).toNat)
  case atStart => exact ⟨0, Nat.zero_le _, rfl, fun j h => by omega, by simp [go_sem], by simp, balloc (Below.refl _ _) _⟩
  case round =>
    obtain ⟨k, hk, rfl, hok, hcx1, hsz, hbl⟩ := hrel
    generalize wr = wo at *
    have HO : Hid (okTo xs k) := hok
    clear hok
    by_cases hlt : k < n
    · obtain ⟨bx, ox, rfl, g1⟩ := hx k hlt
      have HX : Hid (∀ i, i < n → ∃ b o, some (⟨bx, ox, none⟩ : Addr) = some ⟨b, o, none⟩ ∧ legCells w b (o + i * 4) (xs.getD i default)) := hx
      clear hx
      obtain ⟨l, hl⟩ : ∃ l, l = xs.getD k default := ⟨_, rfl⟩
      rw [← hl] at g1
      have HL : Hid (l = xs.getD k default) := hl
      clear hl
      obtain ⟨a1, a2, a3, a4⟩ := legCells_below hbl g1
      go_wp2_with fail
      refine (implLegFault_any l _).mono ?_
      rintro e w2 ⟨rfl, hb2⟩
      obtain ⟨hc2, hf2⟩ := bcell hb2
      have hbl2 : Below w.heap.size w w2 := bstep (balloc hbl _) hb2
      have hz2 : wo.heap.size < w2.heap.size := by have := hb2.size; simp at this; omega
      have hcx2 : w2.cell? ⟨w.heap.size, 1, none⟩ = some (.slice (some ⟨bx, ox, none⟩) n cx) := by
        rw [hc2 _ _ (by simp; omega)]; simp [go_sem, hcx1, show w.heap.size < wo.heap.size by omega]
      have hl2 : legCells w2 wo.heap.size 0 l := by
        refine ⟨?_, ?_, ?_, ?_⟩ <;> (rw [hc2 _ _ (by simp)]; simp [go_sem])
      clear hc2 hf2 hb2 a1 a2 a3 a4 hcx1 hbl
      by_cases hlf : legFault l = 0
      · have HF : Hid (legFault l = 0) := hlf
        rw [hlf]
        clear hlf
        have hkb : (k : Int) ≤ (cx : Int) := by omega
        have hk0 : (0 : Int) ≤ (k : Int) := by omega
        go_wp2
        go_region_held3 (fun w' => Below w2.heap.size w2 w' ∧ w'.cell? ⟨w.heap.size, 1, none⟩ = some (.slice (some ⟨bx, ox, none⟩) n cx) ∧ w'.cell? ⟨wo.heap.size, 0, none⟩ = some (.int .i64 l.sh) ∧ w'.cell? ⟨wo.heap.size, 1, none⟩ = some (.int .i64 l.ac) ∧ w'.cell? ⟨wo.heap.size, 2, none⟩ = some (.int .i64 l.ast) ∧ w'.cell? ⟨wo.heap.size, 3, none⟩ = some (.int .i64 l.am))
          ((refine (fun hb => ⟨hb, (hb.cell (p := ⟨w.heap.size, 1, none⟩) (by exact Nat.lt_trans hsz hz2)).trans hcx2, legCells_below hb hl2⟩ : Below w2.heap.size w2 _ → _) ?_; repeat (first | exact Below.refl _ _ | assumption | refine Below.drew ?_ | refine bstep ?_ (by assumption))))
          (first | (go_at_call 58; refine (hasPlaceOf_any _ (xs.take k) l _ ?_).mono ?_; exact LegsV_take HN.out hk hcx HMX.out (fun i hi => (HX.out i hi).imp fun b h => h.imp fun o h => ⟨h.1, legCells_below (bstep hbl2 (Below.refl _ _).drew) h.2⟩); rintro e w' ⟨rfl, hb3⟩))
        rename_i hH
        have hB := hH.1
        have hc1' := hH.2.1
        clear hH
        have hBw : Below w.heap.size w w' := bstep hbl2 hB
        go_wp2
        · rename_i hs
          go_ret
          refine ⟨?_, hBw⟩
          have := HN.out
          rw [cf_taken hid (by omega) (by omega) (k := k) (by omega) HO.out (by rw [← HL.out]; exact HF.out) (by rw [← HL.out]; exact hs)]
          rfl
        · rename_i hs
          refine ⟨⟨k + 1, by omega, by go_num, okTo_succ HO.out (by rw [← HL.out]; exact HF.out) (by rw [← HL.out]; simpa using hs), hc1', by have := hB.size; omega, hBw⟩, by simp [intOf]; omega⟩
      · have hd : (legFault l == 0) = false := by simpa using hlf
        go_wp2
        go_ret
        refine ⟨?_, hbl2⟩
        have := HN.out
        rw [cf_bad hid (by omega) (by omega) (k := k) (by omega) HO.out (by rw [← HL.out]; exact hlf), ← HL.out]
        rfl
    · have hkn : k = n := by omega
      subst hkn
      have HO' : Hid (okTo xs xs.length) := by rw [HN.out]; exact HO.out
      go_wp2_with fail
      refine (sumsFault_any _ xs _ (LegsV_below HX0.out hbl) (by have := HN.out; omega) (small_of_ok HO'.out)).mono ?_
      rintro e w1 ⟨rfl, hb1⟩
      go_wp2
      go_ret
      refine ⟨?_, bstep hbl hb1⟩
      have := HN.out
      have e : contractFault id xs = sumsF xs := by
        rw [cf_val hid (by omega) (by omega), scan_ok HO'.out, if_pos rfl, sumsF]
      rw [e]
      rfl

theorem implFault_any (id : Int) (x : Value) (xs : List Leg) (w : World) (hx : LegsV w x xs) :
    Calls Try.prog 15 #[.agg #[.int .i64 id, x]] w fun e w' => e = .returned (.int .i64 (contractFault id xs)) ∧ Below w.heap.size w w' := by
  by_cases h : inB id 1 1000000000 = false ∨ xs.length < 2 ∨ 8 < xs.length
  · exact implFault_early id x xs w hx h
  · have h1 : inB id 1 1000000000 = true := by
      cases hb : inB id 1 1000000000 with
      | true => rfl
      | false => exact absurd (Or.inl hb) h
    exact implFault_late id x xs w hx h1 (by omega) (by omega)

end Go.Proofs.Yteebglgbeijolaa

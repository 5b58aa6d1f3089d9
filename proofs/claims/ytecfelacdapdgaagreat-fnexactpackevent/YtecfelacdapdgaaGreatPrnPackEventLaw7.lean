import Derived.Test.YtecfelacdapdgaaGreatPrnPackEventLaw6
import Derived.Test.YtecfelacdapdgaaGreatPrnPackEventLaw1
import Derived.Test.YtecfelacdapdgaaGreatPrnPackEventLaw5
import Derived.Test.YtecfelacdapdgaaGreatPrnPackEventLaw3

/-
  The program's ContractFault answers as the plain mathematics says (its loop over the legs).
-/
namespace Go.Proofs.YtecfelacdapdgaaGreat
open Go.RowKit
set_option linter.unusedSectionVars false
variable [DecidableEq Leg] [Inhabited Leg]
attribute [local go_sem ↓] Go.wp_at_zero Go.wp_at_succ

set_option maxHeartbeats 1000000 in
theorem implFault_early (id : Int) (x : Value) (xs : List Leg) (w : World) (hx : LegsV w x xs) (h : inB id 1 1000000000 = false ∨ xs.length < 2 ∨ 8 < xs.length) :
    Calls Tryz.prog 91 #[.agg #[.int .i64 id, x]] w fun e w' => e = .returned (.int .i64 (contractFault id xs)) ∧ Below w.heap.size w w' := by
  obtain ⟨ax, cx, rfl, hcx, hmx, hx⟩ := hx
  unfold maxLen at hmx
  clear hx
  by_cases hid : inB id 1 1000000000 = false
  · go_enter Tryz.func91, Tryz.ntmps91
    go_wp2_with (go_at_call 96; refine (isId_any _ _).mono ?_; rintro e w' ⟨rfl, rfl⟩)
    go_ret
    exact ⟨by simp [contractFault, hid], balloc (Below.refl _ _) _⟩
  · have hid' : inB id 1 1000000000 = true := by simpa using hid
    have hn : xs.length < 2 ∨ 8 < xs.length := by
      rcases h with h | h
      · exact absurd h hid
      · exact h
    have hcf : contractFault id xs = 2 := by simp [contractFault, hid', hn]
    rw [hcf]
    generalize xs.length = n at *
    clear hid h hcf
    rcases hn with hn | hn
    · have h1 : (n : Int) < 2 := by omega
      go_enter Tryz.func91, Tryz.ntmps91
      go_wp2_with (go_at_call 96; refine (isId_any _ _).mono ?_; rintro e w' ⟨rfl, rfl⟩)
      go_ret
      exact ⟨rfl, balloc (Below.refl _ _) _⟩
    · have h1 : ¬ (n : Int) < 2 := by omega
      have h2 : (8 : Int) < (n : Int) := by omega
      go_enter Tryz.func91, Tryz.ntmps91
      go_wp2_with (go_at_call 96; refine (isId_any _ _).mono ?_; rintro e w' ⟨rfl, rfl⟩)
      go_ret
      exact ⟨rfl, balloc (Below.refl _ _) _⟩
theorem getD_takeL (xs : List Leg) (k i : Nat) (h : i < k) : (xs.take k).getD i default = xs.getD i default := by
  simp [List.getD, h]
theorem LegsV_take {w : World} {a : Option Addr} {cap n k : Nat} {xs : List Leg} (hn : xs.length = n) (hk : k ≤ n) (h1 : n ≤ cap) (h2 : cap ≤ maxLen) (h : ∀ i, i < n → ∃ b o, a = some ⟨b, o, none⟩ ∧ legCells w b (o + i * 4) (xs.getD i default)) :
    LegsV w (.slice a k cap) (xs.take k) := by
  have hl : (xs.take k).length = k := by rw [List.length_take]; omega
  refine ⟨a, cap, by rw [hl], by omega, h2, fun i hi => ?_⟩
  rw [hl] at hi
  obtain ⟨b, o, ha, hc⟩ := h i (by omega)
  exact ⟨b, o, ha, by rw [getD_takeL xs k i hi]; exact hc⟩
set_option maxHeartbeats 2000000 in
theorem implFault_late (id : Int) (x : Value) (xs : List Leg) (w : World) (hx : LegsV w x xs) (hid : inB id 1 1000000000 = true) (hn2 : 2 ≤ xs.length) (hn8 : xs.length ≤ 8) :
    Calls Tryz.prog 91 #[.agg #[.int .i64 id, x]] w fun e w' => e = .returned (.int .i64 (contractFault id xs)) ∧ Below w.heap.size w w' := by
  have hx0 := hx
  obtain ⟨ax, cx, rfl, hcx, hmx, hx⟩ := hx
  have HX0 : Hid (LegsV w (.slice ax xs.length cx) xs) := hx0
  clear hx0
  have HMX : Hid (cx ≤ maxLen) := hmx
  unfold maxLen at hmx
  generalize hn' : xs.length = n at *
  have HN : Hid (xs.length = n) := hn'
  clear hn'
  have h1 : ¬ (n : Int) < 2 := by omega
  have h2 : ¬ (8 : Int) < (n : Int) := by omega
  go_enter Tryz.func91, Tryz.ntmps91
  go_wp2_with (go_at_call 96; refine (isId_any _ _).mono ?_; rintro e w' ⟨rfl, rfl⟩)
  go_loopw [23] (fun i w' => ∃ k : Nat, k ≤ n ∧ i = .int .i64 k ∧ okTo xs k ∧ w'.cell? ⟨w.heap.size, 1, none⟩ = some (.slice ax n cx) ∧ w.heap.size < w'.heap.size ∧ Below w.heap.size w w') (fun i _ => n - (intOf i).toNat)
  case atStart => exact ⟨0, Nat.zero_le _, rfl, fun j h => by omega, by simp [go_sem], by simp, balloc (Below.refl _ _) _⟩
  case round =>
    obtain ⟨k, hk, rfl, hok, hcx1, hsz, hbl⟩ := hrel
    generalize wr = wo at *
    have HO : Hid (okTo xs k) := hok
    clear hok
    by_cases hlt : k < n
    · obtain ⟨bx, ox, rfl, g1⟩ := hx k hlt
      have HX : Hid (∀ i, i < n → ∃ b o, some (⟨bx, ox, none⟩ : Addr) = some ⟨b, o, none⟩ ∧ legCells w b (o + i * 4) (xs.getD i default)) := hx
      clear hx
      obtain ⟨l, hl⟩ : ∃ l, l = xs.getD k default := ⟨_, rfl⟩
      rw [← hl] at g1
      have HL : Hid (l = xs.getD k default) := hl
      clear hl
      obtain ⟨a1, a2, a3, a4⟩ := legCells_below hbl g1
      go_wp2_with fail
      refine (implLegFault_any l _).mono ?_
      rintro e w2 ⟨rfl, hb2⟩
      obtain ⟨hc2, hf2⟩ := bcell hb2
      have hbl2 : Below w.heap.size w w2 := bstep (balloc hbl _) hb2
      have hz2 : wo.heap.size < w2.heap.size := by have := hb2.size; simp at this; omega
      have hcx2 : w2.cell? ⟨w.heap.size, 1, none⟩ = some (.slice (some ⟨bx, ox, none⟩) n cx) := by
        rw [hc2 _ _ (by simp; omega)]; simp [go_sem, hcx1, show w.heap.size < wo.heap.size by omega]
      have hl2 : legCells w2 wo.heap.size 0 l := by
        refine ⟨?_, ?_, ?_, ?_⟩ <;> (rw [hc2 _ _ (by simp)]; simp [go_sem])
      clear hc2 hf2 hb2 a1 a2 a3 a4 hcx1 hbl
      by_cases hlf : legFault l = 0
      · have HF : Hid (legFault l = 0) := hlf
        rw [hlf]
        clear hlf
        have hkb : (k : Int) ≤ (cx : Int) := by omega
        have hk0 : (0 : Int) ≤ (k : Int) := by omega
        go_wp2
        go_region_held3 (fun w' => Below w2.heap.size w2 w' ∧ w'.cell? ⟨w.heap.size, 1, none⟩ = some (.slice (some ⟨bx, ox, none⟩) n cx) ∧ w'.cell? ⟨wo.heap.size, 0, none⟩ = some (.int .i64 l.sh) ∧ w'.cell? ⟨wo.heap.size, 1, none⟩ = some (.int .i64 l.ac) ∧ w'.cell? ⟨wo.heap.size, 2, none⟩ = some (.int .i64 l.ast) ∧ w'.cell? ⟨wo.heap.size, 3, none⟩ = some (.int .i64 l.am))
          ((refine (fun hb => ⟨hb, (hb.cell (p := ⟨w.heap.size, 1, none⟩) (by exact Nat.lt_trans hsz hz2)).trans hcx2, legCells_below hb hl2⟩ : Below w2.heap.size w2 _ → _) ?_; repeat (first | exact Below.refl _ _ | assumption | refine Below.drew ?_ | refine bstep ?_ (by assumption))))
          (first | (go_at_call 107; refine (hasPlaceOf_any _ (xs.take k) l _ ?_).mono ?_; exact LegsV_take HN.out hk hcx HMX.out (fun i hi => (HX.out i hi).imp fun b h => h.imp fun o h => ⟨h.1, legCells_below (bstep hbl2 (Below.refl _ _).drew) h.2⟩); rintro e w' ⟨rfl, hb3⟩))
        rename_i hH
        have hB := hH.1
        have hc1' := hH.2.1
        clear hH
        have hBw : Below w.heap.size w w' := bstep hbl2 hB
        go_wp2
        · rename_i hs
          go_ret
          refine ⟨?_, hBw⟩
          have := HN.out
          rw [cf_taken hid (by omega) (by omega) (k := k) (by omega) HO.out (by rw [← HL.out]; exact HF.out) (by rw [← HL.out]; exact hs)]
          rfl
        · rename_i hs
          refine ⟨⟨k + 1, by omega, by go_num, okTo_succ HO.out (by rw [← HL.out]; exact HF.out) (by rw [← HL.out]; simpa using hs), hc1', by have := hB.size; omega, hBw⟩, by simp [intOf]; omega⟩
      · have hd : (legFault l == 0) = false := by simpa using hlf
        go_wp2
        go_ret
        refine ⟨?_, hbl2⟩
        have := HN.out
        rw [cf_bad hid (by omega) (by omega) (k := k) (by omega) HO.out (by rw [← HL.out]; exact hlf), ← HL.out]
        rfl
    · have hkn : k = n := by omega
      subst hkn
      have HO' : Hid (okTo xs xs.length) := by rw [HN.out]; exact HO.out
      go_wp2_with fail
      refine (sumsFault_any _ xs _ (LegsV_below HX0.out hbl) (by have := HN.out; omega) (small_of_ok HO'.out)).mono ?_
      rintro e w1 ⟨rfl, hb1⟩
      go_wp2
      go_ret
      refine ⟨?_, bstep hbl hb1⟩
      have := HN.out
      have e : contractFault id xs = sumsF xs := by
        rw [cf_val hid (by omega) (by omega), scan_ok HO'.out, if_pos rfl, sumsF]
      rw [e]
      rfl
theorem implFault_any (id : Int) (x : Value) (xs : List Leg) (w : World) (hx : LegsV w x xs) :
    Calls Tryz.prog 91 #[.agg #[.int .i64 id, x]] w fun e w' => e = .returned (.int .i64 (contractFault id xs)) ∧ Below w.heap.size w w' := by
  by_cases h : inB id 1 1000000000 = false ∨ xs.length < 2 ∨ 8 < xs.length
  · exact implFault_early id x xs w hx h
  · have h1 : inB id 1 1000000000 = true := by
      cases hb : inB id 1 1000000000 with
      | true => rfl
      | false => exact absurd (Or.inl hb) h
    exact implFault_late id x xs w hx h1 (by omega) (by omega)
end Go.Proofs.YtecfelacdapdgaaGreat

/-
  SumOf on both sides, and how its answers are compared.
-/
namespace Go.Proofs.YtecfelacdapdgaaGreat
open Go.RowKit
set_option linter.unusedSectionVars false
variable [DecidableEq Leg] [Inhabited Leg]
attribute [local go_sem ↓] Go.wp_at_zero Go.wp_at_succ

theorem ok_of_scan {xs : List Leg} (h : scan [] xs = 0) : ∀ k, k ≤ xs.length → okTo xs k
  | 0, _ => fun j hj => by omega
  | k + 1, hk => by
    have ih := ok_of_scan h k (by omega)
    by_cases h0 : legFault (xs.getD k default) = 0
    · cases h1 : hasPlace (xs.take k) (xs.getD k default) with
      | false => exact okTo_succ ih h0 h1
      | true => have := scan_taken (by omega) ih h0 h1; omega
    · have := scan_bad (by omega) ih h0; omega
theorem cf_inv {id : Int} {xs : List Leg} (h : contractFault id xs = 0) : inB id 1 1000000000 = true ∧ 2 ≤ xs.length ∧ xs.length ≤ 8 ∧ okTo xs xs.length ∧ sumA 0 xs = 0 ∧ sumA 1 xs = 0 ∧ sumA 2 xs = 0 := by
  unfold contractFault at h
  split at h
  · rename_i h1
    split at h
    · omega
    · split at h
      · rename_i h3
        split at h
        · rename_i h4
          exact ⟨h1, by omega, by omega, ok_of_scan h3 _ (Nat.le_refl _), h4⟩
        · omega
      · omega
  · omega
end Go.Proofs.YtecfelacdapdgaaGreat

/-
  Cells that are kept. (Written by program: lawgen.py.)
-/
namespace Go.Proofs.YtecfelacdapdgaaGreat
open Go.RowKit
theorem keepN12 {w w' : World} {a0 : Addr} {x0 : Value} {a1 : Addr} {x1 : Value} {a2 : Addr} {x2 : Value} {a3 : Addr} {x3 : Value} {a4 : Addr} {x4 : Value} {a5 : Addr} {x5 : Value} {a6 : Addr} {x6 : Value} {a7 : Addr} {x7 : Value} {a8 : Addr} {x8 : Value} {a9 : Addr} {x9 : Value} {a10 : Addr} {x10 : Value} {a11 : Addr} {x11 : Value} (hb : Below w.heap.size w w') (g0 : w.cell? a0 = some x0) (g1 : w.cell? a1 = some x1) (g2 : w.cell? a2 = some x2) (g3 : w.cell? a3 = some x3) (g4 : w.cell? a4 = some x4) (g5 : w.cell? a5 = some x5) (g6 : w.cell? a6 = some x6) (g7 : w.cell? a7 = some x7) (g8 : w.cell? a8 = some x8) (g9 : w.cell? a9 = some x9) (g10 : w.cell? a10 = some x10) (g11 : w.cell? a11 = some x11) : Below w.heap.size w w' ∧ w'.cell? a0 = some x0 ∧ w'.cell? a1 = some x1 ∧ w'.cell? a2 = some x2 ∧ w'.cell? a3 = some x3 ∧ w'.cell? a4 = some x4 ∧ w'.cell? a5 = some x5 ∧ w'.cell? a6 = some x6 ∧ w'.cell? a7 = some x7 ∧ w'.cell? a8 = some x8 ∧ w'.cell? a9 = some x9 ∧ w'.cell? a10 = some x10 ∧ w'.cell? a11 = some x11 :=
  ⟨hb, cell_keep hb g0, cell_keep hb g1, cell_keep hb g2, cell_keep hb g3, cell_keep hb g4, cell_keep hb g5, cell_keep hb g6, cell_keep hb g7, cell_keep hb g8, cell_keep hb g9, cell_keep hb g10, cell_keep hb g11⟩
theorem keepS4 {w W W' : World} {a1 a2 a3 a4 : Addr} {v1 v2 v3 v4 : Value} (h : Below w.heap.size w W ∧ W.cell? a1 = some v1 ∧ W.cell? a2 = some v2 ∧ W.cell? a3 = some v3 ∧ W.cell? a4 = some v4) (hb : Below W.heap.size W W') : Below w.heap.size w W' ∧ W'.cell? a1 = some v1 ∧ W'.cell? a2 = some v2 ∧ W'.cell? a3 = some v3 ∧ W'.cell? a4 = some v4 :=
  ⟨bstep h.1 hb, cell_keep hb (h.2.1), cell_keep hb (h.2.2.1), cell_keep hb (h.2.2.2.1), cell_keep hb (h.2.2.2.2)⟩
theorem boxNew2 {Y w' : World} {B t : Nat} {v1 v2 : Value} (hb : Below (Y.alloc (.cells #[v1, v2] t)).heap.size (Y.alloc (.cells #[v1, v2] t)) w') (e : B = Y.heap.size) : w'.cell? ⟨B, 0, none⟩ = some v1 ∧ w'.cell? ⟨B, 1, none⟩ = some v2 ∧ (∀ o, w'.frozen? ⟨B, o, none⟩ = false) ∧ B < w'.heap.size := by
  subst e
  have h := hb.size
  simp only [World.size_alloc] at h
  exact ⟨cell_keep hb (by simp [go_sem]), cell_keep hb (by simp [go_sem]), fun o => by rw [(bcell hb).2 _ _ (by simp)]; simp [go_sem], by omega⟩
theorem boxKeep {W w' : World} {B : Nat} (h : (∀ o, W.frozen? ⟨B, o, none⟩ = false) ∧ B < W.heap.size) (hb : Below W.heap.size W w') : (∀ o, w'.frozen? ⟨B, o, none⟩ = false) ∧ B < w'.heap.size :=
  ⟨fun o => by rw [(bcell hb).2 _ _ h.2]; exact h.1 o, Nat.lt_of_lt_of_le h.2 hb.size⟩
end Go.Proofs.YtecfelacdapdgaaGreat

/-
  A contract's bytes: the specification's side.
-/
namespace Go.Proofs.YtecfelacdapdgaaGreat
open Go.RowKit
set_option linter.unusedSectionVars false
variable [DecidableEq BytesR] [Inhabited BytesR] [DecidableEq Leg] [Inhabited Leg] [DecidableEq Cont] [Inhabited Cont]
attribute [local go_sem ↓] Go.wp_at_zero Go.wp_at_succ

def plcBy (l : Leg) : List Byte := [toB l.sh, toB l.ac, toB l.ast]
def legBy (l : Leg) : List Byte := plcBy l ++ hiB l.am 8
def contBy (id : Int) (xs : List Leg) : List Byte := hiB id 8 ++ xs.flatMap legBy
theorem length_legBy (l : Leg) : (legBy l).length = 11 := by simp [legBy, plcBy, length_hiB]
theorem flat_legBy (xs : List Leg) : (xs.flatMap legBy).length = xs.length * 11 := by
  induction xs with
  | nil => rfl
  | cons x r ih => rw [List.flatMap_cons, List.length_append, length_legBy, ih, List.length_cons]; omega
theorem length_contBy (id : Int) (xs : List Leg) : (contBy id xs).length = 8 + xs.length * 11 := by rw [contBy, List.length_append, length_hiB, flat_legBy]
theorem contBy_take (id : Int) (xs : List Leg) (k : Nat) (h : k < xs.length) : contBy id (xs.take (k + 1)) = contBy id (xs.take k) ++ plcBy (xs.getD k default) ++ hiB (xs.getD k default).am 8 := by
  have e : xs.take (k + 1) = xs.take k ++ [xs.getD k default] := by
    rw [List.take_add_one]
    congr 1
    simp [List.getD, h]
  rw [e]
  simp only [contBy, legBy, List.flatMap_append, List.flatMap_cons, List.flatMap_nil, List.append_assoc, List.append_nil]
set_option maxHeartbeats 2000000 in
theorem l3Contract_any (id : Int) (x : Value) (xs : List Leg) (w : World) (hx : LegsV w x xs) (hn : xs.length ≤ 8) :
    Calls Tryz.prog 73 #[.agg #[.int .i64 id, x]] w fun e w' => ∃ v F, e = .returned v ∧ bytesR.O w' w.heap.size F v (contBy id xs) ∧ Below w.heap.size w w' := by
  obtain ⟨ax, cx, rfl, hcx, hmx, hx⟩ := hx
  unfold maxLen at hmx
  have hT := contBy_take id xs
  have HA : Hid (xs.take xs.length = xs) := List.take_length
  have HL : Hid (∀ k, k ≤ xs.length → (contBy id (xs.take k)).length = 8 + k * 11) := fun k hk => by rw [length_contBy, List.length_take]; congr 2; omega
  have H0 : Hid (contBy id (xs.take 0) = hiB id 8) := by simp [Hid, contBy]
  have H8 : Hid ((hiB id 8).length = 8) := length_hiB _ _
  generalize hn' : xs.length = n at *
  have HT : Hid (∀ k, k < n → contBy id (xs.take (k + 1)) = contBy id (xs.take k) ++ plcBy (xs.getD k default) ++ hiB (xs.getD k default).am 8) := hT
  clear hn' hT
  go_enter Tryz.func73, Tryz.ntmps73
  go_wp2_with fail
  refine (specPack_any id _).mono ?_
  rintro e w1 ⟨v0, rfl, o0, hb1⟩
  have hc1 : w1.cell? ⟨w.heap.size, 1, none⟩ = some (.slice ax n cx) := cell_keep hb1 (by simp [go_sem])
  have hB1 : Below w.heap.size w w1 := by (repeat (first | exact Below.refl _ _ | assumption | refine Below.drew ?_ | refine balloc ?_ _ | refine bset ?_ (by simp; omega) _ | refine bset ?_ (by simp) _ | refine bstep ?_ (by assumption)))
  rw [World.size_alloc] at o0
  rw [← H0.out] at o0
  have e8 : (contBy id (xs.take 0)).length = 8 := by rw [HL.out 0 (by omega)]
  rw [show (8 : Nat) = (contBy id (xs.take 0)).length from e8.symm] at o0
  have HO0 : Hid (World.ownsRow w1 (w.heap.size + 1) 5 1 v0 (contBy id (xs.take 0)).length (bytesC (contBy id (xs.take 0)))) := o0
  clear o0 hb1 e8
  go_wp2
  go_loopw [3, 4] (fun v i w' => ∃ k : Nat, k ≤ n ∧ i = .int .i64 k ∧ w'.ownsRow (w.heap.size + 1) 5 1 v (contBy id (xs.take k)).length (bytesC (contBy id (xs.take k))) ∧ w'.cell? ⟨w.heap.size, 1, none⟩ = some (.slice ax n cx) ∧ Below w.heap.size w w') (fun _ i _ => n - (intOf i).toNat)
  case atStart => exact ⟨0, Nat.zero_le _, rfl, HO0.out, hc1, hB1⟩
  case round =>
    clear hc1 hB1 HO0
    obtain ⟨k, hk, rfl, ho, hbx, hbl⟩ := hrel
    have hz : w.heap.size + 1 ≤ wr.heap.size := World.block_lt_of_cell? _ _ hbx
    by_cases hlt : k < n
    · obtain ⟨bx, ox, rfl, g1⟩ := hx k hlt
      have e1 := HT.out k hlt
      have hlen : (contBy id (xs.take k)).length ≤ 96 := by rw [HL.out k (by omega)]; omega
      obtain ⟨l, hl⟩ : ∃ l, l = xs.getD k default := ⟨_, rfl⟩
      rw [← hl] at g1 e1
      clear hl hx
      obtain ⟨a1, a2, a3, a4⟩ := legCells_below hbl g1
      have HE : Hid (contBy id (xs.take (k + 1)) = contBy id (xs.take k) ++ plcBy l ++ hiB l.am 8) := e1
      generalize contBy id (xs.take k) = ys at *
      obtain ⟨q0, hq0⟩ : ∃ q, IntKind.u8.wrap l.sh = q := ⟨_, rfl⟩
      obtain ⟨q1, hq1⟩ : ∃ q, IntKind.u8.wrap l.ac = q := ⟨_, rfl⟩
      obtain ⟨q2, hq2⟩ : ∃ q, IntKind.u8.wrap l.ast = q := ⟨_, rfl⟩
      have HQ : Hid (q0 = ((toB l.sh).val : Int) ∧ q1 = ((toB l.ac).val : Int) ∧ q2 = ((toB l.ast).val : Int)) := ⟨by rw [← hq0, wrapB], by rw [← hq1, wrapB], by rw [← hq2, wrapB]⟩
      have hbk : n ≤ cx := hcx
      clear e1 g1
      go_wp2_with (at_builtin; refine wpList_appB _ rfl _ _ rfl (w.heap.size + 1) _ ys rfl _ (plcBy l) rfl ((ho.alloc _).alloc _) ?c1 ?c2 ?c3 ?_)
      case c1 => exact appAny_three (g := wr.heap.size + 1) (q0 := q0) (q1 := q1) (q2 := q2) (by simp [go_sem]) (by simp [go_sem]) (by simp [go_sem]) HQ.out.1 HQ.out.2.1 HQ.out.2.2
      case c2 => simp only [plcBy, List.length_cons, List.length_nil]; omega
      case c3 => simp; omega
      · intro v1 w1 o1 hg hB
        have hb1 := hB wr ((balloc (balloc (Below.refl wr.heap.size wr) _) _).mono hz)
        have hB1 : Below w.heap.size w w1 := hbl.trans (hb1.mono (by omega))
        have c3 := hg.cell (a := ⟨wr.heap.size, 3, none⟩) (v := .int .i64 l.am) (by simp [go_sem]) (own_not (own_of ho) (.inr (Nat.le_refl _)))
        have hbx1 := hg.cell (cell_keep (balloc (balloc (Below.refl _ _) _) _) hbx) (own_not (own_of ho) (.inl (by dsimp only; omega)))
        have o1' : World.ownsRow w1 (w.heap.size + 1) 5 1 v1 (ys ++ plcBy l).length (bytesC (ys ++ plcBy l)) := by simpa using o1
        clear hB hg o1 hb1 ho hbx a1 a2 a3 a4 hq0 hq1 hq2
        have hl2 : (ys ++ plcBy l).length ≤ 200 := by simp only [plcBy, List.length_append, List.length_cons, List.length_nil]; omega
        generalize ys ++ plcBy l = zs at *
        obtain ⟨p1, r1, rfl⟩ := owns_form o1'
        have hz1 : wr.heap.size < w1.heap.size := World.block_lt_of_cell? _ _ c3
        go_wp2_with fail
        refine (specPack_any l.am _).mono ?_
        rintro e w2 ⟨v2, rfl, o2, hb2⟩
        have o3 := owns_below o1' hb2
        have hbx2 := cell_keep hb2 hbx1
        have hB2 := bstep hB1 hb2
        have hs2 := hb2.size
        have V2 : BytesV w2 v2 (hiB l.am 8) := BytesV_of_owns (by rw [length_hiB]; exact o2)
        have t2 := appAny_bytes V2
        have l2 : zs.length + (hiB l.am 8).length ≤ 1073741824 := by rw [length_hiB]; omega
        obtain ⟨p2, r2, rfl⟩ := owns_form o2
        generalize hiB l.am 8 = ds at *
        have hz2 : w.heap.size + 1 ≤ w2.heap.size := by omega
        clear o1' o2 hb2 hbx1 hB1 c3 V2
        go_wp2_with (at_builtin; refine wpList_appB _ rfl _ _ rfl (w.heap.size + 1) _ zs rfl _ ds rfl o3 t2 l2 hz2 ?_)
        intro v4 w4 o4 hg hB
        have hbx4 := hg.cell hbx2 (own_not (own_of o3) (.inl (by dsimp only; omega)))
        have hB4 : Below w.heap.size w w4 := hB2.trans ((hB w2 (Below.refl _ _)).mono (by omega))
        have h4 : World.ownsRow w4 (w.heap.size + 1) 5 1 v4 (zs ++ ds).length (bytesC (zs ++ ds)) := by simpa using o4
        have HO : Hid (World.ownsRow w4 (w.heap.size + 1) 5 1 v4 (zs ++ ds).length (bytesC (zs ++ ds))) := h4
        clear o4 h4 hg hB hB2 hbx2 o3 t2 l2
        go_wp2
        refine ⟨⟨k + 1, by omega, by go_num, ?_, hbx4, hB4⟩, by simp [intOf]; omega⟩
        rw [HE.out]
        exact HO.out
    · go_wp2
      go_ret
      have hkn : k = n := by omega
      subst hkn
      rw [HA.out] at ho
      exact ⟨_, _, rfl, ⟨owns_base ho (by omega), rfl⟩, hbl⟩
def packD (c : Cont) : BytesR := if contractFault c.id c.legs = 0 then ⟨0, contBy c.id c.legs⟩ else ⟨contractFault c.id c.legs, []⟩
theorem bytesR_none (w : World) (base : Nat) (c : Int) : bytesRR.O w base none_ (.agg #[.int .i64 c, .slice none 0 0]) ⟨c, []⟩ :=
  ⟨.slice none 0 0, none_, rfl, ⟨by simpa [bytesC] using World.ownsRow_nil w base 5 1, by funext b; simp [none_, Value.ownBlock]⟩, fun b => Iff.rfl⟩
end Go.Proofs.YtecfelacdapdgaaGreat


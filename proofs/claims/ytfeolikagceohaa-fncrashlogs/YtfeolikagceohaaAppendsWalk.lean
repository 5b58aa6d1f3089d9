/-
  What is appended is read behind all else: the walk.
-/
import Derived.Test.YtfeolikagceohaaDrw5
import Derived.Test.YtfeolikagceohaaRecM
import Derived.Laws.BytesArg
namespace Go.Proofs.Ytfeolikagceohaa
open Go.RowKit
set_option linter.unusedSectionVars false
variable [DecidableEq Logg] [Inhabited Logg] [DecidableEq LoggR] [Inhabited LoggR] [DecidableEq BytesR] [Inhabited BytesR] [DecidableEq RecsR] [Inhabited RecsR] [DecidableEq Leg] [Inhabited Leg]
set_option linter.unusedSimpArgs false
attribute [local go_sem ↓] Go.wp_at_zero Go.wp_at_succ

/-- the text that bytes are -/
def bstr (xs : List Byte) : ByteArray := strOfNums (xs.map fun b => (b.val : Int))
theorem conv_bytes {w : World} {v : Value} {xs : List Byte} (h : BytesV w v xs) : (convert 22 9 v).run Try.prog w = .ok (.string (bstr xs)) w := by
  obtain ⟨a, cap, rfl, _, _, hc⟩ := h
  by_cases h0 : xs.length = 0
  · have e : xs = [] := List.eq_nil_of_length_eq_zero h0
    subst e
    show (convert 22 9 (.slice a 0 cap)).run Try.prog w = _
    rw [run_convert_bytes_string w 22 9 5 a 0 cap (by kernel_rfl) (by kernel_rfl) (by kernel_rfl)]
    cases a <;> simp [Conv.bytesToString, loadCells]
    all_goals rfl
  · obtain ⟨b, o, rfl, _⟩ := hc 0 (by omega)
    refine run_convert_bytes_arg w 22 5 (by kernel_rfl) (by kernel_rfl) b o xs.length cap (xs.map fun b => (b.val : Int)) (by simp) (fun i hi => ?_) 9 (by kernel_rfl)
    obtain ⟨b', o', e, hh⟩ := hc i hi
    simp only [Option.some.injEq, Addr.mk.injEq, and_true] at e
    obtain ⟨rfl, rfl⟩ := e
    rw [hh]
    simp [List.getD, hi]

set_option maxHeartbeats 400000 in
theorem lwBig_any (x : Value) (xs : List Byte) (w : World) (hx : bytesR.V w x xs) :
    Calls Try.prog 6 #[x] w fun e w' => e = .returned (.bool (decide (1048576 < xs.length))) ∧ w' = w := by
  obtain ⟨a, c, rfl, h1, h2, _⟩ := hx
  unfold maxLen at h2
  generalize xs.length = n at *
  go_enter Try.func6, Try.ntmps6
  by_cases h : 1048576 < n
  · have h' : (1048576 : Int) < (n : Int) := by omega
    go_wp2
    go_ret
    exact ⟨by simp [h], rfl⟩
  · have h' : ¬ (1048576 : Int) < (n : Int) := by omega
    go_wp2
    go_ret
    exact ⟨by simp [h], rfl⟩

theorem appD_cases (d : Logg) (xs : List Byte) : (appD d xs = ⟨0, ⟨d.synced, d.loose ++ frameB xs⟩⟩ ∧ d.synced.length + d.loose.length ≤ 6000 ∧ 1 ≤ xs.length ∧ xs.length ≤ 500 ∧ d.synced.length + (d.loose ++ frameB xs).length ≤ 6000) ∨ appD d xs = codeD 2 := by
  unfold appD
  rcases logF_cases d with ⟨h0, h1⟩ | h0
  · rw [if_pos h0]
    split
    · rename_i h5
      rcases logF_cases ⟨d.synced, d.loose ++ frameB xs⟩ with ⟨h2, h3⟩ | h2
      · rw [if_pos h2]
        exact .inl ⟨rfl, h1, h5.1, h5.2, h3⟩
      · rw [if_neg (by omega)]
        exact .inr rfl
    · exact .inr rfl
  · rw [if_neg (by omega)]
    exact .inr rfl
theorem readD_few {d : Logg} (h : d.synced.length + d.loose.length ≤ 6000) : readD d = ⟨0, recU (d.synced ++ d.loose), recL (d.synced ++ d.loose)⟩ := by
  unfold readD recsD
  rw [if_pos (by unfold logF; rw [if_neg (by omega)]), if_pos (by rw [List.length_append]; omega)]
theorem syncD_few {d : Logg} (h : d.synced.length + d.loose.length ≤ 6000) : syncD d = ⟨0, ⟨d.synced ++ d.loose, []⟩⟩ := by
  unfold syncD
  rw [if_pos (by unfold logF; rw [if_neg (by omega)])]

namespace appendsLaw
set_option maxHeartbeats 8000000 in
theorem walk (x0 : Value) (d0 : List Byte) (w : World) (hx0 : bytesR.V w x0 d0) :
    Calls Try.prog 5 #[x0] w fun e w' => e = .returned (.bool true) ∧ Below w.heap.size w w' := by
  have hX0 := hx0
  obtain ⟨ax, cx, rfl⟩ := bytes_form hx0
  go_enter Try.func5, Try.ntmps5
  go_wp2_with fail
  refine (lwBig_any _ d0 _ hX0).mono ?_
  rintro e w' ⟨rfl, hw⟩
  obtain rfl : w = w' := hw.symm
  by_cases hbig : 1048576 < d0.length
  · rw [decide_eq_true hbig]
    go_wp2
    go_ret
    exact ⟨rfl, Below.refl _ _⟩
  rw [decide_eq_false hbig]
  go_wp2_with fail
  refine (drawAppend_any _ d0 _ hX0 (by omega)).mono ?_
  rintro e w1 ⟨v1, u1, d, xs, rfl, hV, hU, hwt, hxl, hb1⟩
  obtain ⟨a1, a2, c1, c2, rfl⟩ := logg_form hV
  obtain ⟨au, cu, rfl⟩ := bytes_form hU
  go_wp2_with fail
  refine (implApp_u _ d _ xs _ (loggR.below hV (by (repeat (first | exact Below.refl _ _ | assumption | refine Below.drew ?_ | refine balloc ?_ _ | refine bset ?_ (by simp; omega) _ | refine bset ?_ (by simp) _ | refine bstep ?_ (by assumption))))) (by omega) (bytesR.below hU (by (repeat (first | exact Below.refl _ _ | assumption | refine Below.drew ?_ | refine balloc ?_ _ | refine bset ?_ (by simp; omega) _ | refine bset ?_ (by simp) _ | refine bstep ?_ (by assumption)))))).mono ?_
  rintro e w2 ⟨v2, F2, rfl, ho2, hb2⟩
  have l0 : w2.cell? ⟨w1.heap.size, 0, none⟩ = some (.slice a1 d.synced.length c1) := cell_keep hb2 (by simp [go_sem])
  have l1 : w2.cell? ⟨w1.heap.size, 1, none⟩ = some (.slice a2 d.loose.length c2) := cell_keep hb2 (by simp [go_sem])
  have z2 := hb2.size
  simp only [World.size_alloc] at z2
  have hW2 : Below w1.heap.size w1 w2 := bstep (by (repeat (first | exact Below.refl _ _ | assumption | refine Below.drew ?_ | refine balloc ?_ _ | refine bset ?_ (by simp; omega) _ | refine bset ?_ (by simp) _ | refine bstep ?_ (by assumption)))) hb2
  have hB2 : Below w.heap.size w w2 := bstep hb1 hW2
  have hV2 := loggR.below hV hW2
  have hU2 := bytesR.below hU hW2
  have ofm := loggRR.ofO ho2
  clear hV hU hb2 hb1 hX0 hx0 hW2 ho2
  have z12 : w1.heap.size < w2.heap.size := by omega
  rcases appD_cases d xs with ⟨hD, hf1, h51, h52, hf2⟩ | hD
  rotate_left
  · have HD : Hid (appD d xs = codeD 2) := hD
    rw [hD] at ofm
    obtain ⟨b1, b2, e1, e2, rfl⟩ := loggR_form ofm
    clear hD ofm
    go_wp2
    refine wp_region_noPanic ?_
    refine region_upto (fun w' => Below w.heap.size w w' ∧ w'.cell? ⟨w1.heap.size, 0, none⟩ = some (.slice a1 d.synced.length c1) ∧ w'.cell? ⟨w1.heap.size, 1, none⟩ = some (.slice a2 d.loose.length c2) ∧ w'.cell? ⟨w2.heap.size, 0, none⟩ = some (.int .i64 2)) 7 (by kernel_rfl) ⟨by (repeat (first | exact Below.refl _ _ | assumption | refine Below.drew ?_ | refine balloc ?_ _ | refine bset ?_ (by simp; omega) _ | refine bset ?_ (by simp) _ | refine bstep ?_ (by assumption))), cell_keep (by (repeat (first | exact Below.refl _ _ | assumption | refine Below.drew ?_ | refine balloc ?_ _ | refine bset ?_ (by simp; omega) _ | refine bset ?_ (by simp) _ | refine bstep ?_ (by assumption)))) l0, cell_keep (by (repeat (first | exact Below.refl _ _ | assumption | refine Below.drew ?_ | refine balloc ?_ _ | refine bset ?_ (by simp; omega) _ | refine bset ?_ (by simp) _ | refine bstep ?_ (by assumption)))) l1, by simp [go_sem, codeD]⟩ (fun hS => ?_)
    refine upto_take (i := 0) (v := ?_) rfl (by kernel_rfl) (by kernel_rfl) (by kernel_rfl) (by kernel_rfl) (fun _ _ _ h => h) (by rfl) hS ?_ ?_
    rotate_left
    · intro wS hSw
      try dsimp only at hSw
      first | (go_simp; done) | (go_simp; with_reducible rfl)
    try simp only [Act.put, List.getElem_toArray, List.getElem_cons_zero, List.getElem_cons_succ, List.setIfInBounds_toArray, List.set_cons_zero, List.set_cons_succ]
    refine upto_take (i := 1) (v := ?_) rfl (by kernel_rfl) (by kernel_rfl) (by kernel_rfl) (by kernel_rfl) (fun _ _ _ h => h) (by rfl) hS ?_ ?_
    rotate_left
    · intro wS hSw
      try dsimp only at hSw
      first | (go_simp; done) | (go_simp; with_reducible rfl)
    try simp only [Act.put, List.getElem_toArray, List.getElem_cons_zero, List.getElem_cons_succ, List.setIfInBounds_toArray, List.set_cons_zero, List.set_cons_succ]
    refine upto_take (i := 4) (v := ?_) rfl (by kernel_rfl) (by kernel_rfl) (by kernel_rfl) (by kernel_rfl) (fun _ _ _ h => h) (by rfl) hS ?_ ?_
    rotate_left
    · intro wS hSw
      try dsimp only at hSw
      first | (go_simp; done) | (go_simp; with_reducible rfl)
    try simp only [Act.put, List.getElem_toArray, List.getElem_cons_zero, List.getElem_cons_succ, List.setIfInBounds_toArray, List.set_cons_zero, List.set_cons_succ]
    refine upto_take (i := 5) (v := ?_) rfl (by kernel_rfl) (by kernel_rfl) (by kernel_rfl) (by kernel_rfl) (fun _ _ _ h => h) (by rfl) hS ?_ ?_
    rotate_left
    · intro wS hSw
      try dsimp only at hSw
      first | (go_simp; done) | (go_simp; with_reducible rfl)
    try simp only [Act.put, List.getElem_toArray, List.getElem_cons_zero, List.getElem_cons_succ, List.setIfInBounds_toArray, List.set_cons_zero, List.set_cons_succ]
    refine upto_step (i := 2) (by kernel_rfl) rfl ?_
    intro K hK
    go_simp
    refine (specApp_u _ d _ xs _ (loggR.below hV2 (by (repeat (first | exact Below.refl _ _ | assumption | refine Below.drew ?_ | refine balloc ?_ _ | refine bset ?_ (by simp; omega) _ | refine bset ?_ (by simp) _ | refine bstep ?_ (by assumption))))) (by omega) (bytesR.below hU2 (by (repeat (first | exact Below.refl _ _ | assumption | refine Below.drew ?_ | refine balloc ?_ _ | refine bset ?_ (by simp; omega) _ | refine bset ?_ (by simp) _ | refine bstep ?_ (by assumption)))))).mono ?_
    rintro e w3 ⟨v3, F3, rfl, ho3, hb3⟩
    rw [HD.out] at ho3
    obtain ⟨p1, p2, g1, g2, rfl⟩ := loggR_form (loggRR.ofO ho3)
    have hS3 : (fun w' => Below w.heap.size w w' ∧ w'.cell? ⟨w1.heap.size, 0, none⟩ = some (.slice a1 d.synced.length c1) ∧ w'.cell? ⟨w1.heap.size, 1, none⟩ = some (.slice a2 d.loose.length c2) ∧ w'.cell? ⟨w2.heap.size, 0, none⟩ = some (.int .i64 2)) w3 := ⟨bstep hS.1 hb3, cell_keep hb3 hS.2.1, cell_keep hb3 hS.2.2.1, cell_keep hb3 hS.2.2.2⟩
    have hfd : ∀ w : World, (Instr.field 38 (.agg #[.int .i64 2, .slice p1 0 g1, .slice p2 0 g2]) 0).run Try.prog w = .ok (.int .i64 2) w := fun _ => by kernel_rfl
    refine hK _ _ (fun _ => hS3) ?_
    clear hK K ho3 hb3
    simp only [codeD, List.length_nil]
    try simp only [Act.put, List.getElem_toArray, List.getElem_cons_zero, List.getElem_cons_succ, List.setIfInBounds_toArray, List.set_cons_zero, List.set_cons_succ]
    refine upto_take (i := 3) (v := (.int .i64 2)) rfl (by kernel_rfl) (by kernel_rfl) (by kernel_rfl) (by kernel_rfl) (fun _ _ _ h => h) (by rfl) hS3 ?_ ?_
    · intro wS hSw
      try dsimp only at hSw
      go_simp
    try simp only [Act.put, List.getElem_toArray, List.getElem_cons_zero, List.getElem_cons_succ, List.setIfInBounds_toArray, List.set_cons_zero, List.set_cons_succ]
    refine upto_take (i := 6) (v := (.bool true)) rfl (by kernel_rfl) (by kernel_rfl) (by kernel_rfl) (by kernel_rfl) (fun _ _ _ h => h) (by rfl) hS3 ?_ ?_
    · intro wS hSw
      try dsimp only at hSw
      go_simp
    try simp only [Act.put, List.getElem_toArray, List.getElem_cons_zero, List.getElem_cons_succ, List.setIfInBounds_toArray, List.set_cons_zero, List.set_cons_succ]
    refine upto_step (i := 7) (by kernel_rfl) rfl ?_
    intro K hK
    go_simp
    refine hK _ _ (fun h => absurd rfl h) ?_
    clear hK K
    refine upto_done (by kernel_rfl) ?_
    refine NoPanic.normal ?_
    have hB3 := hS3.1
    clear hS hS3
    go_wp2
    go_ret
    exact ⟨rfl, hB3⟩
  rw [hD] at ofm
  obtain ⟨b1, b2, e1, e2, rfl⟩ := loggR_form ofm
  have hN : loggR.V w2 (.agg #[.slice b1 d.synced.length e1, .slice b2 (d.loose ++ frameB xs).length e2]) ⟨d.synced, d.loose ++ frameB xs⟩ := by
    obtain ⟨u1, u2, eu, hh⟩ := ofm
    simp only [Value.agg.injEq, Array.mk.injEq, List.cons.injEq, and_true, true_and] at eu
    obtain ⟨rfl, rfl⟩ := eu
    exact hh
  clear ofm
  have HNR : Hid (readD ⟨d.synced, d.loose ++ frameB xs⟩ = ⟨0, recU (d.synced ++ (d.loose ++ frameB xs)), recL (d.synced ++ (d.loose ++ frameB xs))⟩) := readD_few hf2
  have HNS : Hid (syncD ⟨d.synced, d.loose ++ frameB xs⟩ = ⟨0, ⟨d.synced ++ (d.loose ++ frameB xs), []⟩⟩) := syncD_few hf2
  have HWR : Hid (readD d = ⟨0, recU (d.synced ++ d.loose), recL (d.synced ++ d.loose)⟩) := readD_few hf1
  obtain ⟨bs, hbs⟩ : ∃ bs, d.synced ++ d.loose = bs := ⟨_, rfl⟩
  have hbe : d.synced ++ (d.loose ++ frameB xs) = bs ++ frameB xs := by rw [← List.append_assoc, hbs]
  have HBL : Hid (bs.length = d.synced.length + d.loose.length) := by rw [← hbs]; exact List.length_append
  rw [hbs] at HWR
  rw [hbe] at HNR HNS
  generalize d.loose ++ frameB xs = nl at *
  clear hD hbs hbe
  go_wp2_with fail
  refine (implRead_u _ d _ (loggR.below hV2 (by (repeat (first | exact Below.refl _ _ | assumption | refine Below.drew ?_ | refine balloc ?_ _ | refine bset ?_ (by simp; omega) _ | refine bset ?_ (by simp) _ | refine bstep ?_ (by assumption))))) (by omega)).mono ?_
  rintro e w3 ⟨v3, F3, rfl, ho3, hb3⟩
  rw [HWR.out] at ho3
  have rV := recsRR.ofO ho3
  obtain ⟨p3, q3, rfl⟩ := recsR_form rV
  have z3 := hb3.size
  simp only [World.size_alloc] at z3
  have hW3 : Below w2.heap.size w2 w3 := bstep (by (repeat (first | exact Below.refl _ _ | assumption | refine Below.drew ?_ | refine balloc ?_ _ | refine bset ?_ (by simp; omega) _ | refine bset ?_ (by simp) _ | refine bstep ?_ (by assumption)))) hb3
  have hB3 : Below w.heap.size w w3 := bstep hB2 hW3
  have k0 : w3.cell? ⟨w2.heap.size, 0, none⟩ = some (.int .i64 0) := cell_keep hb3 (by simp [go_sem])
  have k1 : w3.cell? ⟨w2.heap.size, 1, none⟩ = some (.slice b1 d.synced.length e1) := cell_keep hb3 (by simp [go_sem])
  have k2 : w3.cell? ⟨w2.heap.size, 2, none⟩ = some (.slice b2 nl.length e2) := cell_keep hb3 (by simp [go_sem])
  replace l0 := cell_keep hW3 l0
  replace l1 := cell_keep hW3 l1
  replace hV2 := loggR.below hV2 hW3
  replace hU2 := bytesR.below hU2 hW3
  replace hN := loggR.below hN hW3
  have z23 : w2.heap.size < w3.heap.size := by omega
  have z13 : w1.heap.size < w3.heap.size := by omega
  clear hb3 ho3 hW3 hB2
  go_wp2_with fail
  refine (implRead_u _ ⟨d.synced, nl⟩ _ (loggR.below hN (by (repeat (first | exact Below.refl _ _ | assumption | refine Below.drew ?_ | refine balloc ?_ _ | refine bset ?_ (by simp; omega) _ | refine bset ?_ (by simp) _ | refine bstep ?_ (by assumption))))) (by unfold wtLogg wtBytes; dsimp only; omega)).mono ?_
  rintro e w4 ⟨v4, F4, rfl, ho4, hb4⟩
  rw [HNR.out] at ho4
  have rN := recsRR.ofO ho4
  obtain ⟨p4, q4, rfl⟩ := recsR_form rN
  have z4 := hb4.size
  simp only [World.size_alloc] at z4
  have hW4 : Below w3.heap.size w3 w4 := bstep (by (repeat (first | exact Below.refl _ _ | assumption | refine Below.drew ?_ | refine balloc ?_ _ | refine bset ?_ (by simp; omega) _ | refine bset ?_ (by simp) _ | refine bstep ?_ (by assumption)))) hb4
  have hB4 : Below w.heap.size w w4 := bstep hB3 hW4
  have m0 : w4.cell? ⟨w3.heap.size, 0, none⟩ = some (.int .i64 0) := cell_keep hb4 (by simp [go_sem])
  have m1 : w4.cell? ⟨w3.heap.size, 1, none⟩ = some (.int .i64 (recU bs)) := cell_keep hb4 (by simp [go_sem])
  have m2 : w4.cell? ⟨w3.heap.size, 2, none⟩ = some (.slice p3 (recL bs).length q3) := cell_keep hb4 (by simp [go_sem])
  replace k0 := cell_keep hW4 k0
  replace k1 := cell_keep hW4 k1
  replace k2 := cell_keep hW4 k2
  replace l0 := cell_keep hW4 l0
  replace l1 := cell_keep hW4 l1
  replace hV2 := loggR.below hV2 hW4
  replace hU2 := bytesR.below hU2 hW4
  replace hN := loggR.below hN hW4
  clear rV
  have z34 : w3.heap.size < w4.heap.size := by omega
  have z24 : w2.heap.size < w4.heap.size := by omega
  have z14 : w1.heap.size < w4.heap.size := by omega
  clear hb4 ho4 hW4 hB3 z12 z23 z13
  go_wp2_with fail
  refine (implSync_u _ ⟨d.synced, nl⟩ _ (loggR.below hN (by (repeat (first | exact Below.refl _ _ | assumption | refine Below.drew ?_ | refine balloc ?_ _ | refine bset ?_ (by simp; omega) _ | refine bset ?_ (by simp) _ | refine bstep ?_ (by assumption))))) (by unfold wtLogg wtBytes; dsimp only; omega)).mono ?_
  rintro e w5 ⟨v5, F5, rfl, ho5, hb5⟩
  rw [HNS.out] at ho5
  obtain ⟨p5, p6, q5, q6, rfl⟩ := loggR_form (loggRR.ofO ho5)
  have hfd : ∀ (n m : Nat) (w : World), (Instr.field 38 (.agg #[.int .i64 0, .slice p5 n q5, .slice p6 m q6]) 0).run Try.prog w = .ok (.int .i64 0) w := fun _ _ _ => by kernel_rfl
  have n2 : w5.cell? ⟨w4.heap.size, 2, none⟩ = some (.slice p4 (recL (bs ++ frameB xs)).length q4) := cell_keep hb5 (by simp [go_sem])
  have z5 := hb5.size
  simp only [World.size_alloc] at z5
  have hW5 : Below w4.heap.size w4 w5 := bstep (by (repeat (first | exact Below.refl _ _ | assumption | refine Below.drew ?_ | refine balloc ?_ _ | refine bset ?_ (by simp; omega) _ | refine bset ?_ (by simp) _ | refine bstep ?_ (by assumption)))) hb5
  have hB5 : Below w.heap.size w w5 := bstep hB4 hW5
  replace k1 := cell_keep hW5 k1
  replace m1 := cell_keep hW5 m1
  replace m2 := cell_keep hW5 m2
  replace l0 := cell_keep hW5 l0
  replace l1 := cell_keep hW5 l1
  replace hV2 := loggR.below hV2 hW5
  replace hU2 := bytesR.below hU2 hW5
  replace rN := recsRR.below rN hW5
  clear k0 k2 m0 hN ho5 hb5 hW5 hB4 HNS HNR
  have u1 : IntKind.i64.wrap ((d.synced.length : Int) + d.loose.length) = d.synced.length + d.loose.length := wrapI _ (by omega) (by omega)
  have hule := recU_le bs
  by_cases hu : recU bs < bs.length
  · have hu2 : (recU bs : Int) < (d.synced.length : Int) + d.loose.length := by have := HBL.out; omega
    go_wp2
    refine wp_region_noPanic ?_
    refine region_upto (fun w' => Below w.heap.size w w' ∧ w'.cell? ⟨w1.heap.size, 0, none⟩ = some (.slice a1 d.synced.length c1) ∧ w'.cell? ⟨w1.heap.size, 1, none⟩ = some (.slice a2 d.loose.length c2) ∧ w'.cell? ⟨w3.heap.size, 1, none⟩ = some (.int .i64 (recU bs))) 6 (by kernel_rfl) ⟨by (repeat (first | exact Below.refl _ _ | assumption | refine Below.drew ?_ | refine balloc ?_ _ | refine bset ?_ (by simp; omega) _ | refine bset ?_ (by simp) _ | refine bstep ?_ (by assumption))), cell_keep (by (repeat (first | exact Below.refl _ _ | assumption | refine Below.drew ?_ | refine balloc ?_ _ | refine bset ?_ (by simp; omega) _ | refine bset ?_ (by simp) _ | refine bstep ?_ (by assumption)))) l0, cell_keep (by (repeat (first | exact Below.refl _ _ | assumption | refine Below.drew ?_ | refine balloc ?_ _ | refine bset ?_ (by simp; omega) _ | refine bset ?_ (by simp) _ | refine bstep ?_ (by assumption)))) l1, cell_keep (by (repeat (first | exact Below.refl _ _ | assumption | refine Below.drew ?_ | refine balloc ?_ _ | refine bset ?_ (by simp; omega) _ | refine bset ?_ (by simp) _ | refine bstep ?_ (by assumption)))) m1⟩ (fun hS => ?_)
    refine upto_take (i := 0) (v := ?_) rfl (by kernel_rfl) (by kernel_rfl) (by kernel_rfl) (by kernel_rfl) (fun _ _ _ h => h) (by rfl) hS ?_ ?_
    rotate_left
    · intro wS hSw
      try dsimp only at hSw
      first | (go_simp; done) | (go_simp; with_reducible rfl)
    try simp only [Act.put, List.getElem_toArray, List.getElem_cons_zero, List.getElem_cons_succ, List.setIfInBounds_toArray, List.set_cons_zero, List.set_cons_succ]
    refine upto_take (i := 3) (v := ?_) rfl (by kernel_rfl) (by kernel_rfl) (by kernel_rfl) (by kernel_rfl) (fun _ _ _ h => h) (by rfl) hS ?_ ?_
    rotate_left
    · intro wS hSw
      try dsimp only at hSw
      first | (go_simp; done) | (go_simp; with_reducible rfl)
    try simp only [Act.put, List.getElem_toArray, List.getElem_cons_zero, List.getElem_cons_succ, List.setIfInBounds_toArray, List.set_cons_zero, List.set_cons_succ]
    refine upto_take (i := 4) (v := ?_) rfl (by kernel_rfl) (by kernel_rfl) (by kernel_rfl) (by kernel_rfl) (fun _ _ _ h => h) (by rfl) hS ?_ ?_
    rotate_left
    · intro wS hSw
      try dsimp only at hSw
      first | (go_simp; done) | (go_simp; with_reducible rfl)
    try simp only [Act.put, List.getElem_toArray, List.getElem_cons_zero, List.getElem_cons_succ, List.setIfInBounds_toArray, List.set_cons_zero, List.set_cons_succ]
    refine upto_step (i := 1) (by kernel_rfl) rfl ?_
    intro K hK
    go_simp
    refine (specRead_u _ d _ (loggR.below hV2 (by (repeat (first | exact Below.refl _ _ | assumption | refine Below.drew ?_ | refine balloc ?_ _ | refine bset ?_ (by simp; omega) _ | refine bset ?_ (by simp) _ | refine bstep ?_ (by assumption))))) (by omega)).mono ?_
    rintro e w6 ⟨v6, F6, rfl, ho6, hb6⟩
    rw [HWR.out] at ho6
    obtain ⟨p7, q7, rfl⟩ := recsR_form (recsRR.ofO ho6)
    have hS6 : (fun w' => Below w.heap.size w w' ∧ w'.cell? ⟨w1.heap.size, 0, none⟩ = some (.slice a1 d.synced.length c1) ∧ w'.cell? ⟨w1.heap.size, 1, none⟩ = some (.slice a2 d.loose.length c2) ∧ w'.cell? ⟨w3.heap.size, 1, none⟩ = some (.int .i64 (recU bs))) w6 := ⟨bstep hS.1 hb6, cell_keep hb6 hS.2.1, cell_keep hb6 hS.2.2.1, cell_keep hb6 hS.2.2.2⟩
    have hfd2 : ∀ w : World, (Instr.field 31 (.agg #[.int .i64 0, .int .i64 (recU bs : Int), .slice p7 (recL bs).length q7]) 1).run Try.prog w = .ok (.int .i64 (recU bs : Int)) w := fun _ => by kernel_rfl
    refine hK _ _ (fun _ => hS6) ?_
    clear hK K ho6 hb6
    try simp only [Act.put, List.getElem_toArray, List.getElem_cons_zero, List.getElem_cons_succ, List.setIfInBounds_toArray, List.set_cons_zero, List.set_cons_succ]
    refine upto_take (i := 2) (v := (.int .i64 (recU bs : Int))) rfl (by kernel_rfl) (by kernel_rfl) (by kernel_rfl) (by kernel_rfl) (fun _ _ _ h => h) (by rfl) hS6 ?_ ?_
    · intro wS hSw
      try dsimp only at hSw
      go_simp
    try simp only [Act.put, List.getElem_toArray, List.getElem_cons_zero, List.getElem_cons_succ, List.setIfInBounds_toArray, List.set_cons_zero, List.set_cons_succ]
    refine upto_take (i := 5) (v := (.bool true)) rfl (by kernel_rfl) (by kernel_rfl) (by kernel_rfl) (by kernel_rfl) (fun _ _ _ h => h) (by rfl) hS6 ?_ ?_
    · intro wS hSw
      try dsimp only at hSw
      go_simp
    try simp only [Act.put, List.getElem_toArray, List.getElem_cons_zero, List.getElem_cons_succ, List.setIfInBounds_toArray, List.set_cons_zero, List.set_cons_succ]
    refine upto_step (i := 6) (by kernel_rfl) rfl ?_
    intro K hK
    go_simp
    refine hK _ _ (fun h => absurd rfl h) ?_
    clear hK K
    refine upto_done (by kernel_rfl) ?_
    refine NoPanic.normal ?_
    have hB6 := hS6.1
    clear hS hS6
    go_wp2
    go_ret
    exact ⟨rfl, hB6⟩
  · have hu2 : ¬ (recU bs : Int) < (d.synced.length : Int) + d.loose.length := by have := HBL.out; omega
    have hwhole : recU bs = bs.length := by omega
    have hfr := rec_frame xs h51 h52
    have hbh := (rec_behind bs.length bs (frameB xs) (Nat.le_refl _) hwhole).1
    rw [hfr.1] at hbh
    obtain ⟨u7, eu, hrow⟩ := rN
    simp only [Value.agg.injEq, Array.mk.injEq, List.cons.injEq, and_true, true_and] at eu
    subst eu
    rw [hbh] at hrow n2
    have hlen : (recL bs ++ [xs]).length = (recL bs).length + 1 := by simp
    rw [hlen] at hrow n2
    obtain ⟨pp, qq, ep, hpq, hpm, hrows⟩ := hrow
    rw [hlen] at ep hpq hrows
    simp only [Value.slice.injEq, true_and] at ep
    obtain ⟨rfl, rfl⟩ := ep
    obtain ⟨gg, og, u8, rfl, _, hcel, hvu⟩ := hrows (recL bs).length (by omega)
    have hget : (recL bs ++ [xs]).getD (recL bs).length default = xs := by simp [List.getD]
    rw [hget] at hvu
    have hc0 := hcel 0 (by omega)
    obtain ⟨ag, cg, rfl⟩ := bytes_form hvu
    have hg5 : w5.cell? ⟨gg, og + (recL bs).length, none⟩ = some (.slice ag xs.length cg) := by simpa [one] using hc0
    have hcv1 : ∀ W : World, Below w5.heap.size w5 W → (convert 22 9 (.slice ag xs.length cg)).run Try.prog W = .ok (.string (bstr xs)) W := fun W hW => conv_bytes (BytesV_below hvu hW)
    have hcv2 : ∀ W : World, Below w5.heap.size w5 W → (convert 22 9 (.slice au xs.length cu)).run Try.prog W = .ok (.string (bstr xs)) W := fun W hW => conv_bytes (BytesV_below hU2 hW)
    have hLs : (recL bs).length ≤ 6000 := by have := recL_len bs; have := HBL.out; omega
    unfold maxLen at hpm
    clear hrows hcel hc0 hvu hget hlen hbh hfr hwhole HWR
    generalize (recL bs).length = L at *
    obtain ⟨M, hM⟩ : ∃ M, M = L + 1 := ⟨_, rfl⟩
    have y1 : IntKind.i64.wrap ((L : Int) + 1) = (M : Int) := by rw [wrapI _ (by omega) (by omega)]; omega
    have y2 : IntKind.i64.wrap ((M : Int) - 1) = (L : Int) := by rw [wrapI _ (by omega) (by omega)]; omega
    have y3 : (L : Int) < (M : Int) := by omega
    rw [← hM] at n2
    clear hM hpq
    go_wp2
    refine wp_region_noPanic ?_
    refine region_upto (fun w' => Below w5.heap.size w5 w' ∧ w'.cell? ⟨w3.heap.size, 2, none⟩ = some (.slice p3 L q3) ∧ w'.cell? ⟨w4.heap.size, 2, none⟩ = some (.slice (some ⟨gg, og, none⟩) M q4) ∧ w'.cell? ⟨gg, og + L, none⟩ = some (.slice ag xs.length cg)) 18 (by kernel_rfl) ⟨by (repeat (first | exact Below.refl _ _ | assumption | refine Below.drew ?_ | refine balloc ?_ _ | refine bset ?_ (by simp; omega) _ | refine bset ?_ (by simp) _ | refine bstep ?_ (by assumption))), cell_keep (by (repeat (first | exact Below.refl _ _ | assumption | refine Below.drew ?_ | refine balloc ?_ _ | refine bset ?_ (by simp; omega) _ | refine bset ?_ (by simp) _ | refine bstep ?_ (by assumption)))) m2, cell_keep (by (repeat (first | exact Below.refl _ _ | assumption | refine Below.drew ?_ | refine balloc ?_ _ | refine bset ?_ (by simp; omega) _ | refine bset ?_ (by simp) _ | refine bstep ?_ (by assumption)))) n2, cell_keep (by (repeat (first | exact Below.refl _ _ | assumption | refine Below.drew ?_ | refine balloc ?_ _ | refine bset ?_ (by simp; omega) _ | refine bset ?_ (by simp) _ | refine bstep ?_ (by assumption)))) hg5⟩ (fun hS => ?_)
    refine upto_take (i := 0) (v := ?_) rfl (by kernel_rfl) (by kernel_rfl) (by kernel_rfl) (by kernel_rfl) (fun _ _ _ h => h) (by rfl) hS ?_ ?_
    rotate_left
    · intro wS hSw
      try dsimp only at hSw
      first | (go_simp; done) | (go_simp; with_reducible rfl)
    try simp only [Act.put, List.getElem_toArray, List.getElem_cons_zero, List.getElem_cons_succ, List.setIfInBounds_toArray, List.set_cons_zero, List.set_cons_succ]
    refine upto_take (i := 1) (v := ?_) rfl (by kernel_rfl) (by kernel_rfl) (by kernel_rfl) (by kernel_rfl) (fun _ _ _ h => h) (by rfl) hS ?_ ?_
    rotate_left
    · intro wS hSw
      try dsimp only at hSw
      first | (go_simp; done) | (go_simp; with_reducible rfl)
    try simp only [Act.put, List.getElem_toArray, List.getElem_cons_zero, List.getElem_cons_succ, List.setIfInBounds_toArray, List.set_cons_zero, List.set_cons_succ]
    refine upto_take (i := 2) (v := ?_) rfl (by kernel_rfl) (by kernel_rfl) (by kernel_rfl) (by kernel_rfl) (fun _ _ _ h => h) (by rfl) hS ?_ ?_
    rotate_left
    · intro wS hSw
      try dsimp only at hSw
      first | (go_simp; done) | (go_simp; with_reducible rfl)
    try simp only [Act.put, List.getElem_toArray, List.getElem_cons_zero, List.getElem_cons_succ, List.setIfInBounds_toArray, List.set_cons_zero, List.set_cons_succ]
    refine upto_take (i := 3) (v := ?_) rfl (by kernel_rfl) (by kernel_rfl) (by kernel_rfl) (by kernel_rfl) (fun _ _ _ h => h) (by rfl) hS ?_ ?_
    rotate_left
    · intro wS hSw
      try dsimp only at hSw
      first | (go_simp; done) | (go_simp; with_reducible rfl)
    try simp only [Act.put, List.getElem_toArray, List.getElem_cons_zero, List.getElem_cons_succ, List.setIfInBounds_toArray, List.set_cons_zero, List.set_cons_succ]
    refine upto_take (i := 4) (v := ?_) rfl (by kernel_rfl) (by kernel_rfl) (by kernel_rfl) (by kernel_rfl) (fun _ _ _ h => h) (by rfl) hS ?_ ?_
    rotate_left
    · intro wS hSw
      try dsimp only at hSw
      first | (go_simp; done) | (go_simp; with_reducible rfl)
    try simp only [Act.put, List.getElem_toArray, List.getElem_cons_zero, List.getElem_cons_succ, List.setIfInBounds_toArray, List.set_cons_zero, List.set_cons_succ]
    refine upto_take (i := 5) (v := (.bool true)) rfl (by kernel_rfl) (by kernel_rfl) (by kernel_rfl) (by kernel_rfl) (fun _ _ _ h => h) (by rfl) hS ?_ ?_
    · intro wS hSw
      try dsimp only at hSw
      go_simp
    try simp only [Act.put, List.getElem_toArray, List.getElem_cons_zero, List.getElem_cons_succ, List.setIfInBounds_toArray, List.set_cons_zero, List.set_cons_succ]
    refine upto_take (i := 6) (v := (.bool true)) rfl (by kernel_rfl) (by kernel_rfl) (by kernel_rfl) (by kernel_rfl) (fun _ _ _ h => h) (by rfl) hS ?_ ?_
    · intro wS hSw
      try dsimp only at hSw
      go_simp
    try simp only [Act.put, List.getElem_toArray, List.getElem_cons_zero, List.getElem_cons_succ, List.setIfInBounds_toArray, List.set_cons_zero, List.set_cons_succ]
    refine upto_take (i := 7) (v := ?_) rfl (by kernel_rfl) (by kernel_rfl) (by kernel_rfl) (by kernel_rfl) (fun _ _ _ h => h) (by rfl) hS ?_ ?_
    rotate_left
    · intro wS hSw
      try dsimp only at hSw
      first | (go_simp; done) | (go_simp; with_reducible rfl)
    try simp only [Act.put, List.getElem_toArray, List.getElem_cons_zero, List.getElem_cons_succ, List.setIfInBounds_toArray, List.set_cons_zero, List.set_cons_succ]
    refine upto_take (i := 8) (v := ?_) rfl (by kernel_rfl) (by kernel_rfl) (by kernel_rfl) (by kernel_rfl) (fun _ _ _ h => h) (by rfl) hS ?_ ?_
    rotate_left
    · intro wS hSw
      try dsimp only at hSw
      first | (go_simp; done) | (go_simp; with_reducible rfl)
    try simp only [Act.put, List.getElem_toArray, List.getElem_cons_zero, List.getElem_cons_succ, List.setIfInBounds_toArray, List.set_cons_zero, List.set_cons_succ]
    refine upto_take (i := 9) (v := ?_) rfl (by kernel_rfl) (by kernel_rfl) (by kernel_rfl) (by kernel_rfl) (fun _ _ _ h => h) (by rfl) hS ?_ ?_
    rotate_left
    · intro wS hSw
      try dsimp only at hSw
      first | (go_simp; done) | (go_simp; with_reducible rfl)
    try simp only [Act.put, List.getElem_toArray, List.getElem_cons_zero, List.getElem_cons_succ, List.setIfInBounds_toArray, List.set_cons_zero, List.set_cons_succ]
    refine upto_take (i := 10) (v := ?_) rfl (by kernel_rfl) (by kernel_rfl) (by kernel_rfl) (by kernel_rfl) (fun _ _ _ h => h) (by rfl) hS ?_ ?_
    rotate_left
    · intro wS hSw
      try dsimp only at hSw
      first | (go_simp; done) | (go_simp; with_reducible rfl)
    try simp only [Act.put, List.getElem_toArray, List.getElem_cons_zero, List.getElem_cons_succ, List.setIfInBounds_toArray, List.set_cons_zero, List.set_cons_succ]
    refine upto_take (i := 11) (v := ?_) rfl (by kernel_rfl) (by kernel_rfl) (by kernel_rfl) (by kernel_rfl) (fun _ _ _ h => h) (by rfl) hS ?_ ?_
    rotate_left
    · intro wS hSw
      try dsimp only at hSw
      first | (go_simp; done) | (go_simp; with_reducible rfl)
    try simp only [Act.put, List.getElem_toArray, List.getElem_cons_zero, List.getElem_cons_succ, List.setIfInBounds_toArray, List.set_cons_zero, List.set_cons_succ]
    refine upto_take (i := 12) (v := ?_) rfl (by kernel_rfl) (by kernel_rfl) (by kernel_rfl) (by kernel_rfl) (fun _ _ _ h => h) (by rfl) hS ?_ ?_
    rotate_left
    · intro wS hSw
      try dsimp only at hSw
      first | (go_simp; done) | (go_simp; with_reducible rfl)
    try simp only [Act.put, List.getElem_toArray, List.getElem_cons_zero, List.getElem_cons_succ, List.setIfInBounds_toArray, List.set_cons_zero, List.set_cons_succ]
    refine upto_take (i := 13) (v := (.string (bstr xs))) rfl (by kernel_rfl) (by kernel_rfl) (by kernel_rfl) (by kernel_rfl) (fun _ _ _ h => h) (by rfl) hS ?_ ?_
    · intro wS hSw
      try dsimp only at hSw
      have qc1 := hcv1 wS hSw.1
      have qc2 := hcv2 wS hSw.1
      go_simp
    try simp only [Act.put, List.getElem_toArray, List.getElem_cons_zero, List.getElem_cons_succ, List.setIfInBounds_toArray, List.set_cons_zero, List.set_cons_succ]
    refine upto_take (i := 14) (v := ?_) rfl (by kernel_rfl) (by kernel_rfl) (by kernel_rfl) (by kernel_rfl) (fun _ _ _ h => h) (by rfl) hS ?_ ?_
    rotate_left
    · intro wS hSw
      try dsimp only at hSw
      first | (go_simp; done) | (go_simp; with_reducible rfl)
    try simp only [Act.put, List.getElem_toArray, List.getElem_cons_zero, List.getElem_cons_succ, List.setIfInBounds_toArray, List.set_cons_zero, List.set_cons_succ]
    refine upto_take (i := 15) (v := (.string (bstr xs))) rfl (by kernel_rfl) (by kernel_rfl) (by kernel_rfl) (by kernel_rfl) (fun _ _ _ h => h) (by rfl) hS ?_ ?_
    · intro wS hSw
      try dsimp only at hSw
      have qc1 := hcv1 wS hSw.1
      have qc2 := hcv2 wS hSw.1
      go_simp
    try simp only [Act.put, List.getElem_toArray, List.getElem_cons_zero, List.getElem_cons_succ, List.setIfInBounds_toArray, List.set_cons_zero, List.set_cons_succ]
    refine upto_take (i := 16) (v := (.bool true)) rfl (by kernel_rfl) (by kernel_rfl) (by kernel_rfl) (by kernel_rfl) (fun _ _ _ h => h) (by rfl) hS ?_ ?_
    · intro wS hSw
      try dsimp only at hSw
      go_simp
    try simp only [Act.put, List.getElem_toArray, List.getElem_cons_zero, List.getElem_cons_succ, List.setIfInBounds_toArray, List.set_cons_zero, List.set_cons_succ]
    refine upto_take (i := 17) (v := (.bool true)) rfl (by kernel_rfl) (by kernel_rfl) (by kernel_rfl) (by kernel_rfl) (fun _ _ _ h => h) (by rfl) hS ?_ ?_
    · intro wS hSw
      try dsimp only at hSw
      go_simp
    try simp only [Act.put, List.getElem_toArray, List.getElem_cons_zero, List.getElem_cons_succ, List.setIfInBounds_toArray, List.set_cons_zero, List.set_cons_succ]
    refine upto_step (i := 18) (by kernel_rfl) rfl ?_
    intro K hK
    go_simp
    refine hK _ _ (fun h => absurd rfl h) ?_
    clear hK K
    refine upto_done (by kernel_rfl) ?_
    refine NoPanic.normal ?_
    have hB6 : Below w.heap.size w _ := bstep hB5 hS.1
    clear hS
    go_wp2
    go_ret
    exact ⟨rfl, hB6⟩

end appendsLaw
end Go.Proofs.Ytfeolikagceohaa

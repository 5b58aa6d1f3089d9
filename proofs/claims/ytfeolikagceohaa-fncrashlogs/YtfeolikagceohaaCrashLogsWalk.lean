/-
  Behind a crash: the walk.
-/
import Derived.Test.YtfeolikagceohaaAppendsWalk
import Derived.Test.YtfeolikagceohaaDrw6
import Derived.Test.YtfeolikagceohaaRegN
namespace Go.Proofs.Ytfeolikagceohaa
open Go.RowKit
set_option linter.unusedSectionVars false
variable [DecidableEq Logg] [Inhabited Logg] [DecidableEq LoggR] [Inhabited LoggR] [DecidableEq BytesR] [Inhabited BytesR] [DecidableEq RecsR] [Inhabited RecsR] [DecidableEq Leg] [Inhabited Leg]
set_option linter.unusedSimpArgs false
attribute [local go_sem ↓] Go.wp_at_zero Go.wp_at_succ

theorem crashD_cases (d : Logg) (k : Int) : (∃ n : Nat, k = n ∧ n ≤ d.loose.length ∧ crashD d k = ⟨0, ⟨d.synced ++ d.loose.take n, []⟩⟩ ∧ d.synced.length + d.loose.length ≤ 6000) ∨ ∃ c : Int, (c = 2 ∨ c = 3) ∧ crashD d k = codeD c := by
  unfold crashD
  rcases logF_cases d with ⟨h0, h1⟩ | h0
  · rw [if_pos h0]
    split
    · rename_i h5
      exact .inl ⟨k.toNat, by omega, by omega, rfl, h1⟩
    · exact .inr ⟨3, .inr rfl, rfl⟩
  · rw [if_neg (by omega)]
    exact .inr ⟨2, .inl rfl, rfl⟩
theorem trimD_few {d : Logg} (h : d.synced.length + d.loose.length ≤ 6000) : trimD d = ⟨0, ⟨d.synced.take (recU d.synced), []⟩⟩ := by
  unfold trimD
  rw [if_pos (by unfold logF; rw [if_neg (by omega)])]
/-- one row of a row of rows -/
theorem bytess_at {w : World} {a : Option Addr} {n q : Nat} {ps : List (List Byte)} (h : bytessR.V w (.slice a n q) ps) (i : Nat) (hi : i < ps.length) :
    ∃ g o u c, a = some ⟨g, o, none⟩ ∧ w.cell? ⟨g, o + i, none⟩ = some (.slice u (ps.getD i default).length c) ∧ bytesR.V w (.slice u (ps.getD i default).length c) (ps.getD i default) := by
  obtain ⟨pp, qq, ep, _, _, hrows⟩ := h
  simp only [Value.slice.injEq] at ep
  obtain ⟨rfl, _, rfl⟩ := ep
  obtain ⟨g, o, u, rfl, _, hc, hv⟩ := hrows i hi
  obtain ⟨au, cu, rfl⟩ := bytes_form hv
  have hc0 := hc 0 (by omega)
  exact ⟨g, o, au, cu, rfl, by simpa [one] using hc0, hv⟩

namespace crashLogsLaw
set_option maxHeartbeats 16000000 in
theorem walk (x0 : Value) (d0 : List Byte) (w : World) (hx0 : bytesR.V w x0 d0) :
    Calls Try.prog 4 #[x0] w fun e w' => e = .returned (.bool true) ∧ Below w.heap.size w w' := by
  have hX0 := hx0
  obtain ⟨ax, cx, rfl⟩ := bytes_form hx0
  go_enter Try.func4, Try.ntmps4
  go_wp2_with fail
  refine (lwBig_any _ d0 _ hX0).mono ?_
  rintro e w' ⟨rfl, hw⟩
  obtain rfl : w = w' := hw.symm
  by_cases hbig : 1048576 < d0.length
  · rw [decide_eq_true hbig]
    go_wp2
    go_ret
    exact ⟨rfl, Below.refl _ _⟩
  rw [decide_eq_false hbig]
  go_wp2_with fail
  refine (drawCrash_any _ d0 _ hX0 (by omega)).mono ?_
  rintro e w1 ⟨v1, k, d, rfl, hV, hwt, hb1⟩
  obtain ⟨a1, a2, c1, c2, rfl⟩ := logg_form hV
  go_wp2_with fail
  refine (implCrash_u _ d k _ (loggR.below hV (by (repeat (first | exact Below.refl _ _ | assumption | refine Below.drew ?_ | refine balloc ?_ _ | refine bset ?_ (by simp; omega) _ | refine bset ?_ (by simp) _ | refine bstep ?_ (by assumption))))) (by omega)).mono ?_
  rintro e w2 ⟨v2, F2, rfl, ho2, hb2⟩
  have l0 : w2.cell? ⟨w1.heap.size, 0, none⟩ = some (.slice a1 d.synced.length c1) := cell_keep hb2 (by simp [go_sem])
  have l1 : w2.cell? ⟨w1.heap.size, 1, none⟩ = some (.slice a2 d.loose.length c2) := cell_keep hb2 (by simp [go_sem])
  have z2 := hb2.size
  simp only [World.size_alloc] at z2
  have hW2 : Below w1.heap.size w1 w2 := bstep (by (repeat (first | exact Below.refl _ _ | assumption | refine Below.drew ?_ | refine balloc ?_ _ | refine bset ?_ (by simp; omega) _ | refine bset ?_ (by simp) _ | refine bstep ?_ (by assumption)))) hb2
  have hB2 : Below w.heap.size w w2 := bstep hb1 hW2
  have hV2 := loggR.below hV hW2
  have ofm := loggRR.ofO ho2
  clear hV hb2 hb1 hX0 hx0 hW2 ho2
  have z12 : w1.heap.size < w2.heap.size := by omega
  rcases crashD_cases d k with ⟨n, rfl, hn, hD, hf1⟩ | ⟨cc, hcc, hD⟩
  rotate_left
  · have HD : Hid (crashD d k = codeD cc) := hD
    rw [hD] at ofm
    obtain ⟨b1, b2, e1, e2, rfl⟩ := loggR_form ofm
    simp only [codeD, List.length_nil]
    have hc0 : ((cc : Int) == 0) = false := by rw [beq_eq_false_iff_ne]; omega
    have hc1 : ¬ cc = 0 := by omega
    clear hD ofm hcc
    go_wp2
    refine wp_region_noPanic ?_
    refine region_upto (fun w' => Below w.heap.size w w' ∧ w'.cell? ⟨w1.heap.size, 0, none⟩ = some (.slice a1 d.synced.length c1) ∧ w'.cell? ⟨w1.heap.size, 1, none⟩ = some (.slice a2 d.loose.length c2) ∧ w'.cell? ⟨w2.heap.size, 0, none⟩ = some (.int .i64 cc)) 7 (by kernel_rfl) ⟨by (repeat (first | exact Below.refl _ _ | assumption | refine Below.drew ?_ | refine balloc ?_ _ | refine bset ?_ (by simp; omega) _ | refine bset ?_ (by simp) _ | refine bstep ?_ (by assumption))), cell_keep (by (repeat (first | exact Below.refl _ _ | assumption | refine Below.drew ?_ | refine balloc ?_ _ | refine bset ?_ (by simp; omega) _ | refine bset ?_ (by simp) _ | refine bstep ?_ (by assumption)))) l0, cell_keep (by (repeat (first | exact Below.refl _ _ | assumption | refine Below.drew ?_ | refine balloc ?_ _ | refine bset ?_ (by simp; omega) _ | refine bset ?_ (by simp) _ | refine bstep ?_ (by assumption)))) l1, by simp [go_sem]⟩ (fun hS => ?_)
    refine upto_take (i := 0) (v := ?_) rfl (by kernel_rfl) (by kernel_rfl) (by kernel_rfl) (by kernel_rfl) (fun _ _ _ h => h) (by rfl) hS ?_ ?_
    rotate_left
    · intro wS hSw
      try dsimp only at hSw
      first | (go_simp; done) | (go_simp; with_reducible rfl)
    try simp only [Act.put, List.getElem_toArray, List.getElem_cons_zero, List.getElem_cons_succ, List.setIfInBounds_toArray, List.set_cons_zero, List.set_cons_succ]
    refine upto_take (i := 1) (v := ?_) rfl (by kernel_rfl) (by kernel_rfl) (by kernel_rfl) (by kernel_rfl) (fun _ _ _ h => h) (by rfl) hS ?_ ?_
    rotate_left
    · intro wS hSw
      try dsimp only at hSw
      first | (go_simp; done) | (go_simp; with_reducible rfl)
    try simp only [Act.put, List.getElem_toArray, List.getElem_cons_zero, List.getElem_cons_succ, List.setIfInBounds_toArray, List.set_cons_zero, List.set_cons_succ]
    refine upto_take (i := 4) (v := ?_) rfl (by kernel_rfl) (by kernel_rfl) (by kernel_rfl) (by kernel_rfl) (fun _ _ _ h => h) (by rfl) hS ?_ ?_
    rotate_left
    · intro wS hSw
      try dsimp only at hSw
      first | (go_simp; done) | (go_simp; with_reducible rfl)
    try simp only [Act.put, List.getElem_toArray, List.getElem_cons_zero, List.getElem_cons_succ, List.setIfInBounds_toArray, List.set_cons_zero, List.set_cons_succ]
    refine upto_take (i := 5) (v := ?_) rfl (by kernel_rfl) (by kernel_rfl) (by kernel_rfl) (by kernel_rfl) (fun _ _ _ h => h) (by rfl) hS ?_ ?_
    rotate_left
    · intro wS hSw
      try dsimp only at hSw
      first | (go_simp; done) | (go_simp; with_reducible rfl)
    try simp only [Act.put, List.getElem_toArray, List.getElem_cons_zero, List.getElem_cons_succ, List.setIfInBounds_toArray, List.set_cons_zero, List.set_cons_succ]
    refine upto_step (i := 2) (by kernel_rfl) rfl ?_
    intro K hK
    go_simp
    refine (specCrash_u _ d k _ (loggR.below hV2 (by (repeat (first | exact Below.refl _ _ | assumption | refine Below.drew ?_ | refine balloc ?_ _ | refine bset ?_ (by simp; omega) _ | refine bset ?_ (by simp) _ | refine bstep ?_ (by assumption))))) (by omega)).mono ?_
    rintro e w3 ⟨v3, F3, rfl, ho3, hb3⟩
    rw [HD.out] at ho3
    obtain ⟨p1, p2, g1, g2, rfl⟩ := loggR_form (loggRR.ofO ho3)
    have hS3 : (fun w' => Below w.heap.size w w' ∧ w'.cell? ⟨w1.heap.size, 0, none⟩ = some (.slice a1 d.synced.length c1) ∧ w'.cell? ⟨w1.heap.size, 1, none⟩ = some (.slice a2 d.loose.length c2) ∧ w'.cell? ⟨w2.heap.size, 0, none⟩ = some (.int .i64 cc)) w3 := ⟨bstep hS.1 hb3, cell_keep hb3 hS.2.1, cell_keep hb3 hS.2.2.1, cell_keep hb3 hS.2.2.2⟩
    have hfd : ∀ w : World, (Instr.field 38 (.agg #[.int .i64 cc, .slice p1 0 g1, .slice p2 0 g2]) 0).run Try.prog w = .ok (.int .i64 cc) w := fun _ => by kernel_rfl
    refine hK _ _ (fun _ => hS3) ?_
    clear hK K ho3 hb3
    simp only [codeD, List.length_nil]
    try simp only [Act.put, List.getElem_toArray, List.getElem_cons_zero, List.getElem_cons_succ, List.setIfInBounds_toArray, List.set_cons_zero, List.set_cons_succ]
    refine upto_take (i := 3) (v := (.int .i64 cc)) rfl (by kernel_rfl) (by kernel_rfl) (by kernel_rfl) (by kernel_rfl) (fun _ _ _ h => h) (by rfl) hS3 ?_ ?_
    · intro wS hSw
      try dsimp only at hSw
      go_simp
    try simp only [Act.put, List.getElem_toArray, List.getElem_cons_zero, List.getElem_cons_succ, List.setIfInBounds_toArray, List.set_cons_zero, List.set_cons_succ]
    refine upto_take (i := 6) (v := (.bool true)) rfl (by kernel_rfl) (by kernel_rfl) (by kernel_rfl) (by kernel_rfl) (fun _ _ _ h => h) (by rfl) hS3 ?_ ?_
    · intro wS hSw
      try dsimp only at hSw
      go_simp
    try simp only [Act.put, List.getElem_toArray, List.getElem_cons_zero, List.getElem_cons_succ, List.setIfInBounds_toArray, List.set_cons_zero, List.set_cons_succ]
    refine upto_step (i := 7) (by kernel_rfl) rfl ?_
    intro K hK
    go_simp
    refine hK _ _ (fun h => absurd rfl h) ?_
    clear hK K
    refine upto_done (by kernel_rfl) ?_
    refine NoPanic.normal ?_
    have hB3 := hS3.1
    clear hS hS3
    go_wp2
    go_ret
    exact ⟨rfl, hB3⟩
  rw [hD] at ofm
  obtain ⟨b1, b2, e1, e2, rfl⟩ := loggR_form ofm
  obtain ⟨p, hp⟩ : ∃ p, d.synced ++ d.loose.take n = p := ⟨_, rfl⟩
  rw [hp] at ofm
  have hN : loggR.V w2 (.agg #[.slice b1 p.length e1, .slice b2 0 e2]) ⟨p, []⟩ := by
    obtain ⟨u1, u2, eu, hh⟩ := ofm
    simp only [Value.agg.injEq, Array.mk.injEq, List.cons.injEq, and_true, true_and, hp] at eu
    obtain ⟨rfl, rfl⟩ := eu
    exact hh
  simp only [hp, List.length_nil]
  have hpl : p.length ≤ 6000 := by rw [← hp, List.length_append, List.length_take]; omega
  have hall : d.synced ++ d.loose = p ++ d.loose.drop n := by rw [← hp, List.append_assoc, List.take_append_drop]
  obtain ⟨more, hmore⟩ := recL_append p.length p (d.loose.drop n) (Nat.le_refl _)
  obtain ⟨les, hles⟩ := recL_append d.synced.length d.synced (d.loose.take n) (Nat.le_refl _)
  rw [hp] at hles
  have hused := (recU_used p.length p (Nat.le_refl _)).1
  have hule := recU_le p
  have HA : Hid (readD d = ⟨0, recU (d.synced ++ d.loose), recL p ++ more⟩) := by unfold Hid; rw [readD_few hf1, ← hmore, ← hall]
  have HS0 : Hid (readD ⟨d.synced, []⟩ = ⟨0, recU d.synced, recL d.synced⟩) := by unfold Hid; rw [readD_few (by simp; omega)]; simp
  have HN0 : Hid (readD ⟨p, []⟩ = ⟨0, recU p, recL p⟩) := by unfold Hid; rw [readD_few (by simp; omega)]; simp
  have HT : Hid (trimD ⟨p, []⟩ = ⟨0, ⟨p.take (recU p), []⟩⟩) := trimD_few (by simp; omega)
  have htl : (p.take (recU p)).length = recU p := by rw [List.length_take]; omega
  have HT2 : Hid (readD ⟨p.take (recU p), []⟩ = ⟨0, recU p, recL (p.take (recU p))⟩) := by unfold Hid; rw [readD_few (by dsimp only; rw [htl]; simp; omega)]; simp [hused]
  have hls : (recL d.synced).length ≤ (recL p).length := by rw [hles, List.length_append]; omega
  have hlp : (recL p).length ≤ 6000 := by have := recL_len p; omega
  have hla : (recL p ++ more).length ≤ 6000 := by rw [← hmore, ← hall]; have := recL_len (d.synced ++ d.loose); have := recU_le (d.synced ++ d.loose); rw [List.length_append] at this; omega
  clear ofm hD hp hall hmore hles hused
  generalize recU (d.synced ++ d.loose) = uA at *
  generalize recU d.synced = uS at *
  generalize recL d.synced = rS at *
  obtain ⟨rA, hrA⟩ : ∃ rA, recL p ++ more = rA := ⟨_, rfl⟩
  have HRA : Hid (∀ i, i < (recL p).length → rA.getD i default = (recL p).getD i default) := fun i hi => by rw [← hrA]; simp [List.getD, List.getElem?_append_left hi, hi]
  have hlA : (recL p).length ≤ rA.length := by rw [← hrA, List.length_append]; omega
  rw [hrA] at HA hla
  clear hrA
  generalize recL p = rP at *
  generalize recU p = uP at *
  have hVs : bytesR.V w2 (.slice a1 d.synced.length c1) d.synced := by
    obtain ⟨u1, u2, eu, h1, h2⟩ := hV2
    simp only [Value.agg.injEq, Array.mk.injEq, List.cons.injEq, and_true] at eu
    obtain ⟨rfl, rfl⟩ := eu
    exact h1
  go_wp2_with fail
  refine (implRead_u _ ⟨d.synced, []⟩ _ (⟨_, _, rfl, bytesR.below hVs (by (repeat (first | exact Below.refl _ _ | assumption | refine Below.drew ?_ | refine balloc ?_ _ | refine bset ?_ (by simp; omega) _ | refine bset ?_ (by simp) _ | refine bstep ?_ (by assumption)))), bytesR.ofO (bytes_nil _ 0)⟩) (by unfold wtLogg wtBytes; dsimp only; simp; omega)).mono ?_
  rintro e w3 ⟨v3, F3, rfl, ho3, hb3⟩
  rw [HS0.out] at ho3
  have of3 := recsRR.ofO ho3
  have z3 := hb3.size
  simp only [World.size_alloc] at z3
  have hW3 : Below w2.heap.size w2 w3 := bstep (by (repeat (first | exact Below.refl _ _ | assumption | refine Below.drew ?_ | refine balloc ?_ _ | refine bset ?_ (by simp; omega) _ | refine bset ?_ (by simp) _ | refine bstep ?_ (by assumption)))) hb3
  have hB3 : Below w.heap.size w w3 := bstep hB2 hW3
  have k1 : w3.cell? ⟨w2.heap.size, 1, none⟩ = some (.slice b1 p.length e1) := cell_keep hb3 (by simp [go_sem])
  have k2 : w3.cell? ⟨w2.heap.size, 2, none⟩ = some (.slice b2 0 e2) := cell_keep hb3 (by simp [go_sem])
  replace l0 := cell_keep hW3 l0
  replace l1 := cell_keep hW3 l1
  replace hV2 := loggR.below hV2 hW3
  replace hN := loggR.below hN hW3
  have yw13 : w1.heap.size < w3.heap.size := by omega
  have yw23 : w2.heap.size < w3.heap.size := by omega
  clear hb3 ho3 hW3 hB2
  clear hVs
  obtain ⟨p3, q3, rfl⟩ := recsR_form of3
  clear of3
  go_wp2_with fail
  refine (implRead_u _ d _ (loggR.below hV2 (by (repeat (first | exact Below.refl _ _ | assumption | refine Below.drew ?_ | refine balloc ?_ _ | refine bset ?_ (by simp; omega) _ | refine bset ?_ (by simp) _ | refine bstep ?_ (by assumption))))) (by omega)).mono ?_
  rintro e w4 ⟨v4, F4, rfl, ho4, hb4⟩
  rw [HA.out] at ho4
  have of4 := recsRR.ofO ho4
  have z4 := hb4.size
  simp only [World.size_alloc] at z4
  have hW4 : Below w3.heap.size w3 w4 := bstep (by (repeat (first | exact Below.refl _ _ | assumption | refine Below.drew ?_ | refine balloc ?_ _ | refine bset ?_ (by simp; omega) _ | refine bset ?_ (by simp) _ | refine bstep ?_ (by assumption)))) hb4
  have hB4 : Below w.heap.size w w4 := bstep hB3 hW4
  have s0 : w4.cell? ⟨w3.heap.size, 0, none⟩ = some (.int .i64 0) := cell_keep hb4 (by simp [go_sem])
  have s2 : w4.cell? ⟨w3.heap.size, 2, none⟩ = some (.slice p3 rS.length q3) := cell_keep hb4 (by simp [go_sem])
  replace l0 := cell_keep hW4 l0
  replace l1 := cell_keep hW4 l1
  replace k1 := cell_keep hW4 k1
  replace k2 := cell_keep hW4 k2
  replace hV2 := loggR.below hV2 hW4
  replace hN := loggR.below hN hW4
  have yw14 : w1.heap.size < w4.heap.size := by omega
  have yw24 : w2.heap.size < w4.heap.size := by omega
  have yw34 : w3.heap.size < w4.heap.size := by omega
  clear hb4 ho4 hW4 hB3
  obtain ⟨u4, eu4, rA4⟩ := of4
  subst eu4
  obtain ⟨p4, q4, rfl⟩ := bytess_form rA4
  go_wp2_with fail
  refine (implRead_u _ ⟨p, []⟩ _ (loggR.below hN (by (repeat (first | exact Below.refl _ _ | assumption | refine Below.drew ?_ | refine balloc ?_ _ | refine bset ?_ (by simp; omega) _ | refine bset ?_ (by simp) _ | refine bstep ?_ (by assumption))))) (by unfold wtLogg wtBytes; dsimp only; simp; omega)).mono ?_
  rintro e w5 ⟨v5, F5, rfl, ho5, hb5⟩
  rw [HN0.out] at ho5
  have of5 := recsRR.ofO ho5
  have z5 := hb5.size
  simp only [World.size_alloc] at z5
  have hW5 : Below w4.heap.size w4 w5 := bstep (by (repeat (first | exact Below.refl _ _ | assumption | refine Below.drew ?_ | refine balloc ?_ _ | refine bset ?_ (by simp; omega) _ | refine bset ?_ (by simp) _ | refine bstep ?_ (by assumption)))) hb5
  have hB5 : Below w.heap.size w w5 := bstep hB4 hW5
  have f0 : w5.cell? ⟨w4.heap.size, 0, none⟩ = some (.int .i64 0) := cell_keep hb5 (by simp [go_sem])
  have f2 : w5.cell? ⟨w4.heap.size, 2, none⟩ = some (.slice p4 rA.length q4) := cell_keep hb5 (by simp [go_sem])
  replace l0 := cell_keep hW5 l0
  replace l1 := cell_keep hW5 l1
  replace k1 := cell_keep hW5 k1
  replace k2 := cell_keep hW5 k2
  replace s0 := cell_keep hW5 s0
  replace s2 := cell_keep hW5 s2
  replace hV2 := loggR.below hV2 hW5
  replace hN := loggR.below hN hW5
  replace rA4 := bytessR.below rA4 hW5
  have yw15 : w1.heap.size < w5.heap.size := by omega
  have yw25 : w2.heap.size < w5.heap.size := by omega
  have yw35 : w3.heap.size < w5.heap.size := by omega
  have yw45 : w4.heap.size < w5.heap.size := by omega
  clear hb5 ho5 hW5 hB4
  obtain ⟨u5, eu5, rN5⟩ := of5
  subst eu5
  obtain ⟨p5, q5, rfl⟩ := bytess_form rN5
  go_wp2_with fail
  refine (implTrim_u _ ⟨p, []⟩ _ (loggR.below hN (by (repeat (first | exact Below.refl _ _ | assumption | refine Below.drew ?_ | refine balloc ?_ _ | refine bset ?_ (by simp; omega) _ | refine bset ?_ (by simp) _ | refine bstep ?_ (by assumption))))) (by unfold wtLogg wtBytes; dsimp only; simp; omega)).mono ?_
  rintro e w6 ⟨v6, F6, rfl, ho6, hb6⟩
  rw [HT.out] at ho6
  have of6 := loggRR.ofO ho6
  have z6 := hb6.size
  simp only [World.size_alloc] at z6
  have hW6 : Below w5.heap.size w5 w6 := bstep (by (repeat (first | exact Below.refl _ _ | assumption | refine Below.drew ?_ | refine balloc ?_ _ | refine bset ?_ (by simp; omega) _ | refine bset ?_ (by simp) _ | refine bstep ?_ (by assumption)))) hb6
  have hB6 : Below w.heap.size w w6 := bstep hB5 hW6
  have n0 : w6.cell? ⟨w5.heap.size, 0, none⟩ = some (.int .i64 0) := cell_keep hb6 (by simp [go_sem])
  have n2 : w6.cell? ⟨w5.heap.size, 2, none⟩ = some (.slice p5 rP.length q5) := cell_keep hb6 (by simp [go_sem])
  replace l0 := cell_keep hW6 l0
  replace l1 := cell_keep hW6 l1
  replace k1 := cell_keep hW6 k1
  replace k2 := cell_keep hW6 k2
  replace s0 := cell_keep hW6 s0
  replace s2 := cell_keep hW6 s2
  replace f0 := cell_keep hW6 f0
  replace f2 := cell_keep hW6 f2
  replace hV2 := loggR.below hV2 hW6
  replace hN := loggR.below hN hW6
  replace rA4 := bytessR.below rA4 hW6
  replace rN5 := bytessR.below rN5 hW6
  have yw16 : w1.heap.size < w6.heap.size := by omega
  have yw26 : w2.heap.size < w6.heap.size := by omega
  have yw36 : w3.heap.size < w6.heap.size := by omega
  have yw46 : w4.heap.size < w6.heap.size := by omega
  have yw56 : w5.heap.size < w6.heap.size := by omega
  clear hb6 ho6 hW6 hB5
  obtain ⟨u6, u7, eu6, hT6⟩ := of6
  simp only at eu6
  subst eu6
  obtain ⟨p6, p7, q6, q7, et⟩ := logg_form hT6
  simp only [Value.agg.injEq, Array.mk.injEq, List.cons.injEq, and_true] at et
  obtain ⟨rfl, rfl⟩ := et
  simp only [htl, List.length_nil] at hT6 ⊢
  have u1 : IntKind.i64.wrap (uP : Int) = uP := wrapI _ (by omega) (by omega)
  have g1 : ¬ (rP.length : Int) < (rS.length : Int) := by omega
  have g2 : ¬ (rA.length : Int) < (rP.length : Int) := by omega
  go_wp2
  refine wp_region_noPanic ?_
  refine region_upto (fun w' => Below w6.heap.size w6 w' ∧ w'.cell? ⟨w1.heap.size, 0, none⟩ = some (.slice a1 d.synced.length c1) ∧ w'.cell? ⟨w1.heap.size, 1, none⟩ = some (.slice a2 d.loose.length c2) ∧ w'.cell? ⟨w3.heap.size, 0, none⟩ = some (.int .i64 0) ∧ w'.cell? ⟨w3.heap.size, 2, none⟩ = some (.slice p3 rS.length q3) ∧ w'.cell? ⟨w4.heap.size, 0, none⟩ = some (.int .i64 0) ∧ w'.cell? ⟨w4.heap.size, 2, none⟩ = some (.slice p4 rA.length q4) ∧ w'.cell? ⟨w5.heap.size, 0, none⟩ = some (.int .i64 0) ∧ w'.cell? ⟨w5.heap.size, 2, none⟩ = some (.slice p5 rP.length q5) ∧ w'.cell? ⟨w6.heap.size, 0, none⟩ = some (.int .i64 0) ∧ w'.cell? ⟨w6.heap.size, 1, none⟩ = some (.slice p6 uP q6) ∧ w'.cell? ⟨w6.heap.size, 2, none⟩ = some (.slice p7 0 q7)) 47 (by kernel_rfl) ⟨by (repeat (first | exact Below.refl _ _ | assumption | refine Below.drew ?_ | refine balloc ?_ _ | refine bset ?_ (by simp; omega) _ | refine bset ?_ (by simp) _ | refine bstep ?_ (by assumption))), cell_keep (by (repeat (first | exact Below.refl _ _ | assumption | refine Below.drew ?_ | refine balloc ?_ _ | refine bset ?_ (by simp; omega) _ | refine bset ?_ (by simp) _ | refine bstep ?_ (by assumption)))) l0, cell_keep (by (repeat (first | exact Below.refl _ _ | assumption | refine Below.drew ?_ | refine balloc ?_ _ | refine bset ?_ (by simp; omega) _ | refine bset ?_ (by simp) _ | refine bstep ?_ (by assumption)))) l1, cell_keep (by (repeat (first | exact Below.refl _ _ | assumption | refine Below.drew ?_ | refine balloc ?_ _ | refine bset ?_ (by simp; omega) _ | refine bset ?_ (by simp) _ | refine bstep ?_ (by assumption)))) s0, cell_keep (by (repeat (first | exact Below.refl _ _ | assumption | refine Below.drew ?_ | refine balloc ?_ _ | refine bset ?_ (by simp; omega) _ | refine bset ?_ (by simp) _ | refine bstep ?_ (by assumption)))) s2, cell_keep (by (repeat (first | exact Below.refl _ _ | assumption | refine Below.drew ?_ | refine balloc ?_ _ | refine bset ?_ (by simp; omega) _ | refine bset ?_ (by simp) _ | refine bstep ?_ (by assumption)))) f0, cell_keep (by (repeat (first | exact Below.refl _ _ | assumption | refine Below.drew ?_ | refine balloc ?_ _ | refine bset ?_ (by simp; omega) _ | refine bset ?_ (by simp) _ | refine bstep ?_ (by assumption)))) f2, cell_keep (by (repeat (first | exact Below.refl _ _ | assumption | refine Below.drew ?_ | refine balloc ?_ _ | refine bset ?_ (by simp; omega) _ | refine bset ?_ (by simp) _ | refine bstep ?_ (by assumption)))) n0, cell_keep (by (repeat (first | exact Below.refl _ _ | assumption | refine Below.drew ?_ | refine balloc ?_ _ | refine bset ?_ (by simp; omega) _ | refine bset ?_ (by simp) _ | refine bstep ?_ (by assumption)))) n2, by simp [go_sem], by simp [go_sem], by simp [go_sem]⟩ (fun hS => ?_)
  refine upto_takeN (i := 0) (v := ?_) rfl (by kernel_rfl) (by kernel_rfl) (by kernel_rfl) (by kernel_rfl) (fun _ _ _ h => h) (by rfl) hS ?_ ?_
  rotate_left
  · intro wS hSw
    try dsimp only at hSw
    first | (go_simp; done) | (go_simp; with_reducible rfl)
  try simp only [Act.put, List.getElem_toArray, List.getElem_cons_zero, List.getElem_cons_succ, List.setIfInBounds_toArray, List.set_cons_zero, List.set_cons_succ]
  refine upto_takeN (i := 1) (v := ?_) rfl (by kernel_rfl) (by kernel_rfl) (by kernel_rfl) (by kernel_rfl) (fun _ _ _ h => h) (by rfl) hS ?_ ?_
  rotate_left
  · intro wS hSw
    try dsimp only at hSw
    first | (go_simp; done) | (go_simp; with_reducible rfl)
  try simp only [Act.put, List.getElem_toArray, List.getElem_cons_zero, List.getElem_cons_succ, List.setIfInBounds_toArray, List.set_cons_zero, List.set_cons_succ]
  refine upto_takeN (i := 2) (v := (.bool false)) rfl (by kernel_rfl) (by kernel_rfl) (by kernel_rfl) (by kernel_rfl) (fun _ _ _ h => h) (by rfl) hS ?_ ?_
  · intro wS hSw
    try dsimp only at hSw
    go_simp
  try simp only [Act.put, List.getElem_toArray, List.getElem_cons_zero, List.getElem_cons_succ, List.setIfInBounds_toArray, List.set_cons_zero, List.set_cons_succ]
  refine upto_takeN (i := 3) (v := (.bool false)) rfl (by kernel_rfl) (by kernel_rfl) (by kernel_rfl) (by kernel_rfl) (fun _ _ _ h => h) (by rfl) hS ?_ ?_
  · intro wS hSw
    try dsimp only at hSw
    go_simp
  try simp only [Act.put, List.getElem_toArray, List.getElem_cons_zero, List.getElem_cons_succ, List.setIfInBounds_toArray, List.set_cons_zero, List.set_cons_succ]
  refine upto_takeN (i := 4) (v := ?_) rfl (by kernel_rfl) (by kernel_rfl) (by kernel_rfl) (by kernel_rfl) (fun _ _ _ h => h) (by rfl) hS ?_ ?_
  rotate_left
  · intro wS hSw
    try dsimp only at hSw
    first | (go_simp; done) | (go_simp; with_reducible rfl)
  try simp only [Act.put, List.getElem_toArray, List.getElem_cons_zero, List.getElem_cons_succ, List.setIfInBounds_toArray, List.set_cons_zero, List.set_cons_succ]
  refine upto_takeN (i := 5) (v := ?_) rfl (by kernel_rfl) (by kernel_rfl) (by kernel_rfl) (by kernel_rfl) (fun _ _ _ h => h) (by rfl) hS ?_ ?_
  rotate_left
  · intro wS hSw
    try dsimp only at hSw
    first | (go_simp; done) | (go_simp; with_reducible rfl)
  try simp only [Act.put, List.getElem_toArray, List.getElem_cons_zero, List.getElem_cons_succ, List.setIfInBounds_toArray, List.set_cons_zero, List.set_cons_succ]
  refine upto_takeN (i := 6) (v := (.bool false)) rfl (by kernel_rfl) (by kernel_rfl) (by kernel_rfl) (by kernel_rfl) (fun _ _ _ h => h) (by rfl) hS ?_ ?_
  · intro wS hSw
    try dsimp only at hSw
    go_simp
  try simp only [Act.put, List.getElem_toArray, List.getElem_cons_zero, List.getElem_cons_succ, List.setIfInBounds_toArray, List.set_cons_zero, List.set_cons_succ]
  refine upto_takeN (i := 7) (v := (.bool false)) rfl (by kernel_rfl) (by kernel_rfl) (by kernel_rfl) (by kernel_rfl) (fun _ _ _ h => h) (by rfl) hS ?_ ?_
  · intro wS hSw
    try dsimp only at hSw
    go_simp
  try simp only [Act.put, List.getElem_toArray, List.getElem_cons_zero, List.getElem_cons_succ, List.setIfInBounds_toArray, List.set_cons_zero, List.set_cons_succ]
  refine upto_takeN (i := 8) (v := (.bool false)) rfl (by kernel_rfl) (by kernel_rfl) (by kernel_rfl) (by kernel_rfl) (fun _ _ _ h => h) (by rfl) hS ?_ ?_
  · intro wS hSw
    try dsimp only at hSw
    go_simp
  try simp only [Act.put, List.getElem_toArray, List.getElem_cons_zero, List.getElem_cons_succ, List.setIfInBounds_toArray, List.set_cons_zero, List.set_cons_succ]
  refine upto_takeN (i := 9) (v := ?_) rfl (by kernel_rfl) (by kernel_rfl) (by kernel_rfl) (by kernel_rfl) (fun _ _ _ h => h) (by rfl) hS ?_ ?_
  rotate_left
  · intro wS hSw
    try dsimp only at hSw
    first | (go_simp; done) | (go_simp; with_reducible rfl)
  try simp only [Act.put, List.getElem_toArray, List.getElem_cons_zero, List.getElem_cons_succ, List.setIfInBounds_toArray, List.set_cons_zero, List.set_cons_succ]
  refine upto_takeN (i := 10) (v := ?_) rfl (by kernel_rfl) (by kernel_rfl) (by kernel_rfl) (by kernel_rfl) (fun _ _ _ h => h) (by rfl) hS ?_ ?_
  rotate_left
  · intro wS hSw
    try dsimp only at hSw
    first | (go_simp; done) | (go_simp; with_reducible rfl)
  try simp only [Act.put, List.getElem_toArray, List.getElem_cons_zero, List.getElem_cons_succ, List.setIfInBounds_toArray, List.set_cons_zero, List.set_cons_succ]
  refine upto_takeN (i := 11) (v := (.bool false)) rfl (by kernel_rfl) (by kernel_rfl) (by kernel_rfl) (by kernel_rfl) (fun _ _ _ h => h) (by rfl) hS ?_ ?_
  · intro wS hSw
    try dsimp only at hSw
    go_simp
  try simp only [Act.put, List.getElem_toArray, List.getElem_cons_zero, List.getElem_cons_succ, List.setIfInBounds_toArray, List.set_cons_zero, List.set_cons_succ]
  refine upto_takeN (i := 12) (v := (.bool false)) rfl (by kernel_rfl) (by kernel_rfl) (by kernel_rfl) (by kernel_rfl) (fun _ _ _ h => h) (by rfl) hS ?_ ?_
  · intro wS hSw
    try dsimp only at hSw
    go_simp
  try simp only [Act.put, List.getElem_toArray, List.getElem_cons_zero, List.getElem_cons_succ, List.setIfInBounds_toArray, List.set_cons_zero, List.set_cons_succ]
  refine upto_takeN (i := 13) (v := (.bool false)) rfl (by kernel_rfl) (by kernel_rfl) (by kernel_rfl) (by kernel_rfl) (fun _ _ _ h => h) (by rfl) hS ?_ ?_
  · intro wS hSw
    try dsimp only at hSw
    go_simp
  try simp only [Act.put, List.getElem_toArray, List.getElem_cons_zero, List.getElem_cons_succ, List.setIfInBounds_toArray, List.set_cons_zero, List.set_cons_succ]
  refine upto_takeN (i := 14) (v := ?_) rfl (by kernel_rfl) (by kernel_rfl) (by kernel_rfl) (by kernel_rfl) (fun _ _ _ h => h) (by rfl) hS ?_ ?_
  rotate_left
  · intro wS hSw
    try dsimp only at hSw
    first | (go_simp; done) | (go_simp; with_reducible rfl)
  try simp only [Act.put, List.getElem_toArray, List.getElem_cons_zero, List.getElem_cons_succ, List.setIfInBounds_toArray, List.set_cons_zero, List.set_cons_succ]
  refine upto_takeN (i := 15) (v := ?_) rfl (by kernel_rfl) (by kernel_rfl) (by kernel_rfl) (by kernel_rfl) (fun _ _ _ h => h) (by rfl) hS ?_ ?_
  rotate_left
  · intro wS hSw
    try dsimp only at hSw
    first | (go_simp; done) | (go_simp; with_reducible rfl)
  try simp only [Act.put, List.getElem_toArray, List.getElem_cons_zero, List.getElem_cons_succ, List.setIfInBounds_toArray, List.set_cons_zero, List.set_cons_succ]
  refine upto_takeN (i := 16) (v := ?_) rfl (by kernel_rfl) (by kernel_rfl) (by kernel_rfl) (by kernel_rfl) (fun _ _ _ h => h) (by rfl) hS ?_ ?_
  rotate_left
  · intro wS hSw
    try dsimp only at hSw
    first | (go_simp; done) | (go_simp; with_reducible rfl)
  try simp only [Act.put, List.getElem_toArray, List.getElem_cons_zero, List.getElem_cons_succ, List.setIfInBounds_toArray, List.set_cons_zero, List.set_cons_succ]
  refine upto_takeN (i := 17) (v := ?_) rfl (by kernel_rfl) (by kernel_rfl) (by kernel_rfl) (by kernel_rfl) (fun _ _ _ h => h) (by rfl) hS ?_ ?_
  rotate_left
  · intro wS hSw
    try dsimp only at hSw
    first | (go_simp; done) | (go_simp; with_reducible rfl)
  try simp only [Act.put, List.getElem_toArray, List.getElem_cons_zero, List.getElem_cons_succ, List.setIfInBounds_toArray, List.set_cons_zero, List.set_cons_succ]
  refine upto_takeN (i := 18) (v := ?_) rfl (by kernel_rfl) (by kernel_rfl) (by kernel_rfl) (by kernel_rfl) (fun _ _ _ h => h) (by rfl) hS ?_ ?_
  rotate_left
  · intro wS hSw
    try dsimp only at hSw
    first | (go_simp; done) | (go_simp; with_reducible rfl)
  try simp only [Act.put, List.getElem_toArray, List.getElem_cons_zero, List.getElem_cons_succ, List.setIfInBounds_toArray, List.set_cons_zero, List.set_cons_succ]
  refine upto_takeN (i := 19) (v := ?_) rfl (by kernel_rfl) (by kernel_rfl) (by kernel_rfl) (by kernel_rfl) (fun _ _ _ h => h) (by rfl) hS ?_ ?_
  rotate_left
  · intro wS hSw
    try dsimp only at hSw
    first | (go_simp; done) | (go_simp; with_reducible rfl)
  try simp only [Act.put, List.getElem_toArray, List.getElem_cons_zero, List.getElem_cons_succ, List.setIfInBounds_toArray, List.set_cons_zero, List.set_cons_succ]
  refine upto_takeN (i := 20) (v := (.bool false)) rfl (by kernel_rfl) (by kernel_rfl) (by kernel_rfl) (by kernel_rfl) (fun _ _ _ h => h) (by rfl) hS ?_ ?_
  · intro wS hSw
    try dsimp only at hSw
    go_simp
  try simp only [Act.put, List.getElem_toArray, List.getElem_cons_zero, List.getElem_cons_succ, List.setIfInBounds_toArray, List.set_cons_zero, List.set_cons_succ]
  refine upto_takeN (i := 21) (v := (.bool false)) rfl (by kernel_rfl) (by kernel_rfl) (by kernel_rfl) (by kernel_rfl) (fun _ _ _ h => h) (by rfl) hS ?_ ?_
  · intro wS hSw
    try dsimp only at hSw
    go_simp
  try simp only [Act.put, List.getElem_toArray, List.getElem_cons_zero, List.getElem_cons_succ, List.setIfInBounds_toArray, List.set_cons_zero, List.set_cons_succ]
  refine upto_takeN (i := 22) (v := (.bool false)) rfl (by kernel_rfl) (by kernel_rfl) (by kernel_rfl) (by kernel_rfl) (fun _ _ _ h => h) (by rfl) hS ?_ ?_
  · intro wS hSw
    try dsimp only at hSw
    go_simp
  try simp only [Act.put, List.getElem_toArray, List.getElem_cons_zero, List.getElem_cons_succ, List.setIfInBounds_toArray, List.set_cons_zero, List.set_cons_succ]
  refine upto_takeN (i := 23) (v := ?_) rfl (by kernel_rfl) (by kernel_rfl) (by kernel_rfl) (by kernel_rfl) (fun _ _ _ h => h) (by rfl) hS ?_ ?_
  rotate_left
  · intro wS hSw
    try dsimp only at hSw
    first | (go_simp; done) | (go_simp; with_reducible rfl)
  try simp only [Act.put, List.getElem_toArray, List.getElem_cons_zero, List.getElem_cons_succ, List.setIfInBounds_toArray, List.set_cons_zero, List.set_cons_succ]
  refine upto_takeN (i := 24) (v := ?_) rfl (by kernel_rfl) (by kernel_rfl) (by kernel_rfl) (by kernel_rfl) (fun _ _ _ h => h) (by rfl) hS ?_ ?_
  rotate_left
  · intro wS hSw
    try dsimp only at hSw
    first | (go_simp; done) | (go_simp; with_reducible rfl)
  try simp only [Act.put, List.getElem_toArray, List.getElem_cons_zero, List.getElem_cons_succ, List.setIfInBounds_toArray, List.set_cons_zero, List.set_cons_succ]
  refine upto_takeN (i := 25) (v := ?_) rfl (by kernel_rfl) (by kernel_rfl) (by kernel_rfl) (by kernel_rfl) (fun _ _ _ h => h) (by rfl) hS ?_ ?_
  rotate_left
  · intro wS hSw
    try dsimp only at hSw
    first | (go_simp; done) | (go_simp; with_reducible rfl)
  try simp only [Act.put, List.getElem_toArray, List.getElem_cons_zero, List.getElem_cons_succ, List.setIfInBounds_toArray, List.set_cons_zero, List.set_cons_succ]
  refine upto_takeN (i := 26) (v := ?_) rfl (by kernel_rfl) (by kernel_rfl) (by kernel_rfl) (by kernel_rfl) (fun _ _ _ h => h) (by rfl) hS ?_ ?_
  rotate_left
  · intro wS hSw
    try dsimp only at hSw
    first | (go_simp; done) | (go_simp; with_reducible rfl)
  try simp only [Act.put, List.getElem_toArray, List.getElem_cons_zero, List.getElem_cons_succ, List.setIfInBounds_toArray, List.set_cons_zero, List.set_cons_succ]
  refine upto_takeN (i := 27) (v := ?_) rfl (by kernel_rfl) (by kernel_rfl) (by kernel_rfl) (by kernel_rfl) (fun _ _ _ h => h) (by rfl) hS ?_ ?_
  rotate_left
  · intro wS hSw
    try dsimp only at hSw
    first | (go_simp; done) | (go_simp; with_reducible rfl)
  try simp only [Act.put, List.getElem_toArray, List.getElem_cons_zero, List.getElem_cons_succ, List.setIfInBounds_toArray, List.set_cons_zero, List.set_cons_succ]
  refine upto_takeN (i := 28) (v := ?_) rfl (by kernel_rfl) (by kernel_rfl) (by kernel_rfl) (by kernel_rfl) (fun _ _ _ h => h) (by rfl) hS ?_ ?_
  rotate_left
  · intro wS hSw
    try dsimp only at hSw
    first | (go_simp; done) | (go_simp; with_reducible rfl)
  try simp only [Act.put, List.getElem_toArray, List.getElem_cons_zero, List.getElem_cons_succ, List.setIfInBounds_toArray, List.set_cons_zero, List.set_cons_succ]
  refine upto_takeN (i := 29) (v := (.bool false)) rfl (by kernel_rfl) (by kernel_rfl) (by kernel_rfl) (by kernel_rfl) (fun _ _ _ h => h) (by rfl) hS ?_ ?_
  · intro wS hSw
    try dsimp only at hSw
    go_simp
  try simp only [Act.put, List.getElem_toArray, List.getElem_cons_zero, List.getElem_cons_succ, List.setIfInBounds_toArray, List.set_cons_zero, List.set_cons_succ]
  refine upto_takeN (i := 30) (v := (.bool false)) rfl (by kernel_rfl) (by kernel_rfl) (by kernel_rfl) (by kernel_rfl) (fun _ _ _ h => h) (by rfl) hS ?_ ?_
  · intro wS hSw
    try dsimp only at hSw
    go_simp
  try simp only [Act.put, List.getElem_toArray, List.getElem_cons_zero, List.getElem_cons_succ, List.setIfInBounds_toArray, List.set_cons_zero, List.set_cons_succ]
  refine upto_takeN (i := 31) (v := (.bool false)) rfl (by kernel_rfl) (by kernel_rfl) (by kernel_rfl) (by kernel_rfl) (fun _ _ _ h => h) (by rfl) hS ?_ ?_
  · intro wS hSw
    try dsimp only at hSw
    go_simp
  try simp only [Act.put, List.getElem_toArray, List.getElem_cons_zero, List.getElem_cons_succ, List.setIfInBounds_toArray, List.set_cons_zero, List.set_cons_succ]
  refine upto_takeN (i := 32) (v := ?_) rfl (by kernel_rfl) (by kernel_rfl) (by kernel_rfl) (by kernel_rfl) (fun _ _ _ h => h) (by rfl) hS ?_ ?_
  rotate_left
  · intro wS hSw
    try dsimp only at hSw
    first | (go_simp; done) | (go_simp; with_reducible rfl)
  try simp only [Act.put, List.getElem_toArray, List.getElem_cons_zero, List.getElem_cons_succ, List.setIfInBounds_toArray, List.set_cons_zero, List.set_cons_succ]
  refine upto_takeN (i := 33) (v := ?_) rfl (by kernel_rfl) (by kernel_rfl) (by kernel_rfl) (by kernel_rfl) (fun _ _ _ h => h) (by rfl) hS ?_ ?_
  rotate_left
  · intro wS hSw
    try dsimp only at hSw
    first | (go_simp; done) | (go_simp; with_reducible rfl)
  try simp only [Act.put, List.getElem_toArray, List.getElem_cons_zero, List.getElem_cons_succ, List.setIfInBounds_toArray, List.set_cons_zero, List.set_cons_succ]
  refine upto_takeN (i := 34) (v := (.bool false)) rfl (by kernel_rfl) (by kernel_rfl) (by kernel_rfl) (by kernel_rfl) (fun _ _ _ h => h) (by rfl) hS ?_ ?_
  · intro wS hSw
    try dsimp only at hSw
    go_simp
  try simp only [Act.put, List.getElem_toArray, List.getElem_cons_zero, List.getElem_cons_succ, List.setIfInBounds_toArray, List.set_cons_zero, List.set_cons_succ]
  refine upto_takeN (i := 35) (v := (.bool false)) rfl (by kernel_rfl) (by kernel_rfl) (by kernel_rfl) (by kernel_rfl) (fun _ _ _ h => h) (by rfl) hS ?_ ?_
  · intro wS hSw
    try dsimp only at hSw
    go_simp
  try simp only [Act.put, List.getElem_toArray, List.getElem_cons_zero, List.getElem_cons_succ, List.setIfInBounds_toArray, List.set_cons_zero, List.set_cons_succ]
  refine upto_takeN (i := 36) (v := (.bool false)) rfl (by kernel_rfl) (by kernel_rfl) (by kernel_rfl) (by kernel_rfl) (fun _ _ _ h => h) (by rfl) hS ?_ ?_
  · intro wS hSw
    try dsimp only at hSw
    go_simp
  try simp only [Act.put, List.getElem_toArray, List.getElem_cons_zero, List.getElem_cons_succ, List.setIfInBounds_toArray, List.set_cons_zero, List.set_cons_succ]
  refine upto_takeN (i := 37) (v := ?_) rfl (by kernel_rfl) (by kernel_rfl) (by kernel_rfl) (by kernel_rfl) (fun _ _ _ h => h) (by rfl) hS ?_ ?_
  rotate_left
  · intro wS hSw
    try dsimp only at hSw
    first | (go_simp; done) | (go_simp; with_reducible rfl)
  try simp only [Act.put, List.getElem_toArray, List.getElem_cons_zero, List.getElem_cons_succ, List.setIfInBounds_toArray, List.set_cons_zero, List.set_cons_succ]
  refine upto_takeN (i := 38) (v := ?_) rfl (by kernel_rfl) (by kernel_rfl) (by kernel_rfl) (by kernel_rfl) (fun _ _ _ h => h) (by rfl) hS ?_ ?_
  rotate_left
  · intro wS hSw
    try dsimp only at hSw
    first | (go_simp; done) | (go_simp; with_reducible rfl)
  try simp only [Act.put, List.getElem_toArray, List.getElem_cons_zero, List.getElem_cons_succ, List.setIfInBounds_toArray, List.set_cons_zero, List.set_cons_succ]
  refine upto_takeN (i := 41) (v := ?_) rfl (by kernel_rfl) (by kernel_rfl) (by kernel_rfl) (by kernel_rfl) (fun _ _ _ h => h) (by rfl) hS ?_ ?_
  rotate_left
  · intro wS hSw
    try dsimp only at hSw
    first | (go_simp; done) | (go_simp; with_reducible rfl)
  try simp only [Act.put, List.getElem_toArray, List.getElem_cons_zero, List.getElem_cons_succ, List.setIfInBounds_toArray, List.set_cons_zero, List.set_cons_succ]
  refine upto_takeN (i := 42) (v := ?_) rfl (by kernel_rfl) (by kernel_rfl) (by kernel_rfl) (by kernel_rfl) (fun _ _ _ h => h) (by rfl) hS ?_ ?_
  rotate_left
  · intro wS hSw
    try dsimp only at hSw
    first | (go_simp; done) | (go_simp; with_reducible rfl)
  try simp only [Act.put, List.getElem_toArray, List.getElem_cons_zero, List.getElem_cons_succ, List.setIfInBounds_toArray, List.set_cons_zero, List.set_cons_succ]
  refine upto_takeN (i := 43) (v := ?_) rfl (by kernel_rfl) (by kernel_rfl) (by kernel_rfl) (by kernel_rfl) (fun _ _ _ h => h) (by rfl) hS ?_ ?_
  rotate_left
  · intro wS hSw
    try dsimp only at hSw
    first | (go_simp; done) | (go_simp; with_reducible rfl)
  try simp only [Act.put, List.getElem_toArray, List.getElem_cons_zero, List.getElem_cons_succ, List.setIfInBounds_toArray, List.set_cons_zero, List.set_cons_succ]
  refine upto_takeN (i := 44) (v := ?_) rfl (by kernel_rfl) (by kernel_rfl) (by kernel_rfl) (by kernel_rfl) (fun _ _ _ h => h) (by rfl) hS ?_ ?_
  rotate_left
  · intro wS hSw
    try dsimp only at hSw
    first | (go_simp; done) | (go_simp; with_reducible rfl)
  try simp only [Act.put, List.getElem_toArray, List.getElem_cons_zero, List.getElem_cons_succ, List.setIfInBounds_toArray, List.set_cons_zero, List.set_cons_succ]
  refine upto_step (i := 39) (by kernel_rfl) rfl ?_
  intro K hK
  go_simp
  refine (implRead_u _ ⟨p.take uP, []⟩ _ (loggR.below hT6 (by (repeat (first | exact Below.refl _ _ | assumption | refine Below.drew ?_ | refine balloc ?_ _ | refine bset ?_ (by simp; omega) _ | refine bset ?_ (by simp) _ | refine bstep ?_ (by assumption))))) (by unfold wtLogg wtBytes; dsimp only; rw [htl]; simp; omega)).mono ?_
  rintro e w8 ⟨v8, F8, rfl, ho8, hb8⟩
  rw [HT2.out] at ho8
  obtain ⟨p8, q8, rfl⟩ := recsR_form (recsRR.ofO ho8)
  have hS8 : (fun w' => Below w6.heap.size w6 w' ∧ w'.cell? ⟨w1.heap.size, 0, none⟩ = some (.slice a1 d.synced.length c1) ∧ w'.cell? ⟨w1.heap.size, 1, none⟩ = some (.slice a2 d.loose.length c2) ∧ w'.cell? ⟨w3.heap.size, 0, none⟩ = some (.int .i64 0) ∧ w'.cell? ⟨w3.heap.size, 2, none⟩ = some (.slice p3 rS.length q3) ∧ w'.cell? ⟨w4.heap.size, 0, none⟩ = some (.int .i64 0) ∧ w'.cell? ⟨w4.heap.size, 2, none⟩ = some (.slice p4 rA.length q4) ∧ w'.cell? ⟨w5.heap.size, 0, none⟩ = some (.int .i64 0) ∧ w'.cell? ⟨w5.heap.size, 2, none⟩ = some (.slice p5 rP.length q5) ∧ w'.cell? ⟨w6.heap.size, 0, none⟩ = some (.int .i64 0) ∧ w'.cell? ⟨w6.heap.size, 1, none⟩ = some (.slice p6 uP q6) ∧ w'.cell? ⟨w6.heap.size, 2, none⟩ = some (.slice p7 0 q7)) w8 := ⟨bstep hS.1 hb8, cell_keep hb8 hS.2.1, cell_keep hb8 hS.2.2.1, cell_keep hb8 hS.2.2.2.1, cell_keep hb8 hS.2.2.2.2.1, cell_keep hb8 hS.2.2.2.2.2.1, cell_keep hb8 hS.2.2.2.2.2.2.1, cell_keep hb8 hS.2.2.2.2.2.2.2.1, cell_keep hb8 hS.2.2.2.2.2.2.2.2.1, cell_keep hb8 hS.2.2.2.2.2.2.2.2.2.1, cell_keep hb8 hS.2.2.2.2.2.2.2.2.2.2.1, cell_keep hb8 hS.2.2.2.2.2.2.2.2.2.2.2⟩
  have hfd8 : ∀ (nn : Nat) (w : World), (Instr.field 31 (.agg #[.int .i64 0, .int .i64 (uP : Int), .slice p8 nn q8]) 1).run Try.prog w = .ok (.int .i64 (uP : Int)) w := fun _ _ => by kernel_rfl
  refine hK _ _ (fun _ => hS8) ?_
  clear hK K ho8 hb8
  try simp only [Act.put, List.getElem_toArray, List.getElem_cons_zero, List.getElem_cons_succ, List.setIfInBounds_toArray, List.set_cons_zero, List.set_cons_succ]
  refine upto_takeN (i := 40) (v := (.int .i64 (uP : Int))) rfl (by kernel_rfl) (by kernel_rfl) (by kernel_rfl) (by kernel_rfl) (fun _ _ _ h => h) (by rfl) hS8 ?_ ?_
  · intro wS hSw
    try dsimp only at hSw
    go_simp
  try simp only [Act.put, List.getElem_toArray, List.getElem_cons_zero, List.getElem_cons_succ, List.setIfInBounds_toArray, List.set_cons_zero, List.set_cons_succ]
  refine upto_takeN (i := 45) (v := (.bool false)) rfl (by kernel_rfl) (by kernel_rfl) (by kernel_rfl) (by kernel_rfl) (fun _ _ _ h => h) (by rfl) hS8 ?_ ?_
  · intro wS hSw
    try dsimp only at hSw
    go_simp
  try simp only [Act.put, List.getElem_toArray, List.getElem_cons_zero, List.getElem_cons_succ, List.setIfInBounds_toArray, List.set_cons_zero, List.set_cons_succ]
  refine upto_takeN (i := 46) (v := (.bool false)) rfl (by kernel_rfl) (by kernel_rfl) (by kernel_rfl) (by kernel_rfl) (fun _ _ _ h => h) (by rfl) hS8 ?_ ?_
  · intro wS hSw
    try dsimp only at hSw
    go_simp
  try simp only [Act.put, List.getElem_toArray, List.getElem_cons_zero, List.getElem_cons_succ, List.setIfInBounds_toArray, List.set_cons_zero, List.set_cons_succ]
  refine upto_done (by kernel_rfl) ?_
  refine NoPanic.normal ?_
  have hW8 := hS8.1
  have hB8 : Below w.heap.size w w8 := bstep hB6 hW8
  obtain ⟨_, l0', l1', _, _, _, f2', _, n2', _⟩ := hS8
  replace rA4 := bytessR.below rA4 hW8
  replace rN5 := bytessR.below rN5 hW8
  replace hV2 := loggR.below hV2 hW8
  clear hS hW8 hB6 l0 l1 k1 k2 s0 s2 f0 f2 n0 n2 hN hT6 hfd8 HS0 HN0 HT HT2
  go_wp2
  go_loopw [10] (fun i w' => ∃ j : Nat, i = .int .i64 j ∧ j ≤ rP.length ∧ Below w8.heap.size w8 w') (fun i _ => rP.length - (intOf i).toNat)
  case atStart => exact ⟨0, rfl, by omega, Below.refl _ _⟩
  case round =>
    obtain ⟨j, rfl, hj, hbr⟩ := hrel
    have f2 := cell_keep hbr f2'
    have n2 := cell_keep hbr n2'
    by_cases hlt : j < rP.length
    · have hjl : (j : Int) < (rP.length : Int) := by omega
      have hjA : (j : Int) < (rA.length : Int) := by omega
      obtain ⟨gN, oN, un, cn, rfl, hcN, hvN⟩ := bytess_at (bytessR.below rN5 hbr) j hlt
      obtain ⟨gA, oA, ua, ca, rfl, hcA, hvA⟩ := bytess_at (bytessR.below rA4 hbr) j (by omega)
      rw [HRA.out j hlt] at hcA hvA
      generalize rP.getD j default = X at *
      have hcv1 : ∀ W : World, Below wr.heap.size wr W → (convert 22 9 (.slice un X.length cn)).run Try.prog W = .ok (.string (bstr X)) W := fun W hW => conv_bytes (BytesV_below hvN hW)
      have hcv2 : ∀ W : World, Below wr.heap.size wr W → (convert 22 9 (.slice ua X.length ca)).run Try.prog W = .ok (.string (bstr X)) W := fun W hW => conv_bytes (BytesV_below hvA hW)
      have y1 : IntKind.i64.wrap ((j : Int) + 1) = (j : Int) + 1 := wrapI _ (by omega) (by omega)
      go_wp2
      refine wp_region_noPanic ?_
      refine region_upto (fun w' => Below wr.heap.size wr w' ∧ w'.cell? ⟨w5.heap.size, 2, none⟩ = some (.slice (some ⟨gN, oN, none⟩) rP.length q5) ∧ w'.cell? ⟨w4.heap.size, 2, none⟩ = some (.slice (some ⟨gA, oA, none⟩) rA.length q4) ∧ w'.cell? ⟨gN, oN + j, none⟩ = some (.slice un X.length cn) ∧ w'.cell? ⟨gA, oA + j, none⟩ = some (.slice ua X.length ca)) 13 (by kernel_rfl) ⟨by (repeat (first | exact Below.refl _ _ | assumption | refine Below.drew ?_ | refine balloc ?_ _ | refine bset ?_ (by simp; omega) _ | refine bset ?_ (by simp) _ | refine bstep ?_ (by assumption))), cell_keep (by (repeat (first | exact Below.refl _ _ | assumption | refine Below.drew ?_ | refine balloc ?_ _ | refine bset ?_ (by simp; omega) _ | refine bset ?_ (by simp) _ | refine bstep ?_ (by assumption)))) n2, cell_keep (by (repeat (first | exact Below.refl _ _ | assumption | refine Below.drew ?_ | refine balloc ?_ _ | refine bset ?_ (by simp; omega) _ | refine bset ?_ (by simp) _ | refine bstep ?_ (by assumption)))) f2, cell_keep (by (repeat (first | exact Below.refl _ _ | assumption | refine Below.drew ?_ | refine balloc ?_ _ | refine bset ?_ (by simp; omega) _ | refine bset ?_ (by simp) _ | refine bstep ?_ (by assumption)))) hcN, cell_keep (by (repeat (first | exact Below.refl _ _ | assumption | refine Below.drew ?_ | refine balloc ?_ _ | refine bset ?_ (by simp; omega) _ | refine bset ?_ (by simp) _ | refine bstep ?_ (by assumption)))) hcA⟩ (fun hS => ?_)
      refine upto_takeN (i := 0) (v := ?_) rfl (by kernel_rfl) (by kernel_rfl) (by kernel_rfl) (by kernel_rfl) (fun _ _ _ h => h) (by rfl) hS ?_ ?_
      rotate_left
      · intro wS hSw
        try dsimp only at hSw
        first | (go_simp; done) | (go_simp; with_reducible rfl)
      try simp only [Act.put, List.getElem_toArray, List.getElem_cons_zero, List.getElem_cons_succ, List.setIfInBounds_toArray, List.set_cons_zero, List.set_cons_succ]
      refine upto_takeN (i := 1) (v := ?_) rfl (by kernel_rfl) (by kernel_rfl) (by kernel_rfl) (by kernel_rfl) (fun _ _ _ h => h) (by rfl) hS ?_ ?_
      rotate_left
      · intro wS hSw
        try dsimp only at hSw
        first | (go_simp; done) | (go_simp; with_reducible rfl)
      try simp only [Act.put, List.getElem_toArray, List.getElem_cons_zero, List.getElem_cons_succ, List.setIfInBounds_toArray, List.set_cons_zero, List.set_cons_succ]
      refine upto_takeN (i := 2) (v := ?_) rfl (by kernel_rfl) (by kernel_rfl) (by kernel_rfl) (by kernel_rfl) (fun _ _ _ h => h) (by rfl) hS ?_ ?_
      rotate_left
      · intro wS hSw
        try dsimp only at hSw
        first | (go_simp; done) | (go_simp; with_reducible rfl)
      try simp only [Act.put, List.getElem_toArray, List.getElem_cons_zero, List.getElem_cons_succ, List.setIfInBounds_toArray, List.set_cons_zero, List.set_cons_succ]
      refine upto_takeN (i := 3) (v := ?_) rfl (by kernel_rfl) (by kernel_rfl) (by kernel_rfl) (by kernel_rfl) (fun _ _ _ h => h) (by rfl) hS ?_ ?_
      rotate_left
      · intro wS hSw
        try dsimp only at hSw
        first | (go_simp; done) | (go_simp; with_reducible rfl)
      try simp only [Act.put, List.getElem_toArray, List.getElem_cons_zero, List.getElem_cons_succ, List.setIfInBounds_toArray, List.set_cons_zero, List.set_cons_succ]
      refine upto_takeN (i := 4) (v := ?_) rfl (by kernel_rfl) (by kernel_rfl) (by kernel_rfl) (by kernel_rfl) (fun _ _ _ h => h) (by rfl) hS ?_ ?_
      rotate_left
      · intro wS hSw
        try dsimp only at hSw
        first | (go_simp; done) | (go_simp; with_reducible rfl)
      try simp only [Act.put, List.getElem_toArray, List.getElem_cons_zero, List.getElem_cons_succ, List.setIfInBounds_toArray, List.set_cons_zero, List.set_cons_succ]
      refine upto_takeN (i := 5) (v := (.string (bstr X))) rfl (by kernel_rfl) (by kernel_rfl) (by kernel_rfl) (by kernel_rfl) (fun _ _ _ h => h) (by rfl) hS ?_ ?_
      · intro wS hSw
        try dsimp only at hSw
        have qc1 := hcv1 wS hSw.1
        have qc2 := hcv2 wS hSw.1
        go_simp
      try simp only [Act.put, List.getElem_toArray, List.getElem_cons_zero, List.getElem_cons_succ, List.setIfInBounds_toArray, List.set_cons_zero, List.set_cons_succ]
      refine upto_takeN (i := 6) (v := ?_) rfl (by kernel_rfl) (by kernel_rfl) (by kernel_rfl) (by kernel_rfl) (fun _ _ _ h => h) (by rfl) hS ?_ ?_
      rotate_left
      · intro wS hSw
        try dsimp only at hSw
        first | (go_simp; done) | (go_simp; with_reducible rfl)
      try simp only [Act.put, List.getElem_toArray, List.getElem_cons_zero, List.getElem_cons_succ, List.setIfInBounds_toArray, List.set_cons_zero, List.set_cons_succ]
      refine upto_takeN (i := 7) (v := ?_) rfl (by kernel_rfl) (by kernel_rfl) (by kernel_rfl) (by kernel_rfl) (fun _ _ _ h => h) (by rfl) hS ?_ ?_
      rotate_left
      · intro wS hSw
        try dsimp only at hSw
        first | (go_simp; done) | (go_simp; with_reducible rfl)
      try simp only [Act.put, List.getElem_toArray, List.getElem_cons_zero, List.getElem_cons_succ, List.setIfInBounds_toArray, List.set_cons_zero, List.set_cons_succ]
      refine upto_takeN (i := 8) (v := ?_) rfl (by kernel_rfl) (by kernel_rfl) (by kernel_rfl) (by kernel_rfl) (fun _ _ _ h => h) (by rfl) hS ?_ ?_
      rotate_left
      · intro wS hSw
        try dsimp only at hSw
        first | (go_simp; done) | (go_simp; with_reducible rfl)
      try simp only [Act.put, List.getElem_toArray, List.getElem_cons_zero, List.getElem_cons_succ, List.setIfInBounds_toArray, List.set_cons_zero, List.set_cons_succ]
      refine upto_takeN (i := 9) (v := ?_) rfl (by kernel_rfl) (by kernel_rfl) (by kernel_rfl) (by kernel_rfl) (fun _ _ _ h => h) (by rfl) hS ?_ ?_
      rotate_left
      · intro wS hSw
        try dsimp only at hSw
        first | (go_simp; done) | (go_simp; with_reducible rfl)
      try simp only [Act.put, List.getElem_toArray, List.getElem_cons_zero, List.getElem_cons_succ, List.setIfInBounds_toArray, List.set_cons_zero, List.set_cons_succ]
      refine upto_takeN (i := 10) (v := ?_) rfl (by kernel_rfl) (by kernel_rfl) (by kernel_rfl) (by kernel_rfl) (fun _ _ _ h => h) (by rfl) hS ?_ ?_
      rotate_left
      · intro wS hSw
        try dsimp only at hSw
        first | (go_simp; done) | (go_simp; with_reducible rfl)
      try simp only [Act.put, List.getElem_toArray, List.getElem_cons_zero, List.getElem_cons_succ, List.setIfInBounds_toArray, List.set_cons_zero, List.set_cons_succ]
      refine upto_takeN (i := 11) (v := (.string (bstr X))) rfl (by kernel_rfl) (by kernel_rfl) (by kernel_rfl) (by kernel_rfl) (fun _ _ _ h => h) (by rfl) hS ?_ ?_
      · intro wS hSw
        try dsimp only at hSw
        have qc1 := hcv1 wS hSw.1
        have qc2 := hcv2 wS hSw.1
        go_simp
      try simp only [Act.put, List.getElem_toArray, List.getElem_cons_zero, List.getElem_cons_succ, List.setIfInBounds_toArray, List.set_cons_zero, List.set_cons_succ]
      refine upto_takeN (i := 12) (v := (.bool false)) rfl (by kernel_rfl) (by kernel_rfl) (by kernel_rfl) (by kernel_rfl) (fun _ _ _ h => h) (by rfl) hS ?_ ?_
      · intro wS hSw
        try dsimp only at hSw
        go_simp
      try simp only [Act.put, List.getElem_toArray, List.getElem_cons_zero, List.getElem_cons_succ, List.setIfInBounds_toArray, List.set_cons_zero, List.set_cons_succ]
      refine upto_done (by kernel_rfl) ?_
      refine NoPanic.normal ?_
      have hbr2 : Below w8.heap.size w8 wr.drew := Below.drew hbr
      clear hS hcv1 hcv2 hvN hvA
      go_wp2
      exact ⟨⟨j + 1, by go_num, by omega, hbr2⟩, by simp [intOf]; omega⟩
    · have hjl : ¬ (j : Int) < (rP.length : Int) := by omega
      go_wp2
      refine wp_region_noPanic ?_
      refine region_upto (fun w' => Below w.heap.size w w' ∧ w'.cell? ⟨w4.heap.size, 2, none⟩ = some (.slice p4 rA.length q4) ∧ w'.cell? ⟨w1.heap.size, 0, none⟩ = some (.slice a1 d.synced.length c1) ∧ w'.cell? ⟨w1.heap.size, 1, none⟩ = some (.slice a2 d.loose.length c2)) 8 (by kernel_rfl) ⟨Below.drew (bstep hB8 hbr), cell_keep (by (repeat (first | exact Below.refl _ _ | assumption | refine Below.drew ?_ | refine balloc ?_ _ | refine bset ?_ (by simp; omega) _ | refine bset ?_ (by simp) _ | refine bstep ?_ (by assumption)))) f2, cell_keep (Below.drew (Below.refl _ _)) (cell_keep hbr l0'), cell_keep (Below.drew (Below.refl _ _)) (cell_keep hbr l1')⟩ (fun hS => ?_)
      refine upto_take (i := 0) (v := ?_) rfl (by kernel_rfl) (by kernel_rfl) (by kernel_rfl) (by kernel_rfl) (fun _ _ _ h => h) (by rfl) hS ?_ ?_
      rotate_left
      · intro wS hSw
        try dsimp only at hSw
        first | (go_simp; done) | (go_simp; with_reducible rfl)
      try simp only [Act.put, List.getElem_toArray, List.getElem_cons_zero, List.getElem_cons_succ, List.setIfInBounds_toArray, List.set_cons_zero, List.set_cons_succ]
      refine upto_take (i := 1) (v := ?_) rfl (by kernel_rfl) (by kernel_rfl) (by kernel_rfl) (by kernel_rfl) (fun _ _ _ h => h) (by rfl) hS ?_ ?_
      rotate_left
      · intro wS hSw
        try dsimp only at hSw
        first | (go_simp; done) | (go_simp; with_reducible rfl)
      try simp only [Act.put, List.getElem_toArray, List.getElem_cons_zero, List.getElem_cons_succ, List.setIfInBounds_toArray, List.set_cons_zero, List.set_cons_succ]
      refine upto_take (i := 2) (v := ?_) rfl (by kernel_rfl) (by kernel_rfl) (by kernel_rfl) (by kernel_rfl) (fun _ _ _ h => h) (by rfl) hS ?_ ?_
      rotate_left
      · intro wS hSw
        try dsimp only at hSw
        first | (go_simp; done) | (go_simp; with_reducible rfl)
      try simp only [Act.put, List.getElem_toArray, List.getElem_cons_zero, List.getElem_cons_succ, List.setIfInBounds_toArray, List.set_cons_zero, List.set_cons_succ]
      refine upto_take (i := 3) (v := ?_) rfl (by kernel_rfl) (by kernel_rfl) (by kernel_rfl) (by kernel_rfl) (fun _ _ _ h => h) (by rfl) hS ?_ ?_
      rotate_left
      · intro wS hSw
        try dsimp only at hSw
        first | (go_simp; done) | (go_simp; with_reducible rfl)
      try simp only [Act.put, List.getElem_toArray, List.getElem_cons_zero, List.getElem_cons_succ, List.setIfInBounds_toArray, List.set_cons_zero, List.set_cons_succ]
      refine upto_step (i := 4) (by kernel_rfl) rfl ?_
      intro K hK
      go_simp
      refine (specRead_u _ d _ (loggR.below hV2 (Below.drew hbr)) (by omega)).mono ?_
      rintro e w9 ⟨v9, F9, rfl, ho9, hb9⟩
      rw [HA.out] at ho9
      obtain ⟨p9, q9, rfl⟩ := recsR_form (recsRR.ofO ho9)
      have hS9 : (fun w' => Below w.heap.size w w' ∧ w'.cell? ⟨w4.heap.size, 2, none⟩ = some (.slice p4 rA.length q4) ∧ w'.cell? ⟨w1.heap.size, 0, none⟩ = some (.slice a1 d.synced.length c1) ∧ w'.cell? ⟨w1.heap.size, 1, none⟩ = some (.slice a2 d.loose.length c2)) w9 := ⟨bstep hS.1 hb9, cell_keep hb9 hS.2.1, cell_keep hb9 hS.2.2.1, cell_keep hb9 hS.2.2.2⟩
      have hfd9 : ∀ w : World, (Instr.field 31 (.agg #[.int .i64 0, .int .i64 (uA : Int), .slice p9 rA.length q9]) 2).run Try.prog w = .ok (.slice p9 rA.length q9) w := fun _ => by kernel_rfl
      refine hK _ _ (fun _ => hS9) ?_
      clear hK K ho9 hb9
      try simp only [Act.put, List.getElem_toArray, List.getElem_cons_zero, List.getElem_cons_succ, List.setIfInBounds_toArray, List.set_cons_zero, List.set_cons_succ]
      refine upto_take (i := 5) (v := (.slice p9 rA.length q9)) rfl (by kernel_rfl) (by kernel_rfl) (by kernel_rfl) (by kernel_rfl) (fun _ _ _ h => h) (by rfl) hS9 ?_ ?_
      · intro wS hSw
        try dsimp only at hSw
        go_simp
      try simp only [Act.put, List.getElem_toArray, List.getElem_cons_zero, List.getElem_cons_succ, List.setIfInBounds_toArray, List.set_cons_zero, List.set_cons_succ]
      refine upto_take (i := 6) (v := ?_) rfl (by kernel_rfl) (by kernel_rfl) (by kernel_rfl) (by kernel_rfl) (fun _ _ _ h => h) (by rfl) hS9 ?_ ?_
      rotate_left
      · intro wS hSw
        try dsimp only at hSw
        first | (go_simp; done) | (go_simp; with_reducible rfl)
      try simp only [Act.put, List.getElem_toArray, List.getElem_cons_zero, List.getElem_cons_succ, List.setIfInBounds_toArray, List.set_cons_zero, List.set_cons_succ]
      refine upto_take (i := 7) (v := (.bool true)) rfl (by kernel_rfl) (by kernel_rfl) (by kernel_rfl) (by kernel_rfl) (fun _ _ _ h => h) (by rfl) hS9 ?_ ?_
      · intro wS hSw
        try dsimp only at hSw
        go_simp
      try simp only [Act.put, List.getElem_toArray, List.getElem_cons_zero, List.getElem_cons_succ, List.setIfInBounds_toArray, List.set_cons_zero, List.set_cons_succ]
      refine upto_step (i := 8) (by kernel_rfl) rfl ?_
      intro K hK
      go_simp
      refine hK _ _ (fun h => absurd rfl h) ?_
      clear hK K
      refine upto_done (by kernel_rfl) ?_
      refine NoPanic.normal ?_
      have hB9 := hS9.1
      clear hS hS9
      go_wp2
      go_ret
      exact ⟨rfl, hB9⟩

end crashLogsLaw
end Go.Proofs.Ytfeolikagceohaa

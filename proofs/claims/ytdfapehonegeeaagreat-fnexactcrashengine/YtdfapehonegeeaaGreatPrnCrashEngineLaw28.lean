import Derived.Test.YtdfapehonegeeaaGreatPrnCrashEngineLaw27
import Derived.Test.YtdfapehonegeeaaGreatPrnCrashEngineLaw8
import Derived.Test.YtdfapehonegeeaaGreatPrnCrashEngineLaw4
import Derived.Test.YtdfapehonegeeaaGreatPrnCrashEngineLaw1
import Derived.Deep.Slices
import Derived.Lib.SmallJoins
import Derived.Test.YtdfapehonegeeaaGreatPrnCrashEngineLaw3

/-
  CrashEngine: the specification's side.
-/
namespace Go.Proofs.YtdfapehonegeeaaGreat
open Go.RowKit
set_option linter.unusedSectionVars false
variable [DecidableEq Wri] [Inhabited Wri] [DecidableEq BytesR] [Inhabited BytesR] [DecidableEq Rw] [Inhabited Rw] [DecidableEq TabR] [Inhabited TabR] [DecidableEq Logg] [Inhabited Logg] [DecidableEq Engn] [Inhabited Engn] [DecidableEq LoggR] [Inhabited LoggR] [DecidableEq RecsR] [Inhabited RecsR] [DecidableEq Leg] [Inhabited Leg] [DecidableEq EngR] [Inhabited EngR]
set_option linter.unusedVariables false
set_option linter.unusedSimpArgs false
attribute [local go_sem ↓] Go.wp_at_zero Go.wp_at_succ

theorem l6All_O (x : Value) (d : Engn) (base : Nat) (F : Nat → Prop) (w : World) (hx : engnR.O w base F x d) (hbs : base ≤ w.heap.size) (hn : d.tables.length ≤ 1048576) :
    Calls Tryz.prog 94 #[x] w fun e w' => ∃ v F', e = .returned v ∧ rowssR.O w' base F' v (d.mem :: d.tables) ∧ (∀ b, F' b → F b ∨ (w.heap.size ≤ b ∧ b < w'.heap.size)) ∧ Below w.heap.size w w' := by
  obtain ⟨u1, u2, u3, u4, F1, F2, F3, rfl, o1, o2, o3, d12, d13, d23, hF⟩ := hx
  obtain ⟨a3, c3, rfl⟩ := rows_form (rowsR.ofO o2)
  obtain ⟨a4, c4, rfl⟩ := rowss_form (rowssR.ofO o3)
  obtain ⟨cs, us, fs, hp, hF3⟩ := o3
  have hcl : cs.length = d.tables.length := by simpa using hp.row.1
  refine (l6All_raw u1 u2 a3 _ c3 a4 _ c4 d.next cs w (rowsAny_own hp.row) hcl (tabs_one hp) hn).mono ?_
  rintro e w' ⟨v, rfl, ho, hb⟩
  obtain ⟨F', h1, h2⟩ := layers_O rfl o2 hp (fun b hb i hi hf => d23 b hb ((hF3 b).2 (.inr ⟨i, hi, hf⟩))) (owns_base ho hbs) hb (fun b e => (ho.lt b e).1)
  refine ⟨v, F', rfl, h1, fun b hb' => ?_, hb⟩
  rcases h2 b hb' with h | ⟨i, hi, h⟩ | h
  · exact .inl ((hF b).2 (.inr (.inl h)))
  · exact .inl ((hF b).2 (.inr (.inr ((hF3 b).2 (.inr ⟨i, hi, h⟩)))))
  · exact .inr h
set_option maxHeartbeats 400000 in
theorem l1Max_any (a b : Int) (w : World) : Calls Tryz.prog 95 #[.int .i64 a, .int .i64 b] w fun e w' => e = .returned (.int .i64 (max a b)) ∧ w' = w := by
  by_cases h : b < a
  · rw [show max a b = a by omega]
    go_enter Tryz.func95, Tryz.ntmps95
    go_wp2
    go_ret
    exact ⟨rfl, rfl⟩
  · rw [show max a b = b by omega]
    go_enter Tryz.func95, Tryz.ntmps95
    go_wp2
    go_ret
    exact ⟨rfl, rfl⟩
theorem mem_getD {xs : List Rw} {j : Nat} (h : j < xs.length) : xs.getD j default ∈ xs := by
  have e : xs.getD j default = xs[j] := by simp [List.getD, h]
  rw [e]
  exact List.getElem_mem h
theorem rowss_elt {W : World} {base n c k : Nat} {F : Nat → Prop} {a : Option Addr} {xss : List (List Rw)} (h : rowssR.O W base F (.slice a n c) xss) (hk : k < xss.length) : ∃ b o au cu, a = some ⟨b, o, none⟩ ∧ F b ∧ W.cell? ⟨b, o + k, none⟩ = some (.slice au (xss.getD k default).length cu) ∧ (xss.getD k default).length ≤ cu ∧ cu ≤ maxLen ∧
    ∀ j, j < (xss.getD k default).length → ∃ b' o', au = some ⟨b', o', none⟩ ∧ F b' ∧ rowCells W b' (o' + j * 4) ((xss.getD k default).getD j default) := by
  have hn : n = xss.length := by
    obtain ⟨a', c', e⟩ := rowss_form (rowssR.ofO h)
    simp only [Value.slice.injEq] at e
    exact e.2.1
  subst hn
  obtain ⟨cs, us, fs, hp, hF⟩ := h
  obtain ⟨g, rfl, hc⟩ := hp.at hk hk
  have hel := hp.el k hk
  obtain ⟨au, cu, e, h1, h2, h3⟩ := RowsV_of_owns hel.1.1
  have hc0 := hc 0 (by omega)
  rw [e] at hc0
  refine ⟨g, 0, au, cu, rfl, (hF g).2 (.inl (by simp [Value.ownBlock])), by simpa [one] using hc0, h1, h2, fun j hj => ?_⟩
  obtain ⟨b', o', rfl, hcq⟩ := h3 j hj
  refine ⟨b', o', rfl, (hF b').2 (.inr ⟨k, hk, ?_⟩), hcq⟩
  rw [hel.1.2, e]
  simp [Value.ownBlock]
theorem cr_vers {d : Engn} {k : Int} {p q : List Byte} {out : List Rw} (h : CrOk d k p q out) (hE : engF d = 0) : ∀ i, i < (out :: d.tables).length → ∀ j, j < ((out :: d.tables).getD i default).length → rowFault (((out :: d.tables).getD i default).getD j default) = 0 := by
  intro i hi j hj
  have hm := mem_getD hj
  cases i with
  | zero => exact h.rf _ (by simpa using hm)
  | succ i =>
    obtain ⟨_, _, _, ht⟩ := partsF_inv (engF_inv hE).1
    have h1 := ht i (by simpa using hi)
    have e2 : (out :: d.tables).getD (i + 1) default = d.tables.getD i default := by simp [List.getD]
    rw [e2] at hm ⊢
    exact tab_small h1 _ hm
set_option maxRecDepth 20000 in
set_option maxHeartbeats 2000000 in
theorem specCrashE_u (x : Value) (d : Engn) (k : Int) (w : World) (hx : engnR.V w x d) (hn : wtEngn d ≤ 1048576) :
    Calls Tryz.prog 32 #[x, .int .i64 k] w fun e w' => ∃ v F, e = .returned v ∧ engRR.O w' w.heap.size F v (crashE d k) ∧ Below w.heap.size w w' := by
  have HX : Hid (engnR.V w x d) := hx
  obtain ⟨a1, a2, a3, a4, c1, c2, c3, c4, rfl⟩ := engn_form hx
  have HWT : Hid (wtEngn d ≤ 1048576) := hn
  clear hx
  go_enter Tryz.func32, Tryz.ntmps32
  go_wp2_with fail
  refine (specEngF_any _ d _ (engnR.below HX.out (by (repeat (first | exact Below.refl _ _ | assumption | refine Below.drew ?_ | refine balloc ?_ _ | refine bset ?_ (by simp; omega) _ | refine bset ?_ (by simp) _ | refine bstep ?_ (by assumption))))) hn).mono ?_
  rintro e w1 ⟨rfl, b1⟩
  have r0 : w1.cell? ⟨w.heap.size, 0, none⟩ = some (.slice a1 d.log.synced.length c1) := cell_keep b1 (by simp [go_sem])
  have r1 : w1.cell? ⟨w.heap.size, 1, none⟩ = some (.slice a2 d.log.loose.length c2) := cell_keep b1 (by simp [go_sem])
  have r2 : w1.cell? ⟨w.heap.size, 2, none⟩ = some (.slice a3 d.mem.length c3) := cell_keep b1 (by simp [go_sem])
  have r3 : w1.cell? ⟨w.heap.size, 3, none⟩ = some (.slice a4 d.tables.length c4) := cell_keep b1 (by simp [go_sem])
  have r4 : w1.cell? ⟨w.heap.size, 4, none⟩ = some (.int .i64 d.next) := cell_keep b1 (by simp [go_sem])
  have q0 : w1.cell? ⟨w.heap.size + 1, 0, none⟩ = some (.int .i64 0) := cell_keep b1 (by simp [go_sem])
  have q1 : w1.cell? ⟨w.heap.size + 1, 1, none⟩ = some (.int .i64 0) := cell_keep b1 (by simp [go_sem])
  have q2 : w1.cell? ⟨w.heap.size + 1, 2, none⟩ = some (.slice none 0 0) := cell_keep b1 (by simp [go_sem])
  have q3 : w1.cell? ⟨w.heap.size + 1, 3, none⟩ = some (.slice none 0 0) := cell_keep b1 (by simp [go_sem])
  have q4 : w1.cell? ⟨w.heap.size + 1, 4, none⟩ = some (.slice none 0 0) := cell_keep b1 (by simp [go_sem])
  have q5 : w1.cell? ⟨w.heap.size + 1, 5, none⟩ = some (.slice none 0 0) := cell_keep b1 (by simp [go_sem])
  have q6 : w1.cell? ⟨w.heap.size + 1, 6, none⟩ = some (.int .i64 0) := cell_keep b1 (by simp [go_sem])
  obtain ⟨qf, qz⟩ : (∀ o, w1.frozen? ⟨w.heap.size + 1, o, none⟩ = false) ∧ w.heap.size + 1 < w1.heap.size := by
    have h := b1.size
    simp only [World.size_alloc] at h
    exact ⟨fun o => by rw [(bcell b1).2 _ _ (by simp)]; simp [go_sem], by omega⟩
  have hB1 : Below w.heap.size w w1 := by (repeat (first | exact Below.refl _ _ | assumption | refine Below.drew ?_ | refine balloc ?_ _ | refine bset ?_ (by simp; omega) _ | refine bset ?_ (by simp) _ | refine bstep ?_ (by assumption)))
  clear b1 hn
  by_cases h0 : engF d = 0
  rotate_left
  · have HE : Hid (crashE d k = codeE (engF d)) := by unfold Hid crashE; rw [if_pos (by simpa using h0)]
    have hc : (engF d == 0) = false := by simpa using h0
    generalize engF d = c at *
    go_wp2
    refine bodyPost_ret (v := .agg #[.int .i64 c, .int .i64 0, .slice none 0 0, .slice none 0 0, .slice none 0 0, .slice none 0 0, .int .i64 0]) (by simp [results, Tryz.results32, go_sem, q0, q1, q2, q3, q4, q5, q6, qf, qz]) rfl ?_
    rw [HE.out]
    first | exact ⟨_, rfl, ⟨_, engR_nil _ _ c 0 0⟩, by (repeat (first | refine bset ?_ (by simp; omega) _ | refine bset ?_ (by simp) _ | refine balloc ?_ _ | assumption))⟩ | exact ⟨_, _, rfl, engR_nil _ _ c 0 0, by (repeat (first | refine bset ?_ (by simp; omega) _ | refine bset ?_ (by simp) _ | refine balloc ?_ _ | assumption))⟩
  rw [h0]
  have HEF : Hid (engF d = 0) := h0
  clear h0
  obtain ⟨hl0, hm0, h6, -⟩ := partsF_inv (engF_inv HEF.out).1
  have HLV : Hid (loggR.V w (.agg #[.slice a1 d.log.synced.length c1, .slice a2 d.log.loose.length c2]) d.log) := by
    obtain ⟨u1, u2, u3, u4, e, h, _, _⟩ := HX.out
    simp only [Value.agg.injEq, Array.mk.injEq, List.cons.injEq, and_true] at e
    obtain ⟨rfl, rfl, _, _⟩ := e
    exact h
  have hwl := wt_log hl0
  go_wp2_with fail
  refine (specCrash_u _ d.log k _ (loggR.below HLV.out hB1) (by omega)).mono ?_
  rintro e w2 ⟨v2, F2, rfl, o2, b2⟩
  replace r0 := cell_keep b2 r0
  replace r1 := cell_keep b2 r1
  replace r2 := cell_keep b2 r2
  replace r3 := cell_keep b2 r3
  replace r4 := cell_keep b2 r4
  replace q0 := cell_keep b2 q0
  replace q1 := cell_keep b2 q1
  replace q2 := cell_keep b2 q2
  replace q3 := cell_keep b2 q3
  replace q4 := cell_keep b2 q4
  replace q5 := cell_keep b2 q5
  replace q6 := cell_keep b2 q6
  obtain ⟨qf, qz⟩ := boxKeep ⟨qf, qz⟩ b2
  have hB2 := bstep hB1 b2
  have zr2 := World.block_lt_of_cell? _ _ r0
  dsimp only at zr2
  clear b2 hB1 hl0 hm0
  by_cases hcc : (crashD d.log k).code = 0
  rotate_left
  · have HE : Hid (crashE d k = codeE (crashD d.log k).code) := crashE_code HEF.out hcc
    obtain ⟨e1, e2, g1, g2, rfl⟩ := loggR_form (loggRR.ofO o2)
    have hc : ((crashD d.log k).code == 0) = false := by simpa using hcc
    generalize (crashD d.log k).code = mc at *
    generalize (crashD d.log k).log.synced.length = l1 at *
    generalize (crashD d.log k).log.loose.length = l2 at *
    clear o2
    go_wp2
    refine bodyPost_ret (v := .agg #[.int .i64 mc, .int .i64 0, .slice none 0 0, .slice none 0 0, .slice none 0 0, .slice none 0 0, .int .i64 0]) (by simp [results, Tryz.results32, go_sem, q0, q1, q2, q3, q4, q5, q6, qf, qz]) rfl ?_
    rw [HE.out]
    first | exact ⟨_, rfl, ⟨_, engR_nil _ _ mc 0 0⟩, balloc (bset7 hB2 (by omega) _ _ _ _ _ _ _) _⟩ | exact ⟨_, _, rfl, engR_nil _ _ mc 0 0, balloc (bset7 hB2 (by omega) _ _ _ _ _ _ _) _⟩
  obtain ⟨p, q, out, hOK⟩ := crash_ok HEF.out hcc
  have HOK : Hid (CrOk d k p q out) := hOK
  rw [hOK.c] at o2
  have hpl := hOK.pl
  have hql : q.length ≤ 6000 := by have := logF_small hOK.ql; simp only [List.length_nil] at this; omega
  clear hOK hcc
  obtain ⟨x1, x2, F4', rfl, o2', -⟩ := o2
  obtain ⟨b1', b2', g1, g2, e⟩ := logg_form (loggR.ofO o2')
  simp only [Value.agg.injEq, Array.mk.injEq, List.cons.injEq, and_true, List.length_nil] at e
  obtain ⟨rfl, rfl⟩ := e
  have HL2 : Hid (loggR.V w2 (.agg #[.slice b1' p.length g1, .slice b2' 0 g2]) ⟨p, []⟩) := loggR.ofO o2'
  clear o2'
  go_wp2_with fail
  refine (l6Copy_u _ d _ (engnR.below HX.out (balloc hB2 _)) HWT.out).mono ?_
  rintro e w3 ⟨v3, F3, rfl, o3, b3⟩
  have s0 : w3.cell? ⟨w2.heap.size, 0, none⟩ = some (.int .i64 0) := cell_keep b3 (by simp [go_sem])
  have s1 : w3.cell? ⟨w2.heap.size, 1, none⟩ = some (.slice b1' p.length g1) := cell_keep b3 (by simp [go_sem])
  have s2 : w3.cell? ⟨w2.heap.size, 2, none⟩ = some (.slice b2' 0 g2) := cell_keep b3 (by simp [go_sem])
  have hb23 : Below w2.heap.size w2 w3 := bstep (by (repeat (first | exact Below.refl _ _ | assumption | refine Below.drew ?_ | refine balloc ?_ _ | refine bset ?_ (by simp; omega) _ | refine bset ?_ (by simp) _ | refine bstep ?_ (by assumption)))) b3
  have hz23 := b3.size
  simp only [World.size_alloc] at hz23
  replace r0 := cell_keep hb23 r0
  replace r1 := cell_keep hb23 r1
  replace r2 := cell_keep hb23 r2
  replace r3 := cell_keep hb23 r3
  replace r4 := cell_keep hb23 r4
  replace q0 := cell_keep hb23 q0
  replace q1 := cell_keep hb23 q1
  replace q2 := cell_keep hb23 q2
  replace q3 := cell_keep hb23 q3
  replace q4 := cell_keep hb23 q4
  replace q5 := cell_keep hb23 q5
  replace q6 := cell_keep hb23 q6
  obtain ⟨qf, qz⟩ := boxKeep ⟨qf, qz⟩ hb23
  have hB3 := bstep hB2 hb23
  have HL3 : Hid (loggR.V w3 (.agg #[.slice b1' p.length g1, .slice b2' 0 g2]) ⟨p, []⟩) := loggR.below HL2.out hb23
  obtain ⟨p1, p2, p3, p4, k1, k2, k3, k4, rfl⟩ := engn_form (engnR.ofO o3)
  obtain ⟨u1, u2, u3, u4, G1, G2, G3, e, o1, oM, oT, -, -, -, -⟩ := o3
  simp only [Value.agg.injEq, Array.mk.injEq, List.cons.injEq, and_true] at e
  obtain ⟨rfl, rfl, rfl, rfl⟩ := e
  have HOT : Hid (rowssR.O w3 w2.heap.size G3 (.slice p4 d.tables.length k4) d.tables) := rowssR.base oT (by simp)
  have HG3 : Hid (∀ b, G3 b → w2.heap.size ≤ b ∧ b < w3.heap.size) := fun b hb => rowssR.rng HOT.out b hb
  have zs3 : w2.heap.size < w3.heap.size := by omega
  have zr3 : w.heap.size < w3.heap.size := by omega
  clear o1 oM oT b3 hB2 HL2 r0 r1 r2 r3 HX HLV
  have HTR : Hid (∀ W, Below w3.heap.size w3 W → Calls Tryz.prog 93 #[.agg #[.slice b1' p.length g1, .slice b2' 0 g2]] W fun e w' => ∃ a6 c6 a6' c6' F, e = .returned (.agg #[.slice a6 q.length c6, .slice a6' 0 c6']) ∧ loggR.O w' W.heap.size F (.agg #[.slice a6 q.length c6, .slice a6' 0 c6']) ⟨q, []⟩ ∧ Below W.heap.size W w') := fun W hW => by
    refine (l4Trim_any _ ⟨p, []⟩ W (loggR.below HL3.out hW) hpl).mono ?_
    rintro e w' ⟨v, F, rfl, h1, hb⟩
    dsimp only at h1
    rw [← HOK.out.qq] at h1
    obtain ⟨a6, a6', c6, c6', rfl⟩ := logg_form (loggR.ofO h1)
    exact ⟨a6, c6, a6', c6', F, rfl, h1, hb⟩
  have HLQ : Hid (q.length ≤ 6000) := hql
  clear HL3
  generalize p.length = lp at *
  go_wp2_with fail
  refine (HTR.out _ (by (repeat (first | exact Below.refl _ _ | assumption | refine Below.drew ?_ | refine balloc ?_ _ | refine bset ?_ (by simp; omega) _ | refine bset ?_ (by simp) _ | refine bstep ?_ (by assumption))))).mono ?_
  rintro e w4 ⟨a6, c6, a6', c6', F4, rfl, o4, b4⟩
  have x0 : w4.cell? ⟨w3.heap.size, 0, none⟩ = some (.slice p1 d.log.synced.length k1) := cell_keep b4 (by simp [go_sem])
  have x1 : w4.cell? ⟨w3.heap.size, 1, none⟩ = some (.slice p2 d.log.loose.length k2) := cell_keep b4 (by simp [go_sem])
  have x2 : w4.cell? ⟨w3.heap.size, 2, none⟩ = some (.slice p3 d.mem.length k3) := cell_keep b4 (by simp [go_sem])
  have x3 : w4.cell? ⟨w3.heap.size, 3, none⟩ = some (.slice p4 d.tables.length k4) := cell_keep b4 (by simp [go_sem])
  have x4 : w4.cell? ⟨w3.heap.size, 4, none⟩ = some (.int .i64 d.next) := cell_keep b4 (by simp [go_sem])
  obtain ⟨xf, xz⟩ : (∀ o, w4.frozen? ⟨w3.heap.size, o, none⟩ = false) ∧ w3.heap.size < w4.heap.size := by
    have h := b4.size
    simp only [World.size_alloc] at h
    exact ⟨fun o => by rw [(bcell b4).2 _ _ (by simp)]; simp [go_sem], by omega⟩
  have hb34 : Below w3.heap.size w3 w4 := bstep (by (repeat (first | exact Below.refl _ _ | assumption | refine Below.drew ?_ | refine balloc ?_ _ | refine bset ?_ (by simp; omega) _ | refine bset ?_ (by simp) _ | refine bstep ?_ (by assumption)))) b4
  replace r4 := cell_keep hb34 r4
  replace q0 := cell_keep hb34 q0
  replace q1 := cell_keep hb34 q1
  replace q2 := cell_keep hb34 q2
  replace q3 := cell_keep hb34 q3
  replace q4 := cell_keep hb34 q4
  replace q5 := cell_keep hb34 q5
  replace q6 := cell_keep hb34 q6
  obtain ⟨qf, qz⟩ := boxKeep ⟨qf, qz⟩ hb34
  have hB4 := bstep hB3 hb34
  have HO4 : Hid (loggR.O w4 (w3.heap.size + 1) F4 (.agg #[.slice a6 q.length c6, .slice a6' 0 c6']) ⟨q, []⟩) := loggR.base o4 (by simp)
  have HT4 : Hid (rowssR.O w4 w2.heap.size G3 (.slice p4 d.tables.length k4) d.tables) := rowssR.keep HOT.out hb34
  have HF4 : Hid (∀ b, F4 b → w3.heap.size + 1 ≤ b ∧ b < w4.heap.size) := fun b hb => loggR.rng HO4.out b hb
  have HLR : Hid (∀ Y, Mod (fun b => b = w3.heap.size) w4 Y → Calls Tryz.prog 46 #[.agg #[.slice a6 q.length c6, .slice a6' 0 c6'], .int .i64 d.next] Y fun e w' => ∃ a7 c7 F, e = .returned (.tuple #[.slice a7 out.length c7, .bool true]) ∧ rowsR.O w' Y.heap.size F (.slice a7 out.length c7) out ∧ Below Y.heap.size Y w') := fun Y hY => by
    refine (l6Replay_any _ ⟨q, []⟩ d.next Y (loggR.ofO (loggR.mod HO4.out hY (fun b hb e => by have := (HF4.out b hb).1; omega))) HOK.out.ql).mono ?_
    rintro e w' ⟨hP, hb⟩
    rw [repP_some HOK.out.r] at hP
    obtain ⟨v, rfl, ⟨g, c, rfl⟩, ho⟩ := hP
    exact ⟨_, c, _, rfl, ⟨⟨ho, rfl⟩, fit_small HOK.out.rf⟩, hb⟩
  clear o4 b4 HTR HOT s0 s1 s2
  have hMY4 : Mod (fun b => b = w3.heap.size) w4 ((w4.setCell ⟨w3.heap.size, 0, none⟩ (.slice a6 q.length c6)).setCell ⟨w3.heap.size, 1, none⟩ (.slice a6' 0 c6')) := mset (F := fun b => b = w3.heap.size) (mset (F := fun b => b = w3.heap.size) (Mod.refl _ _) ⟨w3.heap.size, 0, none⟩ _ rfl) ⟨w3.heap.size, 1, none⟩ _ rfl
  go_wp2_with fail
  refine (HLR.out _ hMY4).mono ?_
  rintro e w5 ⟨a7, c7, F7, rfl, o7, b5⟩
  have y0 : w5.cell? ⟨w3.heap.size, 0, none⟩ = some (.slice a6 q.length c6) := cell_keep b5 (by simp [go_sem, x0, x1, x2, x3, x4, xf])
  have y1 : w5.cell? ⟨w3.heap.size, 1, none⟩ = some (.slice a6' 0 c6') := cell_keep b5 (by simp [go_sem, x0, x1, x2, x3, x4, xf])
  have y2 : w5.cell? ⟨w3.heap.size, 2, none⟩ = some (.slice p3 d.mem.length k3) := cell_keep b5 (by simp [go_sem, x0, x1, x2, x3, x4, xf])
  have y3 : w5.cell? ⟨w3.heap.size, 3, none⟩ = some (.slice p4 d.tables.length k4) := cell_keep b5 (by simp [go_sem, x0, x1, x2, x3, x4, xf])
  have y4 : w5.cell? ⟨w3.heap.size, 4, none⟩ = some (.int .i64 d.next) := cell_keep b5 (by simp [go_sem, x0, x1, x2, x3, x4, xf])
  have hM5 : Mod (fun b => b = w3.heap.size) w4 w5 := hMY4.trans (Mod.of_below b5)
  have hz45 := hM5.size
  have yf : ∀ o, w5.frozen? ⟨w3.heap.size, o, none⟩ = false := fun o => by rw [(bcell b5).2 _ _ (by simpa using xz)]; simp [go_sem, xf]
  have yz : w3.heap.size < w5.heap.size := by omega
  have hne : w.heap.size + 1 ≠ w3.heap.size := by omega
  replace q0 := hM5.cell q0 hne
  replace q1 := hM5.cell q1 hne
  replace q2 := hM5.cell q2 hne
  replace q3 := hM5.cell q3 hne
  replace q4 := hM5.cell q4 hne
  replace q5 := hM5.cell q5 hne
  replace q6 := hM5.cell q6 hne
  have qf5 : ∀ o, w5.frozen? ⟨w.heap.size + 1, o, none⟩ = false := fun o => (hM5.frozen (a := ⟨w.heap.size + 1, o, none⟩) qz hne).trans (qf o)
  have qz5 : w.heap.size + 1 < w5.heap.size := by omega
  have hB5 : Below w.heap.size w w5 := hM5.below hB4 hB4.size (fun b e => by rw [e]; omega)
  have HO5 : Hid (loggR.O w5 (w3.heap.size + 1) F4 (.agg #[.slice a6 q.length c6, .slice a6' 0 c6']) ⟨q, []⟩) := loggR.mod HO4.out hM5 (fun b hb e => by have := (HF4.out b hb).1; omega)
  have HT5 : Hid (rowssR.O w5 w2.heap.size G3 (.slice p4 d.tables.length k4) d.tables) := rowssR.mod HT4.out hM5 (fun b hb e => by have := (HG3.out b hb).2; omega)
  have HM5 : Hid (rowsR.O w5 w4.heap.size F7 (.slice a7 out.length c7) out) := rowsR.base o7 (by simp)
  have HF7 : Hid (∀ b, F7 b → w4.heap.size ≤ b ∧ b < w5.heap.size) := fun b hb => rowsR.rng HM5.out b hb
  have HENG : Hid (∀ Y n, Mod (fun b => b = w3.heap.size ∨ b = w.heap.size + 1) w5 Y → engnR.O Y w2.heap.size (fun b => F4 b ∨ F7 b ∨ G3 b) (.agg #[.slice a6 q.length c6, .slice a6' 0 c6', .slice a7 out.length c7, .slice p4 d.tables.length k4, .int .i64 n]) ⟨⟨q, []⟩, out, d.tables, n⟩) := fun Y n hY => by
    refine ⟨_, _, _, _, F4, F7, G3, rfl, loggR.base (loggR.mod HO5.out hY (fun b hb e => by have := (HF4.out b hb).1; omega)) (by omega), rowsR.base (rowsR.mod HM5.out hY (fun b hb e => by have := (HF7.out b hb).1; omega)) (by omega), rowssR.mod HT5.out hY (fun b hb e => by have := HG3.out b hb; omega), ?_, ?_, ?_, fun b => Iff.rfl⟩
    · intro b h1 h2; have := HF4.out b h1; have := HF7.out b h2; omega
    · intro b h1 h2; have := HF4.out b h1; have := HG3.out b h2; omega
    · intro b h1 h2; have := HF7.out b h1; have := HG3.out b h2; omega
  have hMY5 : Mod (fun b => b = w3.heap.size) w5 ((w5.setCell ⟨w3.heap.size, 2, none⟩ (.slice a7 out.length c7)).setCell ⟨w3.heap.size, 4, none⟩ (.int .i64 1)) := mset (F := fun b => b = w3.heap.size) (mset (F := fun b => b = w3.heap.size) (Mod.refl _ _) ⟨w3.heap.size, 2, none⟩ _ rfl) ⟨w3.heap.size, 4, none⟩ _ rfl
  have HLY : Hid (∀ Y, Mod (fun b => b = w3.heap.size) w5 Y → Calls Tryz.prog 94 #[(.agg #[.slice a6 q.length c6, .slice a6' 0 c6', .slice a7 out.length c7, .slice p4 d.tables.length k4, .int .i64 1])] Y fun e w' => ∃ v F', e = .returned v ∧ rowssR.O w' w2.heap.size F' v (out :: d.tables) ∧ (∀ b, F' b → (F4 b ∨ F7 b ∨ G3 b) ∨ (Y.heap.size ≤ b ∧ b < w'.heap.size)) ∧ Below Y.heap.size Y w') := fun Y hY => by
    have hs := hY.size
    exact l6All_O _ ⟨⟨q, []⟩, out, d.tables, 1⟩ w2.heap.size _ Y (HENG.out Y 1 (hY.mono (fun b e => .inl e))) (by omega) (by show d.tables.length ≤ _; omega)
  clear o7 HLR HO4 HT4 hB4 r4 x0 x1 x2 x3 x4 xf qf
  go_wp2_with fail
  refine (HLY.out _ hMY5).mono ?_
  rintro e w6 ⟨v6, FA, rfl, o6, hFA, b6⟩
  obtain ⟨a8, c8, rfl⟩ := rowss_form (rowssR.ofO o6)
  have hM6 : Mod (fun b => b = w3.heap.size) w5 w6 := hMY5.trans (Mod.of_below b6)
  have z6 := hM6.size
  have t0 : w6.cell? ⟨w3.heap.size, 0, none⟩ = some (.slice a6 q.length c6) := cell_keep b6 (by simp [go_sem, y0, y1, y2, y3, y4, yf])
  have t1 : w6.cell? ⟨w3.heap.size, 1, none⟩ = some (.slice a6' 0 c6') := cell_keep b6 (by simp [go_sem, y0, y1, y2, y3, y4, yf])
  have t2 : w6.cell? ⟨w3.heap.size, 2, none⟩ = some (.slice a7 out.length c7) := cell_keep b6 (by simp [go_sem, y0, y1, y2, y3, y4, yf])
  have t3 : w6.cell? ⟨w3.heap.size, 3, none⟩ = some (.slice p4 d.tables.length k4) := cell_keep b6 (by simp [go_sem, y0, y1, y2, y3, y4, yf])
  have t4 : w6.cell? ⟨w3.heap.size, 4, none⟩ = some (.int .i64 1) := cell_keep b6 (by simp [go_sem, y0, y1, y2, y3, y4, yf])
  have tf : ∀ o, w6.frozen? ⟨w3.heap.size, o, none⟩ = false := fun o => by rw [(bcell b6).2 _ _ (by simpa using yz)]; simp [go_sem, yf]
  have HOA : Hid (rowssR.O w6 w2.heap.size FA (.slice a8 (out :: d.tables).length c8) (out :: d.tables)) := o6
  have HNA : Hid (¬ FA w3.heap.size) := fun h => by
    rcases hFA _ h with (h1 | h1 | h1) | h1
    · have := HF4.out _ h1; omega
    · have := HF7.out _ h1; omega
    · have := HG3.out _ h1; omega
    · have := h1.1; simp at this; omega
  replace q0 := hM6.cell q0 hne
  replace q1 := hM6.cell q1 hne
  replace q2 := hM6.cell q2 hne
  replace q3 := hM6.cell q3 hne
  replace q4 := hM6.cell q4 hne
  replace q5 := hM6.cell q5 hne
  replace q6 := hM6.cell q6 hne
  have qf6 : ∀ o, w6.frozen? ⟨w.heap.size + 1, o, none⟩ = false := fun o => (hM6.frozen (a := ⟨w.heap.size + 1, o, none⟩) qz5 hne).trans (qf5 o)
  have hB6 : Below w.heap.size w w6 := hM6.below hB5 hB5.size (fun b e => by rw [e]; omega)
  have HE : Hid (crashE d k = ⟨0, 0, ⟨⟨q, []⟩, out, d.tables, gvT 0 (out :: d.tables) + 1⟩⟩) := HOK.out.e
  have HVB : Hid (∀ i, i < (out :: d.tables).length → ∀ j, j < ((out :: d.tables).getD i default).length → 1 ≤ (((out :: d.tables).getD i default).getD j default).ver ∧ (((out :: d.tables).getD i default).getD j default).ver ≤ 1000000) := fun i hi j hj => (rowFault_zero (cr_vers HOK.out HEF.out i hi j hj)).2
  have HGA : Hid (gvT 0 ((out :: d.tables).take (out :: d.tables).length) = gvT 0 (out :: d.tables)) := by rw [Hid, List.take_length]
  have HGT : Hid (∀ k, k < (out :: d.tables).length → gvT 0 ((out :: d.tables).take (k + 1)) = gvR (gvT 0 ((out :: d.tables).take k)) ((out :: d.tables).getD k default)) := fun k hk => gvT_take hk
  clear o6 hFA b6 HLY hMY5 hMY4 y0 y1 y2 y3 y4 yf qf5 b5
  generalize out :: d.tables = xss at *
  generalize hln : xss.length = ln at *
  have HLN : Hid (xss.length = ln) := hln
  clear hln
  have hlm : ln ≤ 9223372036854775807 := by
    obtain ⟨_, cx, e, h1, h2, _⟩ := rowssR.ofO HOA.out
    unfold maxLen at h2
    have := HLN.out
    omega
  go_wp2
  go_loopw [11] (fun i W => ∃ k : Nat, k ≤ ln ∧ i = .int .i64 k ∧ (W.cell? ⟨w3.heap.size, 0, none⟩ = some (.slice a6 q.length c6) ∧ W.cell? ⟨w3.heap.size, 1, none⟩ = some (.slice a6' 0 c6') ∧ W.cell? ⟨w3.heap.size, 2, none⟩ = some (.slice a7 out.length c7) ∧ W.cell? ⟨w3.heap.size, 3, none⟩ = some (.slice p4 d.tables.length k4) ∧ W.cell? ⟨w3.heap.size, 4, none⟩ = some (.int .i64 (gvT 0 (xss.take k) + 1))) ∧ (∀ o, W.frozen? ⟨w3.heap.size, o, none⟩ = false) ∧ Mod (fun b => b = w3.heap.size) w6 W) (fun i _ => ln - (intOf i).toNat)
  case atStart => exact ⟨0, Nat.zero_le _, rfl, ⟨t0, t1, t2, t3, t4⟩, tf, Mod.refl _ _⟩
  case round =>
    obtain ⟨k', hk, rfl, ⟨m0, m1, m2, m3, m4⟩, mf, hmw⟩ := hrel
    clear t0 t1 t2 t3 t4 tf
    have hi4 : (0 : Int) ≤ k' := by omega
    by_cases hlt : k' < ln
    · have hOV := rowssR.mod HOA.out hmw (fun b hb e => HNA.out (e ▸ hb))
      obtain ⟨b, o, au, cu, rfl, hFb, g0, hcu, hmu, hrow⟩ := rowss_elt hOV (by rw [HLN.out]; exact hlt)
      unfold maxLen at hmu
      have hvb := HVB.out k' hlt
      have hgt := HGT.out k' hlt
      obtain ⟨l, hl⟩ : ∃ l, l = xss.getD k' default := ⟨_, rfl⟩
      rw [← hl] at g0 hcu hrow hvb hgt
      have HGE : Hid (gvT 0 (xss.take (k' + 1)) = gvR (gvT 0 (xss.take k')) l) := hgt
      have HVL : Hid (∀ j, j < l.length → 1 ≤ (l.getD j default).ver ∧ (l.getD j default).ver ≤ 1000000) := hvb
      generalize gvT 0 (xss.take k') = gg at *
      have HTK : Hid (∀ j, j < l.length → gvR gg (l.take (j + 1)) = max (gvR gg (l.take j)) (l.getD j default).ver) := fun j hj => gvR_take hj
      have HTA : Hid (gvR gg (l.take l.length) = gvR gg l) := by rw [Hid, List.take_length]
      have hi5 : (k' : Int) < ln := by omega
      have hgb : b ≠ w3.heap.size := fun e => HNA.out (e ▸ hFb)
      have HRB : Hid (∀ j, j < l.length → ∃ b' o', au = some ⟨b', o', none⟩ ∧ b' ≠ w3.heap.size ∧ wr.cell? ⟨b', o' + j * 4 + 1, none⟩ = some (.int .i64 (l.getD j default).ver)) := fun j hj => by
        obtain ⟨b', o', rfl, hF', hcq⟩ := hrow j hj
        exact ⟨b', o', rfl, fun e => HNA.out (e ▸ hF'), hcq.2.1⟩
      obtain ⟨WR, hWR⟩ : ∃ WR, WR = wr := ⟨_, rfl⟩
      rw [← hWR] at m0 m1 m2 m3 m4 mf hmw g0 HRB ⊢
      clear hWR hOV hrow hl hgt hvb hFb
      generalize hlm2 : l.length = m at *
      have HTA2 : Hid (gvR gg (l.take m) = gvR gg l) := HTA
      clear hlm2 HTA
      have hz36 : w3.heap.size < WR.heap.size := World.block_lt_of_cell? _ _ m0
      go_wp2
      go_loopw [12] (fun i W => ∃ j : Nat, j ≤ m ∧ i = .int .i64 j ∧ (W.cell? ⟨w3.heap.size, 0, none⟩ = some (.slice a6 q.length c6) ∧ W.cell? ⟨w3.heap.size, 1, none⟩ = some (.slice a6' 0 c6') ∧ W.cell? ⟨w3.heap.size, 2, none⟩ = some (.slice a7 out.length c7) ∧ W.cell? ⟨w3.heap.size, 3, none⟩ = some (.slice p4 d.tables.length k4) ∧ W.cell? ⟨w3.heap.size, 4, none⟩ = some (.int .i64 (gvR gg (l.take j) + 1))) ∧ (∀ o, W.frozen? ⟨w3.heap.size, o, none⟩ = false) ∧ Mod (fun b => b = w3.heap.size) WR W) (fun i _ => m - (intOf i).toNat)
      case atStart => exact ⟨0, Nat.zero_le _, rfl, ⟨m0, m1, m2, m3, m4⟩, mf, Mod.refl _ _⟩
      case round =>
        obtain ⟨j, hj, rfl, ⟨n0, n1, n2, n3, n4⟩, nf, hmj⟩ := hrel
        clear m0 m1 m2 m3 m4 mf
        have hj4 : (0 : Int) ≤ j := by omega
        have g1 := hmj.cell g0 hgb
        by_cases hjm : j < m
        · obtain ⟨b', o', rfl, hb', hcv⟩ := HRB.out j hjm
          have hcw := hmj.cell hcv hb'
          have hjv := HVL.out j hjm
          have htk := HTK.out j hjm
          obtain ⟨vv, hvv⟩ : ∃ vv, vv = (l.getD j default).ver := ⟨_, rfl⟩
          rw [← hvv] at hcw hjv htk
          have HTK2 : Hid (gvR gg (l.take (j + 1)) = max (gvR gg (l.take j)) vv) := htk
          clear hvv hcv htk
          generalize gvR gg (l.take j) = gj at *
          have hj5 : (j : Int) < m := by omega
          have hwv : IntKind.i64.wrap (vv + 1) = vv + 1 := by rw [IntKind.wrap_i64]; omega
          obtain ⟨hv1, hv2⟩ := hjv
          go_wp2
          refine wp_region_noPanic ?_
          refine region_upto (fun w' => w'.cell? ⟨w3.heap.size, 4, none⟩ = some (.int .i64 (gj + 1)) ∧ w'.cell? ⟨b, o + k', none⟩ = some (.slice (some ⟨b', o', none⟩) m cu) ∧ w'.cell? ⟨b', o' + j * 4 + 1, none⟩ = some (.int .i64 vv)) 13 (by kernel_rfl) ⟨cell_keep (by (repeat (first | exact Below.refl _ _ | assumption | refine Below.drew ?_ | refine balloc ?_ _ | refine bset ?_ (by simp; omega) _ | refine bset ?_ (by simp) _ | refine bstep ?_ (by assumption)))) n4, cell_keep (by (repeat (first | exact Below.refl _ _ | assumption | refine Below.drew ?_ | refine balloc ?_ _ | refine bset ?_ (by simp; omega) _ | refine bset ?_ (by simp) _ | refine bstep ?_ (by assumption)))) g1, cell_keep (by (repeat (first | exact Below.refl _ _ | assumption | refine Below.drew ?_ | refine balloc ?_ _ | refine bset ?_ (by simp; omega) _ | refine bset ?_ (by simp) _ | refine bstep ?_ (by assumption)))) hcw⟩ (fun hS => ?_)
          refine upto_take (i := 0) (v := ?_) rfl (by kernel_rfl) (by kernel_rfl) (by kernel_rfl) (by kernel_rfl) (fun _ _ _ h => h) (by rfl) hS ?_ ?_
          rotate_left
          · intro wS hSw
            try dsimp only at hSw
            first | (go_simp; done) | (go_simp; with_reducible rfl)
          try simp only [Act.put, List.getElem_toArray, List.getElem_cons_zero, List.getElem_cons_succ, List.setIfInBounds_toArray, List.set_cons_zero, List.set_cons_succ]
          refine upto_take (i := 1) (v := ?_) rfl (by kernel_rfl) (by kernel_rfl) (by kernel_rfl) (by kernel_rfl) (fun _ _ _ h => h) (by rfl) hS ?_ ?_
          rotate_left
          · intro wS hSw
            try dsimp only at hSw
            first | (go_simp; done) | (go_simp; with_reducible rfl)
          try simp only [Act.put, List.getElem_toArray, List.getElem_cons_zero, List.getElem_cons_succ, List.setIfInBounds_toArray, List.set_cons_zero, List.set_cons_succ]
          refine upto_take (i := 2) (v := ?_) rfl (by kernel_rfl) (by kernel_rfl) (by kernel_rfl) (by kernel_rfl) (fun _ _ _ h => h) (by rfl) hS ?_ ?_
          rotate_left
          · intro wS hSw
            try dsimp only at hSw
            first | (go_simp; done) | (go_simp; with_reducible rfl)
          try simp only [Act.put, List.getElem_toArray, List.getElem_cons_zero, List.getElem_cons_succ, List.setIfInBounds_toArray, List.set_cons_zero, List.set_cons_succ]
          refine upto_take (i := 3) (v := ?_) rfl (by kernel_rfl) (by kernel_rfl) (by kernel_rfl) (by kernel_rfl) (fun _ _ _ h => h) (by rfl) hS ?_ ?_
          rotate_left
          · intro wS hSw
            try dsimp only at hSw
            first | (go_simp; done) | (go_simp; with_reducible rfl)
          try simp only [Act.put, List.getElem_toArray, List.getElem_cons_zero, List.getElem_cons_succ, List.setIfInBounds_toArray, List.set_cons_zero, List.set_cons_succ]
          refine upto_take (i := 4) (v := ?_) rfl (by kernel_rfl) (by kernel_rfl) (by kernel_rfl) (by kernel_rfl) (fun _ _ _ h => h) (by rfl) hS ?_ ?_
          rotate_left
          · intro wS hSw
            try dsimp only at hSw
            first | (go_simp; done) | (go_simp; with_reducible rfl)
          try simp only [Act.put, List.getElem_toArray, List.getElem_cons_zero, List.getElem_cons_succ, List.setIfInBounds_toArray, List.set_cons_zero, List.set_cons_succ]
          refine upto_take (i := 5) (v := ?_) rfl (by kernel_rfl) (by kernel_rfl) (by kernel_rfl) (by kernel_rfl) (fun _ _ _ h => h) (by rfl) hS ?_ ?_
          rotate_left
          · intro wS hSw
            try dsimp only at hSw
            first | (go_simp; done) | (go_simp; with_reducible rfl)
          try simp only [Act.put, List.getElem_toArray, List.getElem_cons_zero, List.getElem_cons_succ, List.setIfInBounds_toArray, List.set_cons_zero, List.set_cons_succ]
          refine upto_take (i := 6) (v := ?_) rfl (by kernel_rfl) (by kernel_rfl) (by kernel_rfl) (by kernel_rfl) (fun _ _ _ h => h) (by rfl) hS ?_ ?_
          rotate_left
          · intro wS hSw
            try dsimp only at hSw
            first | (go_simp; done) | (go_simp; with_reducible rfl)
          try simp only [Act.put, List.getElem_toArray, List.getElem_cons_zero, List.getElem_cons_succ, List.setIfInBounds_toArray, List.set_cons_zero, List.set_cons_succ]
          refine upto_take (i := 7) (v := ?_) rfl (by kernel_rfl) (by kernel_rfl) (by kernel_rfl) (by kernel_rfl) (fun _ _ _ h => h) (by rfl) hS ?_ ?_
          rotate_left
          · intro wS hSw
            try dsimp only at hSw
            first | (go_simp; done) | (go_simp; with_reducible rfl)
          try simp only [Act.put, List.getElem_toArray, List.getElem_cons_zero, List.getElem_cons_succ, List.setIfInBounds_toArray, List.set_cons_zero, List.set_cons_succ]
          refine upto_take (i := 8) (v := ?_) rfl (by kernel_rfl) (by kernel_rfl) (by kernel_rfl) (by kernel_rfl) (fun _ _ _ h => h) (by rfl) hS ?_ ?_
          rotate_left
          · intro wS hSw
            try dsimp only at hSw
            first | (go_simp; done) | (go_simp; with_reducible rfl)
          try simp only [Act.put, List.getElem_toArray, List.getElem_cons_zero, List.getElem_cons_succ, List.setIfInBounds_toArray, List.set_cons_zero, List.set_cons_succ]
          refine upto_take (i := 9) (v := ?_) rfl (by kernel_rfl) (by kernel_rfl) (by kernel_rfl) (by kernel_rfl) (fun _ _ _ h => h) (by rfl) hS ?_ ?_
          rotate_left
          · intro wS hSw
            try dsimp only at hSw
            first | (go_simp; done) | (go_simp; with_reducible rfl)
          try simp only [Act.put, List.getElem_toArray, List.getElem_cons_zero, List.getElem_cons_succ, List.setIfInBounds_toArray, List.set_cons_zero, List.set_cons_succ]
          refine upto_take (i := 10) (v := (.int .i64 (vv + 1))) rfl (by kernel_rfl) (by kernel_rfl) (by kernel_rfl) (by kernel_rfl) (fun _ _ _ h => h) (by rfl) hS ?_ ?_
          · intro wS hSw
            try dsimp only at hSw
            go_simp
          try simp only [Act.put, List.getElem_toArray, List.getElem_cons_zero, List.getElem_cons_succ, List.setIfInBounds_toArray, List.set_cons_zero, List.set_cons_succ]
          refine upto_step (i := 11) (by kernel_rfl) rfl ?_
          intro K hK
          go_simp
          refine (l1Max_any _ _ _).mono ?_
          rintro e w' ⟨rfl, hEq⟩
          obtain rfl := hEq.symm
          refine hK _ _ (fun _ => hS) ?_
          clear hK K hEq
          try simp only [Act.put, List.getElem_toArray, List.getElem_cons_zero, List.getElem_cons_succ, List.setIfInBounds_toArray, List.set_cons_zero, List.set_cons_succ]
          refine upto_take (i := 12) (v := ?_) rfl (by kernel_rfl) (by kernel_rfl) (by kernel_rfl) (by kernel_rfl) (fun _ _ _ h => h) (by rfl) hS ?_ ?_
          rotate_left
          · intro wS hSw
            try dsimp only at hSw
            first | (go_simp; done) | (go_simp; with_reducible rfl)
          try simp only [Act.put, List.getElem_toArray, List.getElem_cons_zero, List.getElem_cons_succ, List.setIfInBounds_toArray, List.set_cons_zero, List.set_cons_succ]
          refine upto_step (i := 13) (by kernel_rfl) rfl ?_
          intro K hK
          go_simp
          refine hK _ _ (fun h => absurd rfl h) ?_
          clear hK K
          refine upto_done (by kernel_rfl) ?_
          refine NoPanic.normal ?_
          have hmd : Mod (fun b => b = w3.heap.size) WR (wr.setCell ⟨w3.heap.size, 4, none⟩ (.int .i64 (max gj vv + 1))).drew := (mset (F := fun b => b = w3.heap.size) hmj ⟨w3.heap.size, 4, none⟩ _ rfl).trans (Mod.of_below (Below.drew (Below.refl _ _)))
          have k0 : (wr.setCell ⟨w3.heap.size, 4, none⟩ (.int .i64 (max gj vv + 1))).drew.cell? ⟨w3.heap.size, 0, none⟩ = some (.slice a6 q.length c6) := by simp [go_sem, n0, n4, nf]
          have k1 : (wr.setCell ⟨w3.heap.size, 4, none⟩ (.int .i64 (max gj vv + 1))).drew.cell? ⟨w3.heap.size, 1, none⟩ = some (.slice a6' 0 c6') := by simp [go_sem, n1, n4, nf]
          have k2 : (wr.setCell ⟨w3.heap.size, 4, none⟩ (.int .i64 (max gj vv + 1))).drew.cell? ⟨w3.heap.size, 2, none⟩ = some (.slice a7 out.length c7) := by simp [go_sem, n2, n4, nf]
          have k3 : (wr.setCell ⟨w3.heap.size, 4, none⟩ (.int .i64 (max gj vv + 1))).drew.cell? ⟨w3.heap.size, 3, none⟩ = some (.slice p4 d.tables.length k4) := by simp [go_sem, n3, n4, nf]
          have k4 : (wr.setCell ⟨w3.heap.size, 4, none⟩ (.int .i64 (max gj vv + 1))).drew.cell? ⟨w3.heap.size, 4, none⟩ = some (.int .i64 (max gj vv + 1)) := by simp [go_sem, n4, nf]
          have kf : ∀ o, (wr.setCell ⟨w3.heap.size, 4, none⟩ (.int .i64 (max gj vv + 1))).drew.frozen? ⟨w3.heap.size, o, none⟩ = false := fun o => by simp [go_sem, nf]
          rw [← HTK2.out] at hmd k0 k1 k2 k3 k4 kf
          rw [← HTK2.out]
          clear hS n0 n1 n2 n3 n4 nf hcw g1
          generalize (wr.setCell ⟨w3.heap.size, 4, none⟩ (.int .i64 (gvR gg (l.take (j + 1)) + 1))).drew = Wn at *
          go_wp2
          exact ⟨⟨j + 1, by omega, by go_num, ⟨k0, k1, k2, k3, k4⟩, kf, hmd⟩, by simp [intOf]; omega⟩
        · obtain rfl : j = m := by omega
          have hj5 : ¬ (j : Int) < j := by omega
          rw [HTA2.out, ← HGE.out] at n4
          clear HRB HVL HTK
          go_wp2
          exact ⟨⟨k' + 1, by omega, by go_num, ⟨n0, n1, n2, n3, n4⟩, nf, hmw.trans hmj⟩, by simp [intOf]; omega⟩
    · obtain rfl : k' = ln := by omega
      have hi5 : ¬ (k' : Int) < k' := by omega
      rw [HGA.out] at m4
      have hM57 := hM6.trans hmw
      replace q0 := hmw.cell q0 hne
      replace q1 := hmw.cell q1 hne
      replace q2 := hmw.cell q2 hne
      replace q3 := hmw.cell q3 hne
      replace q4 := hmw.cell q4 hne
      replace q5 := hmw.cell q5 hne
      replace q6 := hmw.cell q6 hne
      have qz6 : w.heap.size + 1 < w6.heap.size := by omega
      have qf7 : ∀ o, wr.frozen? ⟨w.heap.size + 1, o, none⟩ = false := fun o => (hmw.frozen (a := ⟨w.heap.size + 1, o, none⟩) qz6 hne).trans (qf6 o)
      have hB7 : Below w.heap.size w wr := hmw.below hB6 hB6.size (fun b e => by rw [e]; omega)
      clear HVB HGT HGA HOA
      generalize gvT 0 xss = gv at *
      go_wp2
      refine bodyPost_ret (v := .agg #[.int .i64 0, .int .i64 0, .slice a6 q.length c6, .slice a6' 0 c6', .slice a7 out.length c7, .slice p4 d.tables.length k4, .int .i64 (gv + 1)]) (by simp [results, Tryz.results32, go_sem, q0, q1, q2, q3, q4, q5, q6, qf7, hne, Ne.symm hne]) rfl ?_
      rw [HE.out]
      have hMf : Mod (fun b => b = w3.heap.size ∨ b = w.heap.size + 1) w5 ((((((((wr).setCell ⟨w.heap.size + 1, 0, none⟩ (.int .i64 0)).setCell ⟨w.heap.size + 1, 1, none⟩ (.int .i64 0)).setCell ⟨w.heap.size + 1, 2, none⟩ (.slice a6 q.length c6)).setCell ⟨w.heap.size + 1, 3, none⟩ (.slice a6' 0 c6')).setCell ⟨w.heap.size + 1, 4, none⟩ (.slice a7 out.length c7)).setCell ⟨w.heap.size + 1, 5, none⟩ (.slice p4 d.tables.length k4)).setCell ⟨w.heap.size + 1, 6, none⟩ (.int .i64 (gv + 1))) := mset7 (hM57.mono (fun b e => .inl e)) (.inr rfl) _ _ _ _ _ _ _
      have hBf : Below w.heap.size w ((((((((wr).setCell ⟨w.heap.size + 1, 0, none⟩ (.int .i64 0)).setCell ⟨w.heap.size + 1, 1, none⟩ (.int .i64 0)).setCell ⟨w.heap.size + 1, 2, none⟩ (.slice a6 q.length c6)).setCell ⟨w.heap.size + 1, 3, none⟩ (.slice a6' 0 c6')).setCell ⟨w.heap.size + 1, 4, none⟩ (.slice a7 out.length c7)).setCell ⟨w.heap.size + 1, 5, none⟩ (.slice p4 d.tables.length k4)).setCell ⟨w.heap.size + 1, 6, none⟩ (.int .i64 (gv + 1))) := bset7 hB7 (by omega) _ _ _ _ _ _ _
      generalize (((((((wr).setCell ⟨w.heap.size + 1, 0, none⟩ (.int .i64 0)).setCell ⟨w.heap.size + 1, 1, none⟩ (.int .i64 0)).setCell ⟨w.heap.size + 1, 2, none⟩ (.slice a6 q.length c6)).setCell ⟨w.heap.size + 1, 3, none⟩ (.slice a6' 0 c6')).setCell ⟨w.heap.size + 1, 4, none⟩ (.slice a7 out.length c7)).setCell ⟨w.heap.size + 1, 5, none⟩ (.slice p4 d.tables.length k4)).setCell ⟨w.heap.size + 1, 6, none⟩ (.int .i64 (gv + 1)) = Wf at *
      have hres := engRR.base (engR_of (e := ⟨⟨q, []⟩, out, d.tables, gv + 1⟩) 0 0 (HENG.out Wf (gv + 1) hMf)) (base' := w.heap.size) (by omega)
      first | exact ⟨_, _, rfl, hres, hBf⟩ | exact ⟨_, rfl, ⟨_, hres⟩, hBf⟩
end Go.Proofs.YtdfapehonegeeaaGreat

/-
  Cells that are kept: many. (Written by program.)
-/
namespace Go.Proofs.YtdfapehonegeeaaGreat
open Go.RowKit
theorem keepN24 {w w' : World} {a0 : Addr} {x0 : Value} {a1 : Addr} {x1 : Value} {a2 : Addr} {x2 : Value} {a3 : Addr} {x3 : Value} {a4 : Addr} {x4 : Value} {a5 : Addr} {x5 : Value} {a6 : Addr} {x6 : Value} {a7 : Addr} {x7 : Value} {a8 : Addr} {x8 : Value} {a9 : Addr} {x9 : Value} {a10 : Addr} {x10 : Value} {a11 : Addr} {x11 : Value} {a12 : Addr} {x12 : Value} {a13 : Addr} {x13 : Value} {a14 : Addr} {x14 : Value} {a15 : Addr} {x15 : Value} {a16 : Addr} {x16 : Value} {a17 : Addr} {x17 : Value} {a18 : Addr} {x18 : Value} {a19 : Addr} {x19 : Value} {a20 : Addr} {x20 : Value} {a21 : Addr} {x21 : Value} {a22 : Addr} {x22 : Value} {a23 : Addr} {x23 : Value} (hb : Below w.heap.size w w') (g0 : w.cell? a0 = some x0) (g1 : w.cell? a1 = some x1) (g2 : w.cell? a2 = some x2) (g3 : w.cell? a3 = some x3) (g4 : w.cell? a4 = some x4) (g5 : w.cell? a5 = some x5) (g6 : w.cell? a6 = some x6) (g7 : w.cell? a7 = some x7) (g8 : w.cell? a8 = some x8) (g9 : w.cell? a9 = some x9) (g10 : w.cell? a10 = some x10) (g11 : w.cell? a11 = some x11) (g12 : w.cell? a12 = some x12) (g13 : w.cell? a13 = some x13) (g14 : w.cell? a14 = some x14) (g15 : w.cell? a15 = some x15) (g16 : w.cell? a16 = some x16) (g17 : w.cell? a17 = some x17) (g18 : w.cell? a18 = some x18) (g19 : w.cell? a19 = some x19) (g20 : w.cell? a20 = some x20) (g21 : w.cell? a21 = some x21) (g22 : w.cell? a22 = some x22) (g23 : w.cell? a23 = some x23) : Below w.heap.size w w' ∧ w'.cell? a0 = some x0 ∧ w'.cell? a1 = some x1 ∧ w'.cell? a2 = some x2 ∧ w'.cell? a3 = some x3 ∧ w'.cell? a4 = some x4 ∧ w'.cell? a5 = some x5 ∧ w'.cell? a6 = some x6 ∧ w'.cell? a7 = some x7 ∧ w'.cell? a8 = some x8 ∧ w'.cell? a9 = some x9 ∧ w'.cell? a10 = some x10 ∧ w'.cell? a11 = some x11 ∧ w'.cell? a12 = some x12 ∧ w'.cell? a13 = some x13 ∧ w'.cell? a14 = some x14 ∧ w'.cell? a15 = some x15 ∧ w'.cell? a16 = some x16 ∧ w'.cell? a17 = some x17 ∧ w'.cell? a18 = some x18 ∧ w'.cell? a19 = some x19 ∧ w'.cell? a20 = some x20 ∧ w'.cell? a21 = some x21 ∧ w'.cell? a22 = some x22 ∧ w'.cell? a23 = some x23 :=
  ⟨hb, cell_keep hb g0, cell_keep hb g1, cell_keep hb g2, cell_keep hb g3, cell_keep hb g4, cell_keep hb g5, cell_keep hb g6, cell_keep hb g7, cell_keep hb g8, cell_keep hb g9, cell_keep hb g10, cell_keep hb g11, cell_keep hb g12, cell_keep hb g13, cell_keep hb g14, cell_keep hb g15, cell_keep hb g16, cell_keep hb g17, cell_keep hb g18, cell_keep hb g19, cell_keep hb g20, cell_keep hb g21, cell_keep hb g22, cell_keep hb g23⟩
end Go.Proofs.YtdfapehonegeeaaGreat

/-
  What is handed in, read as data, is data in memory: rows and structs of rows.
-/
namespace Go.Proofs.YtdfapehonegeeaaGreat
open Go.ChangeShapes Go.WideShapes Go.ChangeAt Go.RowKit Go.Joins

theorem spot_none {W : World} {base k : Nat} {a : Addr} {cs : List Value} (hk : 0 < k) (hc : W.cells? base a k = some cs) : a.spot = none := by
  obtain ⟨hb, hl, hcell⟩ := World.cells?_some hc
  have q0 := hcell 0 hk
  obtain ⟨b, o, s⟩ := a
  cases s with
  | none => rfl
  | some s =>
    have : 0 < cs.length := by omega
    simp [Addr.add, World.cell?, this] at q0
    split at q0 <;> simp at q0
theorem add_plain (b o i : Nat) : (Addr.mk b o none).add i = ⟨b, o + i, none⟩ := by
  by_cases h : i = 0
  · subst h; simp [Addr.add]
  · simp [Addr.add, h]
theorem openRow {H : Type} {enc : TypeId × Value → H} {W : World} {sp : Nat → Bool} {held : Bool} {n : Nat} {v : Value} {y : DataW H × List MemPlace} {t e size : Nat} {α : Type} [Inhabited α] {q : List Value → α → Prop}
    (ht : Tryz.prog.underlying t = some (.slice e)) (hz : Tryz.prog.cellsOf e = size) (hs : 0 < size)
    (hq : ∀ n cs y, DataW.trod enc Tryz.prog W 0 sp held n e cs = some y → cs.length = size → ∃ x, q cs x) (h : DataW.trod enc Tryz.prog W 0 sp held n t [v] = some y) :
    ∃ (a : Option Addr) (cap : Nat) (xs : List α) (cs : Nat → List Value), v = .slice a xs.length cap ∧ xs.length ≤ cap ∧ cap ≤ maxLen ∧ ∀ i, i < xs.length → q (cs i) (xs.getD i default) ∧ (cs i).length = size ∧ ∃ b o, a = some ⟨b, o, none⟩ ∧ ∀ j, j < size → W.cell? ⟨b, o + i * size + j, none⟩ = (cs i)[j]? := by
  rcases Go.Deep.open_slice ht h with ⟨hcs, _⟩ | ⟨a, len, cap, m, n', D, Pl, hcs, hb, hl, hm, hmm, _, hc⟩
  · simp at hcs
    subst hcs
    exact ⟨none, 0, [], fun _ => [], rfl, by simp, by unfold maxLen; omega, fun i hi => by simp at hi⟩
  · simp at hcs
    subst hcs
    have hlm : len ≤ m := by rw [hmm]; split <;> omega
    rw [hz] at hc
    have h1 : ∀ i, i < len → ∃ z : List Value × α, q z.1 z.2 ∧ z.1.length = size ∧ ∃ b o, a = ⟨b, o, none⟩ ∧ ∀ j, j < size → W.cell? ⟨b, o + i * size + j, none⟩ = z.1[j]? := by
      intro i hi
      obtain ⟨cs', h1, h2⟩ := hc i (by omega)
      obtain ⟨_, hl', hcell⟩ := World.cells?_some h1
      obtain ⟨x, hx⟩ := hq _ _ _ h2 hl'
      obtain ⟨cs0, k1, _⟩ := hc 0 (by omega)
      have hsp := spot_none hs k1
      obtain ⟨b, o, s⟩ := a
      have hs0 : s = none := by simpa [Addr.add] using hsp
      subst hs0
      refine ⟨(cs', x), hx, hl', b, o, rfl, fun j hj => ?_⟩
      have := hcell j hj
      rw [add_plain, add_plain] at this
      exact this
    obtain ⟨f, hf⟩ := Go.Deep.choose_lt h1
    refine ⟨some a, cap, (List.range len).map (fun i => (f i).2), fun i => (f i).1, by simp, by simpa using hl, hm, fun i hi => ?_⟩
    simp at hi
    obtain ⟨g1, g2, b, o, rfl, g3⟩ := hf i hi
    have e : (List.map (fun i => (f i).2) (List.range len)).getD i default = (f i).2 := by simp [List.getD, hi]
    rw [e]
    exact ⟨g1, g2, b, o, rfl, g3⟩
theorem openN {H : Type} {enc : TypeId × Value → H} {W : World} {sp : Nat → Bool} {held : Bool} {n : Nat} {v : Value} {y : DataW H × List MemPlace} {t e size : Nat} {α : Type} [Inhabited α] {R : Rep α} {te : Nat} {lv : Value → List Value}
    (ht : Tryz.prog.underlying t = some (.slice e)) (hz : Tryz.prog.cellsOf e = size) (hs : 0 < size)
    (hq : ∀ n cs y, DataW.trod enc Tryz.prog W 0 sp held n e cs = some y → cs.length = size → ∃ x u, lv u = cs ∧ R.V W u x) (h : DataW.trod enc Tryz.prog W 0 sp held n t [v] = some y) :
    ∃ xs : List α, (nRep R te size lv).V W v xs := by
  obtain ⟨a, cap, xs, cs, rfl, h1, h2, h3⟩ := openRow (q := fun cs x => ∃ u, lv u = cs ∧ R.V W u x) ht hz hs hq h
  refine ⟨xs, a, cap, rfl, h1, h2, fun i hi => ?_⟩
  obtain ⟨⟨u, g1, g2⟩, g3, b, o, g4, g5⟩ := h3 i hi
  exact ⟨b, o, u, g4, by rw [g1]; exact g3, fun j hj => by rw [g1]; exact g5 j hj, g2⟩
end Go.Proofs.YtdfapehonegeeaaGreat

/-
  Bytes handed in.
-/
namespace Go.Proofs.YtdfapehonegeeaaGreat
open Go.ChangeShapes Go.WideShapes Go.ChangeAt Go.RowKit Go.Joins

theorem cellsByte : Tryz.prog.cellsOf 5 = 1 := by kernel_rfl
theorem openByte {H : Type} {enc : TypeId × Value → H} {W : World} {sp : Nat → Bool} {held : Bool} {n : Nat} {cs : List Value} {y : DataW H × List MemPlace}
    (ht : DataW.trod enc Tryz.prog W 0 sp held n 5 cs = some y) : ∃ x : Byte, cs = [.int .u8 (x.val : Int)] := by
  obtain ⟨x0, e0, _, hw⟩ := DataW.trod_int Tryz.underlying5 ht
  have hb := bounds_u8 hw
  refine ⟨toB x0, ?_⟩
  rw [e0, toB_val]
  congr 2
  omega
theorem openBytes {H : Type} {enc : TypeId × Value → H} {W : World} {sp : Nat → Bool} {held : Bool} {n : Nat} {v : Value} {y : DataW H × List MemPlace}
    (ht : DataW.trod enc Tryz.prog W 0 sp held n 22 [v] = some y) : ∃ xs : List Byte, bytesR.V W v xs := by
  obtain ⟨a, cap, xs, cs, rfl, h1, h2, h3⟩ := openRow (q := fun cs x => cs = [.int .u8 ((x : Byte).val : Int)]) Tryz.underlying22 cellsByte (by omega) (fun n cs y h _ => openByte h) ht
  refine ⟨xs, a, cap, rfl, h1, h2, fun i hi => ?_⟩
  obtain ⟨g1, g3, b, o, g4, g5⟩ := h3 i hi
  rw [g1] at g5
  refine ⟨b, o, g4, ?_⟩
  have h := g5 0 (by omega)
  have e : xs.getD i default = xs.getD i 0 := rfl
  rw [e] at h
  simpa using h
end Go.Proofs.YtdfapehonegeeaaGreat


import Derived.Test.YteebglgbeijolaaPrnTablesLaw12
import Derived.Test.YteebglgbeijolaaPrnTablesLaw10
import Derived.Test.YteebglgbeijolaaPrnTablesLaw1
import Derived.Test.YteebglgbeijolaaPrnTablesLaw2
import Derived.PlainAid
import Derived.Laws.BitsAllLaws
import Derived.Deep.RegionHeld3
import Derived.Deep.DrawnRows
import Derived.Lib.ConvBytes
import Derived.Test.YteebglgbeijolaaPrnTablesLaw3
import Derived.Deep.QuietTactic
import Derived.Laws.BytesArg
import Derived.Test.YteebglgbeijolaaPrnTablesLaw9
import Derived.Deep.Slices
import Derived.Lib.SmallJoins

/-
  The program's MergeTables.
-/
namespace Go.Proofs.Yteebglgbeijolaa
open Go.RowKit Go.Shelf
set_option linter.unusedSectionVars false
variable [DecidableEq Rw] [Inhabited Rw] [DecidableEq TabR] [Inhabited TabR]
set_option linter.unusedVariables false
set_option linter.unusedSimpArgs false
attribute [local go_sem ↓] Go.wp_at_zero Go.wp_at_succ
attribute [local go_sem] run_store_func

theorem infoSeq : (Try.prog.info? 119).map (fun i => (i.zero, i.size, i.bytes)) = some (some .nilFunc, 1, 8) := by kernel_rfl
def valF (B : Nat) : Value := .func (.func 144) #[] #[.pointer (some ⟨B, 0, none⟩)]
def PrtI (w W : World) (base : Nat) (pv : Value) (k : Nat) (Bs : Nat → Nat) (f : Nat → List Rw) : Prop :=
  W.ownsRow base 119 1 pv k ((List.range k).map (fun i => valF (Bs i))) ∧ ∀ i, i < k → Bs i < W.heap.size ∧ pv.ownBlock ≠ some (Bs i) ∧ ∃ u, W.cell? ⟨Bs i, 0, none⟩ = some u ∧ RowsV w u (f i)
theorem PrtI.below {w W W' : World} {base : Nat} {pv : Value} {k : Nat} {Bs : Nat → Nat} {f : Nat → List Rw} (h : PrtI w W base pv k Bs f) (hb : Below W.heap.size W W') : PrtI w W' base pv k Bs f := by
  refine ⟨owns_below h.1 hb, fun i hi => ?_⟩
  obtain ⟨h1, h2, u, h3, h4⟩ := h.2 i hi
  exact ⟨Nat.lt_of_lt_of_le h1 hb.size, h2, u, cell_keep hb h3, h4⟩
theorem PrtI.push {w W W' : World} {base : Nat} {pv pv' : Value} {k B : Nat} {Bs : Nat → Nat} {f : Nat → List Rw} {u : Value} (h : PrtI w W base pv k Bs f) (hB : B < W.heap.size) (hBn : pv.ownBlock ≠ some B) (hu : W.cell? ⟨B, 0, none⟩ = some u) (hr : RowsV w u (f k))
    (ho : W'.ownsRow base 119 1 pv' (k + 1) ((List.range k).map (fun i => valF (Bs i)) ++ [valF B])) (hg : W.grownBy W' pv.ownBlock) (hv : pv'.ownBlock = pv.ownBlock ∨ pv'.ownBlock = some W.heap.size) :
    PrtI w W' base pv' (k + 1) (upd Bs k B) f := by
  have hs := hg.size
  refine ⟨?_, fun i hi => ?_⟩
  · have e : (List.range (k + 1)).map (fun i => valF (upd Bs k B i)) = (List.range k).map (fun i => valF (Bs i)) ++ [valF B] := by
      rw [List.range_succ, List.map_append, List.map_singleton, upd_at]
      congr 1
      refine List.map_congr_left (fun i hi => ?_)
      rw [upd_ne _ _ (by have := List.mem_range.1 hi; omega)]
    rw [e]
    exact ho
  · by_cases e : i = k
    · subst e
      rw [upd_at]
      refine ⟨by omega, ?_, u, cell_grown hg hu (fun h => hBn h.symm), hr⟩
      rcases hv with hv | hv
      · rw [hv]; exact hBn
      · rw [hv]; intro e; simp only [Option.some.injEq] at e; omega
    · rw [upd_ne _ _ e]
      obtain ⟨h1, h2, u', h3, h4⟩ := h.2 i (by omega)
      refine ⟨by omega, ?_, u', cell_grown hg h3 (fun h => h2 h.symm), h4⟩
      rcases hv with hv | hv
      · rw [hv]; exact h2
      · rw [hv]; intro e; simp only [Option.some.injEq] at e; omega
theorem PrtI.parts {w W : World} {base : Nat} {pv : Value} {k : Nat} {Bs : Nat → Nat} {f : Nat → List Rw} (h : PrtI w W base pv k Bs f) : PartsV W pv k (fun _ => 144) (fun i => #[.pointer (some ⟨Bs i, 0, none⟩)]) := by
  rcases h.1.2 with ⟨rfl, rfl⟩ | ⟨g, cap, cur, rfl, _, hg, h1, h2, _⟩
  · exact ⟨none, 0, rfl, by omega, by unfold maxLen; omega, fun i hi => absurd hi (Nat.not_lt_zero _)⟩
  · refine ⟨_, cap, rfl, h1, h2, fun i hi => ⟨g, 0, rfl, ?_⟩⟩
    have hc := h.1.cellAt i (by omega)
    rw [Nat.zero_add, hc]
    simp [hi, valF]
set_option maxRecDepth 100000 in
set_option maxHeartbeats 4000000 in
theorem implMerge_u (x : Value) (xss : List (List Rw)) (w : World) (hx : rowssR.V w x xss) :
    Calls Try.prog 27 #[x] w fun e w' => ∃ v F, e = .returned v ∧ tabRR.O w' w.heap.size F v (mergeD xss) ∧ Below w.heap.size w w' := by
  obtain ⟨ax, cx, rfl, hcx, hmx, hx⟩ := hx
  unfold maxLen at hmx
  obtain ⟨i0, hi0, hz0, hz1, hz2⟩ := info_parts infoSeq
  have HN : Hid (Fit (mergeL xss)) := mergeL_fit (fun i hi => by
    obtain ⟨_, _, _, _, _, _, h⟩ := hx i hi
    exact h.2)
  have HD8 : Hid (8 < xss.length → mergeD xss = ⟨2, []⟩) := fun h => by unfold mergeD; rw [if_pos h]
  have HDF : Hid (¬ 8 < xss.length → ∀ k, k < xss.length → (∀ j, j < k → tabF (xss.getD j default) = 0) → tabF (xss.getD k default) ≠ 0 → mergeD xss = ⟨tabF (xss.getD k default), []⟩) := fun h k hk h1 h2 => by
    have e := firstF_at hk h1 h2
    unfold mergeD
    rw [if_neg h, if_pos (by rw [e]; exact h2), e]
  have HDM : Hid (¬ 8 < xss.length → (∀ j, j < xss.length → tabF (xss.getD j default) = 0) → mergeD xss = if 200 < (mergeL xss).length then ⟨2, []⟩ else ⟨0, mergeL xss⟩) := fun h h1 => by
    have e := firstF_none h1
    unfold mergeD
    rw [if_neg h, if_neg (by rw [e]; simp)]
  have HTL : Hid (¬ 8 < xss.length → (∀ j, j < xss.length → tabF (xss.getD j default) = 0) → (flatTo (fun i => xss.getD i default) xss.length).length ≤ 1000000) := fun h h1 => by
    have h2 := flatTo_len (f := fun i => xss.getD i default) (M := 200) (n := xss.length) (fun i hi => (tabF_all (h1 i hi)).1)
    omega
  have hM : putsL [] (flatTo (fun i => xss.getD i default) xss.length) = mergeL xss := rfl
  obtain ⟨D, hD⟩ : ∃ D, mergeD xss = D := ⟨_, rfl⟩
  rw [hD] at HD8 HDF HDM ⊢
  clear hD
  generalize hN : xss.length = n at *
  have HM : Hid (putsL [] (flatTo (fun i => xss.getD i default) n) = mergeL xss) := hM
  clear hN hM
  by_cases h8 : 8 < n
  · have hi8 : decide ((8 : Int) < n) = true := decide_eq_true (by omega)
    have hi9 : (8 : Int) < n := by omega
    have E := HD8.out h8
    subst E
    go_enter Try.func27, Try.ntmps27
    go_wp2
    refine bodyPost_ret (v := .agg #[.int .i64 2, .slice none 0 0]) (by simp [results, Try.results27, go_sem]) rfl ?_
    obtain ⟨F, hF⟩ := tabRR_nil (w.alloc (.cells #[.int .i64 2, .slice none 0 0] 57)) w.heap.size 2
    exact ⟨_, rfl, ⟨F, hF⟩, by (repeat (first | exact Below.refl _ _ | assumption | refine Below.drew ?_ | refine balloc ?_ _ | refine bset ?_ (by simp; omega) _ | refine bset ?_ (by simp) _ | refine bstep ?_ (by assumption)))⟩
  · have hi8 : decide ((8 : Int) < n) = false := decide_eq_false (by omega)
    have hi9 : ¬ ((8 : Int) < n) := by omega
    have HDF2 := HDF.out h8
    have HDF : Hid (∀ k, k < n → (∀ j, j < k → tabF (xss.getD j default) = 0) → tabF (xss.getD k default) ≠ 0 → D = ⟨tabF (xss.getD k default), []⟩) := HDF2
    clear HDF2
    go_enter Try.func27, Try.ntmps27
    go_wp2
    go_loopw [3, 15] (fun p i W => ∃ (k : Nat) (Bs : Nat → Nat), k ≤ n ∧ i = .int .i64 k ∧ Hid (∀ j, j < k → tabF (xss.getD j default) = 0) ∧ Hid (PrtI w W (w.heap.size + 1) p k Bs (fun i => xss.getD i default)) ∧ W.cell? ⟨w.heap.size, 0, none⟩ = some (.int .i64 0) ∧ W.cell? ⟨w.heap.size, 1, none⟩ = some (.slice none 0 0) ∧ (∀ o, W.frozen? ⟨w.heap.size, o, none⟩ = false) ∧ w.heap.size < W.heap.size ∧ Below w.heap.size w W) (fun _ i _ => n - (intOf i).toNat)
    case atStart =>
      refine ⟨0, fun _ => 0, Nat.zero_le _, rfl, fun j h => absurd h (Nat.not_lt_zero _), ⟨World.ownsRow_nil _ _ _ _, fun i hi => absurd hi (Nat.not_lt_zero _)⟩, by simp [go_sem], by simp [go_sem], fun o => by simp [go_sem], by simp, balloc (Below.refl _ _) _⟩
    case round =>
      obtain ⟨k, Bs, hk, rfl, HZ, HP, b0, b1, bf, bz, hbl⟩ := hrel
      have hi4 : (0 : Int) ≤ k := by omega
      by_cases hlt : k < n
      · obtain ⟨b, o, u, rfl, _, hc, hu⟩ := hx k hlt
        have g0 : wr.cell? ⟨b, o + k, none⟩ = some u := cell_keep hbl (cells1 hc)
        have hX := RowsV_below hu.1 hbl
        have HX : Hid (RowsV w u (xss.getD k default)) := hu.1
        have hi5 : (k : Int) < n := by omega
        clear hc hu hx
        have hXf := hX
        obtain ⟨au, cu, rfl, _⟩ := hXf
        have hC := implTableFault_any _ (xss.getD k default) wr hX
        obtain ⟨m, hm⟩ : ∃ m, (xss.getD k default).length = m := ⟨_, rfl⟩
        rw [hm] at hC g0 HX
        clear hm hX
        obtain ⟨T, hT⟩ : ∃ T, tabF (xss.getD k default) = T := ⟨_, rfl⟩
        have HT : Hid (tabF (xss.getD k default) = T) := hT
        rw [hT] at hC
        clear hT
        obtain ⟨ap, cp, hap⟩ := owns_form HP.out.1
        subst hap
        go_wp2_with fail
        refine hC.mono ?_
        rintro e w1 ⟨rfl, hb1⟩
        have hB1 := bstep hbl hb1
        have q0 := cell_keep hb1 b0
        have q1 := cell_keep hb1 b1
        have qf := boxKeep ⟨bf, bz⟩ hb1
        have HP1 : Hid (PrtI w w1 (w.heap.size + 1) (.slice ap k cp) k Bs (fun i => xss.getD i default)) := HP.out.below hb1
        clear hC HP
        by_cases h0 : T = 0
        · subst h0
          have hfd := tableField
          go_wp2_with fail
          refine (tableOf_any _ _ _ _).mono ?_
          rintro e w2 ⟨rfl, hb2⟩
          unfold cmpF
          go_wp2_with fail
          refine (all_any _ _ _ _).mono ?_
          rintro e w3 ⟨rfl, hw3⟩
          have hb3 : Below w2.heap.size w2 w3 := by rw [hw3]; exact balloc (balloc (Below.refl _ _) _) _
          have HS3 : Hid (w3.heap.size = w2.heap.size + 2) := by rw [Hid, hw3]; simp
          have hc3 : w3.cell? ⟨w2.heap.size + 1, 0, none⟩ = some (.slice au m cu) := by rw [hw3]; simp [go_sem]
          clear hw3
          have hb13 := bstep hb2 hb3
          have HP3 : Hid (PrtI w w3 (w.heap.size + 1) (.slice ap k cp) k Bs (fun i => xss.getD i default)) := HP1.out.below hb13
          have ho3 := HP3.out.1
          have hB2n : (Value.slice ap k cp).ownBlock ≠ some (w2.heap.size + 1) := fun e => by
            have h1 := (HP1.out.1.lt _ e).2
            have h2 := hb2.size
            omega
          have hz13 := hb13.size
          clear HP1
          obtain ⟨C, hC⟩ : ∃ C, (List.range k).map (fun i => valF (Bs i)) = C := ⟨_, rfl⟩
          rw [hC] at ho3
          have HC : Hid ((List.range k).map (fun i => valF (Bs i)) = C) := hC
          clear hC
          go_wp2_with (at_builtin; refine wpList_append_own_at _ rfl _ _ 117 rfl (w.heap.size + 1) 119 i0 _ 1 8 Try.underlying117 hi0 hz0 hz1 hz2 rfl (by decide) _ k C rfl (ho3.alloc _) ⟨w3.heap.size, 0, none⟩ 1 1 [valF (w2.heap.size + 1)] rfl rfl ?c1 ?c2 ?c3 ?c4 ?c5 ?_)
          case c1 =>
            intro j u hj
            match j, hj with
            | 0, hj => simp at hj; subst hj; simp [Addr.add, go_sem, valF]
            | j + 1, hj => simp at hj
          case c2 =>
            intro u hu
            rw [List.mem_singleton] at hu
            rw [hu]
            rfl
          case c3 => unfold maxLen; omega
          case c4 => omega
          case c5 => simp; omega
          intro v' w5 o5 g5 _ l5
          have hbA : Below w3.heap.size w3 (w3.alloc (.cells #[valF (w2.heap.size + 1)] 119)) := balloc (Below.refl _ _) _
          have HPA := HP3.out.below hbA
          have o5' := o5
          rw [← HC.out] at o5'
          have hnew := PrtI.push HPA (B := w2.heap.size + 1) (by have := HS3.out; simp; omega) hB2n (cell_keep hbA hc3) HX.out o5' g5 (by rw [World.size_alloc]; exact l5)
          have hB5 : Below w.heap.size w w5 := by
            have h1 : Below w.heap.size w (w3.alloc (.cells #[valF (w2.heap.size + 1)] 119)) := by (repeat (first | exact Below.refl _ _ | assumption | refine Below.drew ?_ | refine balloc ?_ _ | refine bset ?_ (by simp; omega) _ | refine bset ?_ (by simp) _ | refine bstep ?_ (by assumption)))
            refine h1.grown g5 h1.size (fun b hb => ?_)
            have := (ho3.lt b hb).1
            omega
          have hnk : some w.heap.size ≠ (Value.slice ap k cp).ownBlock := fun e => by
            have := (ho3.lt _ e.symm).1
            omega
          have p0 := cell_grown g5 (cell_keep hbA (cell_keep hb13 q0)) hnk
          have p1 := cell_grown g5 (cell_keep hbA (cell_keep hb13 q1)) hnk
          have pf := boxKeep (boxKeep qf hb13) hbA
          have pf5 : ∀ o, w5.frozen? ⟨w.heap.size, o, none⟩ = false := fun o => ((Mod.of_grown g5).frozen (a := ⟨w.heap.size, o, none⟩) pf.2 (fun e => hnk e.symm)).trans (pf.1 o)
          have hz5 := g5.size
          have HNEW : Hid (PrtI w w5 (w.heap.size + 1) v' (k + 1) (upd Bs k (w2.heap.size + 1)) (fun i => xss.getD i default)) := hnew
          have pz : w.heap.size < w5.heap.size := Nat.lt_of_lt_of_le pf.2 hz5
          clear hnew HPA o5' hbA pf
          obtain ⟨a5, c5, rfl⟩ := owns_form o5
          go_wp2
          refine ⟨⟨k + 1, _, by omega, by go_num, fun j hj => ?_, HNEW, p0, p1, pf5, pz, hB5⟩, by simp [intOf]; omega⟩
          by_cases h : j < k
          · exact HZ.out j h
          · have : j = k := by omega
            subst this
            exact HT.out
        · have h0' : (T == 0) = false := by rw [beq_eq_false_iff_ne]; exact h0
          have E := HDF.out k hlt HZ.out (by rw [HT.out]; exact h0)
          rw [HT.out] at E
          have HE : Hid (D = ⟨T, []⟩) := E
          clear E
          have qf1 := qf.1
          go_wp2
          refine bodyPost_ret (v := .agg #[.int .i64 T, .slice none 0 0]) (by simp [results, Try.results27, go_sem, q0, q1]) rfl ?_
          obtain ⟨F, hF⟩ := tabRR_nil ((w1.setCell ⟨w.heap.size, 0, none⟩ (.int .i64 T)).setCell ⟨w.heap.size, 1, none⟩ (.slice none 0 0)) w.heap.size T
          rw [HE.out]
          first | exact ⟨_, F, rfl, hF, by (repeat (first | exact Below.refl _ _ | assumption | refine Below.drew ?_ | refine balloc ?_ _ | refine bset ?_ (by simp; omega) _ | refine bset ?_ (by simp) _ | refine bstep ?_ (by assumption)))⟩ | exact ⟨_, rfl, ⟨F, hF⟩, by (repeat (first | exact Below.refl _ _ | assumption | refine Below.drew ?_ | refine balloc ?_ _ | refine bset ?_ (by simp; omega) _ | refine bset ?_ (by simp) _ | refine bstep ?_ (by assumption)))⟩
      · obtain rfl : k = n := by omega
        have hi5 : ¬ ((k : Int) < k) := by omega
        have HE := HDM.out h8 (fun j hj => HZ.out j hj)
        have hTL := HTL.out h8 (fun j hj => HZ.out j hj)
        have hC := merged_any u3 k 200 (fun _ => 144) (fun i => #[.pointer (some ⟨Bs i, 0, none⟩)]) (fun i => xss.getD i default) wr HP.out.parts (by omega) hTL (fun i hi => enters_of Try.func144 (by kernel_rfl) rfl) (fun i hi => by
          obtain ⟨h1, h2, u, h3, h4⟩ := HP.out.2 i hi
          exact values_seq (Bs i) u (xss.getD i default) _ wr h3 h1 (TabAt.of (RowsV_below h4 hbl) (fun b hb => hb)) (tabF_all (HZ.out i hi)).1)
        rw [HM.out] at hC
        have HE2 : Hid (D = if 200 < (mergeL xss).length then ⟨2, []⟩ else ⟨0, mergeL xss⟩) := HE
        obtain ⟨ap, cp, hap⟩ := owns_form HP.out.1
        subst hap
        clear HE hTL
        generalize mergeL xss = ys at *
        unfold cmpF at hC
        go_wp2_with fail
        refine hC.mono ?_
        rintro e w1 ⟨v, f, rfl, ⟨a1, n1, c1, rfl⟩, hb1, ht, hf⟩
        clear hC
        have hB1 := bstep hbl hb1
        have q0 := cell_keep hb1 b0
        have q1 := cell_keep hb1 b1
        have qf := boxKeep ⟨bf, bz⟩ hb1
        have qf1 := qf.1
        have qz := qf.2
        cases f with
        | false =>
          have hlen := hf rfl
          have HE : Hid (D = ⟨2, []⟩) := by rw [Hid, HE2.out, if_pos hlen]
          clear ht hf
          go_wp2
          refine bodyPost_ret (v := .agg #[.int .i64 2, .slice none 0 0]) (by simp [results, Try.results27, go_sem, q0, q1, qz]) rfl ?_
          obtain ⟨F, hF⟩ := tabRR_nil (((w1.setCell ⟨w.heap.size, 0, none⟩ (.int .i64 2)).setCell ⟨w.heap.size, 1, none⟩ (.slice none 0 0)).alloc (.cells #[.slice a1 n1 c1, .func (.func 77) #[] #[]] 122)) w.heap.size 2
          rw [HE.out]
          first | exact ⟨_, F, rfl, hF, by (repeat (first | exact Below.refl _ _ | assumption | refine Below.drew ?_ | refine balloc ?_ _ | refine bset ?_ (by simp; omega) _ | refine bset ?_ (by simp) _ | refine bstep ?_ (by assumption)))⟩ | exact ⟨_, rfl, ⟨F, hF⟩, by (repeat (first | exact Below.refl _ _ | assumption | refine Below.drew ?_ | refine balloc ?_ _ | refine bset ?_ (by simp; omega) _ | refine bset ?_ (by simp) _ | refine bstep ?_ (by assumption)))⟩
        | true =>
          obtain ⟨ho, hlen⟩ := ht rfl
          have HE : Hid (D = ⟨0, ys⟩) := by rw [Hid, HE2.out, if_neg (by omega)]
          clear ht hf
          have hn1 : n1 = ys.length := by
            obtain ⟨a', c', e⟩ := owns_form ho
            simp only [Value.slice.injEq] at e
            exact e.2.1
          have Hn1 : Hid (n1 = ys.length) := hn1
          clear hn1
          have hbz := hbl.size
          go_wp2
          refine bodyPost_ret (v := .agg #[.int .i64 0, .slice a1 n1 c1]) (by simp [results, Try.results27, go_sem, q0, q1, qz]) rfl ?_
          have ho2 : (((w1.setCell ⟨w.heap.size, 0, none⟩ (.int .i64 0)).setCell ⟨w.heap.size, 1, none⟩ (.slice a1 n1 c1)).alloc (.cells #[.slice a1 n1 c1, .func (.func 77) #[] #[]] 122)).ownsRow w.heap.size 61 4 (.slice a1 n1 c1) ys.length (rwsC ys) :=
            owns_base ((owns_setCell (owns_setCell ho (by dsimp only; omega) _) (by dsimp only; omega) _).alloc _) (by omega)
          obtain ⟨F, hF⟩ := tabRR_of (c := 0) ho2 HN.out
          rw [HE.out]
          first | exact ⟨_, F, rfl, hF, by (repeat (first | exact Below.refl _ _ | assumption | refine Below.drew ?_ | refine balloc ?_ _ | refine bset ?_ (by simp; omega) _ | refine bset ?_ (by simp) _ | refine bstep ?_ (by assumption)))⟩ | exact ⟨_, rfl, ⟨F, hF⟩, by (repeat (first | exact Below.refl _ _ | assumption | refine Below.drew ?_ | refine balloc ?_ _ | refine bset ?_ (by simp; omega) _ | refine bset ?_ (by simp) _ | refine bstep ?_ (by assumption)))⟩
end Go.Proofs.Yteebglgbeijolaa

/-
  Bytes as text; one row of a row of rows; whether the code is too long.
-/
namespace Go.Proofs.Yteebglgbeijolaa
open Go.RowKit
set_option linter.unusedSectionVars false
variable [DecidableEq BytesR] [Inhabited BytesR] [DecidableEq RecsR] [Inhabited RecsR]
set_option linter.unusedSimpArgs false
attribute [local go_sem ↓] Go.wp_at_zero Go.wp_at_succ

set_option maxHeartbeats 400000 in
theorem lwBig_any (x : Value) (xs : List Byte) (w : World) (hx : bytesR.V w x xs) :
    Calls Try.prog 8 #[x] w fun e w' => e = .returned (.bool (decide (1048576 < xs.length))) ∧ w' = w := by
  obtain ⟨a, c, rfl, h1, h2, _⟩ := hx
  unfold maxLen at h2
  generalize xs.length = n at *
  go_enter Try.func8, Try.ntmps8
  by_cases h : 1048576 < n
  · have h' : (1048576 : Int) < (n : Int) := by omega
    go_wp2
    go_ret
    exact ⟨by simp [h], rfl⟩
  · have h' : ¬ (1048576 : Int) < (n : Int) := by omega
    go_wp2
    go_ret
    exact ⟨by simp [h], rfl⟩
end Go.Proofs.Yteebglgbeijolaa

/-
  An operation that is skipped, and on which others' guards hang: what it would have yielded is nothing.
-/
namespace Go.Proofs.Yteebglgbeijolaa
open Go.RowKit

theorem upto_skipU {P : Program} {ops : Array Oper} {Q : Exit → Act → World → Prop} {md : Region.Mode} {S : World → Prop} {t : Nat} {i : Nat} {oi : Oper} {f : Nat} {listed : Array Bool} {a : Act} {w : World} (hi : ops[i]? = some oi) (hsel : Region.noSelect ops = true) (ht : ops[t]? = none)
    (hf : Region.free md ops listed i = true) (hr : (Region.ready md ops listed).contains i = true) (hQ : ∀ c a w, Q (.panic c) (a.put oi.dst undef) w → Q (.panic c) a w)
    (hwd : Region.wanted oi (yielded ops a.tmps) = false) (hS : S w)
    (h : wpUpto P md ops Q S t f (listed.setIfInBounds i true) (a.put oi.dst undef) w) : wpUpto P md ops Q S t (f + 1) listed a w :=
  upto_firstN hi hsel ht hQ f listed a w (Region.free_spec hi hf) (by simpa using hr) (Or.inr ⟨hwd, rfl⟩) hS h
end Go.Proofs.Yteebglgbeijolaa

/-
  What is handed in, read as data, is data in memory: rows and structs of rows.
-/
namespace Go.Proofs.Yteebglgbeijolaa
open Go.ChangeShapes Go.WideShapes Go.ChangeAt Go.RowKit Go.Joins

theorem spot_none {W : World} {base k : Nat} {a : Addr} {cs : List Value} (hk : 0 < k) (hc : W.cells? base a k = some cs) : a.spot = none := by
  obtain ⟨hb, hl, hcell⟩ := World.cells?_some hc
  have q0 := hcell 0 hk
  obtain ⟨b, o, s⟩ := a
  cases s with
  | none => rfl
  | some s =>
    have : 0 < cs.length := by omega
    simp [Addr.add, World.cell?, this] at q0
    split at q0 <;> simp at q0
theorem add_plain (b o i : Nat) : (Addr.mk b o none).add i = ⟨b, o + i, none⟩ := by
  by_cases h : i = 0
  · subst h; simp [Addr.add]
  · simp [Addr.add, h]
theorem openRow {H : Type} {enc : TypeId × Value → H} {W : World} {sp : Nat → Bool} {held : Bool} {n : Nat} {v : Value} {y : DataW H × List MemPlace} {t e size : Nat} {α : Type} [Inhabited α] {q : List Value → α → Prop}
    (ht : Try.prog.underlying t = some (.slice e)) (hz : Try.prog.cellsOf e = size) (hs : 0 < size)
    (hq : ∀ n cs y, DataW.trod enc Try.prog W 0 sp held n e cs = some y → cs.length = size → ∃ x, q cs x) (h : DataW.trod enc Try.prog W 0 sp held n t [v] = some y) :
    ∃ (a : Option Addr) (cap : Nat) (xs : List α) (cs : Nat → List Value), v = .slice a xs.length cap ∧ xs.length ≤ cap ∧ cap ≤ maxLen ∧ ∀ i, i < xs.length → q (cs i) (xs.getD i default) ∧ (cs i).length = size ∧ ∃ b o, a = some ⟨b, o, none⟩ ∧ ∀ j, j < size → W.cell? ⟨b, o + i * size + j, none⟩ = (cs i)[j]? := by
  rcases Go.Deep.open_slice ht h with ⟨hcs, _⟩ | ⟨a, len, cap, m, n', D, Pl, hcs, hb, hl, hm, hmm, _, hc⟩
  · simp at hcs
    subst hcs
    exact ⟨none, 0, [], fun _ => [], rfl, by simp, by unfold maxLen; omega, fun i hi => by simp at hi⟩
  · simp at hcs
    subst hcs
    have hlm : len ≤ m := by rw [hmm]; split <;> omega
    rw [hz] at hc
    have h1 : ∀ i, i < len → ∃ z : List Value × α, q z.1 z.2 ∧ z.1.length = size ∧ ∃ b o, a = ⟨b, o, none⟩ ∧ ∀ j, j < size → W.cell? ⟨b, o + i * size + j, none⟩ = z.1[j]? := by
      intro i hi
      obtain ⟨cs', h1, h2⟩ := hc i (by omega)
      obtain ⟨_, hl', hcell⟩ := World.cells?_some h1
      obtain ⟨x, hx⟩ := hq _ _ _ h2 hl'
      obtain ⟨cs0, k1, _⟩ := hc 0 (by omega)
      have hsp := spot_none hs k1
      obtain ⟨b, o, s⟩ := a
      have hs0 : s = none := by simpa [Addr.add] using hsp
      subst hs0
      refine ⟨(cs', x), hx, hl', b, o, rfl, fun j hj => ?_⟩
      have := hcell j hj
      rw [add_plain, add_plain] at this
      exact this
    obtain ⟨f, hf⟩ := Go.Deep.choose_lt h1
    refine ⟨some a, cap, (List.range len).map (fun i => (f i).2), fun i => (f i).1, by simp, by simpa using hl, hm, fun i hi => ?_⟩
    simp at hi
    obtain ⟨g1, g2, b, o, rfl, g3⟩ := hf i hi
    have e : (List.map (fun i => (f i).2) (List.range len)).getD i default = (f i).2 := by simp [List.getD, hi]
    rw [e]
    exact ⟨g1, g2, b, o, rfl, g3⟩
end Go.Proofs.Yteebglgbeijolaa


/-
  Records that stand one behind the other are told, and of a beginning of the bytes the first ones: the walk.
-/
import Derived.Test.YtfeolikagceohaaFrC
namespace Go.Proofs.Ytfeolikagceohaa.framesLaw
open Go.RowKit
set_option linter.unusedSectionVars false
variable [DecidableEq Logg] [Inhabited Logg] [DecidableEq LoggR] [Inhabited LoggR] [DecidableEq BytesR] [Inhabited BytesR] [DecidableEq RecsR] [Inhabited RecsR] [DecidableEq Leg] [Inhabited Leg]
set_option linter.unusedSimpArgs false
attribute [local go_sem ↓] Go.wp_at_zero Go.wp_at_succ

set_option maxHeartbeats 16000000 in
set_option maxRecDepth 20000 in
theorem walk (x0 : Value) (d0 : List Byte) (w : World) (hx0 : bytesR.V w x0 d0) :
    Calls Try.prog 3 #[x0] w fun e w' => e = .returned (.bool true) ∧ Below w.heap.size w w' := by
  have hX0 := hx0
  obtain ⟨ax, cx, rfl⟩ := bytes_form hx0
  go_enter Try.func3, Try.ntmps3
  go_wp2_with fail
  refine (lwBig_any _ d0 _ hX0).mono ?_
  rintro e w' ⟨rfl, hw⟩
  obtain rfl : w = w' := hw.symm
  by_cases hbig : 1048576 < d0.length
  · rw [decide_eq_true hbig]
    go_wp2
    go_ret
    exact ⟨rfl, Below.refl _ _⟩
  rw [decide_eq_false hbig]
  clear hw hx0
  go_wp2
  go_loopw [3, 4, 5] (fun va vl kk w' => ∃ (j : Nat) (rs : List (List Byte)) (cs : List Value) (us : Nat → Value) (fs : Nat → Nat → Prop), kk = .int .u8 j ∧ j ≤ 4 ∧ rs.length ≤ j ∧ (∀ r ∈ rs, okR r) ∧ FrSt w w' va vl rs cs us fs) (fun _ _ kk _ => 4 - (intOf kk).toNat)
  case atStart =>
    refine ⟨0, [], [], fun _ => .int .i64 0, fun _ _ => False, rfl, by omega, by simp, by simp, ⟨?_, ?_, ?_, ?_, by (repeat (first | exact Below.refl _ _ | assumption | refine Below.drew ?_ | refine balloc ?_ _ | refine bset ?_ (by simp; omega) _ | refine bset ?_ (by simp) _ | refine bstep ?_ (by assumption)))⟩⟩
    · exact nil_owns (balloc (Below.refl _ _) _) _ rfl (Nat.le_refl _)
    · exact ⟨by have h := World.ownsRow_lit (base := w.heap.size) (e := 22) (size := 1) (w.alloc (.cells #[] 5)) #[] 0 (by simp) (by unfold maxLen; omega) rfl; simpa using h, fun _ h => absurd h (Nat.not_lt_zero _), fun _ h => absurd h (Nat.not_lt_zero _), fun _ h => absurd h (Nat.not_lt_zero _), fun _ h => absurd h (Nat.not_lt_zero _), fun _ _ h => absurd h (Nat.not_lt_zero _)⟩
    · intro b hb e
      simp [Value.ownBlock] at hb e
      omega
    · intro i hi
      exact absurd hi (Nat.not_lt_zero _)
  case round =>
    obtain ⟨j, rs, cs, us, fs, rfl, hj, hrj, hok, st⟩ := hrel
    have oa := st.oa
    obtain ⟨pa, ca, rfl⟩ := owns_form oa
    have ol := st.pl.row
    obtain ⟨pl, cl, rfl⟩ := owns_form ol
    have hbr := st.bl
    have hzr := hbr.size
    by_cases hlt : j < 4
    · have hj4 : (j : Int) < 4 := by omega
      have hjb : ((toB (j : Int)).val : Int) = j := by rw [toB_val]; omega
      have hk8 : IntKind.u8.wrap ((j : Int) + 1) = (j : Int) + 1 := by rw [wrapB]; have := toB_val ((j : Int) + 1); omega
      have sb : [toB (j : Int)].length + d0.length ≤ 1073741824 := by simp; omega
      go_wp2_with (at_builtin; refine wpList_appB _ rfl _ _ rfl wr.heap.size (.slice (some ⟨wr.heap.size, 0, none⟩) 1 1) [toB (j : Int)] rfl _ d0 rfl (one_owns (toB (j : Int)) (q := (j : Int)) hjb.symm (Nat.le_refl _)) (appAny_bytes (bytesR.below hX0 (balloc hbr _))) sb (by simp) ?_)
      intro v1 w1 o1 hg1 hB1
      have hb1 : Below wr.heap.size wr w1 := hB1 wr (balloc (Below.refl _ _) _)
      have V1 : BytesV w1 v1 ([toB (j : Int)] ++ d0) := BytesV_of_owns o1
      obtain ⟨p1, q1, rfl⟩ := owns_form o1
      have z1 := hb1.size
      clear o1 hg1 hB1 sb
      go_wp2_with fail
      refine (drawFrame_any _ ([toB (j : Int)] ++ d0) w1 V1 (by simp; omega)).mono ?_
      rintro e w2 ⟨v2, F2, xs, rfl, ho2, hxl, hb2⟩
      obtain ⟨p2, q2, rfl⟩ := bytes_form (bytesR.ofO ho2)
      have z2 := hb2.size
      have hU := bytesR.ofO ho2
      have hb12 : Below wr.heap.size wr w2 := bstep hb1 hb2
      clear V1 hb1 hb2
      go_wp2_with fail
      refine (implFrame_u _ xs w2 hU).mono ?_
      rintro e w3 ⟨v3, F3, rfl, ho3, hb3⟩
      have ofm := bytesRR.ofO ho3
      have hb13 : Below wr.heap.size wr w3 := bstep hb12 hb3
      have ho23 := bytesR.keep ho2 hb3
      have z3 := hb3.size
      clear ho3 hb12 ho2
      by_cases h5 : 1 ≤ xs.length ∧ xs.length ≤ 500
      rotate_left
      · have hfd : frameD xs = ⟨2, []⟩ := if_neg h5
        have HFD : Hid (frameD xs = ⟨2, []⟩) := hfd
        rw [hfd] at ofm
        obtain ⟨a3, c3, rfl⟩ := bytesR_form ofm
        have hU3 := bytesR.ofO ho23
        have HK8 : Hid (IntKind.u8.wrap ((j : Int) + 1) = (j : Int) + 1) := hk8
        have HX0 : Hid (bytesR.V w (.slice ax d0.length cx) d0) := hX0
        have HOK : Hid (∀ r ∈ rs, okR r) := hok
        have HU3 : Hid (bytesR.V w3 (.slice p2 xs.length q2) xs) := hU3
        clear ofm hfd hb3 ho23 hU oa ol hjb hX0 hok h5 hU3
        go_wp2
        clear hk8
        refine wp_region_noPanic ?_
        refine region_upto (fun w' => Below w3.heap.size w3 w' ∧ w'.cell? ⟨w3.heap.size, 0, none⟩ = some (.int .i64 2)) 6 (by kernel_rfl) ⟨by (repeat (first | exact Below.refl _ _ | assumption | refine Below.drew ?_ | refine balloc ?_ _ | refine bset ?_ (by simp; omega) _ | refine bset ?_ (by simp) _ | refine bstep ?_ (by assumption))), by simp [go_sem]⟩ (fun hS => ?_)
        refine upto_takeN (i := 0) (v := ?_) rfl (by kernel_rfl) (by kernel_rfl) (by kernel_rfl) (by kernel_rfl) (fun _ _ _ h => h) (by rfl) hS ?_ ?_
        rotate_left
        · intro wS hSw
          try dsimp only at hSw
          first | (go_simp; done) | (go_simp; with_reducible rfl)
        try simp only [Act.put, List.getElem_toArray, List.getElem_cons_zero, List.getElem_cons_succ, List.setIfInBounds_toArray, List.set_cons_zero, List.set_cons_succ]
        refine upto_takeN (i := 3) (v := ?_) rfl (by kernel_rfl) (by kernel_rfl) (by kernel_rfl) (by kernel_rfl) (fun _ _ _ h => h) (by rfl) hS ?_ ?_
        rotate_left
        · intro wS hSw
          try dsimp only at hSw
          first | (go_simp; done) | (go_simp; with_reducible rfl)
        try simp only [Act.put, List.getElem_toArray, List.getElem_cons_zero, List.getElem_cons_succ, List.setIfInBounds_toArray, List.set_cons_zero, List.set_cons_succ]
        refine upto_takeN (i := 4) (v := ?_) rfl (by kernel_rfl) (by kernel_rfl) (by kernel_rfl) (by kernel_rfl) (fun _ _ _ h => h) (by rfl) hS ?_ ?_
        rotate_left
        · intro wS hSw
          try dsimp only at hSw
          first | (go_simp; done) | (go_simp; with_reducible rfl)
        try simp only [Act.put, List.getElem_toArray, List.getElem_cons_zero, List.getElem_cons_succ, List.setIfInBounds_toArray, List.set_cons_zero, List.set_cons_succ]
        refine upto_step (i := 1) (by kernel_rfl) rfl ?_
        intro K hK
        go_simp
        refine (specFrame_u _ xs _ (bytesR.below HU3.out (by (repeat (first | exact Below.refl _ _ | assumption | refine Below.drew ?_ | refine balloc ?_ _ | refine bset ?_ (by simp; omega) _ | refine bset ?_ (by simp) _ | refine bstep ?_ (by assumption)))))).mono ?_
        rintro e w4 ⟨v4, F4, rfl, ho4, hb4⟩
        rw [HFD.out] at ho4
        obtain ⟨a4, c4, rfl⟩ := bytesR_form (bytesRR.ofO ho4)
        have hS4 : (fun w' => Below w3.heap.size w3 w' ∧ w'.cell? ⟨w3.heap.size, 0, none⟩ = some (.int .i64 2)) w4 := ⟨bstep hS.1 hb4, cell_keep hb4 hS.2⟩
        have hfd4 : ∀ w : World, (Instr.field 27 (.agg #[.int .i64 2, .slice a4 0 c4]) 0).run Try.prog w = .ok (.int .i64 2) w := fun _ => by kernel_rfl
        refine hK _ _ (fun _ => hS4) ?_
        clear hK K ho4 hb4
        simp only [List.length_nil]
        try simp only [Act.put, List.getElem_toArray, List.getElem_cons_zero, List.getElem_cons_succ, List.setIfInBounds_toArray, List.set_cons_zero, List.set_cons_succ]
        refine upto_takeN (i := 2) (v := (.int .i64 2)) rfl (by kernel_rfl) (by kernel_rfl) (by kernel_rfl) (by kernel_rfl) (fun _ _ _ h => h) (by rfl) hS4 ?_ ?_
        · intro wS hSw
          try dsimp only at hSw
          go_simp
        try simp only [Act.put, List.getElem_toArray, List.getElem_cons_zero, List.getElem_cons_succ, List.setIfInBounds_toArray, List.set_cons_zero, List.set_cons_succ]
        refine upto_takeN (i := 5) (v := (.bool false)) rfl (by kernel_rfl) (by kernel_rfl) (by kernel_rfl) (by kernel_rfl) (fun _ _ _ h => h) (by rfl) hS4 ?_ ?_
        · intro wS hSw
          try dsimp only at hSw
          go_simp
        try simp only [Act.put, List.getElem_toArray, List.getElem_cons_zero, List.getElem_cons_succ, List.setIfInBounds_toArray, List.set_cons_zero, List.set_cons_succ]
        refine upto_done (by kernel_rfl) ?_
        refine NoPanic.normal ?_
        have st4 := st.below (bstep hb13 hS4.1)
        have hk8 := HK8.out
        clear hS hS4
        go_wp2
        exact ⟨⟨j + 1, rs, cs, us, fs, by go_num, by omega, by omega, HOK.out, st4⟩, by simp [intOf]; omega⟩
      have hfd : frameD xs = ⟨0, frameB xs⟩ := if_pos h5
      rw [hfd] at ofm
      obtain ⟨u3, e3, V3⟩ := ofm
      subst e3
      obtain ⟨a3, c3, rfl⟩ := bytes_form V3
      have hf1 : 0 < (frameB xs).length := by rw [length_frameB]; omega
      have hf2 : (frameB xs).length ≤ 504 := by rw [length_frameB]; omega
      have hlen : (framesB rs).length ≤ 2016 := by rw [framesB_len]; have := cumW_le rs hok rs.length; omega
      have hbY : Below wr.heap.size wr (w3.alloc (.cells #[.int .i64 0, .slice a3 (frameB xs).length c3] 27)) := balloc hb13 _
      have stY := st.below hbY
      have sl : (framesB rs).length + (frameB xs).length ≤ 1073741824 := by omega
      clear hfd hb3 hU
      go_wp2_with (at_builtin; refine wpList_appAt _ rfl _ _ rfl w.heap.size (.slice pa (framesB rs).length ca) (framesB rs) rfl _ (frameB xs) rfl stY.oa (appAny_bytes (bytesR.below V3 (balloc (Below.refl _ _) _))) hf1 sl (by simp; omega) ?_)
      intro v5 w5 o5 hg5 hl5
      have z5 := hg5.size
      simp at z5
      have hr5 : bytesR.O (w3.alloc (.cells #[.int .i64 0, .slice a3 (frameB xs).length c3] 27)) w1.heap.size F2 (.slice p2 xs.length q2) xs := bytesR.alloc ho23 _
      have HO5 : Hid (World.ownsRow w5 w.heap.size 5 1 v5 (framesB rs ++ frameB xs).length (bytesC (framesB rs ++ frameB xs))) := by unfold Hid; rw [List.length_append]; simpa using o5
      obtain ⟨p5, q5, rfl⟩ := owns_form o5
      have hm5 : Mod (fun b => (Value.slice pa (framesB rs).length ca).ownBlock = some b) _ w5 := Mod.of_grown hg5
      have pl5 := stY.pl.row
      have pl5' := hm5.owns pl5 (fun b hb e => st.d1 b e hb)
      have HG5 : Hid ((w3.alloc (.cells #[.int .i64 0, .slice a3 (frameB xs).length c3] 27)).grownBy w5 (Value.slice pa (framesB rs).length ca).ownBlock) := hg5
      clear o5 pl5 hg5 stY V3
      go_wp2_with (at_builtin; refine wpList_pushAt w5 rfl _ _ rfl w.heap.size (.slice pl rs.length cl) rs.length cs pl5' (.slice p2 xs.length q2) _ _ _ rfl rfl rfl (by omega) (by omega) ?_)
      intro v7 w7 o7 hg7 hl7
      have st7 := st.push hbY z1 hr5 rfl HO5.out HG5.out (hl5.imp id (fun h => by rw [h]; simp)) o7 hg7 (hl7.imp id (fun h => by rw [h]; simp))
      obtain ⟨p7, q7, rfl⟩ := owns_form o7
      clear o7 hg7 hl7 hl5 hm5 pl5' hr5 ho23
      go_wp2
      refine ⟨⟨j + 1, rs ++ [xs], _, _, _, by go_num, by omega, by simp; omega, ?_, st7⟩, by simp [intOf]; omega⟩
      · intro r hr
        rw [List.mem_append] at hr
        rcases hr with hr | hr
        · exact hok r hr
        · simp only [List.mem_cons, List.not_mem_nil, or_false] at hr
          subst hr
          exact h5
    · have hj4 : ¬ (j : Int) < 4 := by omega
      have hlen : (framesB rs).length ≤ 2016 := by rw [framesB_len]; have := cumW_le rs hok rs.length; omega
      have hrl : rs.length ≤ 4 := by omega
      obtain ⟨hfr1, hfr2⟩ := rec_frames rs hok
      have HU : Hid (recsD (framesB rs) = ⟨0, (framesB rs).length, rs⟩) := by unfold Hid recsD; rw [if_pos (by omega), hfr1, hfr2]
      have hV := BytesV_of_owns oa
      have hL : bytessR.V wr (.slice pl rs.length cl) rs := bytessR.ofO (rowsB_O ⟨cs, us, fs, st.pl⟩).choose_spec
      obtain ⟨A, hA⟩ : ∃ A, framesB rs = A := ⟨_, rfl⟩
      have HAR : Hid (framesB rs = A) := hA
      rw [hA] at hV HU hlen ⊢
      have u1 : IntKind.i64.wrap (A.length : Int) = A.length := wrapI _ (by omega) (by omega)
      have u2 : IntKind.i64.wrap ((A.length : Int) + 1) = A.length + 1 := wrapI _ (by omega) (by omega)
      clear hfr1 hfr2 hA oa ol st hlt hj hrj
      go_wp2_with fail
      refine (lwAt_any _ d0 wr ((A.length : Int) + 1) (bytesR.below hX0 hbr) (by omega) (by omega) (by omega)).mono ?_
      rintro e w5 ⟨cut, rfl, hcut, hb5⟩
      have hcl : cut ≤ A.length := by omega
      replace hV := bytesR.below hV hb5
      replace hL := bytessR.below hL hb5
      have hB5 : Below w.heap.size w w5 := bstep hbr hb5
      clear hb5 hbr hX0 hcut u2
      go_wp2_with fail
      refine (implUnframe_u _ A w5 hV).mono ?_
      rintro e w6 ⟨v6, F6, rfl, ho6, hb6⟩
      rw [HU.out] at ho6
      obtain ⟨u6, eu6, rU⟩ := recsRR.ofO ho6
      subst eu6
      obtain ⟨p6, q6, rfl⟩ := bytess_form rU
      replace hV := bytesR.below hV hb6
      replace hL := bytessR.below hL hb6
      have hB6 : Below w.heap.size w w6 := bstep hB5 hb6
      have hcap : A.length ≤ ca := by
        obtain ⟨_, _, e, h, _⟩ := hV
        simp only [Value.slice.injEq, true_and] at e
        omega
      obtain ⟨a7, c7, run7, V7⟩ := cutH (a := pa) (n := A.length) (cap := ca) (cut : Int) (by omega) (by omega) hcap
      have ek : (cut : Int).toNat = cut := by omega
      have V8 : bytesR.V w6 (.slice a7 cut c7) (A.take cut) := by have h := V7 _ A rfl hV; rw [ek] at h; exact h
      rw [ek] at run7
      have HV : Hid (recsD (A.take cut) = ⟨0, recU (A.take cut), rs.take (cntf rs cut)⟩) := by
        unfold Hid recsD
        rw [if_pos (by rw [List.length_take]; omega), ← HAR.out, recL_cut rs cut hok]
      have hvu : recU (A.take cut) ≤ cut := by have := recU_le (A.take cut); rw [List.length_take] at this; omega
      have hMl := cntf_le rs cut
      have htk : (rs.take (cntf rs cut)).length = cntf rs cut := by rw [List.length_take]; omega
      have HCI : Hid (∀ i, i < rs.length → (cumW rs (i + 1) ≤ cut ↔ i < cntf rs cut)) := fun i hi => cnt_iff rs i cut hi
      have HTG : Hid (∀ i, i < cntf rs cut → (rs.take (cntf rs cut)).getD i default = rs.getD i default) := fun i hi => by simp [List.getD, hi]
      clear V7 ek ho6 hb6 hB5
      generalize recU (A.take cut) = vu at *
      generalize A.take cut = A2 at *
      go_wp2_with fail
      refine (implUnframe_u _ A2 _ (bytesR.below V8 (by (repeat (first | exact Below.refl _ _ | assumption | refine Below.drew ?_ | refine balloc ?_ _ | refine bset ?_ (by simp; omega) _ | refine bset ?_ (by simp) _ | refine bstep ?_ (by assumption)))))).mono ?_
      rintro e w7 ⟨v7, F7, rfl, ho7, hb7⟩
      rw [HV.out] at ho7
      obtain ⟨u7, eu7, rV⟩ := recsRR.ofO ho7
      subst eu7
      obtain ⟨p7, q7, rfl⟩ := bytess_form rV
      rw [htk] at rV
      have hW7 : Below w6.heap.size w6 w7 := bstep (by (repeat (first | exact Below.refl _ _ | assumption | refine Below.drew ?_ | refine balloc ?_ _ | refine bset ?_ (by simp; omega) _ | refine bset ?_ (by simp) _ | refine bstep ?_ (by assumption)))) hb7
      have s0 : w7.cell? ⟨w6.heap.size, 0, none⟩ = some (.int .i64 0) := cell_keep hb7 (by simp [go_sem])
      have s1 : w7.cell? ⟨w6.heap.size, 1, none⟩ = some (.int .i64 A.length) := cell_keep hb7 (by simp [go_sem])
      have s2 : w7.cell? ⟨w6.heap.size, 2, none⟩ = some (.slice p6 rs.length q6) := cell_keep hb7 (by simp [go_sem])
      have z7 := hb7.size
      simp only [World.size_alloc] at z7
      have y67 : w6.heap.size < w7.heap.size := by omega
      replace rU := bytessR.below rU hW7
      replace hL := bytessR.below hL hW7
      have hB7 : Below w.heap.size w w7 := bstep hB6 hW7
      rw [htk]
      clear ho7 hb7 hW7 hB6 V8 run7 hV
      have hM2 : ¬ (rs.length : Int) < ((cntf rs cut : Nat) : Int) := by omega
      have hvu2 : ¬ (cut : Int) < (vu : Int) := by omega
      generalize cntf rs cut = M at *
      have rU8 := bytessR.below (w' := w7.alloc (.cells #[.int .i64 0, .int .i64 (vu : Int), .slice p7 M q7] 31)) rU (by (repeat (first | exact Below.refl _ _ | assumption | refine Below.drew ?_ | refine balloc ?_ _ | refine bset ?_ (by simp; omega) _ | refine bset ?_ (by simp) _ | refine bstep ?_ (by assumption))))
      have rV8 := bytessR.below (w' := w7.alloc (.cells #[.int .i64 0, .int .i64 (vu : Int), .slice p7 M q7] 31)) rV (by (repeat (first | exact Below.refl _ _ | assumption | refine Below.drew ?_ | refine balloc ?_ _ | refine bset ?_ (by simp; omega) _ | refine bset ?_ (by simp) _ | refine bstep ?_ (by assumption))))
      have hL8 := bytessR.below (w' := w7.alloc (.cells #[.int .i64 0, .int .i64 (vu : Int), .slice p7 M q7] 31)) hL (by (repeat (first | exact Below.refl _ _ | assumption | refine Below.drew ?_ | refine balloc ?_ _ | refine bset ?_ (by simp; omega) _ | refine bset ?_ (by simp) _ | refine bstep ?_ (by assumption))))
      have t2 : (w7.alloc (.cells #[.int .i64 0, .int .i64 (vu : Int), .slice p7 M q7] 31)).cell? ⟨w6.heap.size, 2, none⟩ = some (.slice p6 rs.length q6) := cell_keep (by (repeat (first | exact Below.refl _ _ | assumption | refine Below.drew ?_ | refine balloc ?_ _ | refine bset ?_ (by simp; omega) _ | refine bset ?_ (by simp) _ | refine bstep ?_ (by assumption)))) s2
      have t3 : (w7.alloc (.cells #[.int .i64 0, .int .i64 (vu : Int), .slice p7 M q7] 31)).cell? ⟨w7.heap.size, 2, none⟩ = some (.slice p7 M q7) := by simp [go_sem]
      have hB8 : Below w.heap.size w (w7.alloc (.cells #[.int .i64 0, .int .i64 (vu : Int), .slice p7 M q7] 31)) := balloc hB7 _
      have HTK : Hid ((rs.take M).length = M) := htk
      have hW : ∀ i, cumW rs i ≤ 504 * i := cumW_le rs hok
      have HW : Hid (∀ i, cumW rs i ≤ 504 * i) := hW
      have hlenR : rs.length ≤ 4 := hrl
      have hdM : decide (rs.length < M) = false := decide_eq_false (by omega)
      have hdv : decide (cut < vu) = false := decide_eq_false (by omega)
      have hdM2 : decide ((rs.length : Int) < (M : Int)) = false := decide_eq_false (by omega)
      have hdv2 : decide ((cut : Int) < (vu : Int)) = false := decide_eq_false (by omega)
      clear hW rU rV hL htk hM2 hvu2
      go_wp2
      clear hdM hdv hdM2 hdv2
      generalize w7.alloc (.cells #[.int .i64 0, .int .i64 (vu : Int), .slice p7 M q7] 31) = w8 at *
      go_loopw [11, 12] (fun nn ii w' => ∃ i : Nat, nn = .int .i64 (cumW rs i : Nat) ∧ ii = .int .i64 i ∧ i ≤ rs.length ∧ Below w8.heap.size w8 w') (fun _ ii _ => rs.length - (intOf ii).toNat)
      case atStart => exact ⟨0, by rw [cumW_zero]; rfl, rfl, by omega, Below.refl _ _⟩
      case round =>
        obtain ⟨i, rfl, rfl, hi, hbr⟩ := hrel
        have f2 := cell_keep hbr t2
        have f3 := cell_keep hbr t3
        by_cases hlt : i < rs.length
        · have hil : (i : Int) < (rs.length : Int) := by omega
          obtain ⟨gU, oU, uU, cU, rfl, hcU, hvU⟩ := bytess_at (bytessR.below rU8 hbr) i hlt
          obtain ⟨gL, oL, uL, cL, rfl, hcL, hvL⟩ := bytess_at (bytessR.below hL8 hbr) i hlt
          have HCS : Hid (cumW rs (i + 1) = cumW rs i + (rs.getD i default).length + 4) := cumW_succ rs i hlt
          have hcw := HW.out i
          have hcw1 := HW.out (i + 1)
          have hci := HCI.out i hlt
          have HXE : Hid (rs.getD i default = rs.getD i default) := rfl
          rw [HCS.out] at hcw1 hci
          obtain ⟨cw, hcwe⟩ : ∃ cw, cumW rs i = cw := ⟨_, rfl⟩
          have HCW : Hid (cumW rs (i + 1) = cw + (rs.getD i default).length + 4) := by unfold Hid; rw [HCS.out, hcwe]
          rw [hcwe] at hcw hcw1 hci ⊢
          clear hcwe HCS HXE
          have hVX : i < M → ∃ gV oV uV cV, p7 = some ⟨gV, oV, none⟩ ∧ wr.cell? ⟨gV, oV + i, none⟩ = some (.slice uV (rs.getD i default).length cV) ∧ bytesR.V wr (.slice uV (rs.getD i default).length cV) (rs.getD i default) := fun hM => by
            obtain ⟨gV, oV, uV, cV, e1, e2, e3⟩ := bytess_at (bytessR.below rV8 hbr) i (by rw [HTK.out]; exact hM)
            rw [HTG.out i hM] at e2 e3
            exact ⟨gV, oV, uV, cV, e1, e2, e3⟩
          have HVX : Hid (i < M → ∃ gV oV uV cV, p7 = some ⟨gV, oV, none⟩ ∧ wr.cell? ⟨gV, oV + i, none⟩ = some (.slice uV (rs.getD i default).length cV) ∧ bytesR.V wr (.slice uV (rs.getD i default).length cV) (rs.getD i default)) := hVX
          clear hVX
          obtain ⟨X, hX⟩ : ∃ X, rs.getD i default = X := ⟨_, rfl⟩
          rw [hX] at hcU hvU hcL hvL HCW HVX hci hcw1
          clear hX
          have hcv1 : ∀ W : World, Below wr.heap.size wr W → (convert 22 9 (.slice uU X.length cU)).run Try.prog W = .ok (.string (bstr X)) W := fun W hW => conv_bytes (BytesV_below hvU hW)
          have hcv2 : ∀ W : World, Below wr.heap.size wr W → (convert 22 9 (.slice uL X.length cL)).run Try.prog W = .ok (.string (bstr X)) W := fun W hW => conv_bytes (BytesV_below hvL hW)
          have y1 : IntKind.i64.wrap ((i : Int) + 1) = (i : Int) + 1 := wrapI _ (by omega) (by omega)
          have y2 : IntKind.i64.wrap ((cw : Int) + X.length) = (cw : Int) + X.length := wrapI _ (by omega) (by omega)
          have y3 : IntKind.i64.wrap ((cw : Int) + X.length + 4) = (cw : Int) + X.length + 4 := wrapI _ (by omega) (by omega)
          have y4 : IntKind.i64.wrap (X.length : Int) = X.length := wrapI _ (by omega) (by omega)
          by_cases hM : i < M
          · obtain ⟨gV, oV, uV, cV, rfl, hcV, hvV⟩ := HVX.out hM
            have hcv3 : ∀ W : World, Below wr.heap.size wr W → (convert 22 9 (.slice uV X.length cV)).run Try.prog W = .ok (.string (bstr X)) W := fun W hW => conv_bytes (BytesV_below hvV hW)
            have hiM : (i : Int) < (M : Int) := by omega
            have hle : (cw : Int) + X.length + 4 ≤ (cut : Int) := by omega
            go_wp2
            refine wp_region_noPanic ?_
            refine region_upto (fun w' => Below wr.heap.size wr w' ∧ w'.cell? ⟨w6.heap.size, 2, none⟩ = some (.slice (some ⟨gU, oU, none⟩) rs.length q6) ∧ w'.cell? ⟨gU, oU + i, none⟩ = some (.slice uU X.length cU) ∧ w'.cell? ⟨gL, oL + i, none⟩ = some (.slice uL X.length cL) ∧ w'.cell? ⟨w7.heap.size, 2, none⟩ = some (.slice (some ⟨gV, oV, none⟩) M q7) ∧ w'.cell? ⟨gV, oV + i, none⟩ = some (.slice uV X.length cV)) 33 (by kernel_rfl) ⟨by (repeat (first | exact Below.refl _ _ | assumption | refine Below.drew ?_ | refine balloc ?_ _ | refine bset ?_ (by simp; omega) _ | refine bset ?_ (by simp) _ | refine bstep ?_ (by assumption))), cell_keep (by (repeat (first | exact Below.refl _ _ | assumption | refine Below.drew ?_ | refine balloc ?_ _ | refine bset ?_ (by simp; omega) _ | refine bset ?_ (by simp) _ | refine bstep ?_ (by assumption)))) f2, cell_keep (by (repeat (first | exact Below.refl _ _ | assumption | refine Below.drew ?_ | refine balloc ?_ _ | refine bset ?_ (by simp; omega) _ | refine bset ?_ (by simp) _ | refine bstep ?_ (by assumption)))) hcU, cell_keep (by (repeat (first | exact Below.refl _ _ | assumption | refine Below.drew ?_ | refine balloc ?_ _ | refine bset ?_ (by simp; omega) _ | refine bset ?_ (by simp) _ | refine bstep ?_ (by assumption)))) hcL, cell_keep (by (repeat (first | exact Below.refl _ _ | assumption | refine Below.drew ?_ | refine balloc ?_ _ | refine bset ?_ (by simp; omega) _ | refine bset ?_ (by simp) _ | refine bstep ?_ (by assumption)))) f3, cell_keep (by (repeat (first | exact Below.refl _ _ | assumption | refine Below.drew ?_ | refine balloc ?_ _ | refine bset ?_ (by simp; omega) _ | refine bset ?_ (by simp) _ | refine bstep ?_ (by assumption)))) hcV⟩ (fun hS => ?_)
            refine upto_takeN (i := 0) (v := ?_) rfl (by kernel_rfl) (by kernel_rfl) (by kernel_rfl) (by kernel_rfl) (fun _ _ _ h => h) (by rfl) hS ?_ ?_
            rotate_left
            · intro wS hSw
              try dsimp only at hSw
              first | (go_simp; done) | (go_simp; with_reducible rfl)
            try simp only [Act.put, List.getElem_toArray, List.getElem_cons_zero, List.getElem_cons_succ, List.setIfInBounds_toArray, List.set_cons_zero, List.set_cons_succ]
            refine upto_takeN (i := 1) (v := ?_) rfl (by kernel_rfl) (by kernel_rfl) (by kernel_rfl) (by kernel_rfl) (fun _ _ _ h => h) (by rfl) hS ?_ ?_
            rotate_left
            · intro wS hSw
              try dsimp only at hSw
              first | (go_simp; done) | (go_simp; with_reducible rfl)
            try simp only [Act.put, List.getElem_toArray, List.getElem_cons_zero, List.getElem_cons_succ, List.setIfInBounds_toArray, List.set_cons_zero, List.set_cons_succ]
            refine upto_takeN (i := 2) (v := ?_) rfl (by kernel_rfl) (by kernel_rfl) (by kernel_rfl) (by kernel_rfl) (fun _ _ _ h => h) (by rfl) hS ?_ ?_
            rotate_left
            · intro wS hSw
              try dsimp only at hSw
              first | (go_simp; done) | (go_simp; with_reducible rfl)
            try simp only [Act.put, List.getElem_toArray, List.getElem_cons_zero, List.getElem_cons_succ, List.setIfInBounds_toArray, List.set_cons_zero, List.set_cons_succ]
            refine upto_takeN (i := 3) (v := ?_) rfl (by kernel_rfl) (by kernel_rfl) (by kernel_rfl) (by kernel_rfl) (fun _ _ _ h => h) (by rfl) hS ?_ ?_
            rotate_left
            · intro wS hSw
              try dsimp only at hSw
              first | (go_simp; done) | (go_simp; with_reducible rfl)
            try simp only [Act.put, List.getElem_toArray, List.getElem_cons_zero, List.getElem_cons_succ, List.setIfInBounds_toArray, List.set_cons_zero, List.set_cons_succ]
            refine upto_takeN (i := 4) (v := ?_) rfl (by kernel_rfl) (by kernel_rfl) (by kernel_rfl) (by kernel_rfl) (fun _ _ _ h => h) (by rfl) hS ?_ ?_
            rotate_left
            · intro wS hSw
              try dsimp only at hSw
              first | (go_simp; done) | (go_simp; with_reducible rfl)
            try simp only [Act.put, List.getElem_toArray, List.getElem_cons_zero, List.getElem_cons_succ, List.setIfInBounds_toArray, List.set_cons_zero, List.set_cons_succ]
            refine upto_takeN (i := 5) (v := (.string (bstr X))) rfl (by kernel_rfl) (by kernel_rfl) (by kernel_rfl) (by kernel_rfl) (fun _ _ _ h => h) (by rfl) hS ?_ ?_
            · intro wS hSw
              try dsimp only at hSw
              have qc1 := hcv1 wS hSw.1
              have qc2 := hcv2 wS hSw.1
              have qc3 := hcv3 wS hSw.1
              go_simp
            try simp only [Act.put, List.getElem_toArray, List.getElem_cons_zero, List.getElem_cons_succ, List.setIfInBounds_toArray, List.set_cons_zero, List.set_cons_succ]
            refine upto_takeN (i := 6) (v := ?_) rfl (by kernel_rfl) (by kernel_rfl) (by kernel_rfl) (by kernel_rfl) (fun _ _ _ h => h) (by rfl) hS ?_ ?_
            rotate_left
            · intro wS hSw
              try dsimp only at hSw
              first | (go_simp; done) | (go_simp; with_reducible rfl)
            try simp only [Act.put, List.getElem_toArray, List.getElem_cons_zero, List.getElem_cons_succ, List.setIfInBounds_toArray, List.set_cons_zero, List.set_cons_succ]
            refine upto_takeN (i := 7) (v := ?_) rfl (by kernel_rfl) (by kernel_rfl) (by kernel_rfl) (by kernel_rfl) (fun _ _ _ h => h) (by rfl) hS ?_ ?_
            rotate_left
            · intro wS hSw
              try dsimp only at hSw
              first | (go_simp; done) | (go_simp; with_reducible rfl)
            try simp only [Act.put, List.getElem_toArray, List.getElem_cons_zero, List.getElem_cons_succ, List.setIfInBounds_toArray, List.set_cons_zero, List.set_cons_succ]
            refine upto_takeN (i := 8) (v := ?_) rfl (by kernel_rfl) (by kernel_rfl) (by kernel_rfl) (by kernel_rfl) (fun _ _ _ h => h) (by rfl) hS ?_ ?_
            rotate_left
            · intro wS hSw
              try dsimp only at hSw
              first | (go_simp; done) | (go_simp; with_reducible rfl)
            try simp only [Act.put, List.getElem_toArray, List.getElem_cons_zero, List.getElem_cons_succ, List.setIfInBounds_toArray, List.set_cons_zero, List.set_cons_succ]
            refine upto_takeN (i := 9) (v := ?_) rfl (by kernel_rfl) (by kernel_rfl) (by kernel_rfl) (by kernel_rfl) (fun _ _ _ h => h) (by rfl) hS ?_ ?_
            rotate_left
            · intro wS hSw
              try dsimp only at hSw
              first | (go_simp; done) | (go_simp; with_reducible rfl)
            try simp only [Act.put, List.getElem_toArray, List.getElem_cons_zero, List.getElem_cons_succ, List.setIfInBounds_toArray, List.set_cons_zero, List.set_cons_succ]
            refine upto_takeN (i := 10) (v := (.string (bstr X))) rfl (by kernel_rfl) (by kernel_rfl) (by kernel_rfl) (by kernel_rfl) (fun _ _ _ h => h) (by rfl) hS ?_ ?_
            · intro wS hSw
              try dsimp only at hSw
              have qc1 := hcv1 wS hSw.1
              have qc2 := hcv2 wS hSw.1
              have qc3 := hcv3 wS hSw.1
              go_simp
            try simp only [Act.put, List.getElem_toArray, List.getElem_cons_zero, List.getElem_cons_succ, List.setIfInBounds_toArray, List.set_cons_zero, List.set_cons_succ]
            refine upto_takeN (i := 11) (v := (.bool false)) rfl (by kernel_rfl) (by kernel_rfl) (by kernel_rfl) (by kernel_rfl) (fun _ _ _ h => h) (by rfl) hS ?_ ?_
            · intro wS hSw
              try dsimp only at hSw
              go_simp
            try simp only [Act.put, List.getElem_toArray, List.getElem_cons_zero, List.getElem_cons_succ, List.setIfInBounds_toArray, List.set_cons_zero, List.set_cons_succ]
            refine upto_takeN (i := 12) (v := (.bool false)) rfl (by kernel_rfl) (by kernel_rfl) (by kernel_rfl) (by kernel_rfl) (fun _ _ _ h => h) (by rfl) hS ?_ ?_
            · intro wS hSw
              try dsimp only at hSw
              go_simp
            try simp only [Act.put, List.getElem_toArray, List.getElem_cons_zero, List.getElem_cons_succ, List.setIfInBounds_toArray, List.set_cons_zero, List.set_cons_succ]
            refine upto_takeN (i := 13) (v := ?_) rfl (by kernel_rfl) (by kernel_rfl) (by kernel_rfl) (by kernel_rfl) (fun _ _ _ h => h) (by rfl) hS ?_ ?_
            rotate_left
            · intro wS hSw
              try dsimp only at hSw
              first | (go_simp; done) | (go_simp; with_reducible rfl)
            try simp only [Act.put, List.getElem_toArray, List.getElem_cons_zero, List.getElem_cons_succ, List.setIfInBounds_toArray, List.set_cons_zero, List.set_cons_succ]
            refine upto_takeN (i := 14) (v := ?_) rfl (by kernel_rfl) (by kernel_rfl) (by kernel_rfl) (by kernel_rfl) (fun _ _ _ h => h) (by rfl) hS ?_ ?_
            rotate_left
            · intro wS hSw
              try dsimp only at hSw
              first | (go_simp; done) | (go_simp; with_reducible rfl)
            try simp only [Act.put, List.getElem_toArray, List.getElem_cons_zero, List.getElem_cons_succ, List.setIfInBounds_toArray, List.set_cons_zero, List.set_cons_succ]
            refine upto_takeN (i := 15) (v := ?_) rfl (by kernel_rfl) (by kernel_rfl) (by kernel_rfl) (by kernel_rfl) (fun _ _ _ h => h) (by rfl) hS ?_ ?_
            rotate_left
            · intro wS hSw
              try dsimp only at hSw
              first | (go_simp; done) | (go_simp; with_reducible rfl)
            try simp only [Act.put, List.getElem_toArray, List.getElem_cons_zero, List.getElem_cons_succ, List.setIfInBounds_toArray, List.set_cons_zero, List.set_cons_succ]
            refine upto_takeN (i := 16) (v := ?_) rfl (by kernel_rfl) (by kernel_rfl) (by kernel_rfl) (by kernel_rfl) (fun _ _ _ h => h) (by rfl) hS ?_ ?_
            rotate_left
            · intro wS hSw
              try dsimp only at hSw
              first | (go_simp; done) | (go_simp; with_reducible rfl)
            try simp only [Act.put, List.getElem_toArray, List.getElem_cons_zero, List.getElem_cons_succ, List.setIfInBounds_toArray, List.set_cons_zero, List.set_cons_succ]
            refine upto_takeN (i := 17) (v := (.bool true)) rfl (by kernel_rfl) (by kernel_rfl) (by kernel_rfl) (by kernel_rfl) (fun _ _ _ h => h) (by rfl) hS ?_ ?_
            · intro wS hSw
              try dsimp only at hSw
              go_simp
            try simp only [Act.put, List.getElem_toArray, List.getElem_cons_zero, List.getElem_cons_succ, List.setIfInBounds_toArray, List.set_cons_zero, List.set_cons_succ]
            refine upto_takeN (i := 18) (v := (.bool true)) rfl (by kernel_rfl) (by kernel_rfl) (by kernel_rfl) (by kernel_rfl) (fun _ _ _ h => h) (by rfl) hS ?_ ?_
            · intro wS hSw
              try dsimp only at hSw
              go_simp
            try simp only [Act.put, List.getElem_toArray, List.getElem_cons_zero, List.getElem_cons_succ, List.setIfInBounds_toArray, List.set_cons_zero, List.set_cons_succ]
            refine upto_takeN (i := 19) (v := ?_) rfl (by kernel_rfl) (by kernel_rfl) (by kernel_rfl) (by kernel_rfl) (fun _ _ _ h => h) (by rfl) hS ?_ ?_
            rotate_left
            · intro wS hSw
              try dsimp only at hSw
              first | (go_simp; done) | (go_simp; with_reducible rfl)
            try simp only [Act.put, List.getElem_toArray, List.getElem_cons_zero, List.getElem_cons_succ, List.setIfInBounds_toArray, List.set_cons_zero, List.set_cons_succ]
            refine upto_takeN (i := 20) (v := ?_) rfl (by kernel_rfl) (by kernel_rfl) (by kernel_rfl) (by kernel_rfl) (fun _ _ _ h => h) (by rfl) hS ?_ ?_
            rotate_left
            · intro wS hSw
              try dsimp only at hSw
              first | (go_simp; done) | (go_simp; with_reducible rfl)
            try simp only [Act.put, List.getElem_toArray, List.getElem_cons_zero, List.getElem_cons_succ, List.setIfInBounds_toArray, List.set_cons_zero, List.set_cons_succ]
            refine upto_takeN (i := 21) (v := ?_) rfl (by kernel_rfl) (by kernel_rfl) (by kernel_rfl) (by kernel_rfl) (fun _ _ _ h => h) (by rfl) hS ?_ ?_
            rotate_left
            · intro wS hSw
              try dsimp only at hSw
              first | (go_simp; done) | (go_simp; with_reducible rfl)
            try simp only [Act.put, List.getElem_toArray, List.getElem_cons_zero, List.getElem_cons_succ, List.setIfInBounds_toArray, List.set_cons_zero, List.set_cons_succ]
            refine upto_takeN (i := 22) (v := ?_) rfl (by kernel_rfl) (by kernel_rfl) (by kernel_rfl) (by kernel_rfl) (fun _ _ _ h => h) (by rfl) hS ?_ ?_
            rotate_left
            · intro wS hSw
              try dsimp only at hSw
              first | (go_simp; done) | (go_simp; with_reducible rfl)
            try simp only [Act.put, List.getElem_toArray, List.getElem_cons_zero, List.getElem_cons_succ, List.setIfInBounds_toArray, List.set_cons_zero, List.set_cons_succ]
            refine upto_takeN (i := 23) (v := ?_) rfl (by kernel_rfl) (by kernel_rfl) (by kernel_rfl) (by kernel_rfl) (fun _ _ _ h => h) (by rfl) hS ?_ ?_
            rotate_left
            · intro wS hSw
              try dsimp only at hSw
              first | (go_simp; done) | (go_simp; with_reducible rfl)
            try simp only [Act.put, List.getElem_toArray, List.getElem_cons_zero, List.getElem_cons_succ, List.setIfInBounds_toArray, List.set_cons_zero, List.set_cons_succ]
            refine upto_takeN (i := 24) (v := (.string (bstr X))) rfl (by kernel_rfl) (by kernel_rfl) (by kernel_rfl) (by kernel_rfl) (fun _ _ _ h => h) (by rfl) hS ?_ ?_
            · intro wS hSw
              try dsimp only at hSw
              have qc1 := hcv1 wS hSw.1
              have qc2 := hcv2 wS hSw.1
              have qc3 := hcv3 wS hSw.1
              go_simp
            try simp only [Act.put, List.getElem_toArray, List.getElem_cons_zero, List.getElem_cons_succ, List.setIfInBounds_toArray, List.set_cons_zero, List.set_cons_succ]
            refine upto_takeN (i := 25) (v := ?_) rfl (by kernel_rfl) (by kernel_rfl) (by kernel_rfl) (by kernel_rfl) (fun _ _ _ h => h) (by rfl) hS ?_ ?_
            rotate_left
            · intro wS hSw
              try dsimp only at hSw
              first | (go_simp; done) | (go_simp; with_reducible rfl)
            try simp only [Act.put, List.getElem_toArray, List.getElem_cons_zero, List.getElem_cons_succ, List.setIfInBounds_toArray, List.set_cons_zero, List.set_cons_succ]
            refine upto_takeN (i := 26) (v := ?_) rfl (by kernel_rfl) (by kernel_rfl) (by kernel_rfl) (by kernel_rfl) (fun _ _ _ h => h) (by rfl) hS ?_ ?_
            rotate_left
            · intro wS hSw
              try dsimp only at hSw
              first | (go_simp; done) | (go_simp; with_reducible rfl)
            try simp only [Act.put, List.getElem_toArray, List.getElem_cons_zero, List.getElem_cons_succ, List.setIfInBounds_toArray, List.set_cons_zero, List.set_cons_succ]
            refine upto_takeN (i := 27) (v := ?_) rfl (by kernel_rfl) (by kernel_rfl) (by kernel_rfl) (by kernel_rfl) (fun _ _ _ h => h) (by rfl) hS ?_ ?_
            rotate_left
            · intro wS hSw
              try dsimp only at hSw
              first | (go_simp; done) | (go_simp; with_reducible rfl)
            try simp only [Act.put, List.getElem_toArray, List.getElem_cons_zero, List.getElem_cons_succ, List.setIfInBounds_toArray, List.set_cons_zero, List.set_cons_succ]
            refine upto_takeN (i := 28) (v := ?_) rfl (by kernel_rfl) (by kernel_rfl) (by kernel_rfl) (by kernel_rfl) (fun _ _ _ h => h) (by rfl) hS ?_ ?_
            rotate_left
            · intro wS hSw
              try dsimp only at hSw
              first | (go_simp; done) | (go_simp; with_reducible rfl)
            try simp only [Act.put, List.getElem_toArray, List.getElem_cons_zero, List.getElem_cons_succ, List.setIfInBounds_toArray, List.set_cons_zero, List.set_cons_succ]
            refine upto_takeN (i := 29) (v := (.string (bstr X))) rfl (by kernel_rfl) (by kernel_rfl) (by kernel_rfl) (by kernel_rfl) (fun _ _ _ h => h) (by rfl) hS ?_ ?_
            · intro wS hSw
              try dsimp only at hSw
              have qc1 := hcv1 wS hSw.1
              have qc2 := hcv2 wS hSw.1
              have qc3 := hcv3 wS hSw.1
              go_simp
            try simp only [Act.put, List.getElem_toArray, List.getElem_cons_zero, List.getElem_cons_succ, List.setIfInBounds_toArray, List.set_cons_zero, List.set_cons_succ]
            refine upto_takeN (i := 30) (v := (.bool false)) rfl (by kernel_rfl) (by kernel_rfl) (by kernel_rfl) (by kernel_rfl) (fun _ _ _ h => h) (by rfl) hS ?_ ?_
            · intro wS hSw
              try dsimp only at hSw
              go_simp
            try simp only [Act.put, List.getElem_toArray, List.getElem_cons_zero, List.getElem_cons_succ, List.setIfInBounds_toArray, List.set_cons_zero, List.set_cons_succ]
            refine upto_takeN (i := 31) (v := (.bool false)) rfl (by kernel_rfl) (by kernel_rfl) (by kernel_rfl) (by kernel_rfl) (fun _ _ _ h => h) (by rfl) hS ?_ ?_
            · intro wS hSw
              try dsimp only at hSw
              go_simp
            try simp only [Act.put, List.getElem_toArray, List.getElem_cons_zero, List.getElem_cons_succ, List.setIfInBounds_toArray, List.set_cons_zero, List.set_cons_succ]
            refine upto_takeN (i := 32) (v := (.bool false)) rfl (by kernel_rfl) (by kernel_rfl) (by kernel_rfl) (by kernel_rfl) (fun _ _ _ h => h) (by rfl) hS ?_ ?_
            · intro wS hSw
              try dsimp only at hSw
              go_simp
            try simp only [Act.put, List.getElem_toArray, List.getElem_cons_zero, List.getElem_cons_succ, List.setIfInBounds_toArray, List.set_cons_zero, List.set_cons_succ]
            refine upto_done (by kernel_rfl) ?_
            refine NoPanic.normal ?_
            have hbr2 : Below w8.heap.size w8 wr.drew := Below.drew hbr
            have fL : wr.drew.cell? ⟨gL, oL + i, none⟩ = some (.slice uL X.length cL) := cell_keep (Below.drew (Below.refl _ _)) hcL
            have f4 : wr.drew.cell? ⟨w7.heap.size, 2, none⟩ = some (.slice (some ⟨gV, oV, none⟩) M q7) := cell_keep (Below.drew (Below.refl _ _)) f3
            clear hS hcv1 hcv2 hvU hvL hcv3 hvV
            go_wp2
            exact ⟨⟨i + 1, by rw [HCW.out]; go_num, by go_num, by omega, hbr2⟩, by simp [intOf]; omega⟩
          · have hiM : ¬ (i : Int) < (M : Int) := by omega
            have hle : ¬ (cw : Int) + X.length + 4 ≤ (cut : Int) := by omega
            go_wp2
            refine wp_region_noPanic ?_
            refine region_upto (fun w' => Below wr.heap.size wr w' ∧ w'.cell? ⟨w6.heap.size, 2, none⟩ = some (.slice (some ⟨gU, oU, none⟩) rs.length q6) ∧ w'.cell? ⟨gU, oU + i, none⟩ = some (.slice uU X.length cU) ∧ w'.cell? ⟨gL, oL + i, none⟩ = some (.slice uL X.length cL) ∧ w'.cell? ⟨w7.heap.size, 2, none⟩ = some (.slice p7 M q7)) 33 (by kernel_rfl) ⟨by (repeat (first | exact Below.refl _ _ | assumption | refine Below.drew ?_ | refine balloc ?_ _ | refine bset ?_ (by simp; omega) _ | refine bset ?_ (by simp) _ | refine bstep ?_ (by assumption))), cell_keep (by (repeat (first | exact Below.refl _ _ | assumption | refine Below.drew ?_ | refine balloc ?_ _ | refine bset ?_ (by simp; omega) _ | refine bset ?_ (by simp) _ | refine bstep ?_ (by assumption)))) f2, cell_keep (by (repeat (first | exact Below.refl _ _ | assumption | refine Below.drew ?_ | refine balloc ?_ _ | refine bset ?_ (by simp; omega) _ | refine bset ?_ (by simp) _ | refine bstep ?_ (by assumption)))) hcU, cell_keep (by (repeat (first | exact Below.refl _ _ | assumption | refine Below.drew ?_ | refine balloc ?_ _ | refine bset ?_ (by simp; omega) _ | refine bset ?_ (by simp) _ | refine bstep ?_ (by assumption)))) hcL, cell_keep (by (repeat (first | exact Below.refl _ _ | assumption | refine Below.drew ?_ | refine balloc ?_ _ | refine bset ?_ (by simp; omega) _ | refine bset ?_ (by simp) _ | refine bstep ?_ (by assumption)))) f3⟩ (fun hS => ?_)
            refine upto_takeN (i := 0) (v := ?_) rfl (by kernel_rfl) (by kernel_rfl) (by kernel_rfl) (by kernel_rfl) (fun _ _ _ h => h) (by rfl) hS ?_ ?_
            rotate_left
            · intro wS hSw
              try dsimp only at hSw
              first | (go_simp; done) | (go_simp; with_reducible rfl)
            try simp only [Act.put, List.getElem_toArray, List.getElem_cons_zero, List.getElem_cons_succ, List.setIfInBounds_toArray, List.set_cons_zero, List.set_cons_succ]
            refine upto_takeN (i := 1) (v := ?_) rfl (by kernel_rfl) (by kernel_rfl) (by kernel_rfl) (by kernel_rfl) (fun _ _ _ h => h) (by rfl) hS ?_ ?_
            rotate_left
            · intro wS hSw
              try dsimp only at hSw
              first | (go_simp; done) | (go_simp; with_reducible rfl)
            try simp only [Act.put, List.getElem_toArray, List.getElem_cons_zero, List.getElem_cons_succ, List.setIfInBounds_toArray, List.set_cons_zero, List.set_cons_succ]
            refine upto_takeN (i := 2) (v := ?_) rfl (by kernel_rfl) (by kernel_rfl) (by kernel_rfl) (by kernel_rfl) (fun _ _ _ h => h) (by rfl) hS ?_ ?_
            rotate_left
            · intro wS hSw
              try dsimp only at hSw
              first | (go_simp; done) | (go_simp; with_reducible rfl)
            try simp only [Act.put, List.getElem_toArray, List.getElem_cons_zero, List.getElem_cons_succ, List.setIfInBounds_toArray, List.set_cons_zero, List.set_cons_succ]
            refine upto_takeN (i := 3) (v := ?_) rfl (by kernel_rfl) (by kernel_rfl) (by kernel_rfl) (by kernel_rfl) (fun _ _ _ h => h) (by rfl) hS ?_ ?_
            rotate_left
            · intro wS hSw
              try dsimp only at hSw
              first | (go_simp; done) | (go_simp; with_reducible rfl)
            try simp only [Act.put, List.getElem_toArray, List.getElem_cons_zero, List.getElem_cons_succ, List.setIfInBounds_toArray, List.set_cons_zero, List.set_cons_succ]
            refine upto_takeN (i := 4) (v := ?_) rfl (by kernel_rfl) (by kernel_rfl) (by kernel_rfl) (by kernel_rfl) (fun _ _ _ h => h) (by rfl) hS ?_ ?_
            rotate_left
            · intro wS hSw
              try dsimp only at hSw
              first | (go_simp; done) | (go_simp; with_reducible rfl)
            try simp only [Act.put, List.getElem_toArray, List.getElem_cons_zero, List.getElem_cons_succ, List.setIfInBounds_toArray, List.set_cons_zero, List.set_cons_succ]
            refine upto_takeN (i := 5) (v := (.string (bstr X))) rfl (by kernel_rfl) (by kernel_rfl) (by kernel_rfl) (by kernel_rfl) (fun _ _ _ h => h) (by rfl) hS ?_ ?_
            · intro wS hSw
              try dsimp only at hSw
              have qc1 := hcv1 wS hSw.1
              have qc2 := hcv2 wS hSw.1
              go_simp
            try simp only [Act.put, List.getElem_toArray, List.getElem_cons_zero, List.getElem_cons_succ, List.setIfInBounds_toArray, List.set_cons_zero, List.set_cons_succ]
            refine upto_takeN (i := 6) (v := ?_) rfl (by kernel_rfl) (by kernel_rfl) (by kernel_rfl) (by kernel_rfl) (fun _ _ _ h => h) (by rfl) hS ?_ ?_
            rotate_left
            · intro wS hSw
              try dsimp only at hSw
              first | (go_simp; done) | (go_simp; with_reducible rfl)
            try simp only [Act.put, List.getElem_toArray, List.getElem_cons_zero, List.getElem_cons_succ, List.setIfInBounds_toArray, List.set_cons_zero, List.set_cons_succ]
            refine upto_takeN (i := 7) (v := ?_) rfl (by kernel_rfl) (by kernel_rfl) (by kernel_rfl) (by kernel_rfl) (fun _ _ _ h => h) (by rfl) hS ?_ ?_
            rotate_left
            · intro wS hSw
              try dsimp only at hSw
              first | (go_simp; done) | (go_simp; with_reducible rfl)
            try simp only [Act.put, List.getElem_toArray, List.getElem_cons_zero, List.getElem_cons_succ, List.setIfInBounds_toArray, List.set_cons_zero, List.set_cons_succ]
            refine upto_takeN (i := 8) (v := ?_) rfl (by kernel_rfl) (by kernel_rfl) (by kernel_rfl) (by kernel_rfl) (fun _ _ _ h => h) (by rfl) hS ?_ ?_
            rotate_left
            · intro wS hSw
              try dsimp only at hSw
              first | (go_simp; done) | (go_simp; with_reducible rfl)
            try simp only [Act.put, List.getElem_toArray, List.getElem_cons_zero, List.getElem_cons_succ, List.setIfInBounds_toArray, List.set_cons_zero, List.set_cons_succ]
            refine upto_takeN (i := 9) (v := ?_) rfl (by kernel_rfl) (by kernel_rfl) (by kernel_rfl) (by kernel_rfl) (fun _ _ _ h => h) (by rfl) hS ?_ ?_
            rotate_left
            · intro wS hSw
              try dsimp only at hSw
              first | (go_simp; done) | (go_simp; with_reducible rfl)
            try simp only [Act.put, List.getElem_toArray, List.getElem_cons_zero, List.getElem_cons_succ, List.setIfInBounds_toArray, List.set_cons_zero, List.set_cons_succ]
            refine upto_takeN (i := 10) (v := (.string (bstr X))) rfl (by kernel_rfl) (by kernel_rfl) (by kernel_rfl) (by kernel_rfl) (fun _ _ _ h => h) (by rfl) hS ?_ ?_
            · intro wS hSw
              try dsimp only at hSw
              have qc1 := hcv1 wS hSw.1
              have qc2 := hcv2 wS hSw.1
              go_simp
            try simp only [Act.put, List.getElem_toArray, List.getElem_cons_zero, List.getElem_cons_succ, List.setIfInBounds_toArray, List.set_cons_zero, List.set_cons_succ]
            refine upto_takeN (i := 11) (v := (.bool false)) rfl (by kernel_rfl) (by kernel_rfl) (by kernel_rfl) (by kernel_rfl) (fun _ _ _ h => h) (by rfl) hS ?_ ?_
            · intro wS hSw
              try dsimp only at hSw
              go_simp
            try simp only [Act.put, List.getElem_toArray, List.getElem_cons_zero, List.getElem_cons_succ, List.setIfInBounds_toArray, List.set_cons_zero, List.set_cons_succ]
            refine upto_takeN (i := 12) (v := (.bool false)) rfl (by kernel_rfl) (by kernel_rfl) (by kernel_rfl) (by kernel_rfl) (fun _ _ _ h => h) (by rfl) hS ?_ ?_
            · intro wS hSw
              try dsimp only at hSw
              go_simp
            try simp only [Act.put, List.getElem_toArray, List.getElem_cons_zero, List.getElem_cons_succ, List.setIfInBounds_toArray, List.set_cons_zero, List.set_cons_succ]
            refine upto_takeN (i := 13) (v := ?_) rfl (by kernel_rfl) (by kernel_rfl) (by kernel_rfl) (by kernel_rfl) (fun _ _ _ h => h) (by rfl) hS ?_ ?_
            rotate_left
            · intro wS hSw
              try dsimp only at hSw
              first | (go_simp; done) | (go_simp; with_reducible rfl)
            try simp only [Act.put, List.getElem_toArray, List.getElem_cons_zero, List.getElem_cons_succ, List.setIfInBounds_toArray, List.set_cons_zero, List.set_cons_succ]
            refine upto_takeN (i := 14) (v := ?_) rfl (by kernel_rfl) (by kernel_rfl) (by kernel_rfl) (by kernel_rfl) (fun _ _ _ h => h) (by rfl) hS ?_ ?_
            rotate_left
            · intro wS hSw
              try dsimp only at hSw
              first | (go_simp; done) | (go_simp; with_reducible rfl)
            try simp only [Act.put, List.getElem_toArray, List.getElem_cons_zero, List.getElem_cons_succ, List.setIfInBounds_toArray, List.set_cons_zero, List.set_cons_succ]
            refine upto_takeN (i := 15) (v := ?_) rfl (by kernel_rfl) (by kernel_rfl) (by kernel_rfl) (by kernel_rfl) (fun _ _ _ h => h) (by rfl) hS ?_ ?_
            rotate_left
            · intro wS hSw
              try dsimp only at hSw
              first | (go_simp; done) | (go_simp; with_reducible rfl)
            try simp only [Act.put, List.getElem_toArray, List.getElem_cons_zero, List.getElem_cons_succ, List.setIfInBounds_toArray, List.set_cons_zero, List.set_cons_succ]
            refine upto_takeN (i := 16) (v := ?_) rfl (by kernel_rfl) (by kernel_rfl) (by kernel_rfl) (by kernel_rfl) (fun _ _ _ h => h) (by rfl) hS ?_ ?_
            rotate_left
            · intro wS hSw
              try dsimp only at hSw
              first | (go_simp; done) | (go_simp; with_reducible rfl)
            try simp only [Act.put, List.getElem_toArray, List.getElem_cons_zero, List.getElem_cons_succ, List.setIfInBounds_toArray, List.set_cons_zero, List.set_cons_succ]
            refine upto_takeN (i := 17) (v := (.bool false)) rfl (by kernel_rfl) (by kernel_rfl) (by kernel_rfl) (by kernel_rfl) (fun _ _ _ h => h) (by rfl) hS ?_ ?_
            · intro wS hSw
              try dsimp only at hSw
              go_simp
            try simp only [Act.put, List.getElem_toArray, List.getElem_cons_zero, List.getElem_cons_succ, List.setIfInBounds_toArray, List.set_cons_zero, List.set_cons_succ]
            refine upto_takeN (i := 18) (v := (.bool false)) rfl (by kernel_rfl) (by kernel_rfl) (by kernel_rfl) (by kernel_rfl) (fun _ _ _ h => h) (by rfl) hS ?_ ?_
            · intro wS hSw
              try dsimp only at hSw
              go_simp
            try simp only [Act.put, List.getElem_toArray, List.getElem_cons_zero, List.getElem_cons_succ, List.setIfInBounds_toArray, List.set_cons_zero, List.set_cons_succ]
            refine upto_skipN (i := 19) rfl (by kernel_rfl) (by kernel_rfl) (by kernel_rfl) (by kernel_rfl) (fun _ _ _ h => h) (by rfl) hS ?_
            intro us19
            try simp only [Act.put, List.getElem_toArray, List.getElem_cons_zero, List.getElem_cons_succ, List.setIfInBounds_toArray, List.set_cons_zero, List.set_cons_succ]
            refine upto_skipN (i := 20) rfl (by kernel_rfl) (by kernel_rfl) (by kernel_rfl) (by kernel_rfl) (fun _ _ _ h => h) (by rfl) hS ?_
            intro us20
            try simp only [Act.put, List.getElem_toArray, List.getElem_cons_zero, List.getElem_cons_succ, List.setIfInBounds_toArray, List.set_cons_zero, List.set_cons_succ]
            refine upto_skipN (i := 21) rfl (by kernel_rfl) (by kernel_rfl) (by kernel_rfl) (by kernel_rfl) (fun _ _ _ h => h) (by rfl) hS ?_
            intro us21
            try simp only [Act.put, List.getElem_toArray, List.getElem_cons_zero, List.getElem_cons_succ, List.setIfInBounds_toArray, List.set_cons_zero, List.set_cons_succ]
            refine upto_skipN (i := 22) rfl (by kernel_rfl) (by kernel_rfl) (by kernel_rfl) (by kernel_rfl) (fun _ _ _ h => h) (by rfl) hS ?_
            intro us22
            try simp only [Act.put, List.getElem_toArray, List.getElem_cons_zero, List.getElem_cons_succ, List.setIfInBounds_toArray, List.set_cons_zero, List.set_cons_succ]
            refine upto_skipN (i := 23) rfl (by kernel_rfl) (by kernel_rfl) (by kernel_rfl) (by kernel_rfl) (fun _ _ _ h => h) (by rfl) hS ?_
            intro us23
            try simp only [Act.put, List.getElem_toArray, List.getElem_cons_zero, List.getElem_cons_succ, List.setIfInBounds_toArray, List.set_cons_zero, List.set_cons_succ]
            refine upto_skipN (i := 24) rfl (by kernel_rfl) (by kernel_rfl) (by kernel_rfl) (by kernel_rfl) (fun _ _ _ h => h) (by rfl) hS ?_
            intro us24
            try simp only [Act.put, List.getElem_toArray, List.getElem_cons_zero, List.getElem_cons_succ, List.setIfInBounds_toArray, List.set_cons_zero, List.set_cons_succ]
            refine upto_skipN (i := 25) rfl (by kernel_rfl) (by kernel_rfl) (by kernel_rfl) (by kernel_rfl) (fun _ _ _ h => h) (by rfl) hS ?_
            intro us25
            try simp only [Act.put, List.getElem_toArray, List.getElem_cons_zero, List.getElem_cons_succ, List.setIfInBounds_toArray, List.set_cons_zero, List.set_cons_succ]
            refine upto_skipN (i := 26) rfl (by kernel_rfl) (by kernel_rfl) (by kernel_rfl) (by kernel_rfl) (fun _ _ _ h => h) (by rfl) hS ?_
            intro us26
            try simp only [Act.put, List.getElem_toArray, List.getElem_cons_zero, List.getElem_cons_succ, List.setIfInBounds_toArray, List.set_cons_zero, List.set_cons_succ]
            refine upto_skipN (i := 27) rfl (by kernel_rfl) (by kernel_rfl) (by kernel_rfl) (by kernel_rfl) (fun _ _ _ h => h) (by rfl) hS ?_
            intro us27
            try simp only [Act.put, List.getElem_toArray, List.getElem_cons_zero, List.getElem_cons_succ, List.setIfInBounds_toArray, List.set_cons_zero, List.set_cons_succ]
            refine upto_skipN (i := 28) rfl (by kernel_rfl) (by kernel_rfl) (by kernel_rfl) (by kernel_rfl) (fun _ _ _ h => h) (by rfl) hS ?_
            intro us28
            try simp only [Act.put, List.getElem_toArray, List.getElem_cons_zero, List.getElem_cons_succ, List.setIfInBounds_toArray, List.set_cons_zero, List.set_cons_succ]
            refine upto_skipN (i := 29) rfl (by kernel_rfl) (by kernel_rfl) (by kernel_rfl) (by kernel_rfl) (fun _ _ _ h => h) (by rfl) hS ?_
            intro us29
            try simp only [Act.put, List.getElem_toArray, List.getElem_cons_zero, List.getElem_cons_succ, List.setIfInBounds_toArray, List.set_cons_zero, List.set_cons_succ]
            refine upto_skipN (i := 30) rfl (by kernel_rfl) (by kernel_rfl) (by kernel_rfl) (by kernel_rfl) (fun _ _ _ h => h) (by rfl) hS ?_
            intro us30
            try simp only [Act.put, List.getElem_toArray, List.getElem_cons_zero, List.getElem_cons_succ, List.setIfInBounds_toArray, List.set_cons_zero, List.set_cons_succ]
            refine upto_takeN (i := 31) (v := (.bool false)) rfl (by kernel_rfl) (by kernel_rfl) (by kernel_rfl) (by kernel_rfl) (fun _ _ _ h => h) (by rfl) hS ?_ ?_
            · intro wS hSw
              try dsimp only at hSw
              go_simp
            try simp only [Act.put, List.getElem_toArray, List.getElem_cons_zero, List.getElem_cons_succ, List.setIfInBounds_toArray, List.set_cons_zero, List.set_cons_succ]
            refine upto_takeN (i := 32) (v := (.bool false)) rfl (by kernel_rfl) (by kernel_rfl) (by kernel_rfl) (by kernel_rfl) (fun _ _ _ h => h) (by rfl) hS ?_ ?_
            · intro wS hSw
              try dsimp only at hSw
              go_simp
            try simp only [Act.put, List.getElem_toArray, List.getElem_cons_zero, List.getElem_cons_succ, List.setIfInBounds_toArray, List.set_cons_zero, List.set_cons_succ]
            refine upto_done (by kernel_rfl) ?_
            refine NoPanic.normal ?_
            have hbr2 : Below w8.heap.size w8 wr.drew := Below.drew hbr
            have fL : wr.drew.cell? ⟨gL, oL + i, none⟩ = some (.slice uL X.length cL) := cell_keep (Below.drew (Below.refl _ _)) hcL
            have f4 : wr.drew.cell? ⟨w7.heap.size, 2, none⟩ = some (.slice p7 M q7) := cell_keep (Below.drew (Below.refl _ _)) f3
            clear hS hcv1 hcv2 hvU hvL
            have hd : decide ((cw : Int) + (X.length : Int) + 4 ≤ (cut : Int)) = false := decide_eq_false (by omega)
            clear hle
            go_wp2
            exact ⟨⟨i + 1, by rw [HCW.out]; go_num, by go_num, by omega, hbr2⟩, by simp [intOf]; omega⟩
        · have hil : ¬ (i : Int) < (rs.length : Int) := by omega
          go_wp2
          go_ret
          exact ⟨rfl, bstep hB8 hbr⟩

end Go.Proofs.Ytfeolikagceohaa.framesLaw

import Derived.Test.YtdfapehonegeeaaGreatPrnFlushEngineLaw5
import Derived.Test.YtdfapehonegeeaaGreatPrnFlushEngineLaw16
import Derived.Test.YtdfapehonegeeaaGreatPrnFlushEngineLaw18
import Derived.Test.YtdfapehonegeeaaGreatPrnFlushEngineLaw17

/-
  Is a number a version? (the program's)
-/
namespace Go.Proofs.YtdfapehonegeeaaGreat
open Go.RowKit
set_option linter.unusedSectionVars false
variable [DecidableEq Rw] [Inhabited Rw]
attribute [local go_sem ↓] Go.wp_at_zero Go.wp_at_succ

theorem isVersion_any (a : Int) (w : World) :
    Calls Tryz.prog 52 #[.int .i64 a] w fun e w' => e = .returned (.bool (inR a 1 1000000)) ∧ w' = w := by
  go_enter Tryz.func52, Tryz.ntmps52
  go_wp2_with (go_at_call 109; refine (withinR_any _ _ _ _).mono ?_; rintro e w' ⟨rfl, rfl⟩)
  go_ret
  exact ⟨rfl, rfl⟩
end Go.Proofs.YtdfapehonegeeaaGreat

/-
  UnpackWrites: the program's side.
-/
namespace Go.Proofs.YtdfapehonegeeaaGreat
open Go.RowKit
set_option linter.unusedSectionVars false
variable [DecidableEq Wri] [Inhabited Wri] [DecidableEq BytesR] [Inhabited BytesR] [DecidableEq Rw] [Inhabited Rw] [DecidableEq TabR] [Inhabited TabR]
set_option linter.unusedVariables false
set_option linter.unusedSimpArgs false
attribute [local go_sem ↓] Go.wp_at_zero Go.wp_at_succ

theorem fit_rows {v : Int} {ws : List Wri} (h : ∀ x ∈ ws, x.key.size ≤ 255 ∧ x.val.size ≤ 255) : Fit (ws.map (wrRow v)) := by
  intro i hi
  rw [List.length_map] at hi
  have e : (ws.map (wrRow v)).getD i default = wrRow v (ws[i]) := by simp [List.getD, hi]
  rw [e]
  have := h ws[i] (List.getElem_mem hi)
  unfold maxLen
  dsimp only [wrRow]
  omega
theorem fit_wri {ws : List Wri} (h : ∀ x ∈ ws, x.key.size ≤ 255 ∧ x.val.size ≤ 255) : FitWri ws := by
  rw [fitWri_mem]
  intro x hx
  have := h x hx
  unfold maxLen
  omega
set_option maxHeartbeats 4000000 in
theorem implUnw_u (x : Value) (d : List Byte) (w : World) (hx : bytesR.V w x d) :
    Calls Tryz.prog 151 #[x] w fun e w' => ∃ r F, e = .returned r ∧ tabRR.O w' w.heap.size F r (unwD d) ∧ Below w.heap.size w w' := by
  have HX : Hid (BytesV w x d) := hx
  obtain ⟨ax, cx, rfl, hcx, hmx, -⟩ := hx
  unfold maxLen at hmx
  by_cases hs : d.length < 8
  · have HD : Hid (unwD d = ⟨5, []⟩) := unwD_short hs
    have i1 : (d.length : Int) < 8 := by omega
    clear HX
    generalize d.length = n at *
    go_enter Tryz.func151, Tryz.ntmps151
    go_wp2
    refine bodyPost_ret (v := .agg #[.int .i64 5, .slice none 0 0]) (by simp [results, Tryz.results151, go_sem]) rfl ?_
    rw [HD.out]
    obtain ⟨F, hF⟩ := tabRR_nil (w.alloc (.cells #[.int .i64 5, .slice none 0 0] 61)) w.heap.size 5
    first | exact ⟨_, F, rfl, hF, by (repeat (first | exact Below.refl _ _ | assumption | refine Below.drew ?_ | refine balloc ?_ _ | refine bset ?_ (by simp; omega) _ | refine bset ?_ (by simp) _ | refine bstep ?_ (by assumption)))⟩ | exact ⟨_, rfl, ⟨F, hF⟩, by (repeat (first | exact Below.refl _ _ | assumption | refine Below.drew ?_ | refine balloc ?_ _ | refine bset ?_ (by simp; omega) _ | refine bset ?_ (by simp) _ | refine bstep ?_ (by assumption)))⟩
  by_cases hl : 500 < d.length
  · have HD : Hid (unwD d = ⟨5, []⟩) := unwD_long hl
    have i1 : ¬ (d.length : Int) < 8 := by omega
    have i2 : (500 : Int) < (d.length : Int) := by omega
    clear HX
    generalize d.length = n at *
    go_enter Tryz.func151, Tryz.ntmps151
    go_wp2
    refine bodyPost_ret (v := .agg #[.int .i64 5, .slice none 0 0]) (by simp [results, Tryz.results151, go_sem]) rfl ?_
    rw [HD.out]
    obtain ⟨F, hF⟩ := tabRR_nil (w.alloc (.cells #[.int .i64 5, .slice none 0 0] 61)) w.heap.size 5
    first | exact ⟨_, F, rfl, hF, by (repeat (first | exact Below.refl _ _ | assumption | refine Below.drew ?_ | refine balloc ?_ _ | refine bset ?_ (by simp; omega) _ | refine bset ?_ (by simp) _ | refine bstep ?_ (by assumption)))⟩ | exact ⟨_, rfl, ⟨F, hF⟩, by (repeat (first | exact Below.refl _ _ | assumption | refine Below.drew ?_ | refine balloc ?_ _ | refine bset ?_ (by simp; omega) _ | refine bset ?_ (by simp) _ | refine bstep ?_ (by assumption)))⟩
  have i1 : ¬ (d.length : Int) < 8 := by omega
  have i2 : ¬ (500 : Int) < (d.length : Int) := by omega
  obtain ⟨a2, c2, run2, V2⟩ := cutH (a := ax) (n := d.length) (cap := cx) 8 (by omega) (by omega) hcx
  obtain ⟨a3, c3, run3, V3⟩ := cutL (a := ax) (n := d.length) (cap := cx) 8 (by omega) (by omega) hcx
  have HV2 : Hid (∀ W, Below w.heap.size w W → BytesV W (.slice a2 8 c2) (d.take 8)) := fun W hW => V2 W d rfl (BytesV_below HX.out hW)
  have HV3 : Hid (∀ W, Below w.heap.size w W → BytesV W (.slice a3 (d.length - 8) c3) (d.drop 8)) := fun W hW => V3 W d rfl (BytesV_below HX.out hW)
  have run2' : ∀ w : World, (Instr.sliceAt 22 (.slice ax d.length cx) none (some (.int .i64 8)) none).run Tryz.prog w = .ok (.slice a2 8 c2) w := run2
  have run3' : ∀ w : World, (Instr.sliceAt 22 (.slice ax d.length cx) (some (.int .i64 8)) none none).run Tryz.prog w = .ok (.slice a3 (d.length - 8) c3) w := run3
  have HDL : Hid ((d.drop 8).length ≤ 1048576) := by rw [Hid, List.length_drop]; omega
  have H8 : Hid (8 ≤ d.length) := by rw [Hid]; omega
  have HVV : Hid (IntKind.i64.wrap (hiN (d.take 8)) = unwV d) := rfl
  clear run2 run3 V2 V3 hs hl HX
  have HN8 : Hid ((8 : Nat) ≤ d.length → True) := fun _ => trivial
  obtain ⟨n, hn⟩ : ∃ n, d.length = n := ⟨_, rfl⟩
  rw [hn] at run2' run3' HV3 i1 i2 hcx ⊢
  clear hn HN8
  generalize n - 8 = n8 at *
  go_enter Tryz.func151, Tryz.ntmps151
  go_wp2_with fail
  refine (numberIn_any _ (d.take 8) _ (HV2.out _ (by (repeat (first | exact Below.refl _ _ | assumption | refine Below.drew ?_ | refine balloc ?_ _ | refine bset ?_ (by simp; omega) _ | refine bset ?_ (by simp) _ | refine bstep ?_ (by assumption)))))).mono ?_
  rintro e W1 ⟨rfl, rfl⟩
  rw [HVV.out]
  go_wp2_with fail
  refine (writesIn_any _ (d.drop 8) _ (HV3.out _ (by (repeat (first | exact Below.refl _ _ | assumption | refine Below.drew ?_ | refine balloc ?_ _ | refine bset ?_ (by simp; omega) _ | refine bset ?_ (by simp) _ | refine bstep ?_ (by assumption))))) HDL.out).mono ?_
  rintro e W2 ⟨hw, hb2⟩
  have hB2 : Below w.heap.size w W2 := by (repeat (first | exact Below.refl _ _ | assumption | refine Below.drew ?_ | refine balloc ?_ _ | refine bset ?_ (by simp; omega) _ | refine bset ?_ (by simp) _ | refine bstep ?_ (by assumption)))
  have hr0 : W2.cell? ⟨w.heap.size, 0, none⟩ = some (.int .i64 0) := cell_keep hb2 (by simp [go_sem])
  have hr1 : W2.cell? ⟨w.heap.size, 1, none⟩ = some (.slice none 0 0) := cell_keep hb2 (by simp [go_sem])
  obtain ⟨hrf, hlt⟩ : (∀ o, W2.frozen? ⟨w.heap.size, o, none⟩ = false) ∧ w.heap.size < W2.heap.size := (boxNew2 hb2 (by simp)).2.2
  cases hW : writesL (d.drop 8) with
  | none =>
    rw [wsP_none hW] at hw
    obtain rfl := hw
    have HD : Hid (unwD d = ⟨5, []⟩) := unwD_none H8.out hW
    clear hb2 hW
    go_wp2
    refine bodyPost_ret (v := .agg #[.int .i64 5, .slice none 0 0]) (by simp [results, Tryz.results151, go_sem, hr0, hr1]) rfl ?_
    rw [HD.out]
    obtain ⟨F, hF⟩ := tabRR_nil ((W2.setCell ⟨w.heap.size, 0, none⟩ (.int .i64 5)).setCell ⟨w.heap.size, 1, none⟩ (.slice none 0 0)) w.heap.size 5
    first | exact ⟨_, F, rfl, hF, by (repeat (first | exact Below.refl _ _ | assumption | refine Below.drew ?_ | refine balloc ?_ _ | refine bset ?_ (by simp; omega) _ | refine bset ?_ (by simp) _ | refine bstep ?_ (by assumption)))⟩ | exact ⟨_, rfl, ⟨F, hF⟩, by (repeat (first | exact Below.refl _ _ | assumption | refine Below.drew ?_ | refine balloc ?_ _ | refine bset ?_ (by simp; omega) _ | refine bset ?_ (by simp) _ | refine bstep ?_ (by assumption)))⟩
  | some ws =>
    rw [wsP_some hW] at hw
    obtain ⟨v, rfl, ho⟩ := hw
    obtain ⟨av, cv, rfl⟩ := owns_form ho
    obtain ⟨hsum, hsz⟩ := writesL_len _ _ (Nat.lt_succ_self _) ws hW
    have HV : Hid (wrisR.V W2 (.slice av ws.length cv) ws) := ⟨WrisV_of_owns ho, fit_wri hsz⟩
    have HG : Hid ((inR (unwV d) 1 1000000 = true ∧ wrF ws = 0) → unwD d = ⟨0, ws.map (wrRow (unwV d))⟩) := unwD_good H8.out hW
    have HBD : Hid (¬ (inR (unwV d) 1 1000000 = true ∧ wrF ws = 0) → unwD d = ⟨5, []⟩) := unwD_bad H8.out hW
    have HSZ : Hid (∀ x ∈ ws, x.key.size ≤ 255 ∧ x.val.size ≤ 255) := hsz
    clear hb2 hW ho hsum hsz HV2 HV3 HDL
    generalize unwV d = ver at *
    cases hin : inR ver 1 1000000
    · have HD : Hid (unwD d = ⟨5, []⟩) := HBD.out (by rw [hin]; simp)
      go_wp2_with (go_at_call 52; refine (isVersion_any _ _).mono ?_; rintro e w' ⟨rfl, hEq⟩; obtain rfl := hEq.symm; rw [hin])
      refine bodyPost_ret (v := .agg #[.int .i64 5, .slice none 0 0]) (by simp [results, Tryz.results151, go_sem, hr0, hr1]) rfl ?_
      rw [HD.out]
      obtain ⟨F, hF⟩ := tabRR_nil ((W2.setCell ⟨w.heap.size, 0, none⟩ (.int .i64 5)).setCell ⟨w.heap.size, 1, none⟩ (.slice none 0 0)) w.heap.size 5
      first | exact ⟨_, F, rfl, hF, by (repeat (first | exact Below.refl _ _ | assumption | refine Below.drew ?_ | refine balloc ?_ _ | refine bset ?_ (by simp; omega) _ | refine bset ?_ (by simp) _ | refine bstep ?_ (by assumption)))⟩ | exact ⟨_, rfl, ⟨F, hF⟩, by (repeat (first | exact Below.refl _ _ | assumption | refine Below.drew ?_ | refine balloc ?_ _ | refine bset ?_ (by simp; omega) _ | refine bset ?_ (by simp) _ | refine bstep ?_ (by assumption)))⟩
    · go_wp2_with (first | (go_at_call 52; refine (isVersion_any _ _).mono ?_; rintro e w' ⟨rfl, hEq⟩; obtain rfl := hEq.symm; rw [hin]) | fail)
      refine (implWf_any _ ws _ HV.out).mono ?_
      rintro e W3 ⟨rfl, hb3⟩
      have hB3 := bstep hB2 hb3
      replace hr0 := cell_keep hb3 hr0
      replace hr1 := cell_keep hb3 hr1
      obtain ⟨hrf3, hlt3⟩ := boxKeep ⟨hrf, hlt⟩ hb3
      have HV3 : Hid (wrisR.V W3 (.slice av ws.length cv) ws) := wrisR.below HV.out hb3
      clear hrf hlt hb3 HV hB2
      by_cases hf : wrF ws = 0
      · have HD : Hid (unwD d = ⟨0, ws.map (wrRow ver)⟩) := HG.out ⟨hin, hf⟩
        have hl8 := (wrF_inv hf).2.1
        rw [hf]
        clear hf HG HBD hin
        go_wp2_with fail
        refine (rowsAt_any ver _ _ _ _).mono ?_
        rintro e W4 ⟨rfl, hW4⟩
        have hb4 : Below W3.heap.size W3 W4 := by rw [hW4]; (repeat (first | exact Below.refl _ _ | assumption | refine Below.drew ?_ | refine balloc ?_ _ | refine bset ?_ (by simp; omega) _ | refine bset ?_ (by simp) _ | refine bstep ?_ (by assumption)))
        have d1 : W4.cell? ⟨W3.heap.size + 1, 0, none⟩ = some (.slice av ws.length cv) := by rw [hW4]; simp [go_sem]
        have d2 : W4.cell? ⟨W3.heap.size, 0, none⟩ = some (.int .i64 ver) := by rw [hW4]; simp [go_sem]
        have s4 : W4.heap.size = W3.heap.size + 2 := by rw [hW4]; simp
        clear hW4
        have hT := WriAt.of (R := fun b => b < W4.heap.size) (wrisR.below HV3.out hb4).1 (fun b hb => hb)
        have hseq := rowsAt_seq (W3.heap.size + 1) W3.heap.size _ ws ver (fun b => b < W4.heap.size) W4 d1 d2 (by omega) (by omega) hT (by omega)
        have hcol := collect_any 130 _ _ _ W4 (enters_of Tryz.func130 (by kernel_rfl) rfl) hseq (fun b hb => hb) (by rw [List.length_map]; omega)
        have hB4 := bstep hB3 hb4
        replace hr0 := cell_keep hb4 hr0
        replace hr1 := cell_keep hb4 hr1
        obtain ⟨hrf4, hlt4⟩ := boxKeep ⟨hrf3, hlt3⟩ hb4
        clear hseq hT d1 d2 s4 hb4 hrf3 hB3
        go_wp2_with fail
        refine hcol.mono ?_
        rintro e W5 ⟨r, rfl, o5, hb5⟩
        obtain ⟨ar, cr, rfl⟩ := owns_form o5
        have hB5 := bstep hB4 hb5
        replace hr0 := cell_keep hb5 hr0
        replace hr1 := cell_keep hb5 hr1
        obtain ⟨hrf5, hlt5⟩ := boxKeep ⟨hrf4, hlt4⟩ hb5
        have o6 := owns_base (base' := w.heap.size + 1) o5 (by omega)
        have HFit : Hid (Fit (ws.map (wrRow ver))) := fit_rows HSZ.out
        clear o5 hcol hb5 hrf4 hB4
        obtain ⟨D, hD⟩ : ∃ D, ws.map (wrRow ver) = D := ⟨_, rfl⟩
        rw [hD] at o6 HD HFit
        rw [hD]
        clear hD
        go_wp2
        refine bodyPost_ret (v := .agg #[.int .i64 0, .slice ar D.length cr]) ?_ rfl ?_
        · simp [results, Tryz.results151, go_sem, hr0, hr1]
        · rw [HD.out]
          obtain ⟨F, hF⟩ := tabRR_of (c := 0) (owns_base (owns_setCell (a := ⟨w.heap.size, 1, none⟩) (owns_setCell (a := ⟨w.heap.size, 0, none⟩) o6 (Nat.lt_succ_self _) (.int .i64 0)) (Nat.lt_succ_self _) (.slice ar D.length cr)) (Nat.le_succ _)) HFit.out
          first | exact ⟨_, F, rfl, hF, by (repeat (first | exact Below.refl _ _ | assumption | refine Below.drew ?_ | refine balloc ?_ _ | refine bset ?_ (by simp; omega) _ | refine bset ?_ (by simp) _ | refine bstep ?_ (by assumption)))⟩ | exact ⟨_, rfl, ⟨F, hF⟩, by (repeat (first | exact Below.refl _ _ | assumption | refine Below.drew ?_ | refine balloc ?_ _ | refine bset ?_ (by simp; omega) _ | refine bset ?_ (by simp) _ | refine bstep ?_ (by assumption)))⟩
      · have HD : Hid (unwD d = ⟨5, []⟩) := HBD.out (fun h => hf h.2)
        have hc : (wrF ws == 0) = false := by simpa using hf
        clear HG HBD
        generalize wrF ws = c at *
        go_wp2
        refine bodyPost_ret (v := .agg #[.int .i64 5, .slice none 0 0]) (by simp [results, Tryz.results151, go_sem, hr0, hr1]) rfl ?_
        rw [HD.out]
        obtain ⟨F, hF⟩ := tabRR_nil ((W3.setCell ⟨w.heap.size, 0, none⟩ (.int .i64 5)).setCell ⟨w.heap.size, 1, none⟩ (.slice none 0 0)) w.heap.size 5
        first | exact ⟨_, F, rfl, hF, by (repeat (first | exact Below.refl _ _ | assumption | refine Below.drew ?_ | refine balloc ?_ _ | refine bset ?_ (by simp; omega) _ | refine bset ?_ (by simp) _ | refine bstep ?_ (by assumption)))⟩ | exact ⟨_, rfl, ⟨F, hF⟩, by (repeat (first | exact Below.refl _ _ | assumption | refine Below.drew ?_ | refine balloc ?_ _ | refine bset ?_ (by simp; omega) _ | refine bset ?_ (by simp) _ | refine bstep ?_ (by assumption)))⟩
end Go.Proofs.YtdfapehonegeeaaGreat

/-
  The fault of writes: the specification's side.
-/
namespace Go.Proofs.YtdfapehonegeeaaGreat
open Go.RowKit
set_option linter.unusedSectionVars false
variable [DecidableEq Wri] [Inhabited Wri] [DecidableEq BytesR] [Inhabited BytesR] [DecidableEq Rw] [Inhabited Rw]
set_option linter.unusedVariables false
set_option linter.unusedSimpArgs false
attribute [local go_sem ↓] Go.wp_at_zero Go.wp_at_succ

theorem bdrW {B : Nat} {w Y : World} (h : Below B w Y) (n : Nat) : Below B w (Y.drewN n) := h.trans ⟨rfl, rfl, rfl, Nat.le_refl _, fun _ _ => rfl⟩
set_option maxHeartbeats 4000000 in
theorem specWf_any (x : Value) (ws : List Wri) (w : World) (hx : wrisR.V w x ws) :
    Calls Tryz.prog 62 #[x] w fun e w' => e = .returned (.int .i64 (wrF ws)) ∧ Below w.heap.size w w' := by
  have HX : Hid (wrisR.V w x ws) := hx
  obtain ⟨hx, -⟩ := hx
  obtain ⟨ax, cx, rfl, hcx, hmx, hx⟩ := hx
  unfold maxLen at hmx
  by_cases hn : ws.length < 1 ∨ 8 < ws.length
  · rw [wrF_many hn]
    clear hx HX
    generalize ws.length = n at *
    rcases hn with hn | hn
    · have h1 : (n : Int) < 1 := by omega
      go_enter Tryz.func62, Tryz.ntmps62
      go_wp2
      go_ret
      exact ⟨rfl, Below.refl _ _⟩
    · have h1 : ¬ (n : Int) < 1 := by omega
      have h2 : (8 : Int) < n := by omega
      go_enter Tryz.func62, Tryz.ntmps62
      go_wp2
      go_ret
      exact ⟨rfl, Below.refl _ _⟩
  have HC : Hid (∀ k, k < ws.length → (∀ j, j < k → wrAt ws j = 0) → wrAt ws k ≠ 0 → wrF ws = wrAt ws k) := fun k hk h hc => wrF_at hn hk h hc
  have HZ : Hid ((∀ j, j < ws.length → wrAt ws j = 0) → wrF ws = if 500 < (packB 1 ws).length then 2 else 0) := wrF_end hn
  have HPK : Hid (∀ W, Below w.heap.size w W → Calls Tryz.prog 65 #[.int .i64 1, .slice ax ws.length cx] W fun e w' => ∃ r F, e = .returned r ∧ bytesR.O w' W.heap.size F r (packB 1 ws) ∧ Below W.heap.size W w') := fun W hb => l6Pack_any 1 _ ws W (wrisR.below HX.out hb) (by omega)
  have HB : Hid ((packB 1 ws).length ≤ 3300) := by
    have := packB_len 1 ws
    rw [Hid]
    omega
  clear HX
  generalize ws.length = n at *
  have h1 : ¬ (n : Int) < 1 := by omega
  have h2 : ¬ (8 : Int) < n := by omega
  have hn8 : n ≤ 8 := by omega
  clear hn
  go_enter Tryz.func62, Tryz.ntmps62
  go_wp2
  go_loopw [3] (fun i w' => ∃ k : Nat, k ≤ n ∧ i = .int .i64 k ∧ Hid (∀ j, j < k → wrAt ws j = 0) ∧ Below w.heap.size w w') (fun i _ => n - (intOf i).toNat)
  case atStart => exact ⟨0, Nat.zero_le _, rfl, fun j h => absurd h (Nat.not_lt_zero _), Below.refl _ _⟩
  case round =>
    obtain ⟨k, hk, rfl, HP, hbl⟩ := hrel
    by_cases hlt : k < n
    · have HXX : Hid (∀ i, i < n → ∃ b o, ax = some ⟨b, o, none⟩ ∧ wriCells w b (o + i * 3) (ws.getD i default)) := hx
      obtain ⟨bx, ox, rfl, g1⟩ := hx k hlt
      have HC2 : Hid (wrAt ws k ≠ 0 → wrF ws = wrAt ws k) := fun hc => HC.out k hlt HP.out hc
      have HK : Hid (wrAt ws k = if rowFault (wrRow 1 (ws.getD k default)) ≠ 0 then rowFault (wrRow 1 (ws.getD k default)) else if hasK ws k (ws.getD k default).key = true then 7 else 0) := rfl
      obtain ⟨l, hl⟩ : ∃ l, l = ws.getD k default := ⟨_, rfl⟩
      rw [← hl] at g1 HK
      clear hl hx HC
      obtain ⟨a1, a2, a3⟩ := wriCells_below hbl g1
      have hti : (k : Int) < (n : Int) := by omega
      clear g1
      go_wp2_with fail
      refine (specRowFault_any (wrRow 1 l) _).mono ?_
      rintro e wa ⟨rfl, hba⟩
      have q0 : wa.cell? ⟨wr.heap.size, 0, none⟩ = some (.string l.key) := cell_keep hba (by simp [go_sem])
      have hB : Below w.heap.size w wa := by (repeat (first | exact Below.refl _ _ | assumption | refine Below.drew ?_ | refine balloc ?_ _ | refine bset ?_ (by simp; omega) _ | refine bset ?_ (by simp) _ | refine bstep ?_ (by assumption)))
      have hzb := World.block_lt_of_cell? _ _ q0
      dsimp only at hzb
      clear hba a1 a2 a3 hbl
      generalize wr.heap.size = N at *
      by_cases hf : rowFault (wrRow 1 l) = 0
      · rw [hf]
        have HK2 : Hid (wrAt ws k = if hasK ws k l.key = true then 7 else 0) := by
          rw [Hid, HK.out, if_neg (by simp [hf])]
        clear hf HK
        go_wp2
        go_loopw [6] (fun i W => ∃ m : Nat, m ≤ k ∧ i = .int .i64 m ∧ Hid (∀ j, j < m → (ws.getD j default).key ≠ l.key) ∧ Below wa.heap.size wa W) (fun i _ => k - (intOf i).toNat)
        case atStart => exact ⟨0, Nat.zero_le _, rfl, fun j h => absurd h (Nat.not_lt_zero _), Below.refl _ _⟩
        case round =>
          obtain ⟨m, hm, rfl, HM, hb2⟩ := hrel
          have hB2 : Below w.heap.size w wr := bstep hB hb2
          have q1 := cell_keep hb2 q0
          by_cases hmk : m < k
          · obtain ⟨b2, o2, e2, g2⟩ := HXX.out m (by omega)
            simp only [Option.some.injEq, Addr.mk.injEq, and_true] at e2
            obtain ⟨rfl, rfl⟩ := e2
            obtain ⟨c1, c2, c3⟩ := wriCells_below hB2 g2
            obtain ⟨l2, hl2⟩ : ∃ l2, l2 = ws.getD m default := ⟨_, rfl⟩
            rw [← hl2] at c1
            have HL2 : Hid (l2 = ws.getD m default) := hl2
            clear hl2 g2 c2 c3
            have i1 : (m : Int) < (k : Int) := by omega
            have i2 : (0 : Int) ≤ (m : Int) := by omega
            have i3 : (m : Int) < (n : Int) := by omega
            by_cases hq : l2.key = l.key
            · have HQ : Hid (wrF ws = 7) := by
                have hh : wrAt ws k = 7 := by rw [HK2.out, if_pos (hasK_of hmk (by rw [← HL2.out]; exact hq))]
                rw [Hid, HC2.out (by rw [hh]; decide), hh]
              have h3 : (l2.key.toList == l.key.toList) = true := by rw [hq]; simp
              clear hq
              go_wp2
              go_quiet (fail)
              go_wp2
              go_ret
              exact ⟨by rw [HQ.out]; rfl, bdrW hB2 _⟩
            · have h3 : (l2.key.toList == l.key.toList) = false := by rw [beq_eq_false_iff_ne, Ne, tl_inj]; exact hq
              have HQ : Hid (∀ j, j < m + 1 → (ws.getD j default).key ≠ l.key) := fun j hj => by
                by_cases e : j = m
                · rw [e, ← HL2.out]; exact hq
                · exact HM.out j (by omega)
              clear hq
              go_wp2
              go_quiet (fail)
              go_wp2
              exact ⟨⟨m + 1, by omega, by go_num, HQ, bdrW hb2 _⟩, by simp [intOf]; omega⟩
          · obtain rfl : m = k := by omega
            have i1 : ¬ (m : Int) < (m : Int) := by omega
            have HQ : Hid (∀ j, j < m + 1 → wrAt ws j = 0) := fun j hj => by
              by_cases e : j = m
              · rw [e, HK2.out, if_neg (by rw [hasK_none HM.out]; decide)]
              · exact HP.out j (by omega)
            go_wp2
            exact ⟨⟨m + 1, by omega, by go_num, HQ, hB2⟩, by simp [intOf]; omega⟩
      · have HQ : Hid (wrF ws = rowFault (wrRow 1 l)) := by
          have hh : wrAt ws k = rowFault (wrRow 1 l) := by rw [HK.out, if_pos hf]
          rw [Hid, HC2.out (by rw [hh]; exact hf), hh]
        clear HK HC2
        generalize rowFault (wrRow 1 l) = c at *
        have hf2 : (c == 0) = false := by simpa using hf
        go_wp2
        go_ret
        exact ⟨by rw [HQ.out]; rfl, hB⟩
    · obtain rfl : k = n := by omega
      have hti : ¬ (k : Int) < (k : Int) := by omega
      have HE := HZ.out HP.out
      have HEE : Hid (wrF ws = if 500 < (packB 1 ws).length then 2 else 0) := HE
      clear HE HZ HC hx
      go_wp2_with fail
      refine (HPK.out _ hbl).mono ?_
      rintro e w1 ⟨r, F, rfl, o1, hb1⟩
      obtain ⟨p, q, rfl⟩ := bytes_form (bytesR.ofO o1)
      have hB := bstep hbl hb1
      have hbb := HB.out
      clear o1 hb1 HPK HB
      generalize (packB 1 ws).length = L at *
      by_cases h5 : 500 < L
      · have h6 : (500 : Int) < (L : Int) := by omega
        go_wp2
        go_ret
        exact ⟨by rw [HEE.out, if_pos h5]; rfl, hB⟩
      · have h6 : ¬ (500 : Int) < (L : Int) := by omega
        go_wp2
        go_ret
        exact ⟨by rw [HEE.out, if_neg h5]; rfl, hB⟩
end Go.Proofs.YtdfapehonegeeaaGreat

/-
  PackWrites, on both sides.
-/
namespace Go.Proofs.YtdfapehonegeeaaGreat
open Go.RowKit
set_option linter.unusedSectionVars false
variable [DecidableEq Wri] [Inhabited Wri] [DecidableEq BytesR] [Inhabited BytesR] [DecidableEq Rw] [Inhabited Rw]
set_option linter.unusedVariables false
set_option linter.unusedSimpArgs false
attribute [local go_sem ↓] Go.wp_at_zero Go.wp_at_succ

def packWD (v : Int) (ws : List Wri) : BytesR := if inR v 1 1000000 = true then if wrF ws ≠ 0 then ⟨wrF ws, []⟩ else ⟨0, packB v ws⟩ else ⟨3, []⟩
set_option maxHeartbeats 2000000 in
theorem specPackW_u (v : Int) (x : Value) (ws : List Wri) (w : World) (hx : wrisR.V w x ws) :
    Calls Tryz.prog 147 #[.int .i64 v, x] w fun e w' => ∃ r F, e = .returned r ∧ bytesRR.O w' w.heap.size F r (packWD v ws) ∧ Below w.heap.size w w' := by
  have hX := hx
  obtain ⟨ax, cx, rfl⟩ := wris_form hx
  cases hin : inR v 1 1000000
  · have HD : Hid (packWD v ws = ⟨3, []⟩) := by unfold Hid packWD; rw [hin, if_neg (by decide)]
    go_enter Tryz.func147, Tryz.ntmps147
    go_wp2_with (go_at_call 44; refine (l1InR_any _ _ _ _).mono ?_; rintro e w' ⟨rfl, rfl⟩; rw [hin])
    refine bodyPost_ret (v := .agg #[.int .i64 3, .slice none 0 0]) (by simp [results, Tryz.results147, go_sem]) rfl ?_
    rw [HD.out]
    first | exact ⟨_, none_, rfl, bytesR_nil _ _ _, by (repeat (first | exact Below.refl _ _ | assumption | refine Below.drew ?_ | refine balloc ?_ _ | refine bset ?_ (by simp; omega) _ | refine bset ?_ (by simp) _ | refine bstep ?_ (by assumption)))⟩ | exact ⟨_, rfl, ⟨none_, bytesR_nil _ _ _⟩, by (repeat (first | exact Below.refl _ _ | assumption | refine Below.drew ?_ | refine balloc ?_ _ | refine bset ?_ (by simp; omega) _ | refine bset ?_ (by simp) _ | refine bstep ?_ (by assumption)))⟩
  · have HL : Hid (wrF ws = 0 → ws.length ≤ 8) := fun h => (wrF_inv h).2.1
    go_enter Tryz.func147, Tryz.ntmps147
    go_wp2_with (first | (go_at_call 44; refine (l1InR_any _ _ _ _).mono ?_; rintro e w' ⟨rfl, rfl⟩; rw [hin]) | fail)
    refine (specWf_any _ ws _ (wrisR.below hX (by (repeat (first | exact Below.refl _ _ | assumption | refine Below.drew ?_ | refine balloc ?_ _ | refine bset ?_ (by simp; omega) _ | refine bset ?_ (by simp) _ | refine bstep ?_ (by assumption)))))).mono ?_
    rintro e w1 ⟨rfl, hb1⟩
    have hB1 : Below w.heap.size w w1 := by (repeat (first | exact Below.refl _ _ | assumption | refine Below.drew ?_ | refine balloc ?_ _ | refine bset ?_ (by simp; omega) _ | refine bset ?_ (by simp) _ | refine bstep ?_ (by assumption)))
    have hr0 : w1.cell? ⟨w.heap.size, 0, none⟩ = some (.int .i64 0) := cell_keep hb1 (by simp [go_sem])
    have hr1 : w1.cell? ⟨w.heap.size, 1, none⟩ = some (.slice none 0 0) := cell_keep hb1 (by simp [go_sem])
    obtain ⟨hrf, hlt⟩ : (∀ o, w1.frozen? ⟨w.heap.size, o, none⟩ = false) ∧ w.heap.size < w1.heap.size := (boxNew2 hb1 (by simp)).2.2
    clear hb1
    by_cases hf : wrF ws = 0
    · have hl8 := HL.out hf
      have HDD : Hid (packWD v ws = ⟨0, packB v ws⟩) := by unfold Hid packWD; rw [hin, if_pos rfl, if_neg (by simpa using hf)]
      rw [hf]
      clear hf HL
      go_wp2_with fail
      refine (l6Pack_any v _ ws _ (wrisR.below hX (by (repeat (first | exact Below.refl _ _ | assumption | refine Below.drew ?_ | refine balloc ?_ _ | refine bset ?_ (by simp; omega) _ | refine bset ?_ (by simp) _ | refine bstep ?_ (by assumption))))) hl8).mono ?_
      rintro e w2 ⟨r, F, rfl, o2, hb2⟩
      have hB2 := bstep hB1 hb2
      replace hr0 := cell_keep hb2 hr0
      replace hr1 := cell_keep hb2 hr1
      obtain ⟨hrf2, hlt2⟩ := boxKeep ⟨hrf, hlt⟩ hb2
      have o3 := bytesR.base (base' := w.heap.size + 1) o2 (by omega)
      obtain ⟨p, q, rfl⟩ := bytes_form (bytesR.ofO o3)
      clear o2 hb2 hrf hB1 hX
      obtain ⟨D, hD⟩ : ∃ D, packB v ws = D := ⟨_, rfl⟩
      have HD : Hid (packB v ws = D) := hD
      rw [hD] at o3
      rw [hD]
      clear hD
      go_wp2
      refine bodyPost_ret (v := .agg #[.int .i64 0, .slice p D.length q]) ?_ rfl ?_
      · simp [results, Tryz.results147, go_sem, hr0, hr1]
      · rw [HDD.out, HD.out]
        first | refine ⟨_, F, rfl, ?_, by (repeat (first | exact Below.refl _ _ | assumption | refine Below.drew ?_ | refine balloc ?_ _ | refine bset ?_ (by simp; omega) _ | refine bset ?_ (by simp) _ | refine bstep ?_ (by assumption)))⟩ | refine ⟨_, rfl, ⟨F, ?_⟩, by (repeat (first | exact Below.refl _ _ | assumption | refine Below.drew ?_ | refine balloc ?_ _ | refine bset ?_ (by simp; omega) _ | refine bset ?_ (by simp) _ | refine bstep ?_ (by assumption)))⟩
        exact ⟨_, F, rfl, bytesR.base (base := w.heap.size + 1) (bytesR.set (bytesR.set o3 _ (by simp)) _ (by simp)) (by omega), fun b => Iff.rfl⟩
    · have HDD : Hid (packWD v ws = ⟨wrF ws, []⟩) := by unfold Hid packWD; rw [hin, if_pos rfl, if_pos hf]
      have hc : (wrF ws == 0) = false := by simpa using hf
      clear HL
      generalize wrF ws = c at *
      go_wp2
      refine bodyPost_ret (v := .agg #[.int .i64 c, .slice none 0 0]) ?_ rfl ?_
      · simp [results, Tryz.results147, go_sem, hr0, hr1]
      · rw [HDD.out]
        first | exact ⟨_, none_, rfl, bytesR_nil _ _ _, by (repeat (first | exact Below.refl _ _ | assumption | refine Below.drew ?_ | refine balloc ?_ _ | refine bset ?_ (by simp; omega) _ | refine bset ?_ (by simp) _ | refine bstep ?_ (by assumption)))⟩ | exact ⟨_, rfl, ⟨none_, bytesR_nil _ _ _⟩, by (repeat (first | exact Below.refl _ _ | assumption | refine Below.drew ?_ | refine balloc ?_ _ | refine bset ?_ (by simp; omega) _ | refine bset ?_ (by simp) _ | refine bstep ?_ (by assumption)))⟩
end Go.Proofs.YtdfapehonegeeaaGreat


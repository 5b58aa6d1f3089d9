import Derived.Test.YtgjpafalompecaaPrnSettlesLaw16
import Derived.Test.YtgjpafalompecaaPrnSettlesLaw22
import Derived.Test.YtgjpafalompecaaPrnSettlesLaw23
import Derived.Test.YtgjpafalompecaaPrnSettlesLaw13
import Derived.Test.YtgjpafalompecaaPrnSettlesLaw10
import Derived.Test.YtgjpafalompecaaPrnSettlesLaw11
import Derived.Test.YtgjpafalompecaaPrnSettlesLaw7
import Derived.Test.YtgjpafalompecaaPrnSettlesLaw24
import Derived.Test.YtgjpafalompecaaPrnSettlesLaw17
import Derived.Test.YtgjpafalompecaaPrnSettlesLaw2
import Derived.BigQuiet
import Derived.Deep.QuietTactic
import Derived.Deep.RegionHeld3

/-
  What is settled changes no total, and can be undone: the walk.
-/
set_option linter.unusedVariables false
set_option linter.unusedSimpArgs false
namespace Go.Proofs.Ytgjpafalompecaa
open Go.RowKit
set_option linter.unusedSectionVars false
variable [DecidableEq Rw] [Inhabited Rw] [DecidableEq Bal] [Inhabited Bal] [DecidableEq Ledg] [Inhabited Ledg] [DecidableEq Leg] [Inhabited Leg] [DecidableEq Cont] [Inhabited Cont] [DecidableEq LedgR] [Inhabited LedgR] [DecidableEq OutcR] [Inhabited OutcR] [DecidableEq Mrk] [Inhabited Mrk] [DecidableEq Logg] [Inhabited Logg] [DecidableEq LoggR] [Inhabited LoggR] [DecidableEq BytesR] [Inhabited BytesR] [DecidableEq RecsR] [Inhabited RecsR]
attribute [local go_sem ↓] Go.wp_at_zero Go.wp_at_succ

theorem valFieldS (u v : Int) (w : World) : (Instr.field 37 (.agg #[.int .i64 u, .int .i64 v]) 1).run Try.prog w = .ok (.int .i64 v) w := by kernel_rfl
theorem conFieldS (u i : Int) (v : Value) (w : World) : (Instr.field 43 (.agg #[.int .i64 u, .int .i64 i, v]) 1).run Try.prog w = .ok (.agg #[.int .i64 i, v]) w := by kernel_rfl
structure SwSt (w2 W : World) (v : Value) : Prop where
  bl : Below w2.heap.size w2 W
  r0 : W.cell? ⟨w2.heap.size, 0, none⟩ = some (.int .i64 0)
  r1 : W.cell? ⟨w2.heap.size, 1, none⟩ = some v
theorem SwSt.below {w2 W W' : World} {v : Value} (h : SwSt w2 W v) (hb : Below W.heap.size W W') : SwSt w2 W' v := ⟨bstep h.bl hb, cell_keep hb h.r0, cell_keep hb h.r1⟩
namespace settlesLaw
set_option maxRecDepth 20000 in
set_option maxHeartbeats 16000000 in
theorem walk (x0 : Value) (d0 : List Byte) (w : World) (hx0 : bytesR.V w x0 d0) :
    Calls Try.prog 3 #[x0] w fun e w' => e = .returned (.bool true) ∧ Below w.heap.size w w' := by
  have hX0 := hx0
  obtain ⟨ax, cx, rfl⟩ := bytes_form hx0
  go_enter Try.func3, Try.ntmps3
  go_wp2_with fail
  refine (lwBig_any _ d0 _ hX0).mono ?_
  rintro e w' ⟨rfl, hw⟩
  obtain rfl : w = w' := hw.symm
  by_cases hbig : 1048576 < d0.length
  · rw [decide_eq_true hbig]
    go_wp2
    go_ret
    exact ⟨rfl, Below.refl _ _⟩
  rw [decide_eq_false hbig]
  have hd0 : d0.length ≤ 1048576 := by omega
  have HD : Hid (Calls Try.prog 6 #[.slice ax d0.length cx] w fun e w' => ∃ p cc gs id v xs, e = .returned (.tuple #[.agg #[.slice p gs.length cc], .agg #[.int .i64 id, v]]) ∧ balssR.V w' (.slice p gs.length cc) gs ∧ gs.length ≤ 6 ∧ (∀ k, k < gs.length → (gs.getD k default).length ≤ 100) ∧ legsR.V w' v xs ∧ xs.length ≤ 9 ∧ Below w.heap.size w w') := drawSettle_any _ d0 w hX0 hd0
  generalize d0.length = dl at *
  clear hx0 hX0 hbig hd0
  go_wp2_with fail
  refine HD.out.mono ?_
  rintro e w1 ⟨p, cc, gs, id, v, xs, rfl, hV, hm, h100, hL, hxl, hb1⟩
  obtain ⟨pl, ql, rfl⟩ := legs_form hL
  have HG : Hid (∀ W, Below w1.heap.size w1 W → ledgR.V W (.agg #[.slice p gs.length cc]) ⟨gs⟩) := fun W hW => ⟨_, rfl, balssR.below hV hW⟩
  have HC : Hid (∀ W, Below w1.heap.size w1 W → contR.V W (.agg #[.int .i64 id, .slice pl xs.length ql]) ⟨id, xs⟩) := fun W hW => ⟨_, rfl, legsR.below hL hW⟩
  have HLg : Hid (∀ W, Below w1.heap.size w1 W → LegsV W (.slice pl xs.length ql) xs) := fun W hW => legsR.below hL hW
  have HM : Hid (gs.length ≤ 6 ∧ xs.length ≤ 9) := ⟨hm, hxl⟩
  obtain ⟨n, hn⟩ : ∃ n, n = xs.length := ⟨_, rfl⟩
  have HN : Hid (xs.length = n) := hn.symm
  obtain ⟨ng, hng⟩ : ∃ n, n = gs.length := ⟨_, rfl⟩
  rw [← hn] at HC HLg hxl ⊢
  have HNG : Hid (gs.length = ng) := hng.symm
  rw [← hng] at HG hm ⊢
  clear hV hL HD hn hng h100
  go_wp2_with fail
  refine (implSettle_u _ _ ⟨gs⟩ ⟨id, xs⟩ _ (HG.out _ (by (repeat (first | exact Below.refl _ _ | assumption | refine Below.drew ?_ | refine balloc ?_ _ | refine bset ?_ (by simp; omega) _ | refine bset ?_ (by simp) _ | refine bstep ?_ (by assumption))))) (HC.out _ (by (repeat (first | exact Below.refl _ _ | assumption | refine Below.drew ?_ | refine balloc ?_ _ | refine bset ?_ (by simp; omega) _ | refine bset ?_ (by simp) _ | refine bstep ?_ (by assumption)))))).mono ?_
  rintro e w2 ⟨v2, F2, rfl, o2, hb2⟩
  have HV2 : Hid (ledgRR.V w2 v2 (settleD ⟨gs⟩ ⟨id, xs⟩)) := ledgRR.ofO o2
  clear o2
  obtain ⟨p2, c2, rfl⟩ := ledgR_form HV2.out
  have hB12 : Below w1.heap.size w1 w2 := bstep (by (repeat (first | exact Below.refl _ _ | assumption | refine Below.drew ?_ | refine balloc ?_ _ | refine bset ?_ (by simp; omega) _ | refine bset ?_ (by simp) _ | refine bstep ?_ (by assumption)))) hb2
  have hB2 : Below w.heap.size w w2 := bstep hb1 hB12
  have g1 : w2.cell? ⟨w1.heap.size, 0, none⟩ = some (.slice p ng cc) := cell_keep hb2 (by simp [go_sem])
  have k1 : w2.cell? ⟨w1.heap.size + 1, 0, none⟩ = some (.int .i64 id) := cell_keep hb2 (by simp [go_sem])
  have k2 : w2.cell? ⟨w1.heap.size + 1, 1, none⟩ = some (.slice pl n ql) := cell_keep hb2 (by simp [go_sem])
  have z2 : w1.heap.size + 2 ≤ w2.heap.size := by have := hb2.size; simpa using this
  clear hb2 hb1
  obtain ⟨dc, hdc⟩ : ∃ c, c = (settleD ⟨gs⟩ ⟨id, xs⟩).code := ⟨_, rfl⟩
  obtain ⟨nd, hnd⟩ : ∃ c, c = (settleD ⟨gs⟩ ⟨id, xs⟩).ledger.shards.length := ⟨_, rfl⟩
  have HDC : Hid (dc = (settleD ⟨gs⟩ ⟨id, xs⟩).code) := hdc
  rw [← hdc, ← hnd] at HV2 ⊢
  clear hdc
  by_cases hc : canG ⟨gs⟩ ⟨id, xs⟩ = 0
  · have hsd : settleD ⟨gs⟩ ⟨id, xs⟩ = ⟨0, ⟨settleL gs xs⟩⟩ := by unfold settleD; rw [if_pos hc]
    have hd0 : dc = 0 := by rw [HDC.out, hsd]
    rw [hsd] at hnd
    dsimp only at hnd
    subst hd0
    have HR : Hid (∀ W, Below w2.heap.size w2 W → ledgR.V W (.agg #[.slice p2 nd c2]) ⟨settleL gs xs⟩) := fun W hW => by
      have h := HV2.out
      rw [hsd] at h
      obtain ⟨u, e, h⟩ := h
      simp only [Value.agg.injEq, Array.mk.injEq, List.cons.injEq, true_and, and_true] at e
      rw [← e] at h
      exact ledgR.below h hW
    have HT1 : Hid (∀ (W : World) (k : Nat), Below w2.heap.size w2 W → k < 3 → Calls Try.prog 10 #[.agg #[.slice p2 nd c2], .int .i64 k] W fun e w' => e = .returned (.agg #[.int .i64 (totCode ⟨gs⟩ k), .int .i64 (totVal ⟨gs⟩ k)]) ∧ Below W.heap.size W w') := fun W k hW hk => by
      have h := settled_tot hc k (by omega)
      dsimp only at h
      rw [← h.1, ← h.2]
      exact implTot_any _ _ _ _ (HR.out W hW)
    have HT2 : Hid (∀ (W : World) (k : Nat), Below w2.heap.size w2 W → k < 3 → Calls Try.prog 10 #[.agg #[.slice p ng cc], .int .i64 k] W fun e w' => e = .returned (.agg #[.int .i64 (totCode ⟨gs⟩ k), .int .i64 (totVal ⟨gs⟩ k)]) ∧ Below W.heap.size W w') := fun W k hW hk => implTot_any _ _ _ _ (HG.out W (bstep hB12 hW))
    clear hsd hnd HV2 HDC
    go_wp2
    go_loopw [6] (fun i W => ∃ k : Nat, k ≤ 3 ∧ i = .int .i64 k ∧ Hid (SwSt w2 W (.slice p2 nd c2))) (fun i _ => 3 - (intOf i).toNat)
    case atStart => exact ⟨0, by omega, rfl, ⟨by (repeat (first | exact Below.refl _ _ | assumption | refine Below.drew ?_ | refine balloc ?_ _ | refine bset ?_ (by simp; omega) _ | refine bset ?_ (by simp) _ | refine bstep ?_ (by assumption))), by simp [go_sem], by simp [go_sem]⟩⟩
    case round =>
      obtain ⟨k, hk, rfl, HS⟩ := hrel
      by_cases hk3 : k < 3
      · have hk3' : (k : Int) < 3 := by omega
        have hwk : IntKind.i64.wrap ((k : Int) + 1) = ((k + 1 : Nat) : Int) := by rw [wrapI _ (by omega) (by omega)]; omega
        have g1r := cell_keep HS.out.bl g1
        go_wp2
        refine wp_region_noPanic ?_
        refine region_upto (fun W => SwSt w2 W (.slice p2 nd c2) ∧ W.cell? ⟨w2.heap.size, 1, none⟩ = some (.slice p2 nd c2) ∧ W.cell? ⟨w1.heap.size, 0, none⟩ = some (.slice p ng cc)) 8 (by kernel_rfl) ⟨HS.out.below (Below.drew (Below.refl _ _)), HS.out.r1, g1r⟩ (fun hS => ?_)
        refine upto_takeN (i := 0) (v := ?_) rfl (by kernel_rfl) (by kernel_rfl) (by kernel_rfl) (by kernel_rfl) (fun _ _ _ h => h) (by rfl) hS ?_ ?_
        rotate_left
        · intro wS hSw
          try dsimp only at hSw
          first | (go_simp; done) | (go_simp; with_reducible rfl)
        try simp only [Act.put, List.getElem_toArray, List.getElem_cons_zero, List.getElem_cons_succ, List.setIfInBounds_toArray, List.set_cons_zero, List.set_cons_succ]
        refine upto_takeN (i := 1) (v := ?_) rfl (by kernel_rfl) (by kernel_rfl) (by kernel_rfl) (by kernel_rfl) (fun _ _ _ h => h) (by rfl) hS ?_ ?_
        rotate_left
        · intro wS hSw
          try dsimp only at hSw
          first | (go_simp; done) | (go_simp; with_reducible rfl)
        try simp only [Act.put, List.getElem_toArray, List.getElem_cons_zero, List.getElem_cons_succ, List.setIfInBounds_toArray, List.set_cons_zero, List.set_cons_succ]
        refine upto_takeN (i := 2) (v := ?_) rfl (by kernel_rfl) (by kernel_rfl) (by kernel_rfl) (by kernel_rfl) (fun _ _ _ h => h) (by rfl) hS ?_ ?_
        rotate_left
        · intro wS hSw
          try dsimp only at hSw
          first | (go_simp; done) | (go_simp; with_reducible rfl)
        try simp only [Act.put, List.getElem_toArray, List.getElem_cons_zero, List.getElem_cons_succ, List.setIfInBounds_toArray, List.set_cons_zero, List.set_cons_succ]
        refine upto_takeN (i := 4) (v := ?_) rfl (by kernel_rfl) (by kernel_rfl) (by kernel_rfl) (by kernel_rfl) (fun _ _ _ h => h) (by rfl) hS ?_ ?_
        rotate_left
        · intro wS hSw
          try dsimp only at hSw
          first | (go_simp; done) | (go_simp; with_reducible rfl)
        try simp only [Act.put, List.getElem_toArray, List.getElem_cons_zero, List.getElem_cons_succ, List.setIfInBounds_toArray, List.set_cons_zero, List.set_cons_succ]
        refine upto_takeN (i := 5) (v := ?_) rfl (by kernel_rfl) (by kernel_rfl) (by kernel_rfl) (by kernel_rfl) (fun _ _ _ h => h) (by rfl) hS ?_ ?_
        rotate_left
        · intro wS hSw
          try dsimp only at hSw
          first | (go_simp; done) | (go_simp; with_reducible rfl)
        try simp only [Act.put, List.getElem_toArray, List.getElem_cons_zero, List.getElem_cons_succ, List.setIfInBounds_toArray, List.set_cons_zero, List.set_cons_succ]
        refine upto_step (i := 3) (by kernel_rfl) rfl ?_
        intro K hK
        go_simp
        refine (HT1.out _ k hS.1.bl hk3).mono ?_
        rintro e w3 ⟨rfl, hb3⟩
        have hS3 := (⟨hS.1.below hb3, cell_keep hb3 hS.2.1, cell_keep hb3 hS.2.2⟩ : SwSt w2 w3 (.slice p2 nd c2) ∧ w3.cell? ⟨w2.heap.size, 1, none⟩ = some (.slice p2 nd c2) ∧ w3.cell? ⟨w1.heap.size, 0, none⟩ = some (.slice p ng cc))
        refine hK _ _ (fun _ => hS3) ?_
        clear hK K hS hb3
        try simp only [Act.put, List.getElem_toArray, List.getElem_cons_zero, List.getElem_cons_succ, List.setIfInBounds_toArray, List.set_cons_zero, List.set_cons_succ]
        refine upto_step (i := 6) (by kernel_rfl) rfl ?_
        intro K hK
        go_simp
        refine (HT2.out _ k hS3.1.bl hk3).mono ?_
        rintro e w4 ⟨rfl, hb4⟩
        have hS4 := (⟨hS3.1.below hb4, cell_keep hb4 hS3.2.1, cell_keep hb4 hS3.2.2⟩ : SwSt w2 w4 (.slice p2 nd c2) ∧ w4.cell? ⟨w2.heap.size, 1, none⟩ = some (.slice p2 nd c2) ∧ w4.cell? ⟨w1.heap.size, 0, none⟩ = some (.slice p ng cc))
        refine hK _ _ (fun _ => hS4) ?_
        clear hK K hS3 hb4
        try simp only [Act.put, List.getElem_toArray, List.getElem_cons_zero, List.getElem_cons_succ, List.setIfInBounds_toArray, List.set_cons_zero, List.set_cons_succ]
        refine upto_takeN (i := 7) (v := (.bool false)) rfl (by kernel_rfl) (by kernel_rfl) (by kernel_rfl) (by kernel_rfl) (fun _ _ _ h => h) (by rfl) hS4 ?_ ?_
        · intro wS hSw
          try dsimp only at hSw
          go_simp
        try simp only [Act.put, List.getElem_toArray, List.getElem_cons_zero, List.getElem_cons_succ, List.setIfInBounds_toArray, List.set_cons_zero, List.set_cons_succ]
        refine upto_done (by kernel_rfl) ?_
        refine NoPanic.normal ?_
        have HS4 : Hid (SwSt w2 w4 (.slice p2 nd c2)) := hS4.1
        clear hS4 HS
        go_wp2
        exact ⟨⟨k + 1, by omega, by go_num, HS4⟩, by simp [intOf]; omega⟩
      · have hk3' : ¬ (k : Int) < 3 := by omega
        clear HT1 HT2
        have HB1 : Hid (∀ (W : World) (l : Leg), Below w2.heap.size w2 W → l ∈ xs → Calls Try.prog 11 #[.agg #[.slice p2 nd c2], .int .i64 l.sh, .int .i64 l.ac, .int .i64 l.ast] W fun e w' => e = .returned (.agg #[.int .i64 (balCode ⟨settleL gs xs⟩ l.sh l.ac l.ast), .int .i64 (balVal ⟨gs⟩ l.sh l.ac l.ast + l.am)]) ∧ Below W.heap.size W w') := fun W l hW hl => by
          have h := (settled_bal hc hl).1
          dsimp only at h
          rw [← h]
          exact implBalOf_any _ _ _ _ _ _ (HR.out W hW)
        have HB2 : Hid (∀ (W : World) (l : Leg), Below w2.heap.size w2 W → Calls Try.prog 11 #[.agg #[.slice p ng cc], .int .i64 l.sh, .int .i64 l.ac, .int .i64 l.ast] W fun e w' => e = .returned (.agg #[.int .i64 (balCode ⟨gs⟩ l.sh l.ac l.ast), .int .i64 (balVal ⟨gs⟩ l.sh l.ac l.ast)]) ∧ Below W.heap.size W w') := fun W l hW => implBalOf_any _ _ _ _ _ _ (HG.out W (bstep hB12 hW))
        have hn9 : n ≤ 9 := by have := HM.out.2; have := HN.out; omega
        have HS5 := HS
        obtain ⟨bl5, r05, r15⟩ := HS.out
        have k1r := cell_keep bl5 k1
        have k2r := cell_keep bl5 k2
        go_wp2
        clear k1r k2r bl5 r05 r15 HS
        go_loopw [7] (fun i W => ∃ j : Nat, j ≤ n ∧ i = .int .i64 j ∧ Hid (SwSt w2 W (.slice p2 nd c2))) (fun i _ => n - (intOf i).toNat)
        case atStart => exact ⟨0, by omega, rfl, HS5⟩
        case round =>
          clear HS5
          obtain ⟨j, hj, rfl, HS⟩ := hrel
          by_cases hjn : j < n
          · have hjn' : (j : Int) < n := by omega
            have hwj : IntKind.i64.wrap ((j : Int) + 1) = ((j + 1 : Nat) : Int) := by rw [wrapI _ (by omega) (by omega)]; omega
            obtain ⟨bl6, r06, r16⟩ := HS.out
            have k2r := cell_keep bl6 k2
            have g1r := cell_keep bl6 g1
            have hLV := HLg.out _ (bstep hB12 bl6)
            rw [← HN.out] at hLV
            obtain ⟨a9, c9, e9, _, _, h9⟩ := hLV
            rw [HN.out] at e9
            simp only [Value.slice.injEq, true_and] at e9
            obtain ⟨rfl, rfl⟩ := e9
            obtain ⟨b, o, rfl, hcl⟩ := h9 j (by rw [HN.out]; exact hjn)
            obtain ⟨l, hl⟩ : ∃ l, l = xs.getD j default := ⟨_, rfl⟩
            have hlm : l ∈ xs := by rw [hl]; have := HN.out; rw [List.getD_eq_getElem?_getD, List.getElem?_eq_getElem (by omega)]; simp
            rw [← hl] at hcl
            obtain ⟨q0, q1, q2, q3⟩ := hcl
            clear hl h9
            obtain ⟨_, bb0, bb1, ba0, ba1⟩ := settled_bal hc hlm
            obtain ⟨b0, hb0⟩ : ∃ b0, b0 = balVal ⟨gs⟩ l.sh l.ac l.ast := ⟨_, rfl⟩
            have H1 := fun W hW => HB1.out W l hW hlm
            have H2 := fun W hW => HB2.out W l hW
            rw [← hb0] at H1 H2 bb0 bb1
            have HH1 : Hid (∀ W, Below w2.heap.size w2 W → Calls Try.prog 11 #[.agg #[.slice p2 nd c2], .int .i64 l.sh, .int .i64 l.ac, .int .i64 l.ast] W fun e w' => e = .returned (.agg #[.int .i64 (balCode ⟨settleL gs xs⟩ l.sh l.ac l.ast), .int .i64 (b0 + l.am)]) ∧ Below W.heap.size W w') := H1
            have HH2 : Hid (∀ W, Below w2.heap.size w2 W → Calls Try.prog 11 #[.agg #[.slice p ng cc], .int .i64 l.sh, .int .i64 l.ac, .int .i64 l.ast] W fun e w' => e = .returned (.agg #[.int .i64 (balCode ⟨gs⟩ l.sh l.ac l.ast), .int .i64 b0]) ∧ Below W.heap.size W w') := H2
            have hwb : IntKind.i64.wrap (b0 + l.am) = b0 + l.am := wrapI _ (by omega) (by omega)
            clear H1 H2 hb0
            have hvf := valFieldS
            go_wp2
            refine wp_region_noPanic ?_
            refine region_upto (fun W => SwSt w2 W (.slice p2 nd c2) ∧ W.cell? ⟨w2.heap.size, 1, none⟩ = some (.slice p2 nd c2) ∧ W.cell? ⟨w1.heap.size, 0, none⟩ = some (.slice p ng cc) ∧ W.cell? ⟨wr.heap.size, 0, none⟩ = some (.int .i64 l.sh) ∧ W.cell? ⟨wr.heap.size, 1, none⟩ = some (.int .i64 l.ac) ∧ W.cell? ⟨wr.heap.size, 2, none⟩ = some (.int .i64 l.ast) ∧ W.cell? ⟨wr.heap.size, 3, none⟩ = some (.int .i64 l.am)) 23 (by kernel_rfl) ⟨HS.out.below (by (repeat (first | exact Below.refl _ _ | assumption | refine Below.drew ?_ | refine balloc ?_ _ | refine bset ?_ (by simp; omega) _ | refine bset ?_ (by simp) _ | refine bstep ?_ (by assumption)))), cell_keep (by (repeat (first | exact Below.refl _ _ | assumption | refine Below.drew ?_ | refine balloc ?_ _ | refine bset ?_ (by simp; omega) _ | refine bset ?_ (by simp) _ | refine bstep ?_ (by assumption)))) r16, cell_keep (by (repeat (first | exact Below.refl _ _ | assumption | refine Below.drew ?_ | refine balloc ?_ _ | refine bset ?_ (by simp; omega) _ | refine bset ?_ (by simp) _ | refine bstep ?_ (by assumption)))) g1r, by simp [go_sem], by simp [go_sem], by simp [go_sem], by simp [go_sem]⟩ (fun hS => ?_)
            refine upto_takeN (i := 0) (v := ?_) rfl (by kernel_rfl) (by kernel_rfl) (by kernel_rfl) (by kernel_rfl) (fun _ _ _ h => h) (by rfl) hS ?_ ?_
            rotate_left
            · intro wS hSw
              try dsimp only at hSw
              first | (go_simp; done) | (go_simp; with_reducible rfl)
            try simp only [Act.put, List.getElem_toArray, List.getElem_cons_zero, List.getElem_cons_succ, List.setIfInBounds_toArray, List.set_cons_zero, List.set_cons_succ]
            refine upto_takeN (i := 1) (v := ?_) rfl (by kernel_rfl) (by kernel_rfl) (by kernel_rfl) (by kernel_rfl) (fun _ _ _ h => h) (by rfl) hS ?_ ?_
            rotate_left
            · intro wS hSw
              try dsimp only at hSw
              first | (go_simp; done) | (go_simp; with_reducible rfl)
            try simp only [Act.put, List.getElem_toArray, List.getElem_cons_zero, List.getElem_cons_succ, List.setIfInBounds_toArray, List.set_cons_zero, List.set_cons_succ]
            refine upto_takeN (i := 2) (v := ?_) rfl (by kernel_rfl) (by kernel_rfl) (by kernel_rfl) (by kernel_rfl) (fun _ _ _ h => h) (by rfl) hS ?_ ?_
            rotate_left
            · intro wS hSw
              try dsimp only at hSw
              first | (go_simp; done) | (go_simp; with_reducible rfl)
            try simp only [Act.put, List.getElem_toArray, List.getElem_cons_zero, List.getElem_cons_succ, List.setIfInBounds_toArray, List.set_cons_zero, List.set_cons_succ]
            refine upto_takeN (i := 3) (v := ?_) rfl (by kernel_rfl) (by kernel_rfl) (by kernel_rfl) (by kernel_rfl) (fun _ _ _ h => h) (by rfl) hS ?_ ?_
            rotate_left
            · intro wS hSw
              try dsimp only at hSw
              first | (go_simp; done) | (go_simp; with_reducible rfl)
            try simp only [Act.put, List.getElem_toArray, List.getElem_cons_zero, List.getElem_cons_succ, List.setIfInBounds_toArray, List.set_cons_zero, List.set_cons_succ]
            refine upto_takeN (i := 4) (v := ?_) rfl (by kernel_rfl) (by kernel_rfl) (by kernel_rfl) (by kernel_rfl) (fun _ _ _ h => h) (by rfl) hS ?_ ?_
            rotate_left
            · intro wS hSw
              try dsimp only at hSw
              first | (go_simp; done) | (go_simp; with_reducible rfl)
            try simp only [Act.put, List.getElem_toArray, List.getElem_cons_zero, List.getElem_cons_succ, List.setIfInBounds_toArray, List.set_cons_zero, List.set_cons_succ]
            refine upto_takeN (i := 5) (v := ?_) rfl (by kernel_rfl) (by kernel_rfl) (by kernel_rfl) (by kernel_rfl) (fun _ _ _ h => h) (by rfl) hS ?_ ?_
            rotate_left
            · intro wS hSw
              try dsimp only at hSw
              first | (go_simp; done) | (go_simp; with_reducible rfl)
            try simp only [Act.put, List.getElem_toArray, List.getElem_cons_zero, List.getElem_cons_succ, List.setIfInBounds_toArray, List.set_cons_zero, List.set_cons_succ]
            refine upto_takeN (i := 6) (v := ?_) rfl (by kernel_rfl) (by kernel_rfl) (by kernel_rfl) (by kernel_rfl) (fun _ _ _ h => h) (by rfl) hS ?_ ?_
            rotate_left
            · intro wS hSw
              try dsimp only at hSw
              first | (go_simp; done) | (go_simp; with_reducible rfl)
            try simp only [Act.put, List.getElem_toArray, List.getElem_cons_zero, List.getElem_cons_succ, List.setIfInBounds_toArray, List.set_cons_zero, List.set_cons_succ]
            refine upto_takeN (i := 7) (v := ?_) rfl (by kernel_rfl) (by kernel_rfl) (by kernel_rfl) (by kernel_rfl) (fun _ _ _ h => h) (by rfl) hS ?_ ?_
            rotate_left
            · intro wS hSw
              try dsimp only at hSw
              first | (go_simp; done) | (go_simp; with_reducible rfl)
            try simp only [Act.put, List.getElem_toArray, List.getElem_cons_zero, List.getElem_cons_succ, List.setIfInBounds_toArray, List.set_cons_zero, List.set_cons_succ]
            refine upto_takeN (i := 10) (v := ?_) rfl (by kernel_rfl) (by kernel_rfl) (by kernel_rfl) (by kernel_rfl) (fun _ _ _ h => h) (by rfl) hS ?_ ?_
            rotate_left
            · intro wS hSw
              try dsimp only at hSw
              first | (go_simp; done) | (go_simp; with_reducible rfl)
            try simp only [Act.put, List.getElem_toArray, List.getElem_cons_zero, List.getElem_cons_succ, List.setIfInBounds_toArray, List.set_cons_zero, List.set_cons_succ]
            refine upto_takeN (i := 11) (v := ?_) rfl (by kernel_rfl) (by kernel_rfl) (by kernel_rfl) (by kernel_rfl) (fun _ _ _ h => h) (by rfl) hS ?_ ?_
            rotate_left
            · intro wS hSw
              try dsimp only at hSw
              first | (go_simp; done) | (go_simp; with_reducible rfl)
            try simp only [Act.put, List.getElem_toArray, List.getElem_cons_zero, List.getElem_cons_succ, List.setIfInBounds_toArray, List.set_cons_zero, List.set_cons_succ]
            refine upto_takeN (i := 12) (v := ?_) rfl (by kernel_rfl) (by kernel_rfl) (by kernel_rfl) (by kernel_rfl) (fun _ _ _ h => h) (by rfl) hS ?_ ?_
            rotate_left
            · intro wS hSw
              try dsimp only at hSw
              first | (go_simp; done) | (go_simp; with_reducible rfl)
            try simp only [Act.put, List.getElem_toArray, List.getElem_cons_zero, List.getElem_cons_succ, List.setIfInBounds_toArray, List.set_cons_zero, List.set_cons_succ]
            refine upto_takeN (i := 13) (v := ?_) rfl (by kernel_rfl) (by kernel_rfl) (by kernel_rfl) (by kernel_rfl) (fun _ _ _ h => h) (by rfl) hS ?_ ?_
            rotate_left
            · intro wS hSw
              try dsimp only at hSw
              first | (go_simp; done) | (go_simp; with_reducible rfl)
            try simp only [Act.put, List.getElem_toArray, List.getElem_cons_zero, List.getElem_cons_succ, List.setIfInBounds_toArray, List.set_cons_zero, List.set_cons_succ]
            refine upto_takeN (i := 14) (v := ?_) rfl (by kernel_rfl) (by kernel_rfl) (by kernel_rfl) (by kernel_rfl) (fun _ _ _ h => h) (by rfl) hS ?_ ?_
            rotate_left
            · intro wS hSw
              try dsimp only at hSw
              first | (go_simp; done) | (go_simp; with_reducible rfl)
            try simp only [Act.put, List.getElem_toArray, List.getElem_cons_zero, List.getElem_cons_succ, List.setIfInBounds_toArray, List.set_cons_zero, List.set_cons_succ]
            refine upto_takeN (i := 15) (v := ?_) rfl (by kernel_rfl) (by kernel_rfl) (by kernel_rfl) (by kernel_rfl) (fun _ _ _ h => h) (by rfl) hS ?_ ?_
            rotate_left
            · intro wS hSw
              try dsimp only at hSw
              first | (go_simp; done) | (go_simp; with_reducible rfl)
            try simp only [Act.put, List.getElem_toArray, List.getElem_cons_zero, List.getElem_cons_succ, List.setIfInBounds_toArray, List.set_cons_zero, List.set_cons_succ]
            refine upto_takeN (i := 16) (v := ?_) rfl (by kernel_rfl) (by kernel_rfl) (by kernel_rfl) (by kernel_rfl) (fun _ _ _ h => h) (by rfl) hS ?_ ?_
            rotate_left
            · intro wS hSw
              try dsimp only at hSw
              first | (go_simp; done) | (go_simp; with_reducible rfl)
            try simp only [Act.put, List.getElem_toArray, List.getElem_cons_zero, List.getElem_cons_succ, List.setIfInBounds_toArray, List.set_cons_zero, List.set_cons_succ]
            refine upto_takeN (i := 19) (v := ?_) rfl (by kernel_rfl) (by kernel_rfl) (by kernel_rfl) (by kernel_rfl) (fun _ _ _ h => h) (by rfl) hS ?_ ?_
            rotate_left
            · intro wS hSw
              try dsimp only at hSw
              first | (go_simp; done) | (go_simp; with_reducible rfl)
            try simp only [Act.put, List.getElem_toArray, List.getElem_cons_zero, List.getElem_cons_succ, List.setIfInBounds_toArray, List.set_cons_zero, List.set_cons_succ]
            refine upto_takeN (i := 20) (v := ?_) rfl (by kernel_rfl) (by kernel_rfl) (by kernel_rfl) (by kernel_rfl) (fun _ _ _ h => h) (by rfl) hS ?_ ?_
            rotate_left
            · intro wS hSw
              try dsimp only at hSw
              first | (go_simp; done) | (go_simp; with_reducible rfl)
            try simp only [Act.put, List.getElem_toArray, List.getElem_cons_zero, List.getElem_cons_succ, List.setIfInBounds_toArray, List.set_cons_zero, List.set_cons_succ]
            refine upto_step (i := 8) (by kernel_rfl) rfl ?_
            intro K hK
            go_simp
            refine (HH1.out _ hS.1.bl).mono ?_
            rintro e w3 ⟨rfl, hb3⟩
            have hS3 : SwSt w2 w3 (.slice p2 nd c2) ∧ w3.cell? ⟨w2.heap.size, 1, none⟩ = some (.slice p2 nd c2) ∧ w3.cell? ⟨w1.heap.size, 0, none⟩ = some (.slice p ng cc) ∧ w3.cell? ⟨wr.heap.size, 0, none⟩ = some (.int .i64 l.sh) ∧ w3.cell? ⟨wr.heap.size, 1, none⟩ = some (.int .i64 l.ac) ∧ w3.cell? ⟨wr.heap.size, 2, none⟩ = some (.int .i64 l.ast) ∧ w3.cell? ⟨wr.heap.size, 3, none⟩ = some (.int .i64 l.am) := ⟨hS.1.below hb3, cell_keep hb3 hS.2.1, cell_keep hb3 hS.2.2.1, cell_keep hb3 hS.2.2.2.1, cell_keep hb3 hS.2.2.2.2.1, cell_keep hb3 hS.2.2.2.2.2.1, cell_keep hb3 hS.2.2.2.2.2.2⟩
            refine hK _ _ (fun _ => hS3) ?_
            clear hK K hS hb3
            try simp only [Act.put, List.getElem_toArray, List.getElem_cons_zero, List.getElem_cons_succ, List.setIfInBounds_toArray, List.set_cons_zero, List.set_cons_succ]
            refine upto_takeN (i := 9) (v := ?_) rfl (by kernel_rfl) (by kernel_rfl) (by kernel_rfl) (by kernel_rfl) (fun _ _ _ h => h) (by rfl) hS3 ?_ ?_
            rotate_left
            · intro wS hSw
              try dsimp only at hSw
              first | (go_simp; done) | (go_simp; with_reducible rfl)
            try simp only [Act.put, List.getElem_toArray, List.getElem_cons_zero, List.getElem_cons_succ, List.setIfInBounds_toArray, List.set_cons_zero, List.set_cons_succ]
            refine upto_step (i := 17) (by kernel_rfl) rfl ?_
            intro K hK
            go_simp
            refine (HH2.out _ hS3.1.bl).mono ?_
            rintro e w4 ⟨rfl, hb4⟩
            have hS4 : SwSt w2 w4 (.slice p2 nd c2) ∧ w4.cell? ⟨w2.heap.size, 1, none⟩ = some (.slice p2 nd c2) ∧ w4.cell? ⟨w1.heap.size, 0, none⟩ = some (.slice p ng cc) ∧ w4.cell? ⟨wr.heap.size, 0, none⟩ = some (.int .i64 l.sh) ∧ w4.cell? ⟨wr.heap.size, 1, none⟩ = some (.int .i64 l.ac) ∧ w4.cell? ⟨wr.heap.size, 2, none⟩ = some (.int .i64 l.ast) ∧ w4.cell? ⟨wr.heap.size, 3, none⟩ = some (.int .i64 l.am) := ⟨hS3.1.below hb4, cell_keep hb4 hS3.2.1, cell_keep hb4 hS3.2.2.1, cell_keep hb4 hS3.2.2.2.1, cell_keep hb4 hS3.2.2.2.2.1, cell_keep hb4 hS3.2.2.2.2.2.1, cell_keep hb4 hS3.2.2.2.2.2.2⟩
            refine hK _ _ (fun _ => hS4) ?_
            clear hK K hS3 hb4
            try simp only [Act.put, List.getElem_toArray, List.getElem_cons_zero, List.getElem_cons_succ, List.setIfInBounds_toArray, List.set_cons_zero, List.set_cons_succ]
            refine upto_takeN (i := 18) (v := ?_) rfl (by kernel_rfl) (by kernel_rfl) (by kernel_rfl) (by kernel_rfl) (fun _ _ _ h => h) (by rfl) hS4 ?_ ?_
            rotate_left
            · intro wS hSw
              try dsimp only at hSw
              first | (go_simp; done) | (go_simp; with_reducible rfl)
            try simp only [Act.put, List.getElem_toArray, List.getElem_cons_zero, List.getElem_cons_succ, List.setIfInBounds_toArray, List.set_cons_zero, List.set_cons_succ]
            refine upto_takeN (i := 21) (v := ?_) rfl (by kernel_rfl) (by kernel_rfl) (by kernel_rfl) (by kernel_rfl) (fun _ _ _ h => h) (by rfl) hS4 ?_ ?_
            rotate_left
            · intro wS hSw
              try dsimp only at hSw
              first | (go_simp; done) | (go_simp; with_reducible rfl)
            try simp only [Act.put, List.getElem_toArray, List.getElem_cons_zero, List.getElem_cons_succ, List.setIfInBounds_toArray, List.set_cons_zero, List.set_cons_succ]
            refine upto_takeN (i := 22) (v := (.bool false)) rfl (by kernel_rfl) (by kernel_rfl) (by kernel_rfl) (by kernel_rfl) (fun _ _ _ h => h) (by rfl) hS4 ?_ ?_
            · intro wS hSw
              try dsimp only at hSw
              go_simp
            try simp only [Act.put, List.getElem_toArray, List.getElem_cons_zero, List.getElem_cons_succ, List.setIfInBounds_toArray, List.set_cons_zero, List.set_cons_succ]
            refine upto_done (by kernel_rfl) ?_
            refine NoPanic.normal ?_
            have HS4 : Hid (SwSt w2 w4 (.slice p2 nd c2)) := hS4.1
            clear hS4 HS
            go_wp2
            exact ⟨⟨j + 1, by omega, by go_num, HS4⟩, by simp [intOf]; omega⟩
          · have hjn' : ¬ (j : Int) < n := by omega
            have hcf : contractFault id xs = 0 := (canG_inv hc).2.1
            have htf := turn_faultS hcf (nid := 5) (by decide)
            obtain ⟨hb1, hb2⟩ := settled_back hc htf
            have HRev : Hid (∀ W, Below w2.heap.size w2 W → Calls Try.prog 12 #[.agg #[.int .i64 id, .slice pl n ql], .int .i64 5] W fun e w' => ∃ pr qr, e = .returned (.agg #[.int .i64 0, .int .i64 5, .slice pr n qr]) ∧ LegsV w' (.slice pr n qr) (turn xs) ∧ Below W.heap.size W w') := fun W hW => by
              refine (implReverseOf_any id _ xs 5 W (HLg.out W (bstep hB12 hW))).mono ?_
              have ho : revOk id xs 5 = true := by unfold revOk; rw [hcf]; rfl
              have r1 : revLegs id xs 5 = turn xs := by unfold revLegs; rw [if_pos ho]
              have r2 : revCode id xs 5 = 0 := by unfold revCode; rw [if_pos hcf, if_pos (by decide)]
              have r3 : revId id xs 5 = 5 := by unfold revId; rw [if_pos ho]
              rw [r1, r2, r3]
              rintro e w' ⟨v, rfl, ho, hb⟩
              have hLV := LegsV_of_owns ho
              obtain ⟨a9, c9, rfl, h9⟩ := hLV
              have hln : (turn xs).length = n := by rw [turn_len, HN.out]
              refine ⟨a9, c9, by rw [hln], ?_, hb⟩
              rw [← hln]
              exact ⟨a9, c9, rfl, h9⟩
            have HSet : Hid (∀ W pr qr, Below w2.heap.size w2 W → LegsV W (.slice pr n qr) (turn xs) → Calls Try.prog 7 #[.agg #[.slice p2 nd c2], .agg #[.int .i64 5, .slice pr n qr]] W fun e w' => ∃ p5 c5 F, e = .returned (.agg #[.int .i64 0, .slice p5 ng c5]) ∧ ledgR.O w' W.heap.size F (.agg #[.slice p5 ng c5]) ⟨gs⟩ ∧ Below W.heap.size W w') := fun W pr qr hW hL => by
              refine (implSettle_u _ _ ⟨settleL gs xs⟩ ⟨5, turn xs⟩ W (HR.out W hW) ⟨_, rfl, hL⟩).mono ?_
              have hsd2 : settleD ⟨settleL gs xs⟩ ⟨5, turn xs⟩ = ⟨0, ⟨gs⟩⟩ := by unfold settleD; rw [if_pos hb1]; dsimp only at hb2 ⊢; rw [hb2]
              rw [hsd2]
              rintro e w' ⟨v, F, rfl, o, hb⟩
              have hV := ledgRR.ofO o
              obtain ⟨p5, c5, rfl⟩ := ledgR_form hV
              obtain ⟨u, G, e, h, _⟩ := o
              simp only [Value.agg.injEq, Array.mk.injEq, List.cons.injEq, true_and, and_true] at e
              rw [← e] at h
              exact ⟨p5, c5, G, by rw [HNG.out], by rw [← HNG.out]; exact h, hb⟩
            have HLf : Hid (∀ W, Below w2.heap.size w2 W → Calls Try.prog 13 #[.agg #[.slice p2 nd c2]] W fun e w' => e = .returned (.int .i64 0) ∧ Below W.heap.size W w') := fun W hW => by
              have h := implLedFault_any _ _ W (HR.out W hW)
              have hz := (settled_ok hc).1
              dsimp only at hz
              rw [hz] at h
              exact h
            have HSm : Hid (∀ W p5 c5, Below w2.heap.size w2 W → ledgR.V W (.agg #[.slice p5 ng c5]) ⟨gs⟩ → Calls Try.prog 14 #[.agg #[.slice p5 ng c5], .agg #[.slice p ng cc]] W fun e w' => e = .returned (.bool true) ∧ Below W.heap.size W w') := fun W p5 c5 hW h5 => by
              have h := implSameL_any _ _ _ _ W h5 (HG.out W (bstep hB12 hW))
              rw [decide_eq_true rfl] at h
              exact h
            clear hb1 hb2 htf hcf HB1 HB2 HM hc
            have hvf := conFieldS
            obtain ⟨bl6, r06, r16⟩ := HS.out
            have k1r := cell_keep bl6 k1
            have k2r := cell_keep bl6 k2
            have g1r := cell_keep bl6 g1
            go_wp2
            refine wp_region_noPanic ?_
            refine region_upto (fun W => SwSt w2 W (.slice p2 nd c2) ∧ W.cell? ⟨w2.heap.size, 1, none⟩ = some (.slice p2 nd c2) ∧ W.cell? ⟨w1.heap.size + 1, 0, none⟩ = some (.int .i64 id) ∧ W.cell? ⟨w1.heap.size + 1, 1, none⟩ = some (.slice pl n ql)) 7 (by kernel_rfl) ⟨HS.out.below (Below.drew (Below.refl _ _)), r16, k1r, k2r⟩ (fun hS => ?_)
            refine upto_take (i := 0) (v := ?_) rfl (by kernel_rfl) (by kernel_rfl) (by kernel_rfl) (by kernel_rfl) (fun _ _ _ h => h) (by rfl) hS ?_ ?_
            rotate_left
            · intro wS hSw
              try dsimp only at hSw
              first | (go_simp; done) | (go_simp; with_reducible rfl)
            try simp only [Act.put, List.getElem_toArray, List.getElem_cons_zero, List.getElem_cons_succ, List.setIfInBounds_toArray, List.set_cons_zero, List.set_cons_succ]
            refine upto_take (i := 1) (v := ?_) rfl (by kernel_rfl) (by kernel_rfl) (by kernel_rfl) (by kernel_rfl) (fun _ _ _ h => h) (by rfl) hS ?_ ?_
            rotate_left
            · intro wS hSw
              try dsimp only at hSw
              first | (go_simp; done) | (go_simp; with_reducible rfl)
            try simp only [Act.put, List.getElem_toArray, List.getElem_cons_zero, List.getElem_cons_succ, List.setIfInBounds_toArray, List.set_cons_zero, List.set_cons_succ]
            refine upto_take (i := 2) (v := ?_) rfl (by kernel_rfl) (by kernel_rfl) (by kernel_rfl) (by kernel_rfl) (fun _ _ _ h => h) (by rfl) hS ?_ ?_
            rotate_left
            · intro wS hSw
              try dsimp only at hSw
              first | (go_simp; done) | (go_simp; with_reducible rfl)
            try simp only [Act.put, List.getElem_toArray, List.getElem_cons_zero, List.getElem_cons_succ, List.setIfInBounds_toArray, List.set_cons_zero, List.set_cons_succ]
            refine upto_two (i := 3) (j := 6) (by kernel_rfl) rfl rfl ?_ ?_
            · intro K hK
              go_simp
              refine (HRev.out _ hS.1.bl).mono ?_
              rintro e w3 ⟨pr, qr, rfl, hRV, hbw3⟩
              have sw3 : SwSt w2 w3 (.slice p2 nd c2) ∧ w3.cell? ⟨w2.heap.size, 1, none⟩ = some (.slice p2 nd c2) ∧ w3.cell? ⟨w1.heap.size + 1, 0, none⟩ = some (.int .i64 id) ∧ w3.cell? ⟨w1.heap.size + 1, 1, none⟩ = some (.slice pl n ql) := ⟨hS.1.below (hbw3), cell_keep (hbw3) hS.2.1, cell_keep (hbw3) hS.2.2.1, cell_keep (hbw3) hS.2.2.2⟩
              refine hK _ _ (fun _ => sw3) ?_
              clear hK K
              try simp only [Act.put, List.getElem_toArray, List.getElem_cons_zero, List.getElem_cons_succ, List.setIfInBounds_toArray, List.set_cons_zero, List.set_cons_succ]
              refine upto_take (i := 4) (v := ?_) rfl (by kernel_rfl) (by kernel_rfl) (by kernel_rfl) (by kernel_rfl) (fun _ _ _ h => h) (by rfl) sw3 ?_ ?_
              rotate_left
              · intro wS hSw
                try dsimp only at hSw
                first | (go_simp; done) | (go_simp; with_reducible rfl)
              try simp only [Act.put, List.getElem_toArray, List.getElem_cons_zero, List.getElem_cons_succ, List.setIfInBounds_toArray, List.set_cons_zero, List.set_cons_succ]
              refine upto_two (i := 5) (j := 6) (by kernel_rfl) rfl rfl ?_ ?_
              · intro K hK
                go_simp
                refine (HSet.out _ pr qr sw3.1.bl (hRV)).mono ?_
                rintro e w4 ⟨p5, c5, F5, rfl, hQw4, hbw4⟩
                have sw4 : SwSt w2 w4 (.slice p2 nd c2) ∧ w4.cell? ⟨w2.heap.size, 1, none⟩ = some (.slice p2 nd c2) ∧ w4.cell? ⟨w1.heap.size + 1, 0, none⟩ = some (.int .i64 id) ∧ w4.cell? ⟨w1.heap.size + 1, 1, none⟩ = some (.slice pl n ql) := ⟨sw3.1.below (hbw4), cell_keep (hbw4) sw3.2.1, cell_keep (hbw4) sw3.2.2.1, cell_keep (hbw4) sw3.2.2.2⟩
                refine hK _ _ (fun _ => sw4) ?_
                clear hK K
                try simp only [Act.put, List.getElem_toArray, List.getElem_cons_zero, List.getElem_cons_succ, List.setIfInBounds_toArray, List.set_cons_zero, List.set_cons_succ]
                refine upto_step (i := 6) (by kernel_rfl) rfl ?_
                intro K hK
                go_simp
                have s6 : SwSt w2 (w4.alloc (.cells #[.int .i64 0, .slice none 0 0] 33)) (.slice p2 nd c2) ∧ (w4.alloc (.cells #[.int .i64 0, .slice none 0 0] 33)).cell? ⟨w2.heap.size, 1, none⟩ = some (.slice p2 nd c2) ∧ (w4.alloc (.cells #[.int .i64 0, .slice none 0 0] 33)).cell? ⟨w1.heap.size + 1, 0, none⟩ = some (.int .i64 id) ∧ (w4.alloc (.cells #[.int .i64 0, .slice none 0 0] 33)).cell? ⟨w1.heap.size + 1, 1, none⟩ = some (.slice pl n ql) := ⟨sw4.1.below (balloc (Below.refl _ _) _), cell_keep (balloc (Below.refl _ _) _) sw4.2.1, cell_keep (balloc (Below.refl _ _) _) sw4.2.2.1, cell_keep (balloc (Below.refl _ _) _) sw4.2.2.2⟩
                have z0 : (w4.alloc (.cells #[.int .i64 0, .slice none 0 0] 33)).cell? ⟨w4.heap.size, 0, none⟩ = some (.int .i64 0) := by simp [go_sem]
                have z1 : (w4.alloc (.cells #[.int .i64 0, .slice none 0 0] 33)).cell? ⟨w4.heap.size, 1, none⟩ = some (.slice none 0 0) := by simp [go_sem]
                have zf : ∀ o, (w4.alloc (.cells #[.int .i64 0, .slice none 0 0] 33)).frozen? ⟨w4.heap.size, o, none⟩ = false := fun o => by simp [go_sem]
                refine hK _ _ (fun _ => s6) ?_
                clear hK K
                try simp only [Act.put, List.getElem_toArray, List.getElem_cons_zero, List.getElem_cons_succ, List.setIfInBounds_toArray, List.set_cons_zero, List.set_cons_succ]
                have bl9 : Below w2.heap.size w2 (w4.alloc (.cells #[.int .i64 0, .slice p5 ng c5] 33)) := bstep sw4.1.bl (balloc (Below.refl _ _) _)
                have rb9 : (w4.alloc (.cells #[.int .i64 0, .slice p5 ng c5] 33)).cell? ⟨w2.heap.size, 1, none⟩ = some (.slice p2 nd c2) := cell_keep (balloc (Below.refl _ _) _) sw4.2.1
                have gg9 : (w4.alloc (.cells #[.int .i64 0, .slice p5 ng c5] 33)).cell? ⟨w1.heap.size, 0, none⟩ = some (.slice p ng cc) := cell_keep (balloc (Below.refl _ _) _) (cell_keep sw4.1.bl g1)
                have x0 : (w4.alloc (.cells #[.int .i64 0, .slice p5 ng c5] 33)).cell? ⟨w4.heap.size, 0, none⟩ = some (.int .i64 0) := by simp [go_sem]
                have x1 : (w4.alloc (.cells #[.int .i64 0, .slice p5 ng c5] 33)).cell? ⟨w4.heap.size, 1, none⟩ = some (.slice p5 ng c5) := by simp [go_sem]
                have HQ9 : Hid (∀ W, Below (w4.alloc (.cells #[.int .i64 0, .slice p5 ng c5] 33)).heap.size (w4.alloc (.cells #[.int .i64 0, .slice p5 ng c5] 33)) W → ledgR.V W (.agg #[.slice p5 ng c5]) ⟨gs⟩) := fun W hW => ledgR.below (ledgR.ofO (ledgR.keep hQw4 (balloc (Below.refl _ _) _))) hW
                refine upto_step (i := 7) (by kernel_rfl) rfl ?_
                intro K hK
                go_simp
                refine hK _ _ (fun h => absurd rfl h) ?_
                clear hK K
                refine upto_done (by kernel_rfl) ?_
                refine NoPanic.normal ?_
                clear s6 z0 z1 zf
                generalize w4.alloc (.cells #[.int .i64 0, .slice p5 ng c5] 33) = w9 at *
                go_wp2_with fail
                refine (HLf.out _ bl9).mono ?_
                rintro e w10 ⟨rfl, hb10⟩
                replace x0 := cell_keep hb10 x0
                replace x1 := cell_keep hb10 x1
                replace gg9 := cell_keep hb10 gg9
                have bl10 : Below w2.heap.size w2 w10 := bstep bl9 hb10
                go_wp2_with fail
                refine (HSm.out _ p5 c5 bl10 (HQ9.out _ hb10)).mono ?_
                rintro e w11 ⟨rfl, hb11⟩
                have bl11 : Below w2.heap.size w2 w11 := bstep bl10 hb11
                go_wp2
                go_ret
                exact ⟨rfl, bstep hB2 bl11⟩
              · intro K hK
                go_simp
                have s6 : SwSt w2 (w3.alloc (.cells #[.int .i64 0, .slice none 0 0] 33)) (.slice p2 nd c2) ∧ (w3.alloc (.cells #[.int .i64 0, .slice none 0 0] 33)).cell? ⟨w2.heap.size, 1, none⟩ = some (.slice p2 nd c2) ∧ (w3.alloc (.cells #[.int .i64 0, .slice none 0 0] 33)).cell? ⟨w1.heap.size + 1, 0, none⟩ = some (.int .i64 id) ∧ (w3.alloc (.cells #[.int .i64 0, .slice none 0 0] 33)).cell? ⟨w1.heap.size + 1, 1, none⟩ = some (.slice pl n ql) := ⟨sw3.1.below (balloc (Below.refl _ _) _), cell_keep (balloc (Below.refl _ _) _) sw3.2.1, cell_keep (balloc (Below.refl _ _) _) sw3.2.2.1, cell_keep (balloc (Below.refl _ _) _) sw3.2.2.2⟩
                have z0 : (w3.alloc (.cells #[.int .i64 0, .slice none 0 0] 33)).cell? ⟨w3.heap.size, 0, none⟩ = some (.int .i64 0) := by simp [go_sem]
                have z1 : (w3.alloc (.cells #[.int .i64 0, .slice none 0 0] 33)).cell? ⟨w3.heap.size, 1, none⟩ = some (.slice none 0 0) := by simp [go_sem]
                have zf : ∀ o, (w3.alloc (.cells #[.int .i64 0, .slice none 0 0] 33)).frozen? ⟨w3.heap.size, o, none⟩ = false := fun o => by simp [go_sem]
                refine hK _ _ (fun _ => s6) ?_
                clear hK K
                try simp only [Act.put, List.getElem_toArray, List.getElem_cons_zero, List.getElem_cons_succ, List.setIfInBounds_toArray, List.set_cons_zero, List.set_cons_succ]
                refine upto_step (i := 5) (by kernel_rfl) rfl ?_
                intro K hK
                go_simp
                refine (HSet.out _ pr qr s6.1.bl (legsR.below hRV (balloc (Below.refl _ _) _))).mono ?_
                rintro e w4 ⟨p5, c5, F5, rfl, hQw4, hbw4⟩
                have sw4 : SwSt w2 w4 (.slice p2 nd c2) ∧ w4.cell? ⟨w2.heap.size, 1, none⟩ = some (.slice p2 nd c2) ∧ w4.cell? ⟨w1.heap.size + 1, 0, none⟩ = some (.int .i64 id) ∧ w4.cell? ⟨w1.heap.size + 1, 1, none⟩ = some (.slice pl n ql) := ⟨s6.1.below (hbw4), cell_keep (hbw4) s6.2.1, cell_keep (hbw4) s6.2.2.1, cell_keep (hbw4) s6.2.2.2⟩
                have zl := World.block_lt_of_cell? _ _ z0
                replace zf := fun o => Eq.trans ((bcell hbw4).2 _ _ zl) (zf o)
                replace z0 := cell_keep hbw4 z0
                replace z1 := cell_keep hbw4 z1
                clear zl
                refine hK _ _ (fun _ => sw4) ?_
                clear hK K
                try simp only [Act.put, List.getElem_toArray, List.getElem_cons_zero, List.getElem_cons_succ, List.setIfInBounds_toArray, List.set_cons_zero, List.set_cons_succ]
                have hmZ : Mod (fun b => b = w3.heap.size) (w4) ((w4.setCell ⟨w3.heap.size, 0, none⟩ (.int .i64 0)).setCell ⟨w3.heap.size, 1, none⟩ (.slice p5 ng c5)) := (Mod.of_set _ ⟨w3.heap.size, 0, none⟩ (.int .i64 0)).trans (Mod.of_set _ ⟨w3.heap.size, 1, none⟩ (.slice p5 ng c5))
                have bx1 : w2.heap.size < w3.heap.size := World.block_lt_of_cell? w3 _ sw3.1.r0
                have bl9 : Below w2.heap.size w2 ((w4.setCell ⟨w3.heap.size, 0, none⟩ (.int .i64 0)).setCell ⟨w3.heap.size, 1, none⟩ (.slice p5 ng c5)) := hmZ.below sw4.1.bl (sw4.1.bl.size) (fun b e => by omega)
                have rb9 : ((w4.setCell ⟨w3.heap.size, 0, none⟩ (.int .i64 0)).setCell ⟨w3.heap.size, 1, none⟩ (.slice p5 ng c5)).cell? ⟨w2.heap.size, 1, none⟩ = some (.slice p2 nd c2) := hmZ.cell sw4.2.1 (by dsimp only; omega)
                have gg9 : ((w4.setCell ⟨w3.heap.size, 0, none⟩ (.int .i64 0)).setCell ⟨w3.heap.size, 1, none⟩ (.slice p5 ng c5)).cell? ⟨w1.heap.size, 0, none⟩ = some (.slice p ng cc) := hmZ.cell (cell_keep sw4.1.bl g1) (by dsimp only; omega)
                have x0 : ((w4.setCell ⟨w3.heap.size, 0, none⟩ (.int .i64 0)).setCell ⟨w3.heap.size, 1, none⟩ (.slice p5 ng c5)).cell? ⟨w3.heap.size, 0, none⟩ = some (.int .i64 0) := by rw [set_other (by simp)]; exact set_same z0
                have x1 : ((w4.setCell ⟨w3.heap.size, 0, none⟩ (.int .i64 0)).setCell ⟨w3.heap.size, 1, none⟩ (.slice p5 ng c5)).cell? ⟨w3.heap.size, 1, none⟩ = some (.slice p5 ng c5) := set_same (by rw [set_other (by simp)]; exact z1)
                have Q9 := ledgR.ofO (ledgR.mod hQw4 hmZ (fun b hb e => by have := (ledgR.rng hQw4 b hb).1; first | omega | (simp at *; omega)))
                have HQ9 : Hid (∀ W, Below ((w4.setCell ⟨w3.heap.size, 0, none⟩ (.int .i64 0)).setCell ⟨w3.heap.size, 1, none⟩ (.slice p5 ng c5)).heap.size ((w4.setCell ⟨w3.heap.size, 0, none⟩ (.int .i64 0)).setCell ⟨w3.heap.size, 1, none⟩ (.slice p5 ng c5)) W → ledgR.V W (.agg #[.slice p5 ng c5]) ⟨gs⟩) := fun W hW => ledgR.below Q9 hW
                clear Q9 hmZ
                refine upto_step (i := 7) (by kernel_rfl) rfl ?_
                intro K hK
                go_simp
                refine hK _ _ (fun h => absurd rfl h) ?_
                clear hK K
                refine upto_done (by kernel_rfl) ?_
                refine NoPanic.normal ?_
                clear sw4 z0 z1 zf
                generalize (w4.setCell ⟨w3.heap.size, 0, none⟩ (.int .i64 0)).setCell ⟨w3.heap.size, 1, none⟩ (.slice p5 ng c5) = w9 at *
                go_wp2_with fail
                refine (HLf.out _ bl9).mono ?_
                rintro e w10 ⟨rfl, hb10⟩
                replace x0 := cell_keep hb10 x0
                replace x1 := cell_keep hb10 x1
                replace gg9 := cell_keep hb10 gg9
                have bl10 : Below w2.heap.size w2 w10 := bstep bl9 hb10
                go_wp2_with fail
                refine (HSm.out _ p5 c5 bl10 (HQ9.out _ hb10)).mono ?_
                rintro e w11 ⟨rfl, hb11⟩
                have bl11 : Below w2.heap.size w2 w11 := bstep bl10 hb11
                go_wp2
                go_ret
                exact ⟨rfl, bstep hB2 bl11⟩
            · intro K hK
              go_simp
              have s6 : SwSt w2 (wr.drew.alloc (.cells #[.int .i64 0, .slice none 0 0] 33)) (.slice p2 nd c2) ∧ (wr.drew.alloc (.cells #[.int .i64 0, .slice none 0 0] 33)).cell? ⟨w2.heap.size, 1, none⟩ = some (.slice p2 nd c2) ∧ (wr.drew.alloc (.cells #[.int .i64 0, .slice none 0 0] 33)).cell? ⟨w1.heap.size + 1, 0, none⟩ = some (.int .i64 id) ∧ (wr.drew.alloc (.cells #[.int .i64 0, .slice none 0 0] 33)).cell? ⟨w1.heap.size + 1, 1, none⟩ = some (.slice pl n ql) := ⟨hS.1.below (balloc (Below.refl _ _) _), cell_keep (balloc (Below.refl _ _) _) hS.2.1, cell_keep (balloc (Below.refl _ _) _) hS.2.2.1, cell_keep (balloc (Below.refl _ _) _) hS.2.2.2⟩
              have z0 : (wr.drew.alloc (.cells #[.int .i64 0, .slice none 0 0] 33)).cell? ⟨wr.heap.size, 0, none⟩ = some (.int .i64 0) := by simp [go_sem]
              have z1 : (wr.drew.alloc (.cells #[.int .i64 0, .slice none 0 0] 33)).cell? ⟨wr.heap.size, 1, none⟩ = some (.slice none 0 0) := by simp [go_sem]
              have zf : ∀ o, (wr.drew.alloc (.cells #[.int .i64 0, .slice none 0 0] 33)).frozen? ⟨wr.heap.size, o, none⟩ = false := fun o => by simp [go_sem]
              refine hK _ _ (fun _ => s6) ?_
              clear hK K
              try simp only [Act.put, List.getElem_toArray, List.getElem_cons_zero, List.getElem_cons_succ, List.setIfInBounds_toArray, List.set_cons_zero, List.set_cons_succ]
              refine upto_step (i := 3) (by kernel_rfl) rfl ?_
              intro K hK
              go_simp
              refine (HRev.out _ s6.1.bl).mono ?_
              rintro e w3 ⟨pr, qr, rfl, hRV, hbw3⟩
              have sw3 : SwSt w2 w3 (.slice p2 nd c2) ∧ w3.cell? ⟨w2.heap.size, 1, none⟩ = some (.slice p2 nd c2) ∧ w3.cell? ⟨w1.heap.size + 1, 0, none⟩ = some (.int .i64 id) ∧ w3.cell? ⟨w1.heap.size + 1, 1, none⟩ = some (.slice pl n ql) := ⟨s6.1.below (hbw3), cell_keep (hbw3) s6.2.1, cell_keep (hbw3) s6.2.2.1, cell_keep (hbw3) s6.2.2.2⟩
              have zl := World.block_lt_of_cell? _ _ z0
              replace zf := fun o => Eq.trans ((bcell hbw3).2 _ _ zl) (zf o)
              replace z0 := cell_keep hbw3 z0
              replace z1 := cell_keep hbw3 z1
              clear zl
              have zs3 := World.block_lt_of_cell? _ _ z0
              dsimp only at zs3
              refine hK _ _ (fun _ => sw3) ?_
              clear hK K
              try simp only [Act.put, List.getElem_toArray, List.getElem_cons_zero, List.getElem_cons_succ, List.setIfInBounds_toArray, List.set_cons_zero, List.set_cons_succ]
              refine upto_take (i := 4) (v := ?_) rfl (by kernel_rfl) (by kernel_rfl) (by kernel_rfl) (by kernel_rfl) (fun _ _ _ h => h) (by rfl) sw3 ?_ ?_
              rotate_left
              · intro wS hSw
                try dsimp only at hSw
                first | (go_simp; done) | (go_simp; with_reducible rfl)
              try simp only [Act.put, List.getElem_toArray, List.getElem_cons_zero, List.getElem_cons_succ, List.setIfInBounds_toArray, List.set_cons_zero, List.set_cons_succ]
              refine upto_step (i := 5) (by kernel_rfl) rfl ?_
              intro K hK
              go_simp
              refine (HSet.out _ pr qr sw3.1.bl (hRV)).mono ?_
              rintro e w4 ⟨p5, c5, F5, rfl, hQw4, hbw4⟩
              have sw4 : SwSt w2 w4 (.slice p2 nd c2) ∧ w4.cell? ⟨w2.heap.size, 1, none⟩ = some (.slice p2 nd c2) ∧ w4.cell? ⟨w1.heap.size + 1, 0, none⟩ = some (.int .i64 id) ∧ w4.cell? ⟨w1.heap.size + 1, 1, none⟩ = some (.slice pl n ql) := ⟨sw3.1.below (hbw4), cell_keep (hbw4) sw3.2.1, cell_keep (hbw4) sw3.2.2.1, cell_keep (hbw4) sw3.2.2.2⟩
              have zl := World.block_lt_of_cell? _ _ z0
              replace zf := fun o => Eq.trans ((bcell hbw4).2 _ _ zl) (zf o)
              replace z0 := cell_keep hbw4 z0
              replace z1 := cell_keep hbw4 z1
              clear zl
              refine hK _ _ (fun _ => sw4) ?_
              clear hK K
              try simp only [Act.put, List.getElem_toArray, List.getElem_cons_zero, List.getElem_cons_succ, List.setIfInBounds_toArray, List.set_cons_zero, List.set_cons_succ]
              have hmZ : Mod (fun b => b = wr.heap.size) (w4) ((w4.setCell ⟨wr.heap.size, 0, none⟩ (.int .i64 0)).setCell ⟨wr.heap.size, 1, none⟩ (.slice p5 ng c5)) := (Mod.of_set _ ⟨wr.heap.size, 0, none⟩ (.int .i64 0)).trans (Mod.of_set _ ⟨wr.heap.size, 1, none⟩ (.slice p5 ng c5))
              have bx1 : w2.heap.size < wr.heap.size := World.block_lt_of_cell? wr _ r06
              have bl9 : Below w2.heap.size w2 ((w4.setCell ⟨wr.heap.size, 0, none⟩ (.int .i64 0)).setCell ⟨wr.heap.size, 1, none⟩ (.slice p5 ng c5)) := hmZ.below sw4.1.bl (sw4.1.bl.size) (fun b e => by omega)
              have rb9 : ((w4.setCell ⟨wr.heap.size, 0, none⟩ (.int .i64 0)).setCell ⟨wr.heap.size, 1, none⟩ (.slice p5 ng c5)).cell? ⟨w2.heap.size, 1, none⟩ = some (.slice p2 nd c2) := hmZ.cell sw4.2.1 (by dsimp only; omega)
              have gg9 : ((w4.setCell ⟨wr.heap.size, 0, none⟩ (.int .i64 0)).setCell ⟨wr.heap.size, 1, none⟩ (.slice p5 ng c5)).cell? ⟨w1.heap.size, 0, none⟩ = some (.slice p ng cc) := hmZ.cell (cell_keep sw4.1.bl g1) (by dsimp only; omega)
              have x0 : ((w4.setCell ⟨wr.heap.size, 0, none⟩ (.int .i64 0)).setCell ⟨wr.heap.size, 1, none⟩ (.slice p5 ng c5)).cell? ⟨wr.heap.size, 0, none⟩ = some (.int .i64 0) := by rw [set_other (by simp)]; exact set_same z0
              have x1 : ((w4.setCell ⟨wr.heap.size, 0, none⟩ (.int .i64 0)).setCell ⟨wr.heap.size, 1, none⟩ (.slice p5 ng c5)).cell? ⟨wr.heap.size, 1, none⟩ = some (.slice p5 ng c5) := set_same (by rw [set_other (by simp)]; exact z1)
              have Q9 := ledgR.ofO (ledgR.mod hQw4 hmZ (fun b hb e => by have := (ledgR.rng hQw4 b hb).1; first | omega | (simp at *; omega)))
              have HQ9 : Hid (∀ W, Below ((w4.setCell ⟨wr.heap.size, 0, none⟩ (.int .i64 0)).setCell ⟨wr.heap.size, 1, none⟩ (.slice p5 ng c5)).heap.size ((w4.setCell ⟨wr.heap.size, 0, none⟩ (.int .i64 0)).setCell ⟨wr.heap.size, 1, none⟩ (.slice p5 ng c5)) W → ledgR.V W (.agg #[.slice p5 ng c5]) ⟨gs⟩) := fun W hW => ledgR.below Q9 hW
              clear Q9 hmZ
              refine upto_step (i := 7) (by kernel_rfl) rfl ?_
              intro K hK
              go_simp
              refine hK _ _ (fun h => absurd rfl h) ?_
              clear hK K
              refine upto_done (by kernel_rfl) ?_
              refine NoPanic.normal ?_
              clear sw4 z0 z1 zf
              generalize (w4.setCell ⟨wr.heap.size, 0, none⟩ (.int .i64 0)).setCell ⟨wr.heap.size, 1, none⟩ (.slice p5 ng c5) = w9 at *
              go_wp2_with fail
              refine (HLf.out _ bl9).mono ?_
              rintro e w10 ⟨rfl, hb10⟩
              replace x0 := cell_keep hb10 x0
              replace x1 := cell_keep hb10 x1
              replace gg9 := cell_keep hb10 gg9
              have bl10 : Below w2.heap.size w2 w10 := bstep bl9 hb10
              go_wp2_with fail
              refine (HSm.out _ p5 c5 bl10 (HQ9.out _ hb10)).mono ?_
              rintro e w11 ⟨rfl, hb11⟩
              have bl11 : Below w2.heap.size w2 w11 := bstep bl10 hb11
              go_wp2
              go_ret
              exact ⟨rfl, bstep hB2 bl11⟩
  · have hcc : dc = canG ⟨gs⟩ ⟨id, xs⟩ := by rw [HDC.out]; unfold settleD; rw [if_neg hc]
    have hc0 : dc ≠ 0 := by rw [hcc]; exact hc
    have HCS : Hid (∀ W, Below w1.heap.size w1 W → Calls Try.prog 8 #[.agg #[.slice p ng cc], .agg #[.int .i64 id, .slice pl n ql]] W fun e w' => e = .returned (.int .i64 dc) ∧ Below W.heap.size W w') := fun W hW => by rw [hcc]; exact specCan_any _ _ _ _ _ (HG.out W hW) (HC.out W hW)
    have HCI : Hid (∀ W, Below w1.heap.size w1 W → Calls Try.prog 9 #[.agg #[.slice p ng cc], .agg #[.int .i64 id, .slice pl n ql]] W fun e w' => e = .returned (.int .i64 dc) ∧ Below W.heap.size W w') := fun W hW => by rw [hcc]; exact implCan_any _ _ _ _ _ (HG.out W hW) (HC.out W hW)
    clear hcc hc HDC
    go_wp2
    refine wp_region_noPanic ?_
    refine region_upto (fun W => Below w2.heap.size w2 W ∧ W.cell? ⟨w1.heap.size, 0, none⟩ = some (.slice p ng cc) ∧ W.cell? ⟨w1.heap.size + 1, 0, none⟩ = some (.int .i64 id) ∧ W.cell? ⟨w1.heap.size + 1, 1, none⟩ = some (.slice pl n ql) ∧ W.cell? ⟨w2.heap.size, 0, none⟩ = some (.int .i64 dc)) 15 (by kernel_rfl) ⟨by (repeat (first | exact Below.refl _ _ | assumption | refine Below.drew ?_ | refine balloc ?_ _ | refine bset ?_ (by simp; omega) _ | refine bset ?_ (by simp) _ | refine bstep ?_ (by assumption))), cell_keep (by (repeat (first | exact Below.refl _ _ | assumption | refine Below.drew ?_ | refine balloc ?_ _ | refine bset ?_ (by simp; omega) _ | refine bset ?_ (by simp) _ | refine bstep ?_ (by assumption)))) g1, cell_keep (by (repeat (first | exact Below.refl _ _ | assumption | refine Below.drew ?_ | refine balloc ?_ _ | refine bset ?_ (by simp; omega) _ | refine bset ?_ (by simp) _ | refine bstep ?_ (by assumption)))) k1, cell_keep (by (repeat (first | exact Below.refl _ _ | assumption | refine Below.drew ?_ | refine balloc ?_ _ | refine bset ?_ (by simp; omega) _ | refine bset ?_ (by simp) _ | refine bstep ?_ (by assumption)))) k2, by simp [go_sem]⟩ (fun hS => ?_)
    refine upto_takeN (i := 0) (v := ?_) rfl (by kernel_rfl) (by kernel_rfl) (by kernel_rfl) (by kernel_rfl) (fun _ _ _ h => h) (by rfl) hS ?_ ?_
    rotate_left
    · intro wS hSw
      try dsimp only at hSw
      first | (go_simp; done) | (go_simp; with_reducible rfl)
    try simp only [Act.put, List.getElem_toArray, List.getElem_cons_zero, List.getElem_cons_succ, List.setIfInBounds_toArray, List.set_cons_zero, List.set_cons_succ]
    refine upto_takeN (i := 1) (v := ?_) rfl (by kernel_rfl) (by kernel_rfl) (by kernel_rfl) (by kernel_rfl) (fun _ _ _ h => h) (by rfl) hS ?_ ?_
    rotate_left
    · intro wS hSw
      try dsimp only at hSw
      first | (go_simp; done) | (go_simp; with_reducible rfl)
    try simp only [Act.put, List.getElem_toArray, List.getElem_cons_zero, List.getElem_cons_succ, List.setIfInBounds_toArray, List.set_cons_zero, List.set_cons_succ]
    refine upto_takeN (i := 3) (v := ?_) rfl (by kernel_rfl) (by kernel_rfl) (by kernel_rfl) (by kernel_rfl) (fun _ _ _ h => h) (by rfl) hS ?_ ?_
    rotate_left
    · intro wS hSw
      try dsimp only at hSw
      first | (go_simp; done) | (go_simp; with_reducible rfl)
    try simp only [Act.put, List.getElem_toArray, List.getElem_cons_zero, List.getElem_cons_succ, List.setIfInBounds_toArray, List.set_cons_zero, List.set_cons_succ]
    refine upto_takeN (i := 4) (v := ?_) rfl (by kernel_rfl) (by kernel_rfl) (by kernel_rfl) (by kernel_rfl) (fun _ _ _ h => h) (by rfl) hS ?_ ?_
    rotate_left
    · intro wS hSw
      try dsimp only at hSw
      first | (go_simp; done) | (go_simp; with_reducible rfl)
    try simp only [Act.put, List.getElem_toArray, List.getElem_cons_zero, List.getElem_cons_succ, List.setIfInBounds_toArray, List.set_cons_zero, List.set_cons_succ]
    refine upto_step (i := 2) (by kernel_rfl) rfl ?_
    intro K hK
    go_simp
    refine (HCS.out _ (by (repeat (first | exact Below.refl _ _ | assumption | refine Below.drew ?_ | refine balloc ?_ _ | refine bset ?_ (by simp; omega) _ | refine bset ?_ (by simp) _ | refine bstep ?_ (by assumption))))).mono ?_
    rintro e w3 ⟨rfl, hb3⟩
    have hS3 := (⟨bstep hS.1 hb3, cell_keep hb3 hS.2.1, cell_keep hb3 hS.2.2.1, cell_keep hb3 hS.2.2.2.1, cell_keep hb3 hS.2.2.2.2⟩ : Below w2.heap.size w2 w3 ∧ w3.cell? ⟨w1.heap.size, 0, none⟩ = some (.slice p ng cc) ∧ w3.cell? ⟨w1.heap.size + 1, 0, none⟩ = some (.int .i64 id) ∧ w3.cell? ⟨w1.heap.size + 1, 1, none⟩ = some (.slice pl n ql) ∧ w3.cell? ⟨w2.heap.size, 0, none⟩ = some (.int .i64 dc))
    refine hK _ _ (fun _ => hS3) ?_
    clear hK K hS hb3
    try simp only [Act.put, List.getElem_toArray, List.getElem_cons_zero, List.getElem_cons_succ, List.setIfInBounds_toArray, List.set_cons_zero, List.set_cons_succ]
    refine upto_takeN (i := 5) (v := (.bool true)) rfl (by kernel_rfl) (by kernel_rfl) (by kernel_rfl) (by kernel_rfl) (fun _ _ _ h => h) (by rfl) hS3 ?_ ?_
    · intro wS hSw
      try dsimp only at hSw
      go_simp
    try simp only [Act.put, List.getElem_toArray, List.getElem_cons_zero, List.getElem_cons_succ, List.setIfInBounds_toArray, List.set_cons_zero, List.set_cons_succ]
    refine upto_takeN (i := 6) (v := ?_) rfl (by kernel_rfl) (by kernel_rfl) (by kernel_rfl) (by kernel_rfl) (fun _ _ _ h => h) (by rfl) hS3 ?_ ?_
    rotate_left
    · intro wS hSw
      try dsimp only at hSw
      first | (go_simp; done) | (go_simp; with_reducible rfl)
    try simp only [Act.put, List.getElem_toArray, List.getElem_cons_zero, List.getElem_cons_succ, List.setIfInBounds_toArray, List.set_cons_zero, List.set_cons_succ]
    refine upto_takeN (i := 7) (v := ?_) rfl (by kernel_rfl) (by kernel_rfl) (by kernel_rfl) (by kernel_rfl) (fun _ _ _ h => h) (by rfl) hS3 ?_ ?_
    rotate_left
    · intro wS hSw
      try dsimp only at hSw
      first | (go_simp; done) | (go_simp; with_reducible rfl)
    try simp only [Act.put, List.getElem_toArray, List.getElem_cons_zero, List.getElem_cons_succ, List.setIfInBounds_toArray, List.set_cons_zero, List.set_cons_succ]
    refine upto_takeN (i := 8) (v := ?_) rfl (by kernel_rfl) (by kernel_rfl) (by kernel_rfl) (by kernel_rfl) (fun _ _ _ h => h) (by rfl) hS3 ?_ ?_
    rotate_left
    · intro wS hSw
      try dsimp only at hSw
      first | (go_simp; done) | (go_simp; with_reducible rfl)
    try simp only [Act.put, List.getElem_toArray, List.getElem_cons_zero, List.getElem_cons_succ, List.setIfInBounds_toArray, List.set_cons_zero, List.set_cons_succ]
    refine upto_takeN (i := 10) (v := ?_) rfl (by kernel_rfl) (by kernel_rfl) (by kernel_rfl) (by kernel_rfl) (fun _ _ _ h => h) (by rfl) hS3 ?_ ?_
    rotate_left
    · intro wS hSw
      try dsimp only at hSw
      first | (go_simp; done) | (go_simp; with_reducible rfl)
    try simp only [Act.put, List.getElem_toArray, List.getElem_cons_zero, List.getElem_cons_succ, List.setIfInBounds_toArray, List.set_cons_zero, List.set_cons_succ]
    refine upto_takeN (i := 11) (v := ?_) rfl (by kernel_rfl) (by kernel_rfl) (by kernel_rfl) (by kernel_rfl) (fun _ _ _ h => h) (by rfl) hS3 ?_ ?_
    rotate_left
    · intro wS hSw
      try dsimp only at hSw
      first | (go_simp; done) | (go_simp; with_reducible rfl)
    try simp only [Act.put, List.getElem_toArray, List.getElem_cons_zero, List.getElem_cons_succ, List.setIfInBounds_toArray, List.set_cons_zero, List.set_cons_succ]
    refine upto_step (i := 9) (by kernel_rfl) rfl ?_
    intro K hK
    go_simp
    have hb23 := hS3.1
    refine (HCI.out _ (by (repeat (first | exact Below.refl _ _ | assumption | refine Below.drew ?_ | refine balloc ?_ _ | refine bset ?_ (by simp; omega) _ | refine bset ?_ (by simp) _ | refine bstep ?_ (by assumption))))).mono ?_
    rintro e w4 ⟨rfl, hb4⟩
    have hS4 := (⟨bstep hS3.1 hb4, cell_keep hb4 hS3.2.1, cell_keep hb4 hS3.2.2.1, cell_keep hb4 hS3.2.2.2.1, cell_keep hb4 hS3.2.2.2.2⟩ : Below w2.heap.size w2 w4 ∧ w4.cell? ⟨w1.heap.size, 0, none⟩ = some (.slice p ng cc) ∧ w4.cell? ⟨w1.heap.size + 1, 0, none⟩ = some (.int .i64 id) ∧ w4.cell? ⟨w1.heap.size + 1, 1, none⟩ = some (.slice pl n ql) ∧ w4.cell? ⟨w2.heap.size, 0, none⟩ = some (.int .i64 dc))
    refine hK _ _ (fun _ => hS4) ?_
    clear hK K hS3 hb4
    try simp only [Act.put, List.getElem_toArray, List.getElem_cons_zero, List.getElem_cons_succ, List.setIfInBounds_toArray, List.set_cons_zero, List.set_cons_succ]
    refine upto_takeN (i := 12) (v := (.bool true)) rfl (by kernel_rfl) (by kernel_rfl) (by kernel_rfl) (by kernel_rfl) (fun _ _ _ h => h) (by rfl) hS4 ?_ ?_
    · intro wS hSw
      try dsimp only at hSw
      go_simp
    try simp only [Act.put, List.getElem_toArray, List.getElem_cons_zero, List.getElem_cons_succ, List.setIfInBounds_toArray, List.set_cons_zero, List.set_cons_succ]
    refine upto_takeN (i := 13) (v := ?_) rfl (by kernel_rfl) (by kernel_rfl) (by kernel_rfl) (by kernel_rfl) (fun _ _ _ h => h) (by rfl) hS4 ?_ ?_
    rotate_left
    · intro wS hSw
      try dsimp only at hSw
      first | (go_simp; done) | (go_simp; with_reducible rfl)
    try simp only [Act.put, List.getElem_toArray, List.getElem_cons_zero, List.getElem_cons_succ, List.setIfInBounds_toArray, List.set_cons_zero, List.set_cons_succ]
    refine upto_takeN (i := 14) (v := ?_) rfl (by kernel_rfl) (by kernel_rfl) (by kernel_rfl) (by kernel_rfl) (fun _ _ _ h => h) (by rfl) hS4 ?_ ?_
    rotate_left
    · intro wS hSw
      try dsimp only at hSw
      first | (go_simp; done) | (go_simp; with_reducible rfl)
    try simp only [Act.put, List.getElem_toArray, List.getElem_cons_zero, List.getElem_cons_succ, List.setIfInBounds_toArray, List.set_cons_zero, List.set_cons_succ]
    refine upto_done (by kernel_rfl) ?_
    refine NoPanic.normal ?_
    have hb24 := hS4.1
    clear hS4
    go_wp2
    go_ret
    exact ⟨rfl, by (repeat (first | exact Below.refl _ _ | assumption | refine Below.drew ?_ | refine balloc ?_ _ | refine bset ?_ (by simp; omega) _ | refine bset ?_ (by simp) _ | refine bstep ?_ (by assumption)))⟩
end settlesLaw
end Go.Proofs.Ytgjpafalompecaa


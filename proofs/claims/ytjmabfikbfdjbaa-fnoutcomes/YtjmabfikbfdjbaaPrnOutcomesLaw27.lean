import Derived.Test.YtjmabfikbfdjbaaPrnOutcomesLaw12
import Derived.Test.YtjmabfikbfdjbaaPrnOutcomesLaw22
import Derived.Test.YtjmabfikbfdjbaaPrnOutcomesLaw26
import Derived.BigQuiet
import Derived.Deep.QuietTactic
import Derived.Deep.RegionHeld3
import Derived.Test.YtjmabfikbfdjbaaPrnOutcomesLaw17
import Derived.Shelf.SlSortCmp.WholeK
import Derived.Ground.SlsfProg
import Derived.Test.YtjmabfikbfdjbaaProg
import Derived.Shelf.SlSortCmp.NoneTotal

/-
  ChosenAt, the program's.
-/
set_option linter.unusedSimpArgs false
set_option linter.unusedVariables false
namespace Go.Proofs.Ytjmabfikbfdjbaa
open Go.RowKit Go.Maps
set_option linter.unusedSectionVars false
variable [DecidableEq Vot] [Inhabited Vot] [DecidableEq Slt] [Inhabited Slt] [DecidableEq SltR] [Inhabited SltR] [DecidableEq Bal] [Inhabited Bal] [DecidableEq Ledg] [Inhabited Ledg] [DecidableEq Leg] [Inhabited Leg] [DecidableEq Acc] [Inhabited Acc] [DecidableEq AccR] [Inhabited AccR] [DecidableEq AccsR] [Inhabited AccsR] [DecidableEq SltsR] [Inhabited SltsR]
attribute [local go_sem ↓] Go.wp_at_zero Go.wp_at_succ

def MostE (B : Nat) (ys : List Vot) (w : World) (e : Ending) (w' : World) : Prop := e = .returned (.int .i64 (hdV ys)) ∧ (∃ m f, m ≤ 600 ∧ Bkv w' B m f) ∧ Mod (fun b => b = B) w w'
set_option maxRecDepth 20000 in
set_option maxHeartbeats 8000000 in
theorem most_any (hSV : SortsV) (B : Nat) (x : Value) (p2 : Option Addr) (q2 : Nat) (l : List Acc) (c s : Int) (ys : List Vot) (w0 w : World) (hx : accsR.V w0 x l) (hb0 : Below w0.heap.size w0 w) (hB0 : w0.heap.size ≤ B) (hl : ListOk l) (hid : idOk c s = true) (hys : Chs (slotsL l c s) ys)
    (hv : sltR.V w0 (.agg #[.int .i64 c, .int .i64 s, .int .i64 (-1), .int .i64 (-1), .int .i64 0, .slice p2 0 q2]) (freS c s)) (hBk : Bkv w B 0 (fun _ => none)) :
    Calls Try.prog 35 #[.map (some B), x, .agg #[.int .i64 c, .int .i64 s, .int .i64 (-1), .int .i64 (-1), .int .i64 0, .slice p2 0 q2]] w (MostE B ys w) := by
  have HV : Hid (∀ W, sltR.V W (.agg #[.int .i64 c, .int .i64 s, .int .i64 (-1), .int .i64 (-1), .int .i64 0, .slice p2 0 q2]) (freS c s)) := fun W => freS_V hv W
  have HSV : Hid SortsV := hSV
  have hok : Hid (AllOk (slotsL l c s)) := chs_slots hl hid
  have HU : Hid (∀ zs, Chs (slotsL l c s) zs → zs = ys) := fun zs h => chs_unique h hys
  have HOk : Hid (∀ k, k < l.length → AccOk (l.getD k default).slots) := fun k hk => accOk_of (hl.ok k hk)
  have HLn : Hid ((slotsL l c s).length = l.length) := slotsL_len l c s
  have HAt : Hid (∀ k, k < l.length → (slotsL l c s).getD k default = slotO (l.getD k default).slots (freS c s)) := fun k hk => slotsL_at l c s hk
  have hlo := hl.lo
  have hhi := hl.hi
  have h19 : inB (l.length : Int) 1 9 = true := inBi.2 (by omega)
  obtain ⟨a, cx, rfl, hcx, hmx, hx⟩ := accs_at hx
  unfold maxLen at hmx
  have hXs : Hid (∀ k, k < l.length → ∃ b o p q, a = some ⟨b, o, none⟩ ∧ w0.cell? ⟨b, o + k, none⟩ = some (.slice p (l.getD k default).slots.length q) ∧ accR.V w0 (.agg #[.slice p (l.getD k default).slots.length q]) (l.getD k default)) := hx
  clear hx hv hSV hl hys hid
  obtain ⟨n, hn'⟩ : ∃ n, n = l.length := ⟨_, rfl⟩
  rw [← hn'] at hcx hXs HOk HLn HAt hlo hhi h19 ⊢
  clear hn'
  obtain ⟨D, hD⟩ : ∃ D, D = slotsL l c s := ⟨_, rfl⟩
  rw [← hD] at hok HU HLn HAt
  clear hD
  rw [← cB_start D] at hBk
  have hBw : B < w.heap.size := hBk.lt
  have HBk0 : Hid (Bkv w B 0 (cB D 0 0)) := hBk
  clear hBk
  go_enter Try.func35, Try.ntmps35
  go_wp2
  go_loopw [12] (fun ii w' => ∃ i m' : Nat, i ≤ n ∧ ii = .int .i64 i ∧ m' ≤ i * 60 ∧ Bkv w' B m' (cB D i 0) ∧ (w'.cell? ⟨w.heap.size, 0, none⟩ = some (.int .i64 c) ∧ w'.cell? ⟨w.heap.size, 1, none⟩ = some (.int .i64 s) ∧ w'.cell? ⟨w.heap.size, 2, none⟩ = some (.int .i64 (-1)) ∧ w'.cell? ⟨w.heap.size, 3, none⟩ = some (.int .i64 (-1)) ∧ w'.cell? ⟨w.heap.size, 4, none⟩ = some (.int .i64 0) ∧ w'.cell? ⟨w.heap.size, 5, none⟩ = some (.slice p2 0 q2)) ∧ Mod (fun b => b = B) w w') (fun ii _ => n - (intOf ii).toNat)
  case atStart => exact ⟨0, 0, Nat.zero_le _, rfl, by omega, HBk0.out.below (by (repeat (first | exact Below.refl _ _ | assumption | refine Below.drew ?_ | refine balloc ?_ _ | refine bset ?_ (by simp; omega) _ | refine bset ?_ (by simp) _ | refine bstep ?_ (by assumption)))), by simp [go_sem], (Mod.refl _ w).alloc _⟩
  case round =>
    clear HBk0
    obtain ⟨i, m', hi, rfl, hm', hBk, ⟨t0, t1, t2, t3, t4, t5⟩, hmod⟩ := hrel
    have HBk : Hid (Bkv wr B m' (cB D i 0)) := hBk
    clear hBk
    have hb0r : Below w0.heap.size w0 wr := hmod.below hb0 hb0.size (fun b hb => by omega)
    have zt : w.heap.size < wr.heap.size := World.block_lt_of_cell? wr _ t0
    by_cases hlt : i < n
    · obtain ⟨b, o, p, q, rfl, hc, hV⟩ := hXs.out i hlt
      have hcr := cell_keep hb0r hc
      have zb : b < wr.heap.size := World.block_lt_of_cell? wr _ hcr
      have HSo : Hid (∀ W, Below wr.heap.size wr W → Calls Try.prog 66 #[.agg #[.slice p (l.getD i default).slots.length q], .agg #[.int .i64 c, .int .i64 s, .int .i64 (-1), .int .i64 (-1), .int .i64 0, .slice p2 0 q2]] W fun e w' => ∃ v, e = .returned v ∧ sltR.V w' v (D.getD i default) ∧ Below W.heap.size W w') := fun W hW => by
        rw [HAt.out i hlt]
        exact slotOr_any _ _ (l.getD i default) (freS c s) W (accR.below hV (bstep hb0r hW)) (HV.out W) (HOk.out i hlt)
      have HAdd : Hid (∀ W v, Below wr.heap.size wr W → sltR.V W v (D.getD i default) → Calls Try.prog 65 #[.map (some B), v] W (AddE B i D W)) := fun W v hW hv => tallyAdd_any B v D i m' W hv (by rw [HLn.out]; exact hlt) (hok.out i (by rw [HLn.out]; exact hlt)) (HBk.out.below hW) hm' (by omega)
      clear hc hV
      generalize (l.getD i default).slots.length = m at *
      go_wp2_with fail
      refine (HSo.out _ (by (repeat (first | exact Below.refl _ _ | assumption | refine Below.drew ?_ | refine balloc ?_ _ | refine bset ?_ (by simp; omega) _ | refine bset ?_ (by simp) _ | refine bstep ?_ (by assumption))))).mono ?_
      rintro e w2 ⟨v2, rfl, hv2, hb2⟩
      have hB2 : Below wr.heap.size wr w2 := by (repeat (first | exact Below.refl _ _ | assumption | refine Below.drew ?_ | refine balloc ?_ _ | refine bset ?_ (by simp; omega) _ | refine bset ?_ (by simp) _ | refine bstep ?_ (by assumption)))
      have HA2 : Hid (Calls Try.prog 65 #[.map (some B), v2] w2 (AddE B i D w2)) := HAdd.out w2 v2 hB2 hv2
      clear hb2 hv2 HSo HAdd HBk hcr
      go_wp2_with fail
      refine HA2.out.mono ?_
      rintro e w3 ⟨rfl, m3, hm3, hB3, hmod3⟩
      have hz2 := hB2.size
      have hne : w.heap.size ≠ B := by omega
      replace t0 := hmod3.cell (cell_keep hB2 t0) hne
      replace t1 := hmod3.cell (cell_keep hB2 t1) hne
      replace t2 := hmod3.cell (cell_keep hB2 t2) hne
      replace t3 := hmod3.cell (cell_keep hB2 t3) hne
      replace t4 := hmod3.cell (cell_keep hB2 t4) hne
      replace t5 := hmod3.cell (cell_keep hB2 t5) hne
      have hmod4 : Mod (fun b => b = B) w w3 := (hmod.trans (Mod.of_below hB2)).trans hmod3
      have HB3 : Hid (Bkv w3 B m3 (cB D (i + 1) 0)) := hB3
      clear hB3 hmod3 hmod hB2 HA2
      go_wp2
      exact ⟨⟨i + 1, m3, by omega, by go_num, hm3, HB3.out, ⟨t0, t1, t2, t3, t4, t5⟩, hmod4⟩, by simp [intOf]; omega⟩
    · have hin : i = n := by omega
      subst hin
      have HCh : Hid (Calls Try.prog 67 #[.map (some B), .int .i64 i] wr fun e w' => ChE D wr e w') := tallyChosen_any HSV.out B m' i D wr HBk.out hm' HLn.out hok.out h19
      clear t0 t1 t2 t3 t4 t5
      go_wp2_with fail
      refine HCh.out.mono ?_
      rintro e w2 ⟨v2, zs, rfl, hv2, hz, hb2⟩
      obtain rfl := HU.out zs hz
      have hmod2 : Mod (fun b => b = B) w w2 := hmod.trans (Mod.of_below hb2)
      have HB2 : Hid (∃ m f, m ≤ 600 ∧ Bkv w2 B m f) := ⟨m', _, by omega, HBk.out.below hb2⟩
      clear hz hb2 HCh hmod HBk
      obtain ⟨a2, c2, rfl, hc2, hm2, hv2⟩ := hv2
      unfold maxLen at hm2
      by_cases h0 : zs.length = 0
      · have HR : Hid (hdV zs = 0) := by show _ = _; unfold hdV; rw [if_pos h0]
        rw [h0]
        clear hv2
        go_wp2
        go_ret
        exact ⟨by rw [HR.out]; rfl, HB2.out, hmod2⟩
      · have HR : Hid (hdV zs = (zs.getD 0 default).val) := by show _ = _; unfold hdV; rw [if_neg h0]
        obtain ⟨b, o, rfl, g⟩ := hv2 0 (by omega)
        simp only [Nat.zero_mul, Nat.add_zero] at g
        have g1 := g.1
        have g2 := g.2
        clear g hv2
        generalize (zs.getD 0 default).val = y at *
        generalize (zs.getD 0 default).bal = y' at *
        generalize zs.length = m at *
        have h0' : ((m : Int) == 0) = false := by simp; omega
        have i0 : (0 : Int) < m := by omega
        go_wp2
        go_ret
        exact ⟨by rw [HR.out]; rfl, HB2.out, hmod2⟩
end Go.Proofs.Ytjmabfikbfdjbaa

/-
  OutcomeOf, the program's.
-/
set_option linter.unusedSimpArgs false
set_option linter.unusedVariables false
namespace Go.Proofs.Ytjmabfikbfdjbaa
open Go.RowKit Go.Maps
set_option linter.unusedSectionVars false
variable [DecidableEq Vot] [Inhabited Vot] [DecidableEq Slt] [Inhabited Slt] [DecidableEq SltR] [Inhabited SltR] [DecidableEq Bal] [Inhabited Bal] [DecidableEq Ledg] [Inhabited Ledg] [DecidableEq Leg] [Inhabited Leg] [DecidableEq Acc] [Inhabited Acc] [DecidableEq AccR] [Inhabited AccR] [DecidableEq AccsR] [Inhabited AccsR] [DecidableEq SltsR] [Inhabited SltsR] [DecidableEq Cont] [Inhabited Cont]
attribute [local go_sem ↓] Go.wp_at_zero Go.wp_at_succ

set_option maxRecDepth 20000 in
set_option maxHeartbeats 8000000 in
theorem implOutcome_any (hSV : SortsV) (x y : Value) (l : List Acc) (c : Cont) (ysf : Int → List Vot) (w : World) (hx : accsR.V w x l) (hy : contR.V w y c) (hys : outC l c = 0 → ∀ s, s ∈ shardsL c.legs → Chs (slotsL l c.id s) (ysf s)) :
    Calls Try.prog 11 #[x, y] w fun e w' => e = .returned (.agg #[.int .i64 (outC l c), .int .i64 (outR l c ysf)]) ∧ Below w.heap.size w w' := by
  obtain ⟨uy, rfl, hy⟩ := hy
  have HLf : Hid (∀ W, Below w.heap.size w W → Calls Try.prog 34 #[x] W fun e w' => e = .returned (.int .i64 (listF l)) ∧ Below W.heap.size W w') := fun W hW => implListF_any x l W (accsR.below hx hW)
  have HSh : Hid (∀ W, Below w.heap.size w W → Calls Try.prog 7 #[.agg #[.int .i64 c.id, uy]] W fun e w' => ∃ v, e = .returned (.agg #[.int .i64 (shCode c.id c.legs), v]) ∧ w'.ownsRow W.heap.size 2 1 v (shList c.id c.legs).length (intsC (shList c.id c.legs)) ∧ Below W.heap.size W w') := fun W hW => implShardsOf_any c.id uy c.legs W (legsR.below hy hW)
  have HMo : Hid (∀ B W0 W p2 q2 s, Below w.heap.size w W0 → Below W0.heap.size W0 W → W0.heap.size ≤ B → outC l c = 0 → s ∈ shardsL c.legs → sltR.V W0 (.agg #[.int .i64 c.id, .int .i64 s, .int .i64 (-1), .int .i64 (-1), .int .i64 0, .slice p2 0 q2]) (freS c.id s) → Bkv W B 0 (fun _ => none) → Calls Try.prog 35 #[.map (some B), x, .agg #[.int .i64 c.id, .int .i64 s, .int .i64 (-1), .int .i64 (-1), .int .i64 0, .slice p2 0 q2]] W (MostE B (ysf s) W)) := fun B W0 W p2 q2 s h0 h1 h2 h3 hs h4 h5 => most_any hSV B x p2 q2 l c.id s (ysf s) W0 W (accsR.below hx h0) h1 h2 (listOk_of (outC_ok h3).1) (cf_id (outC_ok h3).2 hs) (hys h3 s hs) h4 h5
  obtain ⟨a, cx, rfl⟩ := accs_form hx
  obtain ⟨ay, cy, rfl⟩ := legs_form hy
  clear hx hy hys hSV
  generalize l.length = n at *
  have hK0 : Hid (∀ e, listF l = e → ¬ e = 0 → outC l c = e ∧ outR l c ysf = 0) := fun e h h0 => by
    have h1 : outC l c = e := by unfold outC; rw [if_neg (by rw [h]; exact h0), h]
    exact ⟨h1, by unfold outR; rw [h1, if_neg h0]⟩
  have hK1 : Hid (∀ e, listF l = 0 → contractFault c.id c.legs = e → ¬ e = 0 → outC l c = e ∧ outR l c ysf = 0) := fun e h h2 h0 => by
    have h1 : outC l c = e := by unfold outC; rw [if_pos h, h2]
    exact ⟨h1, by unfold outR; rw [h1, if_neg h0]⟩
  have hK2 : Hid (listF l = 0 → contractFault c.id c.legs = 0 → outC l c = 0 ∧ outR l c ysf = outV (fun s => hdV (ysf s)) (shardsL c.legs)) := fun h h2 => by
    have h1 : outC l c = 0 := by unfold outC; rw [if_pos h, h2]
    exact ⟨h1, by unfold outR; rw [if_pos h1]⟩
  generalize c.legs.length = ny at *
  go_enter Try.func11, Try.ntmps11
  go_wp2_with fail
  refine (HLf.out _ (by (repeat (first | exact Below.refl _ _ | assumption | refine Below.drew ?_ | refine balloc ?_ _ | refine bset ?_ (by simp; omega) _ | refine bset ?_ (by simp) _ | refine bstep ?_ (by assumption))))).mono ?_
  rintro e w1 ⟨rfl, hb1⟩
  have hB1 : Below w.heap.size w w1 := by (repeat (first | exact Below.refl _ _ | assumption | refine Below.drew ?_ | refine balloc ?_ _ | refine bset ?_ (by simp; omega) _ | refine bset ?_ (by simp) _ | refine bstep ?_ (by assumption)))
  have hz1 := hb1.size
  simp at hz1
  obtain ⟨c1, f1⟩ := bcell hb1
  have y0 : w1.cell? ⟨w.heap.size, 0, none⟩ = some (.int .i64 c.id) := cell_keep hb1 (by simp [go_sem])
  have y1 : w1.cell? ⟨w.heap.size, 1, none⟩ = some (.slice ay ny cy) := cell_keep hb1 (by simp [go_sem])
  have r0 : w1.cell? ⟨w.heap.size + 1, 0, none⟩ = some (.int .i64 0) := cell_keep hb1 (by simp [go_sem])
  have r1 : w1.cell? ⟨w.heap.size + 1, 1, none⟩ = some (.int .i64 0) := cell_keep hb1 (by simp [go_sem])
  have rf : ∀ o, w1.frozen? ⟨w.heap.size + 1, o, none⟩ = false := fun o => by rw [f1 _ _ (by simp; try omega)]; simp [go_sem]
  clear hb1 c1 f1 HLf
  have zr : w.heap.size + 1 < w1.heap.size := World.block_lt_of_cell? w1 _ r0
  by_cases hf : listF l = 0
  rotate_left
  · obtain ⟨HC1, HC2⟩ := hK0.out _ rfl hf
    have H1 : Hid (outC l c = listF l) := HC1
    have H2 : Hid (outR l c ysf = 0) := HC2
    clear HC1 HC2 hK0 hK1 hK2 HSh HMo
    generalize listF l = g at *
    have hg' : (g != 0) = true := by simp [hf]
    go_wp2
    exact bodyPost_ret (v := .agg #[.int .i64 g, .int .i64 0]) (by simp [results, Try.results11, go_sem, r0, r1, rf]) rfl ⟨by rw [H1.out, H2.out], by (repeat (first | refine bset ?_ (by simp; omega) _ | refine bset ?_ (by simp) _ | refine balloc ?_ _ | assumption))⟩
  rw [hf]
  go_wp2_with fail
  refine (HSh.out _ hB1).mono ?_
  rintro e w2 ⟨v2, rfl, ho2, hb2⟩
  have hB2 : Below w.heap.size w w2 := bstep hB1 hb2
  have hz2 := hb2.size
  replace y0 := cell_keep hb2 y0
  replace y1 := cell_keep hb2 y1
  replace r0 := cell_keep hb2 r0
  replace r1 := cell_keep hb2 r1
  replace rf : ∀ o, w2.frozen? ⟨w.heap.size + 1, o, none⟩ = false := fun o => by rw [(bcell hb2).2 _ _ zr]; exact rf o
  clear hb2 HSh
  have zr2 : w.heap.size + 1 < w2.heap.size := World.block_lt_of_cell? w2 _ r0
  have zy2 : w.heap.size < w2.heap.size := World.block_lt_of_cell? w2 _ y0
  by_cases hcf : contractFault c.id c.legs = 0
  rotate_left
  · obtain ⟨HC1, HC2⟩ := hK1.out _ hf rfl hcf
    have H1 : Hid (outC l c = contractFault c.id c.legs) := HC1
    have H2 : Hid (outR l c ysf = 0) := HC2
    have e1 : shCode c.id c.legs = contractFault c.id c.legs := rfl
    rw [e1]
    obtain ⟨a2, c2, rfl⟩ := owns_form ho2
    clear HC1 HC2 hK0 hK1 hK2 HMo ho2 e1
    generalize (shList c.id c.legs).length = m at *
    generalize contractFault c.id c.legs = g at *
    have hg' : (g != 0) = true := by simp [hcf]
    go_wp2
    exact bodyPost_ret (v := .agg #[.int .i64 g, .int .i64 0]) (by simp [results, Try.results11, go_sem, r0, r1, rf, zr2, Nat.ne_of_lt zr2]) rfl ⟨by rw [H1.out, H2.out], by (repeat (first | refine bset ?_ (by simp; omega) _ | refine bset ?_ (by simp) _ | refine balloc ?_ _ | assumption))⟩
  have e1 : shCode c.id c.legs = 0 := hcf
  have e2 : shList c.id c.legs = shardsL c.legs := if_pos hcf
  rw [e1]
  rw [e2] at ho2
  obtain ⟨HC1, HC2⟩ := hK2.out hf hcf
  have H1 : Hid (outC l c = 0) := HC1
  have H2 : Hid (outR l c ysf = outV (fun s => hdV (ysf s)) (shardsL c.legs)) := HC2
  have HID : Hid (∀ s, s ∈ shardsL c.legs → idOk c.id s = true) := fun s hs => cf_id hcf hs
  clear HC1 HC2 hK0 hK1 hK2 e1 e2 hf hcf
  obtain ⟨a2, c2, rfl, hc2, hm2, hi2⟩ := IntsV_of_owns ho2
  unfold maxLen at hm2
  have HI : Hid (∀ i, i < (shardsL c.legs).length → ∃ b o, a2 = some ⟨b, o, none⟩ ∧ w2.cell? ⟨b, o + i, none⟩ = some (.int .i64 ((shardsL c.legs).getD i 0))) := hi2
  have HMem : Hid (∀ i, i < (shardsL c.legs).length → (shardsL c.legs).getD i 0 ∈ shardsL c.legs) := fun i hi => sh_mem hi
  have HHit : Hid (∀ k, k < (shardsL c.legs).length → hdV (ysf ((shardsL c.legs).getD k 0)) = 2 → outR l c ysf = 2) := fun k hk h => by rw [H2.out]; exact outV_hit (f := fun s => hdV (ysf s)) hk h
  have HEnd : Hid ((∀ k, k < (shardsL c.legs).length → ¬ hdV (ysf ((shardsL c.legs).getD k 0)) = 2) → outR l c ysf = outA (fun s => hdV (ysf s)) (shardsL c.legs) (shardsL c.legs).length) := fun h => by rw [H2.out]; exact outV_end (f := fun s => hdV (ysf s)) h
  have hlen3 : (shardsL c.legs).length ≤ 3 := sl_le _ _ _
  have HM1 : Hid (∀ B W0 W p2 q2 s, Below w.heap.size w W0 → Below W0.heap.size W0 W → W0.heap.size ≤ B → s ∈ shardsL c.legs → sltR.V W0 (.agg #[.int .i64 c.id, .int .i64 s, .int .i64 (-1), .int .i64 (-1), .int .i64 0, .slice p2 0 q2]) (freS c.id s) → Bkv W B 0 (fun _ => none) → Calls Try.prog 35 #[.map (some B), .slice a n cx, .agg #[.int .i64 c.id, .int .i64 s, .int .i64 (-1), .int .i64 (-1), .int .i64 0, .slice p2 0 q2]] W (MostE B (ysf s) W)) := fun B W0 W p2 q2 s h0 h1 h2 hs h4 h5 => HMo.out B W0 W p2 q2 s h0 h1 h2 H1.out hs h4 h5
  clear ho2 hi2 H2 HMo
  generalize shardsL c.legs = shs at *
  obtain ⟨m, hm'⟩ : ∃ m, m = shs.length := ⟨_, rfl⟩
  rw [← hm'] at hc2 HI HMem HHit HEnd hlen3 ⊢
  clear hm'
  have hmm := @run_makeMap Try.prog
  have hBm := bkv_made (w2.alloc (.cells #[.int .i64 0, .slice a2 m c2] 30))
  simp only [World.size_alloc] at hBm
  have hslot := slotField
  go_wp2
  clear hmm
  have hbb : Below w2.heap.size w2 ((w2.alloc (.cells #[.int .i64 0, .slice a2 m c2] 30)).alloc (.map #[] 0)) := by (repeat (first | exact Below.refl _ _ | assumption | refine Below.drew ?_ | refine balloc ?_ _ | refine bset ?_ (by simp; omega) _ | refine bset ?_ (by simp) _ | refine bstep ?_ (by assumption)))
  have HBm : Hid (∃ mq f, mq ≤ 600 ∧ Bkv ((w2.alloc (.cells #[.int .i64 0, .slice a2 m c2] 30)).alloc (.map #[] 0)) (w2.heap.size + 1) mq f) := ⟨0, _, by omega, hBm⟩
  clear hBm
  go_loopw [7, 29] (fun t i w' => ∃ k : Nat, k ≤ m ∧ i = .int .i64 k ∧ t = .int .i64 (outA (fun s => hdV (ysf s)) shs k) ∧ Hid (∀ j, j < k → ¬ hdV (ysf (shs.getD j 0)) = 2) ∧ Hid (∃ m f, m ≤ 600 ∧ Bkv w' (w2.heap.size + 1) m f) ∧ Below w2.heap.size w2 w') (fun t i _ => m - (intOf i).toNat)
  case atStart => exact ⟨0, Nat.zero_le _, rfl, rfl, fun j h => absurd h (Nat.not_lt_zero _), HBm, hbb⟩
  case round =>
    clear HBm hbb
    obtain ⟨k, hk, rfl, rfl, HP, HB, hbl⟩ := hrel
    have zz := hbl.size
    replace y0 := cell_keep hbl y0
    replace r0 := cell_keep hbl r0
    replace r1 := cell_keep hbl r1
    replace rf : ∀ o, wr.frozen? ⟨w.heap.size + 1, o, none⟩ = false := fun o => by rw [(bcell hbl).2 _ _ zr2]; exact rf o
    by_cases hlt : k < m
    · obtain ⟨b, o, rfl, hc⟩ := HI.out k hlt
      have hms := HMem.out k hlt
      have HHk : Hid (hdV (ysf (shs.getD k 0)) = 2 → outR l c ysf = 2) := HHit.out k hlt
      have HA : Hid (outA (fun s => hdV (ysf s)) shs (k + 1) = if hdV (ysf (shs.getD k 0)) = 0 then 0 else outA (fun s => hdV (ysf s)) shs k) := rfl
      have HP2 : Hid (¬ hdV (ysf (shs.getD k 0)) = 2 → ∀ j, j < k + 1 → ¬ hdV (ysf (shs.getD j 0)) = 2) := fun h j hj => by
        by_cases e : j = k
        · subst e; exact h
        · exact HP.out j (by omega)
      replace hc := cell_keep hbl hc
      have zb : b < wr.heap.size := World.block_lt_of_cell? wr _ hc
      obtain ⟨mm, ff, hmm, hBk⟩ := HB.out
      obtain ⟨w3, hr3, hB3, hm3⟩ := bkv_clear2 hBk
      have hBlt : w2.heap.size + 1 < wr.heap.size := hBk.lt
      have HNw : Hid (∀ W, Calls Try.prog 36 #[.int .i64 c.id, .int .i64 (shs.getD k 0)] W (NewE c.id (shs.getD k 0) W)) := fun W => implNew_ok c.id (shs.getD k 0) W (HID.out _ hms)
      have HM2 : Hid (∀ W0 W p2 q2, Below w.heap.size w W0 → Below W0.heap.size W0 W → W0.heap.size ≤ w2.heap.size + 1 → sltR.V W0 (.agg #[.int .i64 c.id, .int .i64 (shs.getD k 0), .int .i64 (-1), .int .i64 (-1), .int .i64 0, .slice p2 0 q2]) (freS c.id (shs.getD k 0)) → Bkv W (w2.heap.size + 1) 0 (fun _ => none) → Calls Try.prog 35 #[.map (some (w2.heap.size + 1)), .slice a n cx, .agg #[.int .i64 c.id, .int .i64 (shs.getD k 0), .int .i64 (-1), .int .i64 (-1), .int .i64 0, .slice p2 0 q2]] W (MostE (w2.heap.size + 1) (ysf (shs.getD k 0)) W)) := fun W0 W p2 q2 h0 h1 h2 h4 h5 => HM1.out _ W0 W p2 q2 _ h0 h1 h2 hms h4 h5
      have hB3' : Below w2.heap.size w2 w3 := hm3.below hbl zz (fun b hb => by omega)
      have HB3 : Hid (Bkv w3 (w2.heap.size + 1) 0 (fun _ => none)) := hB3
      have y03 : w3.cell? ⟨w.heap.size, 0, none⟩ = some (.int .i64 c.id) := hm3.cell y0 (by dsimp only; omega)
      have r03 : w3.cell? ⟨w.heap.size + 1, 0, none⟩ = some (.int .i64 0) := hm3.cell r0 (by dsimp only; omega)
      have r13 : w3.cell? ⟨w.heap.size + 1, 1, none⟩ = some (.int .i64 0) := hm3.cell r1 (by dsimp only; omega)
      have rf3 : ∀ o, w3.frozen? ⟨w.heap.size + 1, o, none⟩ = false := fun o => (World.frozen?_of_block (hm3.block (w.heap.size + 1) (by omega) (by omega))).trans (rf o)
      clear hms hB3 hBk hm3 HB
      generalize shs.getD k 0 = sh at *
      generalize outA (fun s => hdV (ysf s)) shs k = T at *
      go_wp2_with (first | (at_builtin; refine wpl_clear rfl _ 79 rfl _ rfl (hr3 _) ?_) | fail)
      refine (HNw.out _).mono ?_
      rintro e w4 ⟨p4, q4, F4, rfl, o4, hb4⟩
      have HM4 : Hid (Calls Try.prog 35 #[.map (some (w2.heap.size + 1)), .slice a n cx, .agg #[.int .i64 c.id, .int .i64 sh, .int .i64 (-1), .int .i64 (-1), .int .i64 0, .slice p4 0 q4]] w4 (MostE (w2.heap.size + 1) (ysf sh) w4)) := HM2.out w2 w4 p4 q4 hB2 (bstep hB3' hb4) (by omega) (freS_V (sltR.ofO o4) w2) (HB3.out.below hb4)
      clear HNw HM2 o4
      go_wp2_with fail
      refine HM4.out.mono ?_
      rintro e w5 ⟨rfl, hB5, hm5⟩
      have hz4 := hb4.size
      have hz3 := hB3'.size
      have hB5' : Below w2.heap.size w2 w5 := hm5.below (bstep hB3' hb4) (by omega) (fun b hb => by omega)
      have HB5 : Hid (∃ m f, m ≤ 600 ∧ Bkv w5 (w2.heap.size + 1) m f) := hB5
      have r05 : w5.cell? ⟨w.heap.size + 1, 0, none⟩ = some (.int .i64 0) := hm5.cell (cell_keep hb4 r03) (by dsimp only; omega)
      have r15 : w5.cell? ⟨w.heap.size + 1, 1, none⟩ = some (.int .i64 0) := hm5.cell (cell_keep hb4 r13) (by dsimp only; omega)
      have rf5 : ∀ o, w5.frozen? ⟨w.heap.size + 1, o, none⟩ = false := fun o => (World.frozen?_of_block (hm5.block (w.heap.size + 1) (by omega) (by omega))).trans (by rw [(bcell hb4).2 _ _ (by omega)]; exact rf3 o)
      clear hB5 hm5 hb4 HM4
      generalize hdV (ysf sh) = g at *
      by_cases h2 : g = 2
      · have HC : Hid (outR l c ysf = 2) := HHk.out h2
        subst h2
        have hB6 : Below w.heap.size w w5 := bstep hB2 hB5'
        go_wp2
        exact bodyPost_ret (v := .agg #[.int .i64 0, .int .i64 2]) (by simp [results, Try.results11, go_sem, r05, r15, rf5]) rfl ⟨by rw [H1.out, HC.out], by (repeat (first | refine bset ?_ (by simp; omega) _ | refine bset ?_ (by simp) _ | refine balloc ?_ _ | assumption))⟩
      · have HP3 := HP2.out h2
        have HP4 : Hid (∀ j, j < k + 1 → ¬ hdV (ysf (shs.getD j 0)) = 2) := HP3
        clear HP3
        have h2' : (g == 2) = false := by simp [h2]
        by_cases h0 : g = 0
        · have HA0 : Hid (outA (fun s => hdV (ysf s)) shs (k + 1) = 0) := by show _ = _; rw [HA.out, if_pos h0]
          subst h0
          go_wp2
          exact ⟨⟨k + 1, by omega, by go_num, by rw [HA0.out], HP4, HB5, hB5'⟩, by simp [intOf]; omega⟩
        · have HA0 : Hid (outA (fun s => hdV (ysf s)) shs (k + 1) = T) := by show _ = _; rw [HA.out, if_neg h0]
          have h0' : (g == 0) = false := by simp [h0]
          go_wp2
          exact ⟨⟨k + 1, by omega, by go_num, by rw [HA0.out], HP4, HB5, hB5'⟩, by simp [intOf]; omega⟩
    · have hkm : k = m := by omega
      subst hkm
      have HC : Hid (outR l c ysf = outA (fun s => hdV (ysf s)) shs k) := HEnd.out HP.out
      have hB6 : Below w.heap.size w wr := bstep hB2 hbl
      generalize outA (fun s => hdV (ysf s)) shs k = T at *
      go_wp2
      exact bodyPost_ret (v := .agg #[.int .i64 0, .int .i64 T]) (by simp [results, Try.results11, go_sem, r0, r1, rf]) rfl ⟨by rw [H1.out, HC.out], by (repeat (first | refine bset ?_ (by simp; omega) _ | refine bset ?_ (by simp) _ | refine balloc ?_ _ | assumption))⟩
end Go.Proofs.Ytjmabfikbfdjbaa

/-
  slices.SortFunc at votes: the library's contract, laid at this program.
-/
namespace Go.Proofs.Ytjmabfikbfdjbaa
open Go.Shelf
def Try.sortV_ren : Go.Shelf.Ren := ⟨fun | 6 => 96 | 15 => 117 | 14 => 116 | 28 => 136 | 29 => 137 | 20 => 128 | 21 => 129 | 22 => 130 | 23 => 131 | 24 => 132 | 25 => 133 | 26 => 134 | 27 => 135 | 46 => 139 | 47 => 140 | 48 => 141 | 49 => 142 | 50 => 143 | 57 => 145 | n => n, fun | 22 => 59 | 24 => 58 | 25 => 140 | 3 => 3 | 39 => 161 | 0 => 0 | 53 => 178 | 55 => 180 | 4 => 4 | 46 => 172 | 45 => 171 | 50 => 137 | 5 => 5 | 9 => 9 | 66 => 181 | 70 => 185 | 76 => 188 | 77 => 189 | n => n, fun | n => n⟩
theorem Try.sortV : Go.Proofs.SlLaysF0.n6 Try.prog Try.sortV_ren := {
  mixed := by kernel_rfl
  f6 := ⟨Try.f96.name, by decide, Try.func96.trans (congrArg some (by kernel_rfl))⟩
  f14 := ⟨Try.f116.name, by decide, Try.func116.trans (congrArg some (by kernel_rfl))⟩
  f15 := Try.func117.trans (congrArg some (by kernel_rfl))
  f20 := ⟨Try.f128.name, by decide, Try.func128.trans (congrArg some (by kernel_rfl))⟩
  f21 := ⟨Try.f129.name, by decide, Try.func129.trans (congrArg some (by kernel_rfl))⟩
  f22 := ⟨Try.f130.name, by decide, Try.func130.trans (congrArg some (by kernel_rfl))⟩
  f23 := ⟨Try.f131.name, by decide, Try.func131.trans (congrArg some (by kernel_rfl))⟩
  f24 := ⟨Try.f132.name, by decide, Try.func132.trans (congrArg some (by kernel_rfl))⟩
  f25 := ⟨Try.f133.name, by decide, Try.func133.trans (congrArg some (by kernel_rfl))⟩
  f26 := ⟨Try.f134.name, by decide, Try.func134.trans (congrArg some (by kernel_rfl))⟩
  f27 := ⟨Try.f135.name, by decide, Try.func135.trans (congrArg some (by kernel_rfl))⟩
  f28 := Try.func136.trans (congrArg some (by kernel_rfl))
  f29 := Try.func137.trans (congrArg some (by kernel_rfl))
  f46 := ⟨Try.f139.name, by decide, Try.func139.trans (congrArg some (by kernel_rfl))⟩
  f47 := Try.func140.trans (congrArg some (by kernel_rfl))
  f48 := Try.func141.trans (congrArg some (by kernel_rfl))
  f49 := ⟨Try.f142.name, by decide, Try.func142.trans (congrArg some (by kernel_rfl))⟩
  f50 := ⟨Try.f143.name, by decide, Try.func143.trans (congrArg some (by kernel_rfl))⟩
  f57 := ⟨Try.f145.name, by decide, Try.func145.trans (congrArg some (by kernel_rfl))⟩
  t0 := Try.underlying0
  a0 := Try.isAgg0
  z0 := Try.sizeOf0
  v0 := Try.zeroValue0
  t3 := Try.underlying3
  a3 := Try.isAgg3
  z3 := Try.sizeOf3
  v3 := Try.zeroValue3
  t4 := Try.underlying4
  a4 := Try.isAgg4
  z4 := Try.sizeOf4
  v4 := Try.zeroValue4
  t5 := Try.underlying5
  a5 := Try.isAgg5
  z5 := Try.sizeOf5
  v5 := Try.zeroValue5
  t9 := Try.underlying9
  a9 := Try.isAgg9
  z9 := Try.sizeOf9
  v9 := Try.zeroValue9
  t22 := Try.underlying59
  a22 := Try.isAgg59
  z22 := Try.sizeOf59
  v22 := Try.zeroValue59
  t25 := Try.underlying140
  a25 := Try.isAgg140
  z25 := Try.sizeOf140
  v25 := Try.zeroValue140
  t39 := Try.underlying161
  a39 := Try.isAgg161
  z39 := Try.sizeOf161
  v39 := Try.zeroValue161
  t45 := Try.underlying171
  a45 := Try.isAgg171
  z45 := Try.sizeOf171
  v45 := Try.zeroValue171
  t46 := Try.underlying172
  a46 := Try.isAgg172
  z46 := Try.sizeOf172
  v46 := Try.zeroValue172
  t50 := Try.underlying137
  a50 := Try.isAgg137
  z50 := Try.sizeOf137
  v50 := Try.zeroValue137
  t53 := Try.underlying178
  a53 := Try.isAgg178
  z53 := Try.sizeOf178
  v53 := Try.zeroValue178
  t55 := Try.underlying180
  a55 := Try.isAgg180
  z55 := Try.sizeOf180
  v55 := Try.zeroValue180
  t66 := Try.underlying181
  a66 := Try.isAgg181
  z66 := Try.sizeOf181
  v66 := Try.zeroValue181
  t70 := Try.underlying185
  a70 := Try.isAgg185
  z70 := Try.sizeOf185
  v70 := Try.zeroValue185
  t76 := Try.underlying188
  a76 := Try.isAgg188
  z76 := Try.sizeOf188
  v76 := Try.zeroValue188
  t77 := Try.underlying189
  a77 := Try.isAgg189
  z77 := Try.sizeOf189
  v77 := Try.zeroValue189 }
end Go.Proofs.Ytjmabfikbfdjbaa

/-
  slices.SortFunc over votes: both contracts, at this program.
-/
namespace Go.Proofs.Ytjmabfikbfdjbaa
open Go.RowKit Go.Sort Go.Shelf
set_option linter.unusedSectionVars false
variable [DecidableEq Vot] [Inhabited Vot] [DecidableEq Slt] [Inhabited Slt] [DecidableEq SltR] [Inhabited SltR] [DecidableEq Bal] [Inhabited Bal] [DecidableEq Ledg] [Inhabited Ledg] [DecidableEq Leg] [Inhabited Leg]
set_option linter.unusedVariables false

theorem sortsV : SortsV where
  some_ := fun xs g cap base W ho hb hn => sortV_any Try.sortV_ren Try.sortV rfl rfl xs g cap base W ho hb hn
  none_ := fun W => AnyF.slices_SortFunc_none Try.sortV none 0 (.func (.func 97) #[] #[]) W
end Go.Proofs.Ytjmabfikbfdjbaa


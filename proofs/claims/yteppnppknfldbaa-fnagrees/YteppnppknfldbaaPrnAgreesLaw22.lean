import Derived.Test.YteppnppknfldbaaPrnAgreesLaw11
import Derived.Test.YteppnppknfldbaaPrnAgreesLaw18
import Derived.Test.YteppnppknfldbaaPrnAgreesLaw10
import Derived.Test.YteppnppknfldbaaPrnAgreesLaw5
import Derived.BigQuiet
import Derived.Deep.QuietTactic
import Derived.Deep.RegionHeld3
import Derived.Test.YteppnppknfldbaaPrnAgreesLaw13
import Derived.Test.YteppnppknfldbaaPrnAgreesLaw4
import Derived.Test.YteppnppknfldbaaPrnAgreesLaw7
import Derived.Test.YteppnppknfldbaaPrnAgreesLaw1
import Derived.Test.YteppnppknfldbaaPrnAgreesLaw16
import Derived.Deep.AppendLies
import Derived.Shelf.SlSortCmp.WholeK

/-
  SlotsFor, the program's.
-/
set_option linter.unusedSimpArgs false
set_option linter.unusedVariables false
namespace Go.Proofs.Yteppnppknfldbaa
open Go.RowKit
set_option linter.unusedSectionVars false
variable [DecidableEq Vot] [Inhabited Vot] [DecidableEq Slt] [Inhabited Slt] [DecidableEq SltR] [Inhabited SltR] [DecidableEq Bal] [Inhabited Bal] [DecidableEq Ledg] [Inhabited Ledg] [DecidableEq Leg] [Inhabited Leg] [DecidableEq Acc] [Inhabited Acc] [DecidableEq AccR] [Inhabited AccR] [DecidableEq AccsR] [Inhabited AccsR] [DecidableEq SltsR] [Inhabited SltsR]
attribute [local go_sem ↓] Go.wp_at_zero Go.wp_at_succ

set_option maxRecDepth 20000 in
set_option maxHeartbeats 8000000 in
theorem implSlotsFor_u (x : Value) (l : List Acc) (c s : Int) (w : World) (hx : accsR.V w x l) :
    Calls Try.prog 8 #[x, .int .i64 c, .int .i64 s] w (SfE l c s w) := by
  have HFr : Hid (∀ W, Below w.heap.size w W → Calls Try.prog 11 #[x, .int .i64 c, .int .i64 s] W (FreE l c s W)) := fun W hW => freshFor_u x l c s W (accsR.below hx hW)
  obtain ⟨a, cx, rfl, hcx, hmx, hx⟩ := accs_at hx
  unfold maxLen at hmx
  have hXs : Hid (∀ k, k < l.length → ∃ b o p q, a = some ⟨b, o, none⟩ ∧ w.cell? ⟨b, o + k, none⟩ = some (.slice p (l.getD k default).slots.length q) ∧ accR.V w (.agg #[.slice p (l.getD k default).slots.length q]) (l.getD k default)) := hx
  clear hx
  obtain ⟨n, hn'⟩ : ∃ n, n = l.length := ⟨_, rfl⟩
  have HN : Hid (l.length = n) := hn'.symm
  rw [← hn'] at hcx hXs HFr ⊢
  clear hn'
  go_enter Try.func8, Try.ntmps8
  go_wp2_with fail
  refine (HFr.out _ (by (repeat (first | exact Below.refl _ _ | assumption | refine Below.drew ?_ | refine balloc ?_ _ | refine bset ?_ (by simp; omega) _ | refine bset ?_ (by simp) _ | refine bstep ?_ (by assumption))))).mono ?_
  rintro e w1 ⟨hE0, hE1⟩
  by_cases hf : freC l c s = 0
  rotate_left
  · obtain ⟨rfl, hb1⟩ := hE1 hf
    have HC : Hid (slotsD l c s = ⟨freC l c s, []⟩) := slotsD_code hf
    have hB1 : Below w.heap.size w w1 := by (repeat (first | exact Below.refl _ _ | assumption | refine Below.drew ?_ | refine balloc ?_ _ | refine bset ?_ (by simp; omega) _ | refine bset ?_ (by simp) _ | refine bstep ?_ (by assumption)))
    have hz1 := hb1.size
    simp at hz1
    obtain ⟨c1, f1⟩ := bcell hb1
    have r0 : w1.cell? ⟨w.heap.size, 0, none⟩ = some (.int .i64 0) := cell_keep hb1 (by simp [go_sem])
    have r1 : w1.cell? ⟨w.heap.size, 1, none⟩ = some (.slice none 0 0) := cell_keep hb1 (by simp [go_sem])
    have rf : ∀ o, w1.frozen? ⟨w.heap.size, o, none⟩ = false := fun o => by rw [f1 _ _ (by simp; try omega)]; simp [go_sem]
    clear hb1 c1 f1 hE0 hE1 HFr hXs
    have zr : w.heap.size < w1.heap.size := World.block_lt_of_cell? w1 _ r0
    generalize freC l c s = g at *
    have hg' : (g != 0) = true := by simp [hf]
    go_wp2
    exact bodyPost_ret (v := .agg #[.int .i64 g, .slice none 0 0]) (by simp [results, Try.results8, go_sem, r0, r1, rf, zr, Nat.ne_of_lt zr]) rfl (sfE_err HC.out (by (repeat (first | refine bset ?_ (by simp; omega) _ | refine bset ?_ (by simp) _ | refine balloc ?_ _ | assumption))))
  obtain ⟨p2, q2, F2, rfl, o2, hb1⟩ := hE0 hf
  have HC : Hid (slotsD l c s = ⟨0, slotsL l c s⟩) := slotsD_ok hf
  have hlk := listOk_of (freC_ok hf).1
  have HOk : Hid (∀ k, k < l.length → AccOk (l.getD k default).slots) := fun k hk => accs_cast hlk hk
  rw [HN.out] at HOk
  have hn5 := hlk.hi
  rw [HN.out] at hn5
  have hB1 : Below w.heap.size w w1 := by (repeat (first | exact Below.refl _ _ | assumption | refine Below.drew ?_ | refine balloc ?_ _ | refine bset ?_ (by simp; omega) _ | refine bset ?_ (by simp) _ | refine bstep ?_ (by assumption)))
  have hz1 := hb1.size
  simp at hz1
  obtain ⟨c1, f1⟩ := bcell hb1
  have R0 : w1.cell? ⟨w.heap.size, 0, none⟩ = some (.int .i64 0) := cell_keep hb1 (by simp [go_sem])
  have R1 : w1.cell? ⟨w.heap.size, 1, none⟩ = some (.slice none 0 0) := cell_keep hb1 (by simp [go_sem])
  have RF : ∀ o, w1.frozen? ⟨w.heap.size, o, none⟩ = false := fun o => by rw [f1 _ _ (by simp; try omega)]; simp [go_sem]
  have HV : Hid (∀ W, Below w1.heap.size w1 W → sltR.V W (.agg #[.int .i64 c, .int .i64 s, .int .i64 (-1), .int .i64 (-1), .int .i64 0, .slice p2 0 q2]) (freS c s)) := fun W hW => sltR.below (sltR.ofO o2) hW
  clear hb1 c1 f1 hE0 hE1 HFr o2 hf hlk
  have zR : w.heap.size < w1.heap.size := World.block_lt_of_cell? w1 _ R0
  have hs0 : ∃ a c' F, (Value.slice none 0 0) = .slice a 0 c' ∧ ∀ W, sltsR.O W (w1.heap.size + 1) F (.slice a 0 c') ((slotsL l c s).take 0) := ⟨none, 0, _, rfl, fun W => slts_nil W _⟩
  go_wp2
  go_loopw [8, 23] (fun t i w' => ∃ k : Nat, k ≤ n ∧ i = .int .i64 k ∧ (∃ a c' F, t = .slice a k c' ∧ sltsR.O w' (w1.heap.size + 1) F (.slice a k c') ((slotsL l c s).take k)) ∧ (w'.cell? ⟨w1.heap.size, 0, none⟩ = some (.int .i64 0) ∧ w'.cell? ⟨w1.heap.size, 1, none⟩ = some (.int .i64 0) ∧ w'.cell? ⟨w1.heap.size, 2, none⟩ = some (.int .i64 0) ∧ w'.cell? ⟨w1.heap.size, 3, none⟩ = some (.int .i64 c) ∧ w'.cell? ⟨w1.heap.size, 4, none⟩ = some (.int .i64 s) ∧ w'.cell? ⟨w1.heap.size, 5, none⟩ = some (.int .i64 (-1)) ∧ w'.cell? ⟨w1.heap.size, 6, none⟩ = some (.int .i64 (-1)) ∧ w'.cell? ⟨w1.heap.size, 7, none⟩ = some (.int .i64 0) ∧ w'.cell? ⟨w1.heap.size, 8, none⟩ = some (.slice p2 0 q2)) ∧ Below w1.heap.size w1 w') (fun t i _ => n - (intOf i).toNat)
  case atStart =>
    obtain ⟨a0, c0, F0, e0, h0⟩ := hs0
    exact ⟨0, Nat.zero_le _, rfl, ⟨a0, c0, F0, e0, h0 _⟩, by simp [go_sem], by (repeat (first | exact Below.refl _ _ | assumption | refine Below.drew ?_ | refine balloc ?_ _ | refine bset ?_ (by simp; omega) _ | refine bset ?_ (by simp) _ | refine bstep ?_ (by assumption)))⟩
  case round =>
    clear hs0
    obtain ⟨k, hk, rfl, ⟨as_, cs_, F, rfl, ho⟩, ⟨t0, t1, t2, t3, t4, t5, t6, t7, t8⟩, hb⟩ := hrel
    have hbl : Below w.heap.size w wr := bstep hB1 hb
    have HO : Hid (sltsR.O wr (w1.heap.size + 1) F (.slice as_ k cs_) ((slotsL l c s).take k)) := ho
    clear ho
    have zt : w1.heap.size < wr.heap.size := World.block_lt_of_cell? wr _ t0
    by_cases hlt : k < n
    · obtain ⟨b, o, p, q, rfl, hc, hV⟩ := hXs.out k hlt
      have hok := HOk.out k hlt
      have HL : Hid ((slotsL l c s).take (k + 1) = (slotsL l c s).take k ++ [slotO (l.getD k default).slots (freS c s)]) := slotsL_take l c s (by rw [HN.out]; exact hlt)
      have HB0 : Hid (b < w.heap.size) := World.block_lt_of_cell? w _ hc
      replace hc := cell_keep hbl hc
      have zb : b < wr.heap.size := World.block_lt_of_cell? wr _ hc
      have HSo : Hid (∀ W, Below wr.heap.size wr W → Calls Try.prog 20 #[.agg #[.slice p (l.getD k default).slots.length q], .agg #[.int .i64 c, .int .i64 s, .int .i64 (-1), .int .i64 (-1), .int .i64 0, .slice p2 0 q2]] W fun e w' => ∃ v, e = .returned v ∧ sltR.V w' v (slotO (l.getD k default).slots (freS c s)) ∧ Below W.heap.size W w') := fun W hW => slotOr_any _ _ (l.getD k default) (freS c s) W (accR.below hV (bstep hbl hW)) (HV.out W (bstep hb hW)) hok
      have HLen : Hid ((slotO (l.getD k default).slots (freS c s)).cast.length ≤ 1048576) := by
        show _ ≤ _
        rcases slotO_mem (l.getD k default).slots (freS c s) with e | ⟨i, hi, e, _⟩
        · rw [e]; exact Nat.zero_le _
        · rw [e]; exact Nat.le_trans (sltOk_of (hok.ok i hi)).len (by omega)
      clear hV hok
      generalize slotO (l.getD k default).slots (freS c s) = y at *
      generalize (l.getD k default).slots.length = m at *
      go_wp2_with fail
      refine (HSo.out _ (by (repeat (first | exact Below.refl _ _ | assumption | refine Below.drew ?_ | refine balloc ?_ _ | refine bset ?_ (by simp; omega) _ | refine bset ?_ (by simp) _ | refine bstep ?_ (by assumption))))).mono ?_
      rintro e w2 ⟨v2, rfl, hv2, hb2⟩
      have hB2 : Below wr.heap.size wr w2 := by (repeat (first | exact Below.refl _ _ | assumption | refine Below.drew ?_ | refine balloc ?_ _ | refine bset ?_ (by simp; omega) _ | refine bset ?_ (by simp) _ | refine bstep ?_ (by assumption)))
      have HCp : Hid (∀ W, Below w2.heap.size w2 W → Calls Try.prog 19 #[v2] W fun e w' => ∃ v F, e = .returned v ∧ sltR.O w' W.heap.size F v y ∧ Below W.heap.size W w') := fun W hW => copied8_u _ y W (sltR.below hv2 hW) HLen.out
      clear hb2 hv2 HSo
      go_wp2_with fail
      refine (HCp.out _ (Below.refl _ _)).mono ?_
      rintro e w3 ⟨v3, F3, rfl, o3, hb3⟩
      obtain ⟨a3, c3, rfl, _⟩ := slt_cells o3
      have hB3 : Below wr.heap.size wr w3 := bstep hB2 hb3
      have hz3 := hB3.size
      have hz2 := hB2.size
      have HO2 : Hid (sltsR.O w3 (w1.heap.size + 1) F (.slice as_ k cs_) ((slotsL l c s).take k)) := sltsR.keep HO.out hB3
      have HFl : Hid (∀ b, F b → b < wr.heap.size) := fun b hb => (sltsR.rng HO.out b hb).2
      have HF2 : Hid (∀ b, F3 b → wr.heap.size ≤ b) := fun b hb => by have := (sltR.rng o3 b hb).1; omega
      have HU : Hid (sltR.O w3 (w1.heap.size + 1) F3 (.agg #[.int .i64 y.con, .int .i64 y.sh, .int .i64 y.pr, .int .i64 y.lb, .int .i64 y.lv, .slice a3 y.cast.length c3]) y) := sltR.base o3 (by omega)
      have T0 := cell_keep hB3 t0
      have T1 := cell_keep hB3 t1
      have T2 := cell_keep hB3 t2
      have T3 := cell_keep hB3 t3
      have T4 := cell_keep hB3 t4
      have T5 := cell_keep hB3 t5
      have T6 := cell_keep hB3 t6
      have T7 := cell_keep hB3 t7
      have T8 := cell_keep hB3 t8
      have hBw3 : Below w1.heap.size w1 w3 := bstep hb hB3
      clear hb3 o3 HCp HO hc t0 t1 t2 t3 t4 t5 t6 t7 t8
      go_wp2_with (at_builtin; refine wpl_appS _ rfl _ _ rfl (w1.heap.size + 1) F F3 _ ((slotsL l c s).take k) y w3.heap.size a3 c3 rfl rfl ?a1 ?a2 ?a3 ?a4 ?a5 ?a6 ?_)
      case a1 => exact sltsR.alloc HO2.out _
      case a2 => exact sltR.alloc HU.out _
      case a3 => exact fun b h1 h2 => by have := HFl.out b h1; have := HF2.out b h2; omega
      case a4 => simp [go_sem]
      case a5 => rw [List.length_take, slotsL_len, HN.out]; omega
      case a6 => simp; omega
      intro v4 w4 F4 o4 hb4 _
      rw [← HL.out] at o4
      obtain ⟨a4, c4, e4⟩ := slts_form (sltsR.ofO o4)
      rw [show ((slotsL l c s).take (k + 1)).length = k + 1 by rw [List.length_take, slotsL_len, HN.out]; omega] at e4
      subst e4
      have o4' : ∃ a c' F, (Value.slice a4 (k + 1) c4) = .slice a (k + 1) c' ∧ sltsR.O w4 (w1.heap.size + 1) F (.slice a (k + 1) c') ((slotsL l c s).take (k + 1)) := ⟨_, _, F4, rfl, o4⟩
      have hB5 : Below (w1.heap.size + 1) w3 w4 := ((balloc (Below.refl _ w3) _).mono (by omega)).trans hb4
      replace T0 := (hB5.cell (p := ⟨w1.heap.size, 0, none⟩) (by simp)).trans T0
      replace T1 := (hB5.cell (p := ⟨w1.heap.size, 1, none⟩) (by simp)).trans T1
      replace T2 := (hB5.cell (p := ⟨w1.heap.size, 2, none⟩) (by simp)).trans T2
      replace T3 := (hB5.cell (p := ⟨w1.heap.size, 3, none⟩) (by simp)).trans T3
      replace T4 := (hB5.cell (p := ⟨w1.heap.size, 4, none⟩) (by simp)).trans T4
      replace T5 := (hB5.cell (p := ⟨w1.heap.size, 5, none⟩) (by simp)).trans T5
      replace T6 := (hB5.cell (p := ⟨w1.heap.size, 6, none⟩) (by simp)).trans T6
      replace T7 := (hB5.cell (p := ⟨w1.heap.size, 7, none⟩) (by simp)).trans T7
      replace T8 := (hB5.cell (p := ⟨w1.heap.size, 8, none⟩) (by simp)).trans T8
      have hB6 : Below w1.heap.size w1 w4 := hBw3.trans (hB5.mono (by omega))
      clear o4 hb4 hB5
      go_wp2
      exact ⟨⟨k + 1, by omega, by go_num, o4', ⟨T0, T1, T2, T3, T4, T5, T6, T7, T8⟩, hB6⟩, by simp [intOf]; omega⟩
    · have hkn : k = n := by omega
      subst hkn
      have ho := HO.out
      rw [List.take_of_length_le (by rw [slotsL_len, HN.out]; exact Nat.le_refl _)] at ho
      have HO2 : Hid (sltsR.O wr (w1.heap.size + 1) F (.slice as_ k cs_) (slotsL l c s)) := ho
      clear ho HO t0 t1 t2 t3 t4 t5 t6 t7 t8
      have r0 := cell_keep hb R0
      have r1 := cell_keep hb R1
      have rf : ∀ o, wr.frozen? ⟨w.heap.size, o, none⟩ = false := fun o => by rw [(bcell hb).2 _ _ zR]; exact RF o
      go_wp2
      refine bodyPost_ret (v := .agg #[.int .i64 0, .slice as_ k cs_]) (by simp [results, Try.results8, go_sem, r0, r1, rf]) rfl ?_
      refine ⟨_, F, rfl, ?_, by (repeat (first | refine bset ?_ (by simp; omega) _ | refine bset ?_ (by simp) _ | refine balloc ?_ _ | assumption))⟩
      rw [HC.out]
      refine ⟨_, F, rfl, ?_, fun _ => Iff.rfl⟩
      exact sltsR.base (Rep.set _ (Rep.set _ HO2.out _ (by simp; omega)) _ (by simp; omega)) (by omega)
end Go.Proofs.Yteppnppknfldbaa

/-
  Votes counted in a map: mathematics.
-/
set_option linter.unusedVariables false
set_option linter.unusedSimpArgs false
namespace Go.Proofs.Yteppnppknfldbaa
open Go.RowKit Go.Maps
set_option linter.unusedSectionVars false
variable [DecidableEq Vot] [Inhabited Vot] [DecidableEq Slt] [Inhabited Slt] [DecidableEq SltR] [Inhabited SltR] [DecidableEq Bal] [Inhabited Bal] [DecidableEq Ledg] [Inhabited Ledg] [DecidableEq Leg] [Inhabited Leg]

def hasLV (xs : List Vot) (v : Vot) : Bool := xs.any (fun u => decide (u.bal = v.bal) && decide (u.val = v.val))
theorem hasLV_iff {xs : List Vot} {v : Vot} : hasLV xs v = true ↔ v ∈ xs := by
  unfold hasLV
  rw [List.any_eq_true]
  constructor
  · rintro ⟨u, hu, e⟩
    rw [vot_eq] at e
    exact e ▸ hu
  · intro h
    exact ⟨v, h, vot_eq.2 rfl⟩
def cF (D : List Slt) (i k : Nat) (v : Vot) : Nat := cntP (fun t => hasV (D.getD t default) v) i + if hasLV ((D.getD i default).cast.take k) v then 1 else 0
def cB (D : List Slt) (i k : Nat) : Vot → Option Int := fun v => if cF D i k v = 0 then none else some (cF D i k v : Int)
theorem cB_get (D : List Slt) (i k : Nat) (v : Vot) : (cB D i k v).getD 0 = (cF D i k v : Int) := by
  unfold cB
  split
  · rename_i h
    rw [h]
    rfl
  · rfl
theorem cB_some (D : List Slt) (i k : Nat) (v : Vot) : (cB D i k v).isSome = true ↔ ¬ cF D i k v = 0 := by
  unfold cB
  split <;> simp_all
theorem cF_zero (D : List Slt) (i : Nat) (v : Vot) : cF D i 0 v = cntP (fun t => hasV (D.getD t default) v) i := by
  unfold cF
  simp [hasLV]
theorem cB_start (D : List Slt) : cB D 0 0 = fun _ => none := by
  funext v
  unfold cB
  rw [cF_zero]
  rfl
theorem cF_le (D : List Slt) (i k : Nat) (v : Vot) : cF D i k v ≤ i + 1 := by
  have := cntP_le (fun t => hasV (D.getD t default) v) i
  unfold cF
  split <;> omega
theorem cB_row (D : List Slt) (i : Nat) : cB D i (D.getD i default).cast.length = cB D (i + 1) 0 := by
  funext v
  have e : cF D i (D.getD i default).cast.length v = cF D (i + 1) 0 v := by
    rw [cF_zero]
    unfold cF
    rw [List.take_length]
    rfl
  unfold cB
  rw [e]
theorem take_snocV (xs : List Vot) (k : Nat) (h : k < xs.length) : xs.take (k + 1) = xs.take k ++ [xs.getD k default] := by
  rw [List.take_succ_eq_append_getElem h]
  simp [List.getD, h]
theorem cB_new (D : List Slt) (i k : Nat) (u : Vot) (hk : k < (D.getD i default).cast.length) (hu : (D.getD i default).cast.getD k default = u) (hn : ¬ u ∈ (D.getD i default).cast.take k) : cB D i (k + 1) = updV1 (cB D i k) u (some ((cB D i k u).getD 0 + 1)) := by
  have e : ∀ v, cF D i (k + 1) v = cF D i k v + if v = u then 1 else 0 := by
    intro v
    unfold cF
    rw [take_snocV _ k hk, hu]
    by_cases hv : v = u
    · subst hv
      have h1 : hasLV ((D.getD i default).cast.take k ++ [v]) v = true := hasLV_iff.2 (by simp)
      have h2 : hasLV ((D.getD i default).cast.take k) v = false := by
        cases e : hasLV ((D.getD i default).cast.take k) v with
        | false => rfl
        | true => exact absurd (hasLV_iff.1 e) hn
      rw [h1, h2]
      simp
    · have h1 : hasLV ((D.getD i default).cast.take k ++ [u]) v = hasLV ((D.getD i default).cast.take k) v := by
        rw [Bool.eq_iff_iff, hasLV_iff, hasLV_iff]
        simp [hv]
      rw [h1, if_neg hv]
      omega
  funext v
  by_cases hv : v = u
  · subst hv
    rw [updV1_at, cB_get]
    unfold cB
    rw [e, if_pos rfl, if_neg (by omega)]
    simp
  · rw [updV1_ne _ _ hv]
    unfold cB
    rw [e, if_neg hv, Nat.add_zero]
theorem cB_old (D : List Slt) (i k : Nat) (u : Vot) (hk : k < (D.getD i default).cast.length) (hu : (D.getD i default).cast.getD k default = u) (hn : u ∈ (D.getD i default).cast.take k) : cB D i (k + 1) = cB D i k := by
  funext v
  have e : cF D i (k + 1) v = cF D i k v := by
    unfold cF
    rw [take_snocV _ k hk, hu]
    have h1 : hasLV ((D.getD i default).cast.take k ++ [u]) v = hasLV ((D.getD i default).cast.take k) v := by
      rw [Bool.eq_iff_iff, hasLV_iff, hasLV_iff]
      simp only [List.mem_append, List.mem_singleton]
      constructor
      · rintro (h | h)
        · exact h
        · exact h ▸ hn
      · exact fun h => .inl h
    rw [h1]
  unfold cB
  rw [e]
theorem in_take {s : Slt} (h : SltOk s) {p : Nat} (hp : p + 1 < s.cast.length) : s.cast.getD (p + 1) default ∈ s.cast.take (p + 1) ↔ s.cast.getD (p + 1) default = s.cast.getD p default := by
  constructor
  · intro hm
    obtain ⟨j, hj, e⟩ := getD_of_mem hm
    rw [List.length_take] at hj
    have e2 : (s.cast.take (p + 1)).getD j default = s.cast.getD j default := by simp [List.getD, List.getElem?_take, show j < p + 1 by omega]
    rw [e2] at e
    have h1 := slt_order h j (p - j) (by omega)
    have h2 := slt_order h p 1 (by omega)
    rw [show j + (p - j) = p by omega] at h1
    have hb : (s.cast.getD p default).bal = (s.cast.getD (p + 1) default).bal := by rw [e] at h1; omega
    have hv := h2.2 hb
    exact vot_eq.1 (by rw [hb, hv]; simp)
  · intro e
    rw [e, take_snocV _ p (by omega)]
    simp
theorem cB_end (D : List Slt) (v : Vot) : cF D D.length 0 v = cntV D v := cF_zero D D.length v
def leftV (ko : Value → Option Lit) (left : Lit → Bool) (x : Vot) : Bool := match ko (vv x) with | some kl => left kl | none => false
theorem leftV_some {left : Lit → Bool} {x : Vot} {kl : Lit} (h : keyOf Try.prog 40 (vv x) = some kl) : leftV (keyOf Try.prog 40) left x = left kl := by unfold leftV; rw [h]
theorem leftV_strike {left : Lit → Bool} {x y : Vot} {kl : Lit} (hk : keyOf Try.prog 40 (vv x) = some kl) :
    leftV (keyOf Try.prog 40) (fun z => left z && !z.sameKey kl) y = (leftV (keyOf Try.prog 40) left y && !(decide (y.bal = x.bal) && decide (y.val = x.val))) := by
  unfold leftV
  split
  · rename_i kl' hk'
    by_cases e : kl' = kl
    · subst e
      have e' := vv_inj (votLaw.inj hk' hk)
      subst e'
      simp [WideAt.sameKey_self (votLaw.key hk)]
    · have hne : (decide (y.bal = x.bal) && decide (y.val = x.val)) = false := by
        cases h : (decide (y.bal = x.bal) && decide (y.val = x.val)) with
        | false => rfl
        | true =>
          have := vot_eq.1 h
          subst this
          rw [hk] at hk'
          exact absurd (by simpa using hk'.symm) e
      show (left kl' && !kl'.sameKey kl) = _
      simp [Maps.sameKey_ne e, hne]
  · rfl
structure Came (f : Vot → Option Int) (q : Int) (left : Lit → Bool) (xs : List Vot) : Prop where
  nodup : xs.Nodup
  mem : ∀ v, v ∈ xs ↔ (f v).isSome = true ∧ leftV (keyOf Try.prog 40) left v = false ∧ q ≤ (f v).getD 0
theorem came_v0 {f : Vot → Option Int} {q : Int} {D : DataW Unit} (hf : ∀ v, (f v).isSome = true → vwf v) (h : ∀ x kl, keyOf Try.prog 40 (vv x) = some kl → Maps.has D kl = (f x).isSome ∧ D.atKey kl (.lit (.int .i64 0)) = .lit (.int .i64 ((f x).getD 0))) : Came f q (Maps.has D) [] := by
  refine ⟨List.nodup_nil, fun v => ⟨fun h => by simp at h, fun ⟨h1, h2, _⟩ => ?_⟩⟩
  obtain ⟨kl, hk⟩ := keyOf_vv (hf v h1)
  rw [leftV_some hk, (h v kl hk).1, h1] at h2
  cases h2
theorem came_add {f : Vot → Option Int} {q : Int} {left : Lit → Bool} {xs : List Vot} (h : Came f q left xs) {x : Vot} {kl : Lit} (hk : keyOf Try.prog 40 (vv x) = some kl) (hl : left kl = true) (hs : (f x).isSome = true) (hq : q ≤ (f x).getD 0) : Came f q (fun z => left z && !z.sameKey kl) (xs ++ [x]) := by
  have hlx : leftV (keyOf Try.prog 40) left x = true := by rw [leftV_some hk, hl]
  have hx : ¬ x ∈ xs := fun hx => by have := ((h.mem x).1 hx).2.1; rw [hlx] at this; cases this
  refine ⟨?_, fun v => ?_⟩
  · rw [List.nodup_append]
    exact ⟨h.nodup, by simp, fun a ha b hb => by simp at hb; subst hb; rintro rfl; exact hx ha⟩
  · rw [leftV_strike hk, List.mem_append, List.mem_singleton, h.mem]
    by_cases e : v = x
    · subst e
      have : (decide (v.bal = v.bal) && decide (v.val = v.val)) = true := vot_eq.2 rfl
      rw [this]
      simp [hs, hq]
    · have : (decide (v.bal = x.bal) && decide (v.val = x.val)) = false := by
        cases h : (decide (v.bal = x.bal) && decide (v.val = x.val)) with
        | false => rfl
        | true => exact absurd (vot_eq.1 h) e
      rw [this]
      simp [e]
theorem came_pass {f : Vot → Option Int} {q : Int} {left : Lit → Bool} {xs : List Vot} (h : Came f q left xs) {x : Vot} {kl : Lit} (hk : keyOf Try.prog 40 (vv x) = some kl) (hq : ¬ q ≤ (f x).getD 0) : Came f q (fun z => left z && !z.sameKey kl) xs := by
  refine ⟨h.nodup, fun v => ?_⟩
  rw [leftV_strike hk, h.mem]
  by_cases e : v = x
  · subst e
    simp [hq]
  · have : (decide (v.bal = x.bal) && decide (v.val = x.val)) = false := by
      cases h : (decide (v.bal = x.bal) && decide (v.val = x.val)) with
      | false => rfl
      | true => exact absurd (vot_eq.1 h) e
    rw [this]
    simp
theorem came_end8 {f : Vot → Option Int} {q : Int} {left : Lit → Bool} {xs : List Vot} (h : Came f q left xs) (h0 : ∀ kl, left kl = false) (v : Vot) : v ∈ xs ↔ (f v).isSome = true ∧ q ≤ (f v).getD 0 := by
  rw [h.mem]
  have : leftV (keyOf Try.prog 40) left v = false := by
    unfold leftV
    split
    · exact h0 _
    · rfl
  simp [this]
theorem chs_sorted {D : List Slt} (hok : AllOk D) {xs ys : List Vot} (hn : xs.Nodup) (hm : ∀ v, v ∈ xs ↔ isCh D v) (hp : ys.Perm xs) (hs : ys.Pairwise (fun p q => ¬ q.bal < p.bal)) : Chs D ys := by
  have hm' : ∀ v, v ∈ ys ↔ isCh D v := fun v => by rw [hp.mem_iff]; exact hm v
  refine ⟨?_, hm'⟩
  have hnd : ys.Nodup := hp.nodup_iff.2 hn
  unfold Rise
  rw [List.pairwise_iff_getElem] at hs ⊢
  intro i j hi hj hij
  have h1 := hs i j hi hj hij
  have h2 : ¬ ys[i].bal = ys[j].bal := fun e => by
    have := ch_one hok ((hm' _).1 (List.getElem_mem hi)) ((hm' _).1 (List.getElem_mem hj)) e
    exact (List.pairwise_iff_getElem.1 hnd i j hi hj hij) this
  omega
end Go.Proofs.Yteppnppknfldbaa

/-
  What is chosen: what both sides leave.
-/
namespace Go.Proofs.Yteppnppknfldbaa
open Go.RowKit
set_option linter.unusedSectionVars false
variable [DecidableEq Vot] [Inhabited Vot] [DecidableEq Slt] [Inhabited Slt] [DecidableEq SltR] [Inhabited SltR] [DecidableEq Bal] [Inhabited Bal] [DecidableEq Ledg] [Inhabited Ledg] [DecidableEq Leg] [Inhabited Leg]

def ChE (D : List Slt) (w : World) (e : Ending) (w' : World) : Prop := ∃ v ys, e = .returned v ∧ votsR.V w' v ys ∧ Chs D ys ∧ Below w.heap.size w w'
end Go.Proofs.Yteppnppknfldbaa

/-
  slices.SortFunc over votes: what it asks of compareBallots; the sort.
-/
namespace Go.Proofs.Yteppnppknfldbaa
open Go.RowKit Go.Sort Go.Shelf
set_option linter.unusedSectionVars false
variable [DecidableEq Vot] [Inhabited Vot] [DecidableEq Slt] [Inhabited Slt] [DecidableEq SltR] [Inhabited SltR] [DecidableEq Bal] [Inhabited Bal] [DecidableEq Ledg] [Inhabited Ledg] [DecidableEq Leg] [Inhabited Leg]
set_option linter.unusedVariables false
set_option linter.unusedSimpArgs false
attribute [local go_sem ↓] Go.wp_at_zero Go.wp_at_succ

def cmpN (x y : Int) : Int := if x < y then -1 else if y < x then 1 else 0
theorem isNaNnum_any (x : Int) (w : World) :
    Calls Try.prog 61 #[.int .i64 x] w fun e w' => e = .returned (.bool false) ∧ w' = w := by
  go_enter Try.func61, Try.ntmps61
  go_wp2
  go_ret
  exact ⟨rfl, rfl⟩
set_option maxHeartbeats 1000000 in
theorem cmpNum_any (x y : Int) (w : World) :
    Calls Try.prog 56 #[.int .i64 x, .int .i64 y] w fun e w' => e = .returned (.int .i64 (cmpN x y)) ∧ w' = w := by
  go_enter Try.func56, Try.ntmps56
  go_wp2_with (go_at_call 61; refine (isNaNnum_any _ _).mono ?_; rintro e w' ⟨rfl, rfl⟩)
  all_goals (go_ret; refine ⟨?_, rfl⟩; unfold cmpN; (repeat' split) <;> first | rfl | (exfalso; omega))
theorem compareBallots_any (x y : Vot) (w : World) :
    Calls Try.prog 50 #[.agg #[.int .i64 x.bal, .int .i64 x.val], .agg #[.int .i64 y.bal, .int .i64 y.val]] w fun e w' => e = .returned (.int .i64 (cmpN x.bal y.bal)) ∧ w' = (w.alloc (.cells #[.int .i64 x.bal, .int .i64 x.val] 40)).alloc (.cells #[.int .i64 y.bal, .int .i64 y.val] 40) := by
  go_enter Try.func50, Try.ntmps50
  go_wp2_with (go_at_call 56; refine (cmpNum_any _ _ _).mono ?_; rintro e w' ⟨rfl, rfl⟩)
  go_ret
  exact ⟨rfl, rfl⟩
def cfV (x y : Vot) : Int := cmpN x.bal y.bal
theorem ltV_iff (x y : Vot) : ltOf cfV x y = true ↔ x.bal < y.bal := by
  unfold ltOf cfV cmpN
  simp only [decide_eq_true_eq]
  by_cases h : x.bal < y.bal
  · simp [h]
  · by_cases h' : y.bal < x.bal
    · simp [h, h']
    · simp [h, h']
theorem swoV : SWO (ltOf cfV) where
  irrefl x := by
    rw [← Bool.not_eq_true, ltV_iff]
    omega
  trans x y z h1 h2 := by
    rw [ltV_iff] at *
    omega
  ntrans x y z h1 h2 := by
    rw [← Bool.not_eq_true, ltV_iff] at *
    omega
theorem cmpLaysV (blk off size : Nat) (w : World) : CmpLays Try.prog 50 #[] votC 2 cfV blk off size w := by
  intro m os dk _ x y
  refine (compareBallots_any x y _).mono ?_
  rintro e w' ⟨rfl, rfl⟩
  refine ⟨rfl, 0, #[.cells #[.int .i64 x.bal, .int .i64 x.val] 40, .cells #[.int .i64 y.bal, .int .i64 y.val] 40], ?_⟩
  rw [alloc_eq_grow, alloc_eq_grow, grow_grow]
  rfl
theorem votC_oneC (l : Vot) : ∀ u ∈ votC l, u.oneCell' = true := by
  intro u hu
  simp only [votC, List.mem_cons, List.not_mem_nil, or_false] at hu
  rcases hu with rfl | rfl <;> rfl
theorem holds_vots {w : World} {base g cap : Nat} {xs : List Vot} (h : w.ownsRow base 40 2 (.slice (some ⟨g, 0, none⟩) xs.length cap) xs.length (votsC xs)) : HoldsK votC 2 w g 0 xs.toArray := by
  intro j hj
  simp only [size_flatK, List.size_toArray] at hj
  have hd : j / 2 < xs.length := by omega
  refine ⟨?_, h.frozenAt _⟩
  rw [Nat.zero_add, h.cellAt j hj, get_flatK votC 2 xs.toArray j (by simpa using hj)]
  obtain ⟨q0, q1⟩ := get_votsC xs (j / 2) hd
  have e2 : xs.toArray[j / 2]! = xs.getD (j / 2) default := by simp [List.getD, hd]
  rw [e2]
  generalize xs.getD (j / 2) default = x at *
  have hm : j % 2 = 0 ∨ j % 2 = 1 := by omega
  rcases hm with hm | hm
  · rw [show j / 2 * 2 = j by omega] at q0
    rw [q0, hm]
    rfl
  · rw [show j / 2 * 2 + 1 = j by omega] at q1
    rw [q1, hm]
    rfl
theorem sortV_below (w : World) (base g m : Nat) (d : Array Vot) (os : Array Obj) (hg : base ≤ g) (hb : base ≤ w.heap.size) : Go.RowKit.Below base w (sortWorldK votC 2 w g 0 m d os) := by
  refine ⟨rfl, rfl, rfl, ?_, fun i hi => ?_⟩
  · simp [sortWorldK, grow, putRowK, putRow, mapBlock, Sort.ahead]
  · simp only [sortWorldK, grow, putRowK, putRow, mapBlock, Sort.ahead]
    rw [Array.getElem?_append_left (by simp; omega), Array.getElem?_modify]
    rw [if_neg (by omega)]
set_option maxHeartbeats 1000000 in
theorem sortV_any (ρ : Ren) (L : SlLaysF0.n6 Try.prog ρ) (hf : ρ.f 6 = 49) (ht : ρ.t 24 = 40) (xs : List Vot) (g cap base : Nat) (W : World) (ho : W.ownsRow base 40 2 (.slice (some ⟨g, 0, none⟩) xs.length cap) xs.length (votsC xs)) (hbs : base ≤ W.heap.size) (hn : xs.length ≤ 100000) :
    Calls Try.prog 49 #[.slice (some ⟨g, 0, none⟩) xs.length cap, .func (.func 50) #[] #[]] W fun e w' => e = .returned (.tuple #[]) ∧ ∃ ys : List Vot, ys.Perm xs ∧ ys.Pairwise (fun p q => ltOf cfV q p = false) ∧ (∀ i, i < ys.length → votCells w' g (i * 2) (ys.getD i default)) ∧ Go.RowKit.Below base W w' := by
  have eg : ∀ args w, (callFunc 50 args).run Try.prog w = .ok (.enter 50 args) w := enters_of Try.func50 (by kernel_rfl) rfl
  have aE : ∀ w, (isAgg (ρ.t 24)).run Try.prog w = .ok true w := fun w => by rw [ht]; exact Try.isAgg40 w
  have zE : ∀ w, (Go.sizeOf (ρ.t 24)).run Try.prog w = .ok 2 w := fun w => by rw [ht]; exact Try.sizeOf40 w
  have hH := holds_vots ho
  have hg := ho.lt g rfl
  have hcon := AnyQ.slices_SortFunc L 2 aE zE votC (fun _ => rfl) votC_oneC cfV swoV 50 #[] g 0 cap xs.toArray W eg (cmpLaysV g 0 _ W) hH hg.2 (by simp; omega)
  rw [hf] at hcon
  simp only [List.size_toArray] at hcon
  refine hcon.mono ?_
  rintro e w' ⟨rfl, d', n, os, hp, hs, rfl⟩
  obtain ⟨hsz, _, hperm⟩ := hp
  simp only [List.size_toArray] at hsz hperm
  have hP : d'.toList.Perm xs := by
    have e1 : d'.extract 0 xs.length = d' := by rw [← hsz]; simp
    have e2 : xs.toArray.extract 0 xs.length = xs.toArray := by simp
    rw [e1, e2] at hperm
    exact hperm
  have hHo : HoldsK votC 2 (sortWorldK votC 2 W g 0 n d' os) g 0 d' := holdsK_grow (enc := votC) (k := 2) _ os g 0 d' (by simp [putRowK, putRow, mapBlock, Sort.ahead]; exact hg.2) (holdsK_putRowK (enc := votC) (k := 2) (Sort.ahead W n) g 0 xs.toArray d' (holdsK_ahead (enc := votC) (k := 2) W n g 0 _ hH) (by simp [hsz]))
  refine ⟨rfl, d'.toList, hP, ?_, fun i hi => ?_, sortV_below W base g n d' os hg.1 hbs⟩
  · rw [List.pairwise_iff_getElem]
    intro i j hi hj hij
    simp only [Array.length_toList] at hi hj
    have := hs i j (Nat.zero_le _) hij (by omega)
    simpa [hi, hj] using this
  · simp only [Array.length_toList] at hi
    have e : d'.toList.getD i default = d'[i]! := by simp [List.getD, hi]
    rw [e]
    have c0 := (hHo.cell hi (c := 0) (by omega)).1
    have c1 := (hHo.cell hi (c := 1) (by omega)).1
    simp only [Nat.zero_add, Nat.add_zero] at c0 c1
    generalize d'[i]! = x at *
    exact ⟨c0, c1⟩
structure SortsV : Prop where
  some_ : ∀ (xs : List Vot) (g cap base : Nat) (W : World), W.ownsRow base 40 2 (.slice (some ⟨g, 0, none⟩) xs.length cap) xs.length (votsC xs) → base ≤ W.heap.size → xs.length ≤ 100000 →
    Calls Try.prog 49 #[.slice (some ⟨g, 0, none⟩) xs.length cap, .func (.func 50) #[] #[]] W fun e w' => e = .returned (.tuple #[]) ∧ ∃ ys : List Vot, ys.Perm xs ∧ ys.Pairwise (fun p q => ltOf cfV q p = false) ∧ (∀ i, i < ys.length → votCells w' g (i * 2) (ys.getD i default)) ∧ Go.RowKit.Below base W w'
  none_ : ∀ W : World, Calls Try.prog 49 #[.slice none 0 0, .func (.func 50) #[] #[]] W fun e w' => e = .returned (.tuple #[]) ∧ w' = W
end Go.Proofs.Yteppnppknfldbaa


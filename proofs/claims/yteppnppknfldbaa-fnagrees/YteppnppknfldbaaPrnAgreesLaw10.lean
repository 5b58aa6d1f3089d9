import Derived.Test.YteppnppknfldbaaPrnAgreesLaw4
import Derived.Test.YteppnppknfldbaaPrnAgreesLaw7
import Derived.Test.YteppnppknfldbaaPrnAgreesLaw9
import Derived.BigQuiet
import Derived.Deep.QuietTactic
import Derived.Deep.RegionHeld3
import Derived.Test.YteppnppknfldbaaPrnAgreesLaw1
import Derived.Test.YteppnppknfldbaaPrnAgreesLaw8
import Derived.Deep.DrawnRows
import Derived.Test.YteppnppknfldbaaPrnAgreesLaw6
import Derived.Test.YteppnppknfldbaaPrnAgreesLaw3
import Derived.Shelf.Abstract

/-
  A new slot, said plainly.
-/
set_option linter.unusedSimpArgs false
set_option linter.unusedVariables false
namespace Go.Proofs.Yteppnppknfldbaa
open Go.RowKit
set_option linter.unusedSectionVars false
variable [DecidableEq Vot] [Inhabited Vot] [DecidableEq Slt] [Inhabited Slt] [DecidableEq SltR] [Inhabited SltR] [DecidableEq Bal] [Inhabited Bal] [DecidableEq Ledg] [Inhabited Ledg] [DecidableEq Leg] [Inhabited Leg] [DecidableEq Acc] [Inhabited Acc] [DecidableEq AccR] [Inhabited AccR] [DecidableEq AccsR] [Inhabited AccsR] [DecidableEq SltsR] [Inhabited SltsR]
attribute [local go_sem ↓] Go.wp_at_zero Go.wp_at_succ

def NewE (c s : Int) (W : World) (e : Ending) (w' : World) : Prop :=
  ∃ p q F, e = .returned (.agg #[.int .i64 0, .int .i64 0, .int .i64 0, .int .i64 c, .int .i64 s, .int .i64 (-1), .int .i64 (-1), .int .i64 0, .slice p 0 q]) ∧ sltR.O w' W.heap.size F (.agg #[.int .i64 c, .int .i64 s, .int .i64 (-1), .int .i64 (-1), .int .i64 0, .slice p 0 q]) (freS c s) ∧ Below W.heap.size W w'
theorem newE_of {c s : Int} {W : World} {e : Ending} {w' : World} (h : ∃ v F, e = .returned v ∧ sltRR.O w' W.heap.size F v ⟨0, 0, 0, freS c s⟩ ∧ Below W.heap.size W w') : NewE c s W e w' := by
  obtain ⟨v, F, rfl, h, hb⟩ := h
  obtain ⟨u, F1, rfl, h1, _⟩ := h
  obtain ⟨p, q, e, _⟩ := slt_cells h1
  simp only [freS, Value.agg.injEq, Array.mk.injEq, List.cons.injEq, and_true, true_and, List.length_nil] at e
  subst e
  exact ⟨p, q, F1, rfl, h1, hb⟩
theorem implNew_ok (c s : Int) (W : World) (h : idOk c s = true) : Calls Try.prog 27 #[.int .i64 c, .int .i64 s] W (NewE c s W) := by
  refine (implNewS_u c s W).mono ?_
  intro e w' h1
  rw [newSlt_ok h] at h1
  exact newE_of h1
def NewB (W : World) (e : Ending) (w' : World) : Prop :=
  e = .returned (.agg #[.int .i64 3, .int .i64 0, .int .i64 0, .int .i64 0, .int .i64 0, .int .i64 0, .int .i64 0, .int .i64 0, .slice none 0 0]) ∧ Below W.heap.size W w'
set_option maxHeartbeats 1000000 in
theorem implNew_bad (c s : Int) (W : World) (h : idOk c s = false) : Calls Try.prog 27 #[.int .i64 c, .int .i64 s] W (NewB W) := by
  unfold idOk at h
  cases h1 : inB c 1 1000000000
  · go_enter Try.func27, Try.ntmps27
    go_wp2_with (first | (go_at_call 41; refine (isId_any _ _).mono ?_; rintro e w' ⟨rfl, rfl⟩; rw [h1]) | (go_at_call 42; refine (isShard_any _ _).mono ?_; rintro e w' ⟨rfl, rfl⟩))
    exact bodyPost_ret (v := .agg #[.int .i64 3, .int .i64 0, .int .i64 0, .int .i64 0, .int .i64 0, .int .i64 0, .int .i64 0, .int .i64 0, .slice none 0 0]) (by simp [results, Try.results27, go_sem]) rfl ⟨rfl, by (repeat (first | exact Below.refl _ _ | assumption | refine Below.drew ?_ | refine balloc ?_ _ | refine bset ?_ (by simp; omega) _ | refine bset ?_ (by simp) _ | refine bstep ?_ (by assumption)))⟩
  · rw [h1, Bool.true_and] at h
    go_enter Try.func27, Try.ntmps27
    go_wp2_with (first | (go_at_call 41; refine (isId_any _ _).mono ?_; rintro e w' ⟨rfl, rfl⟩; rw [h1]) | (go_at_call 42; refine (isShard_any _ _).mono ?_; rintro e w' ⟨rfl, rfl⟩; rw [h]))
    exact bodyPost_ret (v := .agg #[.int .i64 3, .int .i64 0, .int .i64 0, .int .i64 0, .int .i64 0, .int .i64 0, .int .i64 0, .int .i64 0, .slice none 0 0]) (by simp [results, Try.results27, go_sem]) rfl ⟨rfl, by (repeat (first | exact Below.refl _ _ | assumption | refine Below.drew ?_ | refine balloc ?_ _ | refine bset ?_ (by simp; omega) _ | refine bset ?_ (by simp) _ | refine bstep ?_ (by assumption)))⟩
end Go.Proofs.Yteppnppknfldbaa

/-
  Lists of acceptors: their fault.
-/
set_option linter.unusedSimpArgs false
set_option linter.unusedVariables false
namespace Go.Proofs.Yteppnppknfldbaa
open Go.RowKit
set_option linter.unusedSectionVars false
variable [DecidableEq Vot] [Inhabited Vot] [DecidableEq Slt] [Inhabited Slt] [DecidableEq SltR] [Inhabited SltR] [DecidableEq Bal] [Inhabited Bal] [DecidableEq Ledg] [Inhabited Ledg] [DecidableEq Leg] [Inhabited Leg] [DecidableEq Acc] [Inhabited Acc] [DecidableEq AccR] [Inhabited AccR] [DecidableEq AccsR] [Inhabited AccsR] [DecidableEq SltsR] [Inhabited SltsR]
attribute [local go_sem ↓] Go.wp_at_zero Go.wp_at_succ

theorem accs_at {w : World} {x : Value} {l : List Acc} (hx : accsR.V w x l) : ∃ a c, x = .slice a l.length c ∧ l.length ≤ c ∧ c ≤ maxLen ∧ ∀ k, k < l.length → ∃ b o p q, a = some ⟨b, o, none⟩ ∧ w.cell? ⟨b, o + k, none⟩ = some (.slice p (l.getD k default).slots.length q) ∧ accR.V w (.agg #[.slice p (l.getD k default).slots.length q]) (l.getD k default) := by
  obtain ⟨a, c, rfl, h1, h2, h3⟩ := hx
  refine ⟨a, c, rfl, h1, h2, fun k hk => ?_⟩
  obtain ⟨b, o, u, e, _, hc, hv⟩ := h3 k hk
  have hV := hv
  obtain ⟨u1, rfl, hs⟩ := hv
  obtain ⟨p, q, rfl⟩ := slts_form hs
  have h0 := hc 0 (by omega)
  exact ⟨b, o, p, q, e, by simpa [lvAcc, one] using h0, hV⟩
set_option maxHeartbeats 4000000 in
theorem implListF_any (x : Value) (l : List Acc) (w : World) (hx : accsR.V w x l) :
    Calls Try.prog 26 #[x] w fun e w' => e = .returned (.int .i64 (listF l)) ∧ Below w.heap.size w w' := by
  obtain ⟨a, c, rfl, hcx, hmx, hx⟩ := accs_at hx
  unfold maxLen at hmx
  have hXs : Hid (∀ k, k < l.length → ∃ b o p q, a = some ⟨b, o, none⟩ ∧ w.cell? ⟨b, o + k, none⟩ = some (.slice p (l.getD k default).slots.length q) ∧ accR.V w (.agg #[.slice p (l.getD k default).slots.length q]) (l.getD k default)) := hx
  clear hx
  have H1 : Hid ((l.length < 1 ∨ 5 < l.length) → listF l = 2) := fun h => listF_many h
  have H2 : Hid (¬ (l.length < 1 ∨ 5 < l.length) → scanI (fun k => accF (l.getD k default).slots) l.length = 0 → listF l = 0) := fun h h' => listF_end h h'
  have H3 : Hid (∀ k c, ¬ (l.length < 1 ∨ 5 < l.length) → k < l.length → scanI (fun k => accF (l.getD k default).slots) k = 0 → accF (l.getD k default).slots = c → ¬ c = 0 → listF l = c) := fun k c h hk hs hc h0 => listF_hit h hk hs hc h0
  generalize listF l = R at *
  generalize hn : l.length = n at *
  clear hn
  by_cases h1 : n < 1
  · have HC : Hid (R = 2) := H1.out (.inl h1)
    have h1' : (n : Int) < 1 := by omega
    clear H1 H2 H3 hXs
    go_enter Try.func26, Try.ntmps26
    go_wp2
    go_ret
    exact ⟨by rw [HC.out]; rfl, by (repeat (first | exact Below.refl _ _ | assumption | refine Below.drew ?_ | refine balloc ?_ _ | refine bset ?_ (by simp; omega) _ | refine bset ?_ (by simp) _ | refine bstep ?_ (by assumption)))⟩
  by_cases h5 : 5 < n
  · have HC : Hid (R = 2) := H1.out (.inr h5)
    have h1' : ¬ (n : Int) < 1 := by omega
    have h5' : (5 : Int) < n := by omega
    clear H1 H2 H3 hXs
    go_enter Try.func26, Try.ntmps26
    go_wp2
    go_ret
    exact ⟨by rw [HC.out]; rfl, by (repeat (first | exact Below.refl _ _ | assumption | refine Below.drew ?_ | refine balloc ?_ _ | refine bset ?_ (by simp; omega) _ | refine bset ?_ (by simp) _ | refine bstep ?_ (by assumption)))⟩
  have HNo : Hid (¬ (n < 1 ∨ 5 < n)) := by show ¬ _; omega
  have h1' : ¬ (n : Int) < 1 := by omega
  have h5' : ¬ (5 : Int) < n := by omega
  clear H1
  go_enter Try.func26, Try.ntmps26
  go_wp2
  go_loopw [16] (fun i w' => ∃ k : Nat, k ≤ n ∧ i = .int .i64 k ∧ Hid (scanI (fun k => accF (l.getD k default).slots) k = 0) ∧ Below w.heap.size w w') (fun i _ => n - (intOf i).toNat)
  case atStart => exact ⟨0, Nat.zero_le _, rfl, rfl, Below.refl _ _⟩
  case round =>
    obtain ⟨k, hk, rfl, HS, hbl⟩ := hrel
    by_cases hlt : k < n
    · obtain ⟨b, o, p, q, rfl, hc, hV⟩ := hXs.out k hlt
      have HF : Hid (∀ W, Below w.heap.size w W → Calls Try.prog 40 #[.agg #[.slice p (l.getD k default).slots.length q]] W fun e w' => e = .returned (.int .i64 (accF (l.getD k default).slots)) ∧ Below W.heap.size W w') := fun W hW => implAccF_any _ _ W (accR.below hV hW)
      have HH : Hid (¬ accF (l.getD k default).slots = 0 → R = accF (l.getD k default).slots) := fun h => H3.out k _ HNo.out hlt HS.out rfl h
      have HZ : Hid (accF (l.getD k default).slots = 0 → scanI (fun k => accF (l.getD k default).slots) (k + 1) = 0) := fun h => scanI_succ (f := fun k => accF (l.getD k default).slots) HS.out h
      replace hc := cell_keep hbl hc
      clear hV
      generalize (l.getD k default).slots.length = m at *
      generalize accF (l.getD k default).slots = g at *
      go_wp2_with fail
      refine (HF.out _ (by (repeat (first | exact Below.refl _ _ | assumption | refine Below.drew ?_ | refine balloc ?_ _ | refine bset ?_ (by simp; omega) _ | refine bset ?_ (by simp) _ | refine bstep ?_ (by assumption))))).mono ?_
      rintro e w1 ⟨rfl, hb1⟩
      have hB1 : Below w.heap.size w w1 := bstep (by (repeat (first | exact Below.refl _ _ | assumption | refine Below.drew ?_ | refine balloc ?_ _ | refine bset ?_ (by simp; omega) _ | refine bset ?_ (by simp) _ | refine bstep ?_ (by assumption)))) hb1
      clear hb1 hc HF
      by_cases hg : g = 0
      · have HZ2 : Hid (scanI (fun k => accF (l.getD k default).slots) (k + 1) = 0) := HZ.out hg
        subst hg
        clear HH HZ
        go_wp2
        exact ⟨⟨k + 1, by omega, by go_num, HZ2, hB1⟩, by simp [intOf]; omega⟩
      · have HC : Hid (R = g) := HH.out hg
        have hg' : (g != 0) = true := by simp [hg]
        clear HH HZ
        go_wp2
        go_ret
        exact ⟨by rw [HC.out]; rfl, hB1⟩
    · have hkn : k = n := by omega
      subst hkn
      have HC : Hid (R = 0) := H2.out HNo.out HS.out
      go_wp2
      go_ret
      exact ⟨by rw [HC.out]; rfl, hbl⟩
def freC (l : List Acc) (c s : Int) : Int := if listF l = 0 then (if idOk c s = true then 0 else 3) else listF l
def FreE (l : List Acc) (c s : Int) (W : World) (e : Ending) (w' : World) : Prop :=
  (freC l c s = 0 → NewE c s W e w') ∧ (¬ freC l c s = 0 → e = .returned (.agg #[.int .i64 (freC l c s), .int .i64 0, .int .i64 0, .int .i64 0, .int .i64 0, .int .i64 0, .int .i64 0, .int .i64 0, .slice none 0 0]) ∧ Below W.heap.size W w')
theorem freC_ok {l : List Acc} {c s : Int} (h : freC l c s = 0) : listF l = 0 ∧ idOk c s = true := by
  unfold freC at h
  by_cases h1 : listF l = 0
  · rw [if_pos h1] at h
    refine ⟨h1, ?_⟩
    cases h2 : idOk c s with
    | true => rfl
    | false => rw [h2] at h; simp at h
  · rw [if_neg h1] at h
    exact absurd h h1
set_option maxHeartbeats 2000000 in
theorem freshFor_u (x : Value) (l : List Acc) (c s : Int) (w : World) (hx : accsR.V w x l) :
    Calls Try.prog 11 #[x, .int .i64 c, .int .i64 s] w (FreE l c s w) := by
  have HL : Hid (∀ W, Below w.heap.size w W → Calls Try.prog 26 #[x] W fun e w' => e = .returned (.int .i64 (listF l)) ∧ Below W.heap.size W w') := fun W hW => implListF_any x l W (accsR.below hx hW)
  obtain ⟨a, cc, rfl⟩ := accs_form hx
  clear hx
  generalize l.length = n at *
  by_cases hf : listF l = 0
  · cases hid : idOk c s
    · have HC : Hid (freC l c s = 3) := by show _ = _; unfold freC; rw [if_pos hf, hid]; rfl
      have HNw : Hid (∀ W, Calls Try.prog 27 #[.int .i64 c, .int .i64 s] W (NewB W)) := fun W => implNew_bad c s W hid
      rw [hf] at HL
      go_enter Try.func11, Try.ntmps11
      go_wp2_with fail
      refine (HL.out _ (by (repeat (first | exact Below.refl _ _ | assumption | refine Below.drew ?_ | refine balloc ?_ _ | refine bset ?_ (by simp; omega) _ | refine bset ?_ (by simp) _ | refine bstep ?_ (by assumption))))).mono ?_
      rintro e w1 ⟨rfl, hb1⟩
      have hB1 : Below w.heap.size w w1 := by (repeat (first | exact Below.refl _ _ | assumption | refine Below.drew ?_ | refine balloc ?_ _ | refine bset ?_ (by simp; omega) _ | refine bset ?_ (by simp) _ | refine bstep ?_ (by assumption)))
      have hz1 := hb1.size
      simp at hz1
      obtain ⟨c1, f1⟩ := bcell hb1
      have r0 : w1.cell? ⟨w.heap.size, 0, none⟩ = some (.int .i64 0) := cell_keep hb1 (by simp [go_sem])
      have r1 : w1.cell? ⟨w.heap.size, 1, none⟩ = some (.int .i64 0) := cell_keep hb1 (by simp [go_sem])
      have r2 : w1.cell? ⟨w.heap.size, 2, none⟩ = some (.int .i64 0) := cell_keep hb1 (by simp [go_sem])
      have r3 : w1.cell? ⟨w.heap.size, 3, none⟩ = some (.int .i64 0) := cell_keep hb1 (by simp [go_sem])
      have r4 : w1.cell? ⟨w.heap.size, 4, none⟩ = some (.int .i64 0) := cell_keep hb1 (by simp [go_sem])
      have r5 : w1.cell? ⟨w.heap.size, 5, none⟩ = some (.int .i64 0) := cell_keep hb1 (by simp [go_sem])
      have r6 : w1.cell? ⟨w.heap.size, 6, none⟩ = some (.int .i64 0) := cell_keep hb1 (by simp [go_sem])
      have r7 : w1.cell? ⟨w.heap.size, 7, none⟩ = some (.int .i64 0) := cell_keep hb1 (by simp [go_sem])
      have r8 : w1.cell? ⟨w.heap.size, 8, none⟩ = some (.slice none 0 0) := cell_keep hb1 (by simp [go_sem])
      have rf : ∀ o, w1.frozen? ⟨w.heap.size, o, none⟩ = false := fun o => by rw [f1 _ _ (by simp; try omega)]; simp [go_sem]
      clear hb1 c1 f1
      go_wp2_with fail
      refine (HNw.out _).mono ?_
      rintro e w2 ⟨rfl, hb2⟩
      have hB2 : Below w.heap.size w w2 := bstep hB1 hb2
      replace r0 := cell_keep hb2 r0
      replace r1 := cell_keep hb2 r1
      replace r2 := cell_keep hb2 r2
      replace r3 := cell_keep hb2 r3
      replace r4 := cell_keep hb2 r4
      replace r5 := cell_keep hb2 r5
      replace r6 := cell_keep hb2 r6
      replace r7 := cell_keep hb2 r7
      replace r8 := cell_keep hb2 r8
      replace rf : ∀ o, w2.frozen? ⟨w.heap.size, o, none⟩ = false := fun o => by rw [(bcell hb2).2 _ _ (by omega)]; exact rf o
      clear hb2
      go_wp2
      refine bodyPost_ret (v := .agg #[.int .i64 3, .int .i64 0, .int .i64 0, .int .i64 0, .int .i64 0, .int .i64 0, .int .i64 0, .int .i64 0, .slice none 0 0]) (by simp [results, Try.results11, go_sem, r0, r1, r2, r3, r4, r5, r6, r7, r8, rf]) rfl ⟨fun h => by rw [HC.out] at h; omega, fun _ => ⟨by rw [HC.out], by (repeat (first | refine bset ?_ (by simp; omega) _ | refine bset ?_ (by simp) _ | refine balloc ?_ _ | assumption))⟩⟩
    · have HC : Hid (freC l c s = 0) := by show _ = _; unfold freC; rw [if_pos hf, hid]; rfl
      have HNw : Hid (∀ W, Calls Try.prog 27 #[.int .i64 c, .int .i64 s] W (NewE c s W)) := fun W => implNew_ok c s W hid
      rw [hf] at HL
      go_enter Try.func11, Try.ntmps11
      go_wp2_with fail
      refine (HL.out _ (by (repeat (first | exact Below.refl _ _ | assumption | refine Below.drew ?_ | refine balloc ?_ _ | refine bset ?_ (by simp; omega) _ | refine bset ?_ (by simp) _ | refine bstep ?_ (by assumption))))).mono ?_
      rintro e w1 ⟨rfl, hb1⟩
      have hB1 : Below w.heap.size w w1 := by (repeat (first | exact Below.refl _ _ | assumption | refine Below.drew ?_ | refine balloc ?_ _ | refine bset ?_ (by simp; omega) _ | refine bset ?_ (by simp) _ | refine bstep ?_ (by assumption)))
      have hz1 := hb1.size
      simp at hz1
      obtain ⟨c1, f1⟩ := bcell hb1
      have r0 : w1.cell? ⟨w.heap.size, 0, none⟩ = some (.int .i64 0) := cell_keep hb1 (by simp [go_sem])
      have r1 : w1.cell? ⟨w.heap.size, 1, none⟩ = some (.int .i64 0) := cell_keep hb1 (by simp [go_sem])
      have r2 : w1.cell? ⟨w.heap.size, 2, none⟩ = some (.int .i64 0) := cell_keep hb1 (by simp [go_sem])
      have r3 : w1.cell? ⟨w.heap.size, 3, none⟩ = some (.int .i64 0) := cell_keep hb1 (by simp [go_sem])
      have r4 : w1.cell? ⟨w.heap.size, 4, none⟩ = some (.int .i64 0) := cell_keep hb1 (by simp [go_sem])
      have r5 : w1.cell? ⟨w.heap.size, 5, none⟩ = some (.int .i64 0) := cell_keep hb1 (by simp [go_sem])
      have r6 : w1.cell? ⟨w.heap.size, 6, none⟩ = some (.int .i64 0) := cell_keep hb1 (by simp [go_sem])
      have r7 : w1.cell? ⟨w.heap.size, 7, none⟩ = some (.int .i64 0) := cell_keep hb1 (by simp [go_sem])
      have r8 : w1.cell? ⟨w.heap.size, 8, none⟩ = some (.slice none 0 0) := cell_keep hb1 (by simp [go_sem])
      have rf : ∀ o, w1.frozen? ⟨w.heap.size, o, none⟩ = false := fun o => by rw [f1 _ _ (by simp; try omega)]; simp [go_sem]
      clear hb1 c1 f1
      go_wp2_with fail
      refine (HNw.out _).mono ?_
      rintro e w2 ⟨p2, q2, F2, rfl, o2, hb2⟩
      have hB2 : Below w.heap.size w w2 := bstep hB1 hb2
      have hz2 := hb2.size
      have HO : Hid (sltR.O w2 (w.heap.size + 1) F2 (.agg #[.int .i64 c, .int .i64 s, .int .i64 (-1), .int .i64 (-1), .int .i64 0, .slice p2 0 q2]) (freS c s)) := sltR.base o2 (by omega)
      replace r0 := cell_keep hb2 r0
      replace r1 := cell_keep hb2 r1
      replace r2 := cell_keep hb2 r2
      replace r3 := cell_keep hb2 r3
      replace r4 := cell_keep hb2 r4
      replace r5 := cell_keep hb2 r5
      replace r6 := cell_keep hb2 r6
      replace r7 := cell_keep hb2 r7
      replace r8 := cell_keep hb2 r8
      replace rf : ∀ o, w2.frozen? ⟨w.heap.size, o, none⟩ = false := fun o => by rw [(bcell hb2).2 _ _ (by omega)]; exact rf o
      clear hb2 o2
      go_wp2
      refine bodyPost_ret (v := .agg #[.int .i64 0, .int .i64 0, .int .i64 0, .int .i64 c, .int .i64 s, .int .i64 (-1), .int .i64 (-1), .int .i64 0, .slice p2 0 q2]) (by simp [results, Try.results11, go_sem, r0, r1, r2, r3, r4, r5, r6, r7, r8, rf]) rfl ⟨fun _ => ⟨p2, q2, F2, rfl, ?_, by (repeat (first | refine bset ?_ (by simp; omega) _ | refine bset ?_ (by simp) _ | refine balloc ?_ _ | assumption))⟩, fun h => absurd HC.out h⟩
      have hk : ∀ (W : World) (u : Value) (j : Nat), sltR.O W (w.heap.size + 1) F2 (.agg #[.int .i64 c, .int .i64 s, .int .i64 (-1), .int .i64 (-1), .int .i64 0, .slice p2 0 q2]) (freS c s) → sltR.O (W.setCell ⟨w.heap.size, j, none⟩ u) (w.heap.size + 1) F2 (.agg #[.int .i64 c, .int .i64 s, .int .i64 (-1), .int .i64 (-1), .int .i64 0, .slice p2 0 q2]) (freS c s) := fun W u j h => Rep.set _ h u (by simp)
      exact sltR.base (hk _ _ _ (hk _ _ _ (hk _ _ _ (hk _ _ _ (hk _ _ _ (hk _ _ _ (hk _ _ _ (hk _ _ _ (hk _ _ _ HO.out))))))))) (by omega)
  · have HC : Hid (freC l c s = listF l) := by show _ = _; unfold freC; rw [if_neg hf]
    generalize listF l = g at *
    have hg' : (g != 0) = true := by simp [hf]
    go_enter Try.func11, Try.ntmps11
    go_wp2_with fail
    refine (HL.out _ (by (repeat (first | exact Below.refl _ _ | assumption | refine Below.drew ?_ | refine balloc ?_ _ | refine bset ?_ (by simp; omega) _ | refine bset ?_ (by simp) _ | refine bstep ?_ (by assumption))))).mono ?_
    rintro e w1 ⟨rfl, hb1⟩
    have hB1 : Below w.heap.size w w1 := by (repeat (first | exact Below.refl _ _ | assumption | refine Below.drew ?_ | refine balloc ?_ _ | refine bset ?_ (by simp; omega) _ | refine bset ?_ (by simp) _ | refine bstep ?_ (by assumption)))
    have hz1 := hb1.size
    simp at hz1
    obtain ⟨c1, f1⟩ := bcell hb1
    have r0 : w1.cell? ⟨w.heap.size, 0, none⟩ = some (.int .i64 0) := cell_keep hb1 (by simp [go_sem])
    have r1 : w1.cell? ⟨w.heap.size, 1, none⟩ = some (.int .i64 0) := cell_keep hb1 (by simp [go_sem])
    have r2 : w1.cell? ⟨w.heap.size, 2, none⟩ = some (.int .i64 0) := cell_keep hb1 (by simp [go_sem])
    have r3 : w1.cell? ⟨w.heap.size, 3, none⟩ = some (.int .i64 0) := cell_keep hb1 (by simp [go_sem])
    have r4 : w1.cell? ⟨w.heap.size, 4, none⟩ = some (.int .i64 0) := cell_keep hb1 (by simp [go_sem])
    have r5 : w1.cell? ⟨w.heap.size, 5, none⟩ = some (.int .i64 0) := cell_keep hb1 (by simp [go_sem])
    have r6 : w1.cell? ⟨w.heap.size, 6, none⟩ = some (.int .i64 0) := cell_keep hb1 (by simp [go_sem])
    have r7 : w1.cell? ⟨w.heap.size, 7, none⟩ = some (.int .i64 0) := cell_keep hb1 (by simp [go_sem])
    have r8 : w1.cell? ⟨w.heap.size, 8, none⟩ = some (.slice none 0 0) := cell_keep hb1 (by simp [go_sem])
    have rf : ∀ o, w1.frozen? ⟨w.heap.size, o, none⟩ = false := fun o => by rw [f1 _ _ (by simp; try omega)]; simp [go_sem]
    clear hb1 c1 f1
    go_wp2
    refine bodyPost_ret (v := .agg #[.int .i64 g, .int .i64 0, .int .i64 0, .int .i64 0, .int .i64 0, .int .i64 0, .int .i64 0, .int .i64 0, .slice none 0 0]) (by simp [results, Try.results11, go_sem, r0, r1, r2, r3, r4, r5, r6, r7, r8, rf]) rfl ⟨fun h => absurd (by rw [HC.out] at h; exact h) hf, fun _ => ⟨by rw [HC.out], by (repeat (first | refine bset ?_ (by simp; omega) _ | refine bset ?_ (by simp) _ | refine balloc ?_ _ | assumption))⟩⟩
end Go.Proofs.Yteppnppknfldbaa

/-
  One slot more behind slots, one acceptor more behind acceptors.
-/
set_option linter.unusedVariables false
namespace Go.Proofs.Yteppnppknfldbaa
open Go.RowKit
set_option linter.unusedSectionVars false
variable [DecidableEq Vot] [Inhabited Vot] [DecidableEq Slt] [Inhabited Slt] [DecidableEq Bal] [Inhabited Bal] [DecidableEq Ledg] [Inhabited Ledg] [DecidableEq Leg] [Inhabited Leg] [DecidableEq Acc] [Inhabited Acc]

theorem wpl_appS (w : World) {ops : Array Oper} {rest : List Oper} {o : Oper} {a : Act} {Q : Exit → Act → World → Prop} (hgd : o.guard = none) (s x : Operand)
    (ho : o.op = .call { callee := .builtin .append, args := #[s, x], argTypes := #[31, 31] })
    (base : Nat) (F Fu : Nat → Prop) (v : Value) (xs : List Slt) (y : Slt) (g : Nat) (p : Option Addr) (q : Nat) (hs : a.eval s = v) (hx : a.eval x = .slice (some ⟨g, 0, none⟩) 1 1) (hown : sltsR.O w base F v xs) (hu : sltR.O w base Fu (.agg #[.int .i64 y.con, .int .i64 y.sh, .int .i64 y.pr, .int .i64 y.lb, .int .i64 y.lv, .slice p y.cast.length q]) y) (hd : ∀ b, F b → ¬ Fu b)
    (hc : w.cell? ⟨g, 0, none⟩ = some (.int .i64 y.con) ∧ w.cell? ⟨g, 0 + 1, none⟩ = some (.int .i64 y.sh) ∧ w.cell? ⟨g, 0 + 2, none⟩ = some (.int .i64 y.pr) ∧ w.cell? ⟨g, 0 + 3, none⟩ = some (.int .i64 y.lb) ∧ w.cell? ⟨g, 0 + 4, none⟩ = some (.int .i64 y.lv) ∧ w.cell? ⟨g, 0 + 5, none⟩ = some (.slice p y.cast.length q)) (hn : xs.length ≤ 2000000) (hbase : base ≤ w.heap.size)
    (h : ∀ v' w' F', sltsR.O w' base F' v' (xs ++ [y]) → Below base w w' → (∀ b, F' b → F b ∨ Fu b ∨ w.heap.size ≤ b) → wpList Try.prog ops Q rest (a.put o.dst v') w') : wpList Try.prog ops Q (o :: rest) a w := by
  obtain ⟨i0, hi, hz0, hz1, hz2⟩ := info_parts infoSlts
  obtain ⟨h6, h1⟩ := slt_one6 hu
  exact wpl_appN w hgd s x 31 ho 43 i0 _ 6 64 Try.underlying31 hi hz0 hz1 hz2 rfl (by decide) (by decide) base F Fu v _ xs y ⟨g, 0, none⟩ 1 hs hx hown hu h6 h1 hd (fun j y' hj => by
    match j, hj with
    | 0, hj => simp [lvSlt, one] at hj; subst hj; simpa [Addr.add] using hc.1
    | 1, hj => simp [lvSlt, one] at hj; subst hj; simpa [Addr.add] using hc.2.1
    | 2, hj => simp [lvSlt, one] at hj; subst hj; simpa [Addr.add] using hc.2.2.1
    | 3, hj => simp [lvSlt, one] at hj; subst hj; simpa [Addr.add] using hc.2.2.2.1
    | 4, hj => simp [lvSlt, one] at hj; subst hj; simpa [Addr.add] using hc.2.2.2.2.1
    | 5, hj => simp [lvSlt, one] at hj; subst hj; simpa [Addr.add] using hc.2.2.2.2.2
    | j + 6, hj => simp [lvSlt, one] at hj) hn hbase h
theorem acc_cells {w : World} {base : Nat} {F : Nat → Prop} {u : Value} {x : Acc} (h : accR.O w base F u x) : ∃ a c, u = .agg #[.slice a x.slots.length c] ∧ lvAcc u = [.slice a x.slots.length c] := by
  obtain ⟨u1, F1, rfl, h1, _⟩ := h
  obtain ⟨a, c, rfl⟩ := slts_form (sltsR.ofO h1)
  exact ⟨a, c, rfl, rfl⟩
theorem wpl_appA (w : World) {ops : Array Oper} {rest : List Oper} {o : Oper} {a : Act} {Q : Exit → Act → World → Prop} (hgd : o.guard = none) (s x : Operand)
    (ho : o.op = .call { callee := .builtin .append, args := #[s, x], argTypes := #[25, 25] })
    (base : Nat) (F Fu : Nat → Prop) (v : Value) (xs : List Acc) (y : Acc) (g : Nat) (p : Option Addr) (q : Nat) (hs : a.eval s = v) (hx : a.eval x = .slice (some ⟨g, 0, none⟩) 1 1) (hown : accsR.O w base F v xs) (hu : accR.O w base Fu (.agg #[.slice p y.slots.length q]) y) (hd : ∀ b, F b → ¬ Fu b)
    (hc : w.cell? ⟨g, 0, none⟩ = some (.slice p y.slots.length q)) (hn : xs.length ≤ 2000000) (hbase : base ≤ w.heap.size)
    (h : ∀ v' w' F', accsR.O w' base F' v' (xs ++ [y]) → Below base w w' → (∀ b, F' b → F b ∨ Fu b ∨ w.heap.size ≤ b) → wpList Try.prog ops Q rest (a.put o.dst v') w') : wpList Try.prog ops Q (o :: rest) a w := by
  obtain ⟨i0, hi, hz0, hz1, hz2⟩ := info_parts infoAccs
  exact wpl_appN w hgd s x 25 ho 50 i0 _ 1 24 Try.underlying25 hi hz0 hz1 hz2 rfl (by decide) (by decide) base F Fu v _ xs y ⟨g, 0, none⟩ 1 hs hx hown hu rfl (fun y' hy => by simp [lvAcc, one] at hy; subst hy; rfl) hd (fun j y' hj => by
    match j, hj with
    | 0, hj => simp [lvAcc, one] at hj; subst hj; simpa [Addr.add] using hc
    | j + 1, hj => simp [lvAcc, one] at hj) hn hbase h
end Go.Proofs.Yteppnppknfldbaa

/-
  slices.BinarySearchFunc over slots; where a slot stands.
-/
set_option linter.unusedVariables false
set_option linter.unusedSimpArgs false
namespace Go.Proofs.Yteppnppknfldbaa
open Go.RowKit
set_option linter.unusedSectionVars false
variable [DecidableEq Vot] [Inhabited Vot] [DecidableEq Slt] [Inhabited Slt] [DecidableEq SltR] [Inhabited SltR] [DecidableEq Bal] [Inhabited Bal] [DecidableEq Ledg] [Inhabited Ledg] [DecidableEq Leg] [Inhabited Leg] [DecidableEq Acc] [Inhabited Acc] [DecidableEq AccR] [Inhabited AccR] [DecidableEq AccsR] [Inhabited AccsR] [DecidableEq SltsR] [Inhabited SltsR]
attribute [local go_sem ↓] Go.wp_at_zero Go.wp_at_succ

theorem sltKeep2 {w w' : World} {b o b' o' : Nat} {x y : Slt} {u v : Value} (hb : Below w.heap.size w w') (h : w.cell? ⟨b, o, none⟩ = some (.int .i64 x.con) ∧ w.cell? ⟨b, o + 1, none⟩ = some (.int .i64 x.sh) ∧ w.cell? ⟨b, o + 2, none⟩ = some (.int .i64 x.pr) ∧ w.cell? ⟨b, o + 3, none⟩ = some (.int .i64 x.lb) ∧ w.cell? ⟨b, o + 4, none⟩ = some (.int .i64 x.lv) ∧ w.cell? ⟨b, o + 5, none⟩ = some (u)) (h' : w.cell? ⟨b', o', none⟩ = some (.int .i64 y.con) ∧ w.cell? ⟨b', o' + 1, none⟩ = some (.int .i64 y.sh) ∧ w.cell? ⟨b', o' + 2, none⟩ = some (.int .i64 y.pr) ∧ w.cell? ⟨b', o' + 3, none⟩ = some (.int .i64 y.lb) ∧ w.cell? ⟨b', o' + 4, none⟩ = some (.int .i64 y.lv) ∧ w.cell? ⟨b', o' + 5, none⟩ = some (v)) :
    Below w.heap.size w w' ∧ (w'.cell? ⟨b, o, none⟩ = some (.int .i64 x.con) ∧ w'.cell? ⟨b, o + 1, none⟩ = some (.int .i64 x.sh) ∧ w'.cell? ⟨b, o + 2, none⟩ = some (.int .i64 x.pr) ∧ w'.cell? ⟨b, o + 3, none⟩ = some (.int .i64 x.lb) ∧ w'.cell? ⟨b, o + 4, none⟩ = some (.int .i64 x.lv) ∧ w'.cell? ⟨b, o + 5, none⟩ = some (u)) ∧ (w'.cell? ⟨b', o', none⟩ = some (.int .i64 y.con) ∧ w'.cell? ⟨b', o' + 1, none⟩ = some (.int .i64 y.sh) ∧ w'.cell? ⟨b', o' + 2, none⟩ = some (.int .i64 y.pr) ∧ w'.cell? ⟨b', o' + 3, none⟩ = some (.int .i64 y.lb) ∧ w'.cell? ⟨b', o' + 4, none⟩ = some (.int .i64 y.lv) ∧ w'.cell? ⟨b', o' + 5, none⟩ = some (v)) :=
  ⟨hb, ⟨cell_keep hb h.1, cell_keep hb h.2.1, cell_keep hb h.2.2.1, cell_keep hb h.2.2.2.1, cell_keep hb h.2.2.2.2.1, cell_keep hb h.2.2.2.2.2⟩, ⟨cell_keep hb h'.1, cell_keep hb h'.2.1, cell_keep hb h'.2.2.1, cell_keep hb h'.2.2.2.1, cell_keep hb h'.2.2.2.2.1, cell_keep hb h'.2.2.2.2.2⟩⟩
theorem slts_at {w : World} {a : Option Addr} {xs : List Slt} {n k : Nat} (hx : ∀ i, i < n → ∃ b o u, a = some ⟨b, o, none⟩ ∧ (lvSlt u).length = 6 ∧ (∀ j, j < 6 → w.cell? ⟨b, o + i * 6 + j, none⟩ = (lvSlt u)[j]?) ∧ sltR.V w u (xs.getD i default)) (hk : k < n) :
    ∃ b o p q, a = some ⟨b, o, none⟩ ∧ (w.cell? ⟨b, o + k * 6, none⟩ = some (.int .i64 (xs.getD k default).con) ∧ w.cell? ⟨b, o + k * 6 + 1, none⟩ = some (.int .i64 (xs.getD k default).sh) ∧ w.cell? ⟨b, o + k * 6 + 2, none⟩ = some (.int .i64 (xs.getD k default).pr) ∧ w.cell? ⟨b, o + k * 6 + 3, none⟩ = some (.int .i64 (xs.getD k default).lb) ∧ w.cell? ⟨b, o + k * 6 + 4, none⟩ = some (.int .i64 (xs.getD k default).lv) ∧ w.cell? ⟨b, o + k * 6 + 5, none⟩ = some (.slice p (xs.getD k default).cast.length q)) ∧ sltR.V w (.agg #[.int .i64 (xs.getD k default).con, .int .i64 (xs.getD k default).sh, .int .i64 (xs.getD k default).pr, .int .i64 (xs.getD k default).lb, .int .i64 (xs.getD k default).lv, .slice p (xs.getD k default).cast.length q]) (xs.getD k default) := by
  obtain ⟨b, o, u, e, _, p, hv⟩ := hx k hk
  have hV := hv
  obtain ⟨s, rfl, hc⟩ := hv
  obtain ⟨au, cu, rfl⟩ := vots_form hc
  exact ⟨b, o, au, cu, e, ⟨p 0 (by omega), p 1 (by omega), p 2 (by omega), p 3 (by omega), p 4 (by omega), p 5 (by omega)⟩, hV⟩
set_option maxRecDepth 20000 in
set_option maxHeartbeats 8000000 in
theorem bsS_any (x : Value) (xs : List Slt) (q : Slt) (uq : Value) (w : World) (hx : sltsR.V w x xs) (hn : xs.length ≤ 1048576)
    (hmono : ∀ a b, a ≤ b → b < xs.length → cmpS (xs.getD b default) q < 0 → cmpS (xs.getD a default) q < 0) :
    Calls Try.prog 47 #[x, .agg #[.int .i64 q.con, .int .i64 q.sh, .int .i64 q.pr, .int .i64 q.lb, .int .i64 q.lv, uq], .func (.func 48) #[] #[]] w fun e w' => ∃ i : Nat, i ≤ xs.length ∧ e = .returned (.tuple #[.int .i64 i, .bool (decide (i < xs.length ∧ cmpS (xs.getD i default) q = 0))]) ∧
      (∀ k, k < i → cmpS (xs.getD k default) q < 0) ∧ (∀ k, i ≤ k → k < xs.length → 0 ≤ cmpS (xs.getD k default) q) ∧ Below w.heap.size w w' := by
  obtain ⟨ax, cx, rfl, hcx, hmx, hx⟩ := hx
  unfold maxLen at hmx
  have HMO : Hid (∀ a b, a ≤ b → b < xs.length → cmpS (xs.getD b default) q < 0 → cmpS (xs.getD a default) q < 0) := hmono
  clear hmono
  have hX : Hid (∀ k, k < xs.length → ∃ b o p q, ax = some ⟨b, o, none⟩ ∧ (w.cell? ⟨b, o + k * 6, none⟩ = some (.int .i64 (xs.getD k default).con) ∧ w.cell? ⟨b, o + k * 6 + 1, none⟩ = some (.int .i64 (xs.getD k default).sh) ∧ w.cell? ⟨b, o + k * 6 + 2, none⟩ = some (.int .i64 (xs.getD k default).pr) ∧ w.cell? ⟨b, o + k * 6 + 3, none⟩ = some (.int .i64 (xs.getD k default).lb) ∧ w.cell? ⟨b, o + k * 6 + 4, none⟩ = some (.int .i64 (xs.getD k default).lv) ∧ w.cell? ⟨b, o + k * 6 + 5, none⟩ = some (.slice p (xs.getD k default).cast.length q)) ∧ sltR.V w (.agg #[.int .i64 (xs.getD k default).con, .int .i64 (xs.getD k default).sh, .int .i64 (xs.getD k default).pr, .int .i64 (xs.getD k default).lb, .int .i64 (xs.getD k default).lv, .slice p (xs.getD k default).cast.length q]) (xs.getD k default)) := fun k hk => slts_at hx hk
  clear hx
  generalize hN : xs.length = n at *
  clear hN
  have eg := enters_of Try.func48 (by kernel_rfl) rfl
  go_enter Try.func47, Try.ntmps47
  go_wp2
  go_loopw [9, 10] (fun a b W => ∃ i j : Nat, i ≤ j ∧ j ≤ n ∧ a = .int .i64 i ∧ b = .int .i64 j ∧ Hid (∀ k, k < i → cmpS (xs.getD k default) q < 0) ∧ Hid (∀ k, j ≤ k → k < n → 0 ≤ cmpS (xs.getD k default) q) ∧ (W.cell? ⟨w.heap.size, 0, none⟩ = some (.int .i64 q.con) ∧ W.cell? ⟨w.heap.size, 0 + 1, none⟩ = some (.int .i64 q.sh) ∧ W.cell? ⟨w.heap.size, 0 + 2, none⟩ = some (.int .i64 q.pr) ∧ W.cell? ⟨w.heap.size, 0 + 3, none⟩ = some (.int .i64 q.lb) ∧ W.cell? ⟨w.heap.size, 0 + 4, none⟩ = some (.int .i64 q.lv) ∧ W.cell? ⟨w.heap.size, 0 + 5, none⟩ = some (uq)) ∧ Below w.heap.size w W) (fun a b _ => (intOf b).toNat - (intOf a).toNat)
  case atStart => exact ⟨0, n, Nat.zero_le _, Nat.le_refl _, rfl, rfl, fun k h => absurd h (Nat.not_lt_zero _), fun k h1 h2 => by omega, by simp [go_sem], balloc (Below.refl _ _) _⟩
  case round =>
    obtain ⟨i, j, hij, hjn, rfl, rfl, HA, HB, hq, hbl⟩ := hrel
    by_cases hlt : i < j
    · have hlt' : (i : Int) < j := by omega
      go_wp2
      obtain ⟨m, hm⟩ : ∃ m : Nat, ((i : Int) + j) / 2 = (m : Int) := ⟨(i + j) / 2, by omega⟩
      have hm1 : i ≤ m := by omega
      have hm2 : m < j := by omega
      rw [hm]
      clear hm
      obtain ⟨b, o, pp, qq, rfl, hc, _⟩ := hX.out m (by omega)
      obtain ⟨l, hl⟩ : ∃ l, l = xs.getD m default := ⟨_, rfl⟩
      rw [← hl] at hc
      have HL : Hid (l = xs.getD m default) := hl
      clear hl hX
      have r1 := (sltKeep2 hbl hc hc).2.1
      have hi4 : (0 : Int) ≤ m := by omega
      have hi5 : (m : Int) < n := by omega
      go_region_held3 (fun W => Below wr.heap.size wr W ∧ (W.cell? ⟨b, o + m * 6, none⟩ = some (.int .i64 l.con) ∧ W.cell? ⟨b, o + m * 6 + 1, none⟩ = some (.int .i64 l.sh) ∧ W.cell? ⟨b, o + m * 6 + 2, none⟩ = some (.int .i64 l.pr) ∧ W.cell? ⟨b, o + m * 6 + 3, none⟩ = some (.int .i64 l.lb) ∧ W.cell? ⟨b, o + m * 6 + 4, none⟩ = some (.int .i64 l.lv) ∧ W.cell? ⟨b, o + m * 6 + 5, none⟩ = some (.slice pp l.cast.length qq)) ∧ (W.cell? ⟨w.heap.size, 0, none⟩ = some (.int .i64 q.con) ∧ W.cell? ⟨w.heap.size, 0 + 1, none⟩ = some (.int .i64 q.sh) ∧ W.cell? ⟨w.heap.size, 0 + 2, none⟩ = some (.int .i64 q.pr) ∧ W.cell? ⟨w.heap.size, 0 + 3, none⟩ = some (.int .i64 q.lb) ∧ W.cell? ⟨w.heap.size, 0 + 4, none⟩ = some (.int .i64 q.lv) ∧ W.cell? ⟨w.heap.size, 0 + 5, none⟩ = some (uq))) ((refine sltKeep2 ?_ r1 hq; repeat (first | exact Below.refl _ _ | assumption | refine Below.drew ?_ | refine balloc ?_ _ | refine bstep ?_ (by assumption))))
        (first | (go_at_call 48; refine (compareSlots_any l q _ _ _).mono ?_; rintro e wa ⟨rfl, hb1⟩))
      rename_i hH
      have hB := bstep hbl hH.1
      have hq2 := hH.2.2
      clear hH
      by_cases hneg : cmpS l q < 0
      · have hd : decide (cmpS l q < 0) = true := decide_eq_true hneg
        have HA2 : Hid (∀ k, k < m + 1 → cmpS (xs.getD k default) q < 0) := fun k hk => HMO.out k m (by omega) (by omega) (by rw [← HL.out]; exact hneg)
        go_wp2
        refine ⟨⟨m + 1, j, by omega, hjn, by go_num, rfl, HA2, HB, hq2, hB⟩, ?_⟩
        simp [intOf]
        omega
      · have hd : decide (cmpS l q < 0) = false := decide_eq_false hneg
        have HB2 : Hid (∀ k, m ≤ k → k < n → 0 ≤ cmpS (xs.getD k default) q) := fun k hk hkn => by
          by_cases h : cmpS (xs.getD k default) q < 0
          · have := HMO.out m k hk hkn h
            rw [← HL.out] at this
            exact absurd this hneg
          · omega
        go_wp2
        refine ⟨⟨i, m, hm1, by omega, rfl, rfl, HA, HB2, hq2, hB⟩, ?_⟩
        simp [intOf]
        omega
    · obtain rfl : i = j := by omega
      have hi4 : (0 : Int) ≤ i := by omega
      have hnl : ¬ (i : Int) < i := by omega
      by_cases hin : i < n
      · obtain ⟨b, o, pp, qq, rfl, hc, _⟩ := hX.out i hin
        obtain ⟨l, hl⟩ : ∃ l, l = xs.getD i default := ⟨_, rfl⟩
        rw [← hl] at hc
        have HL : Hid (l = xs.getD i default) := hl
        clear hl hX
        have r1 := (sltKeep2 hbl hc hc).2.1
        have hi5 : (i : Int) < n := by omega
        have hi6 : decide (i < n) = true := decide_eq_true hin
        go_wp2
        go_region_held3 (fun W => Below wr.heap.size wr W ∧ (W.cell? ⟨b, o + i * 6, none⟩ = some (.int .i64 l.con) ∧ W.cell? ⟨b, o + i * 6 + 1, none⟩ = some (.int .i64 l.sh) ∧ W.cell? ⟨b, o + i * 6 + 2, none⟩ = some (.int .i64 l.pr) ∧ W.cell? ⟨b, o + i * 6 + 3, none⟩ = some (.int .i64 l.lb) ∧ W.cell? ⟨b, o + i * 6 + 4, none⟩ = some (.int .i64 l.lv) ∧ W.cell? ⟨b, o + i * 6 + 5, none⟩ = some (.slice pp l.cast.length qq)) ∧ (W.cell? ⟨w.heap.size, 0, none⟩ = some (.int .i64 q.con) ∧ W.cell? ⟨w.heap.size, 0 + 1, none⟩ = some (.int .i64 q.sh) ∧ W.cell? ⟨w.heap.size, 0 + 2, none⟩ = some (.int .i64 q.pr) ∧ W.cell? ⟨w.heap.size, 0 + 3, none⟩ = some (.int .i64 q.lb) ∧ W.cell? ⟨w.heap.size, 0 + 4, none⟩ = some (.int .i64 q.lv) ∧ W.cell? ⟨w.heap.size, 0 + 5, none⟩ = some (uq))) ((refine sltKeep2 ?_ r1 hq; repeat (first | exact Below.refl _ _ | assumption | refine Below.drew ?_ | refine balloc ?_ _ | refine bstep ?_ (by assumption))))
          (first | (go_at_call 48; refine (compareSlots_any l q _ _ _).mono ?_; rintro e wa ⟨rfl, hb1⟩))
        rename_i hH
        have hB := bstep hbl hH.1
        clear hH
        go_wp2
        refine bodyPost_ret (v := .tuple #[.int .i64 i, .bool (cmpS l q == 0)]) (by simp [results, Try.results47, go_sem]) rfl ?_
        refine ⟨i, hjn, ?_, HA.out, HB.out, hB⟩
        rw [← HL.out]
        have e : (cmpS l q == 0) = decide (i < n ∧ cmpS l q = 0) := by
          rw [Bool.eq_iff_iff]
          simp [hin]
        rw [e]
      · have hi5 : ¬ (i : Int) < n := by omega
        have hi6 : decide (i < n) = false := decide_eq_false hin
        go_wp2
        go_quiet (fail)
        go_wp2
        refine bodyPost_ret (v := .tuple #[.int .i64 i, .bool false]) (by simp [results, Try.results47, go_sem]) rfl ?_
        refine ⟨i, hjn, ?_, HA.out, HB.out, bdrewN hbl _⟩
        simp [hin]
def PlE (xs : List Slt) (q : Slt) (w : World) (e : Ending) (w' : World) : Prop :=
  ∃ i : Nat, i ≤ xs.length ∧ e = .returned (.tuple #[.int .i64 i, .bool (decide (i < xs.length ∧ cmpS (xs.getD i default) q = 0))]) ∧
    (∀ k, k < i → cmpS (xs.getD k default) q < 0) ∧ (∀ k, i ≤ k → k < xs.length → 0 ≤ cmpS (xs.getD k default) q) ∧ Below w.heap.size w w'
theorem accOk_mono {xs : List Slt} (h : AccOk xs) (q : Slt) : ∀ a b, a ≤ b → b < xs.length → cmpS (xs.getD b default) q < 0 → cmpS (xs.getD a default) q < 0 := by
  intro a b hab hb hc
  rcases Nat.eq_or_lt_of_le hab with rfl | hlt
  · exact hc
  · have h1 := aheadS_iff.1 (h.ord a b hlt hb)
    rw [cmpS_lt] at hc ⊢
    omega
set_option maxHeartbeats 1000000 in
theorem placeIn_any (x : Value) (d : Acc) (q : Slt) (uq : Value) (w : World) (hx : accR.V w x d) (hok : AccOk d.slots) :
    Calls Try.prog 35 #[x, .agg #[.int .i64 q.con, .int .i64 q.sh, .int .i64 q.pr, .int .i64 q.lb, .int .i64 q.lv, uq]] w fun e w' => PlE d.slots q w e w' := by
  obtain ⟨u1, rfl, hx⟩ := hx
  obtain ⟨xs⟩ := d
  dsimp only at hx hok ⊢
  have hl := hok.len
  have HP : Hid (∀ W, Below w.heap.size w W → Calls Try.prog 47 #[u1, .agg #[.int .i64 q.con, .int .i64 q.sh, .int .i64 q.pr, .int .i64 q.lb, .int .i64 q.lv, uq], .func (.func 48) #[] #[]] W fun e w' => PlE xs q W e w') := fun W hW => bsS_any u1 xs q uq W (sltsR.below hx hW) (by omega) (accOk_mono hok q)
  obtain ⟨au, cu, rfl⟩ := slts_form hx
  clear hx
  go_enter Try.func35, Try.ntmps35
  go_wp2_with fail
  refine (HP.out _ (by (repeat (first | exact Below.refl _ _ | assumption | refine Below.drew ?_ | refine balloc ?_ _ | refine bset ?_ (by simp; omega) _ | refine bset ?_ (by simp) _ | refine bstep ?_ (by assumption))))).mono ?_
  rintro e w1 ⟨i, hi, rfl, h1, h2, hb1⟩
  have hB1 : Below w.heap.size w w1 := by (repeat (first | exact Below.refl _ _ | assumption | refine Below.drew ?_ | refine balloc ?_ _ | refine bset ?_ (by simp; omega) _ | refine bset ?_ (by simp) _ | refine bstep ?_ (by assumption)))
  have HA : Hid (∀ k, k < i → cmpS (xs.getD k default) q < 0) := h1
  have HB : Hid (∀ k, i ≤ k → k < xs.length → 0 ≤ cmpS (xs.getD k default) q) := h2
  clear h1 h2
  generalize hD : decide (i < xs.length ∧ cmpS (xs.getD i default) q = 0) = D
  go_wp2
  refine bodyPost_ret (v := .tuple #[.int .i64 i, .bool D]) (by simp [results, Try.results35, go_sem]) rfl ?_
  exact ⟨i, hi, by rw [hD], HA.out, HB.out, hB1⟩
end Go.Proofs.Yteppnppknfldbaa


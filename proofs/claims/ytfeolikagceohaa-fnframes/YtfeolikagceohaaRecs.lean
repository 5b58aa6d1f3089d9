/-
  Records told out of bytes: the mathematics, and the program's frameSize.
-/
import Derived.Test.YtfeolikagceohaaFrame
import Derived.Test.YtfeolikagceohaaCut
namespace Go.Proofs.Ytfeolikagceohaa
open Go.RowKit
set_option linter.unusedSectionVars false
variable [DecidableEq BytesR] [Inhabited BytesR]
attribute [local go_sem ↓] Go.wp_at_zero Go.wp_at_succ

def fN (xs : List Byte) : Nat := (xs.getD 0 0).val * 256 + (xs.getD 1 0).val
def fC (xs : List Byte) : Nat := (xs.getD 2 0).val * 256 + (xs.getD 3 0).val
/-- how many bytes the frame at the beginning has, 0: there is none -/
def frameSz (xs : List Byte) : Nat := if 1 ≤ fN xs ∧ fN xs ≤ 500 ∧ 4 + fN xs ≤ xs.length ∧ chk ((xs.drop 4).take (fN xs)) = fC xs then 4 + fN xs else 0
theorem frameSz_pos {xs : List Byte} (h : ¬ frameSz xs = 0) : frameSz xs = 4 + fN xs ∧ 1 ≤ fN xs ∧ fN xs ≤ 500 ∧ 4 + fN xs ≤ xs.length := by
  unfold frameSz at h ⊢
  split at h
  · rename_i h1; rw [if_pos h1]; exact ⟨rfl, h1.1, h1.2.1, h1.2.2.1⟩
  · exact absurd rfl h

def recLF : Nat → List Byte → List (List Byte)
  | 0, _ => []
  | f + 1, xs => if frameSz xs = 0 then [] else (xs.drop 4).take (frameSz xs - 4) :: recLF f (xs.drop (frameSz xs))
def recUF : Nat → List Byte → Nat
  | 0, _ => 0
  | f + 1, xs => if frameSz xs = 0 then 0 else frameSz xs + recUF f (xs.drop (frameSz xs))
/-- the records at the beginning, and how many bytes they are -/
def recL (xs : List Byte) : List (List Byte) := recLF xs.length xs
def recU (xs : List Byte) : Nat := recUF xs.length xs
theorem frameSz_nil {xs : List Byte} (h : xs.length = 0) : frameSz xs = 0 := by
  unfold frameSz
  rw [if_neg]
  omega
theorem recF_fuel : ∀ (f g : Nat) (xs : List Byte), xs.length ≤ f → xs.length ≤ g → recLF f xs = recLF g xs ∧ recUF f xs = recUF g xs
  | 0, 0, _, _, _ => ⟨rfl, rfl⟩
  | 0, g + 1, xs, h, _ => by
    have hz := frameSz_nil (xs := xs) (by omega)
    simp only [recLF, recUF, if_pos hz]
    exact ⟨trivial, trivial⟩
  | f + 1, 0, xs, _, h => by
    have hz := frameSz_nil (xs := xs) (by omega)
    simp only [recLF, recUF, if_pos hz]
    exact ⟨trivial, trivial⟩
  | f + 1, g + 1, xs, h1, h2 => by
    by_cases hz : frameSz xs = 0
    · simp only [recLF, recUF, if_pos hz]
      exact ⟨trivial, trivial⟩
    · have hp := frameSz_pos hz
      have ih := recF_fuel f g (xs.drop (frameSz xs)) (by rw [List.length_drop]; omega) (by rw [List.length_drop]; omega)
      simp only [recLF, recUF, if_neg hz, ih.1, ih.2]
      exact ⟨trivial, trivial⟩
theorem recL_end {xs : List Byte} (h : frameSz xs = 0) : recL xs = [] := by
  unfold recL
  cases hl : xs.length with
  | zero => rfl
  | succ f => simp only [recLF, if_pos h]
theorem recU_end {xs : List Byte} (h : frameSz xs = 0) : recU xs = 0 := by
  unfold recU
  cases hl : xs.length with
  | zero => rfl
  | succ f => simp only [recUF, if_pos h]
theorem recL_step {xs : List Byte} (h : ¬ frameSz xs = 0) : recL xs = (xs.drop 4).take (frameSz xs - 4) :: recL (xs.drop (frameSz xs)) := by
  have hp := frameSz_pos h
  unfold recL
  cases hl : xs.length with
  | zero => omega
  | succ f =>
    simp only [recLF, if_neg h]
    rw [(recF_fuel f (xs.drop (frameSz xs)).length (xs.drop (frameSz xs)) (by rw [List.length_drop]; omega) (Nat.le_refl _)).1]
theorem recU_step {xs : List Byte} (h : ¬ frameSz xs = 0) : recU xs = frameSz xs + recU (xs.drop (frameSz xs)) := by
  have hp := frameSz_pos h
  unfold recU
  cases hl : xs.length with
  | zero => omega
  | succ f =>
    simp only [recUF, if_neg h]
    rw [(recF_fuel f (xs.drop (frameSz xs)).length (xs.drop (frameSz xs)) (by rw [List.length_drop]; omega) (Nat.le_refl _)).2]

theorem hiN_two (xs : List Byte) (h : 2 ≤ xs.length) : hiN (xs.take 2) = (fN xs : Int) := by
  match xs, h with
  | a :: b :: r, _ => simp [hiN, fN, List.getD]
theorem hiN_check (xs : List Byte) (h : 4 ≤ xs.length) : hiN ((xs.drop 2).take 2) = (fC xs : Int) := by
  match xs, h with
  | a :: b :: c :: d :: r, _ => simp [hiN, fC, List.getD]
theorem fN_lt (xs : List Byte) : fN xs < 65536 := by
  have := (xs.getD 0 0).isLt
  have := (xs.getD 1 0).isLt
  unfold fN; omega
theorem fC_lt (xs : List Byte) : fC xs < 65536 := by
  have := (xs.getD 2 0).isLt
  have := (xs.getD 3 0).isLt
  unfold fC; omega

set_option maxHeartbeats 2000000 in
theorem frameSize_any (x : Value) (xs : List Byte) (w : World) (hx : BytesV w x xs) :
    Calls Try.prog 28 #[x] w fun e w' => e = .returned (.int .i64 (frameSz xs)) ∧ Below w.heap.size w w' := by
  have hX := hx
  obtain ⟨ax, cx, rfl, hcx, hmx, _⟩ := hx
  unfold maxLen at hmx
  by_cases h4 : xs.length < 4
  · have HS : Hid (frameSz xs = 0) := by
      unfold Hid frameSz
      rw [if_neg]
      omega
    rw [HS.out]
    generalize xs.length = n at *
    go_enter Try.func28, Try.ntmps28
    go_wp2
    go_ret
    exact ⟨rfl, Below.refl _ _⟩
  obtain ⟨a1, c1, run1, V1⟩ := cutH (a := ax) (n := xs.length) (cap := cx) 2 (by omega) (by omega) hcx
  have e1 := hiN_two xs (by omega)
  have hlt := fN_lt xs
  obtain ⟨m, hm⟩ : ∃ m, fN xs = m := ⟨_, rfl⟩
  rw [hm] at e1 hlt
  have HM : Hid (fN xs = m) := hm
  have u1 : hiN (xs.take 2) % 18446744073709551616 = m := by rw [e1]; omega
  have u2 : IntKind.i64.wrap (m : Int) = m := by rw [IntKind.wrap_i64]; omega
  have HV1 : Hid (∀ (w : World) (ys : List Byte), ys.length = xs.length → BytesV w (.slice ax xs.length cx) ys → BytesV w (.slice a1 (2 : Int).toNat c1) (ys.take (2 : Int).toNat)) := V1
  clear V1 hm e1
  by_cases hb : m = 0 ∨ 500 < m ∨ xs.length < 4 + m
  · have HS : Hid (frameSz xs = 0) := by
      unfold Hid frameSz
      rw [if_neg]
      rw [HM.out]
      omega
    rw [HS.out]
    go_enter Try.func28, Try.ntmps28
    go_wp2_with fail
    refine (bitsIn_any _ (xs.take 2) _ (HV1.out _ xs rfl hX)).mono ?_
    rintro e w1 ⟨rfl, rfl⟩
    rw [u1]
    generalize xs.length = n at *
    clear u1 run1 HV1
    rcases hb with hb | hb | hb
    all_goals
      go_wp2
      all_goals
        go_ret
        exact ⟨rfl, Below.refl _ _⟩
  · have hb1 : ¬ m = 0 := by omega
    have hb2 : ¬ 500 < m := by omega
    have hb3 : ¬ xs.length < 4 + m := by omega
    have d1 : ((4 : Int) + (m : Int) == 4) = false := by simp; omega
    have d2 : ¬ (504 : Int) < 4 + (m : Int) := by omega
    have d3 : ¬ (xs.length : Int) < 4 + (m : Int) := by omega
    obtain ⟨a2, c2, run2, V2⟩ := cutB (a := ax) (n := xs.length) (cap := cx) 2 4 (by omega) (by omega) (by omega) hcx
    obtain ⟨a3, c3, run3, V3⟩ := cutB (a := ax) (n := xs.length) (cap := cx) 4 (4 + m) (by omega) (by omega) (by omega) hcx
    have HV2 := V2 _ xs rfl hX
    have HV3 := V3 _ xs rfl hX
    rw [show ((4 : Int) + (m : Int) - 4).toNat = m by omega] at HV3
    rw [show ((4 : Int) + (m : Int) - 4).toNat = m by omega] at run3
    rw [show ((4 : Int) - 2).toNat = 2 by omega] at run2 HV2
    rw [show (2 : Int).toNat = 2 by omega] at HV2
    rw [show (4 : Int).toNat = 4 by omega] at HV3
    have hl2 := fC_lt xs
    have e2 := hiN_check xs (by omega)
    obtain ⟨q, hq⟩ : ∃ q, fC xs = q := ⟨_, rfl⟩
    rw [hq] at e2 hl2
    have HQ : Hid (fC xs = q) := hq
    have u3 : IntKind.i64.wrap (hiN ((xs.drop 2).take 2)) = q := by rw [e2, IntKind.wrap_i64]; omega
    obtain ⟨r, hr⟩ : ∃ r, chk ((xs.drop 4).take m) = r := ⟨_, rfl⟩
    have HR : Hid (chk ((xs.drop 4).take m) = r) := hr
    clear V2 V3 hq hr e2 hb
    by_cases hc : (q : Int) = r
    · have HS : Hid (frameSz xs = 4 + m) := by
        unfold Hid frameSz
        rw [HM.out, HQ.out, HR.out, if_pos]
        omega
      rw [HS.out]
      have hd : ((q : Int) == r) = true := by simpa using hc
      go_enter Try.func28, Try.ntmps28
      go_wp2_with fail
      refine (bitsIn_any _ (xs.take 2) _ (HV1.out _ xs rfl hX)).mono ?_
      rintro e w1 ⟨rfl, rfl⟩
      rw [u1]
      clear u1 run1 HV1 hc
      go_wp2
      go_region_held3 (fun w' => Below w1.heap.size w1 w') ((repeat (first | exact Below.refl _ _ | assumption | refine Below.drew ?_ | refine balloc ?_ _ | refine bset ?_ (by simp; omega) _ | refine bset ?_ (by simp) _ | refine bstep ?_ (by assumption)))) (first | (go_at_call 46; refine (numberIn_any _ _ _ (BytesV_below HV2 (by (repeat (first | exact Below.refl _ _ | assumption | refine Below.drew ?_ | refine balloc ?_ _ | refine bset ?_ (by simp; omega) _ | refine bset ?_ (by simp) _ | refine bstep ?_ (by assumption)))))).mono ?_; rintro e w2 ⟨rfl, rfl⟩; rw [u3]) | (go_at_call 25; refine (implChk_any _ _ _ (BytesV_below HV3 (by (repeat (first | exact Below.refl _ _ | assumption | refine Below.drew ?_ | refine balloc ?_ _ | refine bset ?_ (by simp; omega) _ | refine bset ?_ (by simp) _ | refine bstep ?_ (by assumption)))))).mono ?_; rintro e w2 ⟨rfl, rfl⟩; rw [HR.out]))
      all_goals
        rename_i hH
        go_wp2
        go_ret
        exact ⟨rfl, hH⟩
    · have HS : Hid (frameSz xs = 0) := by
        unfold Hid frameSz
        rw [HM.out, HQ.out, HR.out, if_neg]
        intro h
        exact hc h.2.2.2.symm
      rw [HS.out]
      have hd : ((q : Int) == r) = false := by simpa using hc
      go_enter Try.func28, Try.ntmps28
      go_wp2_with fail
      refine (bitsIn_any _ (xs.take 2) _ (HV1.out _ xs rfl hX)).mono ?_
      rintro e w1 ⟨rfl, rfl⟩
      rw [u1]
      clear u1 run1 HV1 hc
      go_wp2
      go_region_held3 (fun w' => Below w1.heap.size w1 w') ((repeat (first | exact Below.refl _ _ | assumption | refine Below.drew ?_ | refine balloc ?_ _ | refine bset ?_ (by simp; omega) _ | refine bset ?_ (by simp) _ | refine bstep ?_ (by assumption)))) (first | (go_at_call 46; refine (numberIn_any _ _ _ (BytesV_below HV2 (by (repeat (first | exact Below.refl _ _ | assumption | refine Below.drew ?_ | refine balloc ?_ _ | refine bset ?_ (by simp; omega) _ | refine bset ?_ (by simp) _ | refine bstep ?_ (by assumption)))))).mono ?_; rintro e w2 ⟨rfl, rfl⟩; rw [u3]) | (go_at_call 25; refine (implChk_any _ _ _ (BytesV_below HV3 (by (repeat (first | exact Below.refl _ _ | assumption | refine Below.drew ?_ | refine balloc ?_ _ | refine bset ?_ (by simp; omega) _ | refine bset ?_ (by simp) _ | refine bstep ?_ (by assumption)))))).mono ?_; rintro e w2 ⟨rfl, rfl⟩; rw [HR.out]))
      all_goals
        rename_i hH
        go_wp2
        go_ret
        exact ⟨rfl, hH⟩

end Go.Proofs.Ytfeolikagceohaa

import Derived.Test.YtecfelacdapdgaaGreatPrnEventsOfLaw5
import Derived.Test.YtecfelacdapdgaaGreatPrnEventsOfLaw6
import Derived.Test.YtecfelacdapdgaaGreatPrnEventsOfLaw7
import Derived.Test.YtecfelacdapdgaaGreatPrnEventsOfLaw8
import Derived.Test.YtecfelacdapdgaaGreatPrnEventsOfLaw2
import Derived.Deep.QuietTactic

/-
  CheckOf on both sides.
-/
namespace Go.Proofs.YtecfelacdapdgaaGreat
open Go.RowKit
attribute [local go_sem ↓] Go.wp_at_zero Go.wp_at_succ

def chk (xs : List Byte) : Int := xs.foldl (fun h b => (h * 257 + (b.val : Int) + 1) % 65521) 1
theorem chk_snoc (xs : List Byte) (b : Byte) : chk (xs ++ [b]) = (chk xs * 257 + (b.val : Int) + 1) % 65521 := by simp [chk]
theorem chk_rng (xs : List Byte) : 0 ≤ chk xs ∧ chk xs < 65521 := by
  suffices h : ∀ (xs : List Byte) (n : Int), (0 ≤ n ∧ n < 65521) → 0 ≤ xs.foldl (fun h b => (h * 257 + (b.val : Int) + 1) % 65521) n ∧ xs.foldl (fun h b => (h * 257 + (b.val : Int) + 1) % 65521) n < 65521 from h xs 1 (by omega)
  intro xs
  induction xs with
  | nil => intro n h; exact h
  | cons b r ih => intro n h; exact ih ((n * 257 + (b.val : Int) + 1) % 65521) (by omega)
theorem chk_take (xs : List Byte) (k : Nat) (h : k < xs.length) : chk (xs.take (k + 1)) = (chk (xs.take k) * 257 + ((xs.getD k 0).val : Int) + 1) % 65521 := by
  rw [take_snocB xs k h, chk_snoc]
set_option maxHeartbeats 1000000 in
theorem specChk_any (x : Value) (xs : List Byte) (w : World) (hx : BytesV w x xs) :
    Calls Tryz.prog 104 #[x] w fun e w' => e = .returned (.int .i64 (chk xs)) ∧ w' = w := by
  obtain ⟨ax, cx, rfl, hcx, hmx, hx⟩ := hx
  unfold maxLen at hmx
  have hT := chk_take xs
  generalize hn' : xs.length = n at *
  have HN : Hid (xs.length = n) := hn'
  have HT : Hid (∀ k, k < n → chk (xs.take (k + 1)) = (chk (xs.take k) * 257 + ((xs.getD k 0).val : Int) + 1) % 65521) := hT
  clear hn' hT
  go_enter Tryz.func104, Tryz.ntmps104
  go_wp2
  go_loopw [3, 4] (fun q i w' => ∃ (k : Nat) (y : Int), k ≤ n ∧ i = .int .i64 k ∧ y = chk (xs.take k) ∧ q = .int .i64 y ∧ w' = w) (fun _ i _ => n - (intOf i).toNat)
  case atStart => exact ⟨0, 1, by omega, rfl, by simp [chk], rfl, rfl⟩
  case round =>
    obtain ⟨k, y, hk, rfl, hy, rfl, rfl⟩ := hrel
    have hr := chk_rng (xs.take k)
    rw [← hy] at hr
    obtain ⟨y0, y1⟩ := hr
    have HY : Hid (y = chk (xs.take k)) := hy
    clear hy
    by_cases hlt : k < n
    · obtain ⟨bx, ox, rfl, h1⟩ := hx k (by omega)
      have e1 := HT.out k (by omega)
      obtain ⟨b0, b1⟩ := byte_lt (xs.getD k 0)
      obtain ⟨l, hl⟩ : ∃ l : Int, l = ((xs.getD k 0).val : Int) := ⟨_, rfl⟩
      rw [← hl] at h1 e1 b0 b1
      have HE : Hid (chk (xs.take (k + 1)) = (chk (xs.take k) * 257 + l + 1) % 65521) := e1
      have v1 : IntKind.i64.wrap l = l := by rw [IntKind.wrap_i64]; omega
      have v2 : IntKind.i64.wrap (y * 257) = y * 257 := by rw [IntKind.wrap_i64]; omega
      have v3 : IntKind.i64.wrap (y * 257 + l) = y * 257 + l := by rw [IntKind.wrap_i64]; omega
      have v4 : IntKind.i64.wrap (y * 257 + l + 1) = y * 257 + l + 1 := by rw [IntKind.wrap_i64]; omega
      obtain ⟨q, hq⟩ : ∃ q, q = (y * 257 + l + 1) % 65521 := ⟨_, rfl⟩
      have v5 : IntKind.i64.wrap ((y * 257 + l + 1).tmod 65521) = q := by rw [IntKind.wrap_i64, Int.tmod_eq_emod_of_nonneg (by omega)]; omega
      have v6 : (y * 257 + l + 1).tmod 65521 = q := by rw [Int.tmod_eq_emod_of_nonneg (by omega)]; omega
      have v7 := hq.symm
      have HQ : Hid (q = (y * 257 + l + 1) % 65521) := hq
      clear hl hx e1 hq
      go_wp2
      refine ⟨⟨k + 1, q, by omega, by go_num, ?_, rfl, trivial⟩, by simp [intOf]; omega⟩
      rw [HE.out, HQ.out, HY.out]
    · go_wp2
      go_ret
      have hkn : k = n := by omega
      subst hkn
      refine ⟨?_, rfl⟩
      rw [HY.out, List.take_of_length_le (by have := HN.out; omega)]
      rfl
set_option maxHeartbeats 1000000 in
theorem implChk_any (x : Value) (xs : List Byte) (w : World) (hx : BytesV w x xs) :
    Calls Tryz.prog 144 #[x] w fun e w' => e = .returned (.int .i64 (chk xs)) ∧ w' = w := by
  obtain ⟨ax, cx, rfl, hcx, hmx, hx⟩ := hx
  unfold maxLen at hmx
  have hT := chk_take xs
  generalize hn' : xs.length = n at *
  have HN : Hid (xs.length = n) := hn'
  have HT : Hid (∀ k, k < n → chk (xs.take (k + 1)) = (chk (xs.take k) * 257 + ((xs.getD k 0).val : Int) + 1) % 65521) := hT
  clear hn' hT
  go_enter Tryz.func144, Tryz.ntmps144
  go_wp2
  go_loopw [3, 8] (fun q i w' => ∃ (k : Nat) (y : Int), k ≤ n ∧ i = .int .i64 k ∧ y = chk (xs.take k) ∧ q = .int .i64 y ∧ w' = w) (fun _ i _ => n - (intOf i).toNat)
  case atStart => exact ⟨0, 1, by omega, rfl, by simp [chk], rfl, rfl⟩
  case round =>
    obtain ⟨k, y, hk, rfl, hy, rfl, rfl⟩ := hrel
    have hr := chk_rng (xs.take k)
    rw [← hy] at hr
    obtain ⟨y0, y1⟩ := hr
    have HY : Hid (y = chk (xs.take k)) := hy
    clear hy
    by_cases hlt : k < n
    · obtain ⟨bx, ox, rfl, h1⟩ := hx k (by omega)
      have e1 := HT.out k (by omega)
      obtain ⟨b0, b1⟩ := byte_lt (xs.getD k 0)
      obtain ⟨l, hl⟩ : ∃ l : Int, l = ((xs.getD k 0).val : Int) := ⟨_, rfl⟩
      rw [← hl] at h1 e1 b0 b1
      have HE : Hid (chk (xs.take (k + 1)) = (chk (xs.take k) * 257 + l + 1) % 65521) := e1
      have v1 : IntKind.i64.wrap l = l := by rw [IntKind.wrap_i64]; omega
      have v2 : IntKind.i64.wrap (y * 257) = y * 257 := by rw [IntKind.wrap_i64]; omega
      have v3 : IntKind.i64.wrap (y * 257 + l) = y * 257 + l := by rw [IntKind.wrap_i64]; omega
      have v4 : IntKind.i64.wrap (y * 257 + l + 1) = y * 257 + l + 1 := by rw [IntKind.wrap_i64]; omega
      obtain ⟨q, hq⟩ : ∃ q, q = (y * 257 + l + 1) % 65521 := ⟨_, rfl⟩
      have v5 : IntKind.i64.wrap ((y * 257 + l + 1).tmod 65521) = q := by rw [IntKind.wrap_i64, Int.tmod_eq_emod_of_nonneg (by omega)]; omega
      have v6 : (y * 257 + l + 1).tmod 65521 = q := by rw [Int.tmod_eq_emod_of_nonneg (by omega)]; omega
      have v7 := hq.symm
      have HQ : Hid (q = (y * 257 + l + 1) % 65521) := hq
      clear hl hx e1 hq
      go_wp2
      refine ⟨⟨k + 1, q, by omega, by go_num, ?_, rfl, trivial⟩, by simp [intOf]; omega⟩
      rw [HE.out, HQ.out, HY.out]
    · go_wp2
      go_ret
      have hkn : k = n := by omega
      subst hkn
      refine ⟨?_, rfl⟩
      rw [HY.out, List.take_of_length_le (by have := HN.out; omega)]
      rfl
end Go.Proofs.YtecfelacdapdgaaGreat

/-
  Records told out of bytes: the mathematics, and the program's frameSize.
-/
namespace Go.Proofs.YtecfelacdapdgaaGreat
open Go.RowKit
set_option linter.unusedSectionVars false
variable [DecidableEq BytesR] [Inhabited BytesR]
attribute [local go_sem ↓] Go.wp_at_zero Go.wp_at_succ

def fN (xs : List Byte) : Nat := (xs.getD 0 0).val * 256 + (xs.getD 1 0).val
def fC (xs : List Byte) : Nat := (xs.getD 2 0).val * 256 + (xs.getD 3 0).val
def frameSz (xs : List Byte) : Nat := if 1 ≤ fN xs ∧ fN xs ≤ 500 ∧ 4 + fN xs ≤ xs.length ∧ chk ((xs.drop 4).take (fN xs)) = fC xs then 4 + fN xs else 0
theorem frameSz_pos {xs : List Byte} (h : ¬ frameSz xs = 0) : frameSz xs = 4 + fN xs ∧ 1 ≤ fN xs ∧ fN xs ≤ 500 ∧ 4 + fN xs ≤ xs.length := by
  unfold frameSz at h ⊢
  split at h
  · rename_i h1; rw [if_pos h1]; exact ⟨rfl, h1.1, h1.2.1, h1.2.2.1⟩
  · exact absurd rfl h
def recLF : Nat → List Byte → List (List Byte)
  | 0, _ => []
  | f + 1, xs => if frameSz xs = 0 then [] else (xs.drop 4).take (frameSz xs - 4) :: recLF f (xs.drop (frameSz xs))
def recUF : Nat → List Byte → Nat
  | 0, _ => 0
  | f + 1, xs => if frameSz xs = 0 then 0 else frameSz xs + recUF f (xs.drop (frameSz xs))
def recL (xs : List Byte) : List (List Byte) := recLF xs.length xs
def recU (xs : List Byte) : Nat := recUF xs.length xs
theorem frameSz_nil {xs : List Byte} (h : xs.length = 0) : frameSz xs = 0 := by
  unfold frameSz
  rw [if_neg]
  omega
theorem recF_fuel : ∀ (f g : Nat) (xs : List Byte), xs.length ≤ f → xs.length ≤ g → recLF f xs = recLF g xs ∧ recUF f xs = recUF g xs
  | 0, 0, _, _, _ => ⟨rfl, rfl⟩
  | 0, g + 1, xs, h, _ => by
    have hz := frameSz_nil (xs := xs) (by omega)
    simp only [recLF, recUF, if_pos hz]
    exact ⟨trivial, trivial⟩
  | f + 1, 0, xs, _, h => by
    have hz := frameSz_nil (xs := xs) (by omega)
    simp only [recLF, recUF, if_pos hz]
    exact ⟨trivial, trivial⟩
  | f + 1, g + 1, xs, h1, h2 => by
    by_cases hz : frameSz xs = 0
    · simp only [recLF, recUF, if_pos hz]
      exact ⟨trivial, trivial⟩
    · have hp := frameSz_pos hz
      have ih := recF_fuel f g (xs.drop (frameSz xs)) (by rw [List.length_drop]; omega) (by rw [List.length_drop]; omega)
      simp only [recLF, recUF, if_neg hz, ih.1, ih.2]
      exact ⟨trivial, trivial⟩
theorem recL_end {xs : List Byte} (h : frameSz xs = 0) : recL xs = [] := by
  unfold recL
  cases hl : xs.length with
  | zero => rfl
  | succ f => simp only [recLF, if_pos h]
theorem recU_end {xs : List Byte} (h : frameSz xs = 0) : recU xs = 0 := by
  unfold recU
  cases hl : xs.length with
  | zero => rfl
  | succ f => simp only [recUF, if_pos h]
theorem recL_step {xs : List Byte} (h : ¬ frameSz xs = 0) : recL xs = (xs.drop 4).take (frameSz xs - 4) :: recL (xs.drop (frameSz xs)) := by
  have hp := frameSz_pos h
  unfold recL
  cases hl : xs.length with
  | zero => omega
  | succ f =>
    simp only [recLF, if_neg h]
    rw [(recF_fuel f (xs.drop (frameSz xs)).length (xs.drop (frameSz xs)) (by rw [List.length_drop]; omega) (Nat.le_refl _)).1]
theorem recU_step {xs : List Byte} (h : ¬ frameSz xs = 0) : recU xs = frameSz xs + recU (xs.drop (frameSz xs)) := by
  have hp := frameSz_pos h
  unfold recU
  cases hl : xs.length with
  | zero => omega
  | succ f =>
    simp only [recUF, if_neg h]
    rw [(recF_fuel f (xs.drop (frameSz xs)).length (xs.drop (frameSz xs)) (by rw [List.length_drop]; omega) (Nat.le_refl _)).2]
theorem hiN_two (xs : List Byte) (h : 2 ≤ xs.length) : hiN (xs.take 2) = (fN xs : Int) := by
  match xs, h with
  | a :: b :: r, _ => simp [hiN, fN, List.getD]
theorem hiN_check (xs : List Byte) (h : 4 ≤ xs.length) : hiN ((xs.drop 2).take 2) = (fC xs : Int) := by
  match xs, h with
  | a :: b :: c :: d :: r, _ => simp [hiN, fC, List.getD]
theorem fN_lt (xs : List Byte) : fN xs < 65536 := by
  have := (xs.getD 0 0).isLt
  have := (xs.getD 1 0).isLt
  unfold fN; omega
theorem fC_lt (xs : List Byte) : fC xs < 65536 := by
  have := (xs.getD 2 0).isLt
  have := (xs.getD 3 0).isLt
  unfold fC; omega
set_option maxHeartbeats 2000000 in
theorem frameSize_any (x : Value) (xs : List Byte) (w : World) (hx : BytesV w x xs) :
    Calls Tryz.prog 123 #[x] w fun e w' => e = .returned (.int .i64 (frameSz xs)) ∧ Below w.heap.size w w' := by
  have hX := hx
  obtain ⟨ax, cx, rfl, hcx, hmx, _⟩ := hx
  unfold maxLen at hmx
  by_cases h4 : xs.length < 4
  · have HS : Hid (frameSz xs = 0) := by
      unfold Hid frameSz
      rw [if_neg]
      omega
    rw [HS.out]
    generalize xs.length = n at *
    go_enter Tryz.func123, Tryz.ntmps123
    go_wp2
    go_ret
    exact ⟨rfl, Below.refl _ _⟩
  obtain ⟨a1, c1, run1, V1⟩ := cutH (a := ax) (n := xs.length) (cap := cx) 2 (by omega) (by omega) hcx
  have e1 := hiN_two xs (by omega)
  have hlt := fN_lt xs
  obtain ⟨m, hm⟩ : ∃ m, fN xs = m := ⟨_, rfl⟩
  rw [hm] at e1 hlt
  have HM : Hid (fN xs = m) := hm
  have u1 : hiN (xs.take 2) % 18446744073709551616 = m := by rw [e1]; omega
  have u2 : IntKind.i64.wrap (m : Int) = m := by rw [IntKind.wrap_i64]; omega
  have HV1 : Hid (∀ (w : World) (ys : List Byte), ys.length = xs.length → BytesV w (.slice ax xs.length cx) ys → BytesV w (.slice a1 (2 : Int).toNat c1) (ys.take (2 : Int).toNat)) := V1
  clear V1 hm e1
  by_cases hb : m = 0 ∨ 500 < m ∨ xs.length < 4 + m
  · have HS : Hid (frameSz xs = 0) := by
      unfold Hid frameSz
      rw [if_neg]
      rw [HM.out]
      omega
    rw [HS.out]
    go_enter Tryz.func123, Tryz.ntmps123
    go_wp2_with fail
    refine (bitsIn_any _ (xs.take 2) _ (HV1.out _ xs rfl hX)).mono ?_
    rintro e w1 ⟨rfl, rfl⟩
    rw [u1]
    generalize xs.length = n at *
    clear u1 run1 HV1
    rcases hb with hb | hb | hb
    all_goals
      go_wp2
      all_goals
        go_ret
        exact ⟨rfl, Below.refl _ _⟩
  · have hb1 : ¬ m = 0 := by omega
    have hb2 : ¬ 500 < m := by omega
    have hb3 : ¬ xs.length < 4 + m := by omega
    have d1 : ((4 : Int) + (m : Int) == 4) = false := by simp; omega
    have d2 : ¬ (504 : Int) < 4 + (m : Int) := by omega
    have d3 : ¬ (xs.length : Int) < 4 + (m : Int) := by omega
    obtain ⟨a2, c2, run2, V2⟩ := cutB (a := ax) (n := xs.length) (cap := cx) 2 4 (by omega) (by omega) (by omega) hcx
    obtain ⟨a3, c3, run3, V3⟩ := cutB (a := ax) (n := xs.length) (cap := cx) 4 (4 + m) (by omega) (by omega) (by omega) hcx
    have HV2 := V2 _ xs rfl hX
    have HV3 := V3 _ xs rfl hX
    rw [show ((4 : Int) + (m : Int) - 4).toNat = m by omega] at HV3
    rw [show ((4 : Int) + (m : Int) - 4).toNat = m by omega] at run3
    rw [show ((4 : Int) - 2).toNat = 2 by omega] at run2 HV2
    rw [show (2 : Int).toNat = 2 by omega] at HV2
    rw [show (4 : Int).toNat = 4 by omega] at HV3
    have hl2 := fC_lt xs
    have e2 := hiN_check xs (by omega)
    obtain ⟨q, hq⟩ : ∃ q, fC xs = q := ⟨_, rfl⟩
    rw [hq] at e2 hl2
    have HQ : Hid (fC xs = q) := hq
    have u3 : IntKind.i64.wrap (hiN ((xs.drop 2).take 2)) = q := by rw [e2, IntKind.wrap_i64]; omega
    obtain ⟨r, hr⟩ : ∃ r, chk ((xs.drop 4).take m) = r := ⟨_, rfl⟩
    have HR : Hid (chk ((xs.drop 4).take m) = r) := hr
    clear V2 V3 hq hr e2 hb
    by_cases hc : (q : Int) = r
    · have HS : Hid (frameSz xs = 4 + m) := by
        unfold Hid frameSz
        rw [HM.out, HQ.out, HR.out, if_pos]
        omega
      rw [HS.out]
      have hd : ((q : Int) == r) = true := by simpa using hc
      go_enter Tryz.func123, Tryz.ntmps123
      go_wp2_with fail
      refine (bitsIn_any _ (xs.take 2) _ (HV1.out _ xs rfl hX)).mono ?_
      rintro e w1 ⟨rfl, rfl⟩
      rw [u1]
      clear u1 run1 HV1 hc
      go_wp2
      go_region_held3 (fun w' => Below w1.heap.size w1 w') ((repeat (first | exact Below.refl _ _ | assumption | refine Below.drew ?_ | refine balloc ?_ _ | refine bset ?_ (by simp; omega) _ | refine bset ?_ (by simp) _ | refine bstep ?_ (by assumption)))) (first | (go_at_call 103; refine (numberIn_any _ _ _ (BytesV_below HV2 (by (repeat (first | exact Below.refl _ _ | assumption | refine Below.drew ?_ | refine balloc ?_ _ | refine bset ?_ (by simp; omega) _ | refine bset ?_ (by simp) _ | refine bstep ?_ (by assumption)))))).mono ?_; rintro e w2 ⟨rfl, rfl⟩; rw [u3]) | (go_at_call 144; refine (implChk_any _ _ _ (BytesV_below HV3 (by (repeat (first | exact Below.refl _ _ | assumption | refine Below.drew ?_ | refine balloc ?_ _ | refine bset ?_ (by simp; omega) _ | refine bset ?_ (by simp) _ | refine bstep ?_ (by assumption)))))).mono ?_; rintro e w2 ⟨rfl, rfl⟩; rw [HR.out]))
      all_goals
        rename_i hH
        go_wp2
        go_ret
        exact ⟨rfl, hH⟩
    · have HS : Hid (frameSz xs = 0) := by
        unfold Hid frameSz
        rw [HM.out, HQ.out, HR.out, if_neg]
        intro h
        exact hc h.2.2.2.symm
      rw [HS.out]
      have hd : ((q : Int) == r) = false := by simpa using hc
      go_enter Tryz.func123, Tryz.ntmps123
      go_wp2_with fail
      refine (bitsIn_any _ (xs.take 2) _ (HV1.out _ xs rfl hX)).mono ?_
      rintro e w1 ⟨rfl, rfl⟩
      rw [u1]
      clear u1 run1 HV1 hc
      go_wp2
      go_region_held3 (fun w' => Below w1.heap.size w1 w') ((repeat (first | exact Below.refl _ _ | assumption | refine Below.drew ?_ | refine balloc ?_ _ | refine bset ?_ (by simp; omega) _ | refine bset ?_ (by simp) _ | refine bstep ?_ (by assumption)))) (first | (go_at_call 103; refine (numberIn_any _ _ _ (BytesV_below HV2 (by (repeat (first | exact Below.refl _ _ | assumption | refine Below.drew ?_ | refine balloc ?_ _ | refine bset ?_ (by simp; omega) _ | refine bset ?_ (by simp) _ | refine bstep ?_ (by assumption)))))).mono ?_; rintro e w2 ⟨rfl, rfl⟩; rw [u3]) | (go_at_call 144; refine (implChk_any _ _ _ (BytesV_below HV3 (by (repeat (first | exact Below.refl _ _ | assumption | refine Below.drew ?_ | refine balloc ?_ _ | refine bset ?_ (by simp; omega) _ | refine bset ?_ (by simp) _ | refine bstep ?_ (by assumption)))))).mono ?_; rintro e w2 ⟨rfl, rfl⟩; rw [HR.out]))
      all_goals
        rename_i hH
        go_wp2
        go_ret
        exact ⟨rfl, hH⟩
end Go.Proofs.YtecfelacdapdgaaGreat

/-
  RecordsResult. (Written by program: nest.py.)
-/
namespace Go.Proofs.YtecfelacdapdgaaGreat
open Go.RowKit
set_option linter.unusedSectionVars false
attribute [local go_sem ↓] Go.wp_at_zero Go.wp_at_succ

structure RecsR where
  code : Int
  used : Int
  records : List (List Byte)
variable [DecidableEq RecsR] [Inhabited RecsR]

def recsRR : Rep RecsR where
  V := fun w v x => ∃ u1, v = .agg #[.int .i64 x.code, .int .i64 x.used, u1] ∧ bytessR.V w u1 x.records
  O := fun w base F v x => ∃ u1 F1, v = .agg #[.int .i64 x.code, .int .i64 x.used, u1] ∧ bytessR.O w base F1 u1 x.records ∧ (∀ b, F b ↔ (F1 b))
  below := fun h hb => by
    obtain ⟨u1, rfl, h1⟩ := h
    exact ⟨u1, rfl, bytessR.below h1 hb⟩
  ofO := fun h => by
    obtain ⟨u1, F1, rfl, h1, _⟩ := h
    exact ⟨u1, rfl, bytessR.ofO h1⟩
  mod := fun h hm hd => by
    obtain ⟨u1, F1, rfl, h1, hF⟩ := h
    exact ⟨u1, F1, rfl, bytessR.mod h1 hm (fun b hb => hd b ((hF b).2 hb)), hF⟩
  rng := fun h b hb => by
    obtain ⟨u1, F1, rfl, h1, hF⟩ := h
    rcases (hF b).1 hb with hb
    · exact bytessR.rng h1 b hb
  base := fun h hb => by
    obtain ⟨u1, F1, rfl, h1, hF⟩ := h
    exact ⟨u1, F1, rfl, bytessR.base h1 hb, hF⟩
theorem recsR_form {w : World} {v : Value} {x : RecsR} (h : recsRR.V w v x) : ∃ a1 c1, v = .agg #[.int .i64 x.code, .int .i64 x.used, .slice a1 x.records.length c1] := by
  obtain ⟨u1, rfl, h1⟩ := h
  obtain ⟨a1, c1, rfl⟩ := bytess_form h1
  exact ⟨_, _, rfl⟩
end Go.Proofs.YtecfelacdapdgaaGreat

/-
  Records told, on both sides.
-/
namespace Go.Proofs.YtecfelacdapdgaaGreat
open Go.RowKit
set_option linter.unusedSectionVars false
variable [DecidableEq BytesR] [Inhabited BytesR] [DecidableEq RecsR] [Inhabited RecsR]
attribute [local go_sem ↓] Go.wp_at_zero Go.wp_at_succ

theorem getD_drop (xs : List Byte) (k i : Nat) : (xs.drop k).getD i 0 = xs.getD (k + i) 0 := by simp [List.getD]
theorem fN_drop (xs : List Byte) (k : Nat) : fN (xs.drop k) = (xs.getD k 0).val * 256 + (xs.getD (k + 1) 0).val := by unfold fN; rw [getD_drop, getD_drop]; rfl
theorem fC_drop (xs : List Byte) (k : Nat) : fC (xs.drop k) = (xs.getD (k + 2) 0).val * 256 + (xs.getD (k + 3) 0).val := by unfold fC; rw [getD_drop, getD_drop]
theorem frameSz_short {xs : List Byte} (h : xs.length ≤ 4) : frameSz xs = 0 := by
  unfold frameSz
  rw [if_neg]
  omega
def SoFar (xs : List Byte) (k : Nat) (out : List (List Byte)) : Prop :=
  k ≤ xs.length ∧ out.length ≤ k ∧ recL xs = out ++ recL (xs.drop k) ∧ recU xs = k + recU (xs.drop k)
theorem soFar_start (xs : List Byte) : SoFar xs 0 [] := ⟨by omega, by simp, by simp, by simp⟩
theorem soFar_end {xs : List Byte} {k : Nat} {out : List (List Byte)} (h : SoFar xs k out) (hz : frameSz (xs.drop k) = 0) : recL xs = out ∧ recU xs = k := by
  obtain ⟨_, _, h3, h4⟩ := h
  rw [recL_end hz, List.append_nil] at h3
  rw [recU_end hz, Nat.add_zero] at h4
  exact ⟨h3, h4⟩
theorem soFar_step {xs : List Byte} {k m : Nat} {out : List (List Byte)} (h : SoFar xs k out) (hz : frameSz (xs.drop k) = 4 + m) (hm : 1 ≤ m) : SoFar xs (k + 4 + m) (out ++ [(xs.drop (k + 4)).take m]) := by
  obtain ⟨h1, h2, h3, h4⟩ := h
  have hz' : ¬ frameSz (xs.drop k) = 0 := by omega
  have h5 := frameSz_pos hz'
  rw [List.length_drop] at h5
  refine ⟨by omega, by rw [List.length_append, List.length_singleton]; omega, ?_, ?_⟩
  · rw [h3, recL_step hz', hz, List.drop_drop, List.drop_drop, List.append_assoc, show k + (4 + m) = k + 4 + m by omega, show 4 + m - 4 = m by omega]
    rfl
  · rw [h4, recU_step hz', hz, List.drop_drop, show k + (4 + m) = k + 4 + m by omega]
    omega
theorem bdrewB {B : Nat} {w Y : World} (h : Below B w Y) (n : Nat) : Below B w (Y.drewN n) := h.trans ⟨rfl, rfl, rfl, Nat.le_refl _, fun _ _ => rfl⟩
theorem rec_end {wz : World} {base : Nat} {xs : List Byte} {k : Nat} {out : List (List Byte)} {v : Value} (hso : SoFar xs k out) (hz : frameSz (xs.drop k) = 0) (hro : RowsB wz base v out) :
    (∃ F, bytessR.O wz base F v (recL xs)) ∧ recU xs = k := by
  obtain ⟨e1, e2⟩ := soFar_end hso hz
  rw [e1]
  exact ⟨rowsB_O hro, e2⟩
set_option maxHeartbeats 4000000 in
theorem l3Records_any (x : Value) (xs : List Byte) (w : World) (hx : BytesV w x xs) (hn : xs.length ≤ 6000) :
    Calls Tryz.prog 82 #[x] w fun e w' => ∃ v F, e = .returned (.tuple #[v, .int .i64 (recU xs)]) ∧ bytessR.O w' w.heap.size F v (recL xs) ∧ Below w.heap.size w w' := by
  have hX := hx
  obtain ⟨ax, cx, rfl, hcx, hmx, hx⟩ := hx
  unfold maxLen at hmx
  go_enter Tryz.func82, Tryz.ntmps82
  go_wp2
  go_loopw [4, 5] (fun v i w' => ∃ (k : Nat) (out : List (List Byte)), i = .int .i64 k ∧ SoFar xs k out ∧ RowsB w' w.heap.size v out ∧ Below w.heap.size w w') (fun _ i _ => xs.length - (intOf i).toNat)
  case atStart =>
    refine ⟨0, [], rfl, soFar_start xs, rowsB_nil ?_, balloc (Below.refl _ _) _⟩
    exact World.ownsRow_lit (base := w.heap.size) (e := 37) (size := 1) w #[] 0 (by simp) (by unfold maxLen; omega) rfl
  case round =>
    obtain ⟨k, out, rfl, hso, hro, hbl⟩ := hrel
    have hkn := hso.1
    have hok := hso.2.1
    obtain ⟨av, cv, rfl⟩ := rowsB_form hro
    have HSo : Hid (SoFar xs k out) := hso
    have HRo : Hid (RowsB wr w.heap.size (.slice av out.length cv) out) := hro
    clear hso hro
    by_cases hlt : k + 4 < xs.length
    · obtain ⟨b, o, rfl, g0⟩ := hx k (by omega)
      obtain ⟨b', o', e, g1⟩ := hx (k + 1) (by omega)
      simp only [Option.some.injEq, Addr.mk.injEq, and_true] at e
      obtain ⟨rfl, rfl⟩ := e
      obtain ⟨b', o', e, g2⟩ := hx (k + 2) (by omega)
      simp only [Option.some.injEq, Addr.mk.injEq, and_true] at e
      obtain ⟨rfl, rfl⟩ := e
      obtain ⟨b', o', e, g3⟩ := hx (k + 3) (by omega)
      simp only [Option.some.injEq, Addr.mk.injEq, and_true] at e
      obtain ⟨rfl, rfl⟩ := e
      have hfN := fN_drop xs k
      have hfC := fC_drop xs k
      obtain ⟨p0, hp0⟩ : ∃ p, (xs.getD k 0).val = p := ⟨_, rfl⟩
      obtain ⟨p1, hp1⟩ : ∃ p, (xs.getD (k + 1) 0).val = p := ⟨_, rfl⟩
      obtain ⟨p2, hp2⟩ : ∃ p, (xs.getD (k + 2) 0).val = p := ⟨_, rfl⟩
      obtain ⟨p3, hp3⟩ : ∃ p, (xs.getD (k + 3) 0).val = p := ⟨_, rfl⟩
      have l0 : p0 < 256 := by rw [← hp0]; exact (xs.getD k 0).isLt
      have l1 : p1 < 256 := by rw [← hp1]; exact (xs.getD (k + 1) 0).isLt
      have l2 : p2 < 256 := by rw [← hp2]; exact (xs.getD (k + 2) 0).isLt
      have l3 : p3 < 256 := by rw [← hp3]; exact (xs.getD (k + 3) 0).isLt
      rw [hp0, hp1] at hfN
      rw [hp2, hp3] at hfC
      rw [hp0] at g0
      rw [hp1] at g1
      rw [hp2] at g2
      rw [hp3] at g3
      replace g0 := cell_keep hbl g0
      replace g1 := cell_keep hbl g1
      replace g2 := cell_keep hbl g2
      replace g3 := cell_keep hbl g3
      obtain ⟨m, hm⟩ : ∃ m, p0 * 256 + p1 = m := ⟨_, rfl⟩
      obtain ⟨q, hq⟩ : ∃ q, p2 * 256 + p3 = q := ⟨_, rfl⟩
      have HN : Hid (fN (xs.drop k) = m) := by rw [← hm]; exact hfN
      have HC : Hid (fC (xs.drop k) = q) := by rw [← hq]; exact hfC
      have v0 : IntKind.i64.wrap (p0 : Int) = p0 := by rw [IntKind.wrap_i64]; omega
      have v1 : IntKind.i64.wrap (p1 : Int) = p1 := by rw [IntKind.wrap_i64]; omega
      have v2 : IntKind.i64.wrap (p2 : Int) = p2 := by rw [IntKind.wrap_i64]; omega
      have v3 : IntKind.i64.wrap (p3 : Int) = p3 := by rw [IntKind.wrap_i64]; omega
      have v4 : IntKind.i64.wrap ((p0 : Int) * 256) = p0 * 256 := by rw [IntKind.wrap_i64]; omega
      have v5 : IntKind.i64.wrap ((p2 : Int) * 256) = p2 * 256 := by rw [IntKind.wrap_i64]; omega
      have v6 : IntKind.i64.wrap ((p0 : Int) * 256 + p1) = m := by rw [IntKind.wrap_i64]; omega
      have v7 : IntKind.i64.wrap ((p2 : Int) * 256 + p3) = q := by rw [IntKind.wrap_i64]; omega
      have v8 : IntKind.i64.wrap ((k : Int) + 1) = k + 1 := by rw [IntKind.wrap_i64]; omega
      have v9 : IntKind.i64.wrap ((k : Int) + 2) = k + 2 := by rw [IntKind.wrap_i64]; omega
      have v10 : IntKind.i64.wrap ((k : Int) + 3) = k + 3 := by rw [IntKind.wrap_i64]; omega
      have i0 : ((k : Int) + 1).toNat = k + 1 := by omega
      have i2 : ((k : Int) + 2).toNat = k + 2 := by omega
      have i3 : ((k : Int) + 3).toNat = k + 3 := by omega
      have hm6 : m < 65536 := by omega
      have HM : Hid (p0 * 256 + p1 = m) := hm
      have HQ : Hid (p2 * 256 + p3 = q) := hq
      clear hp0 hp1 hp2 hp3 hm hq hfN hfC hx
      by_cases hbad : m < 1 ∨ 500 < m ∨ xs.length < k + 4 + m
      · have HZ : Hid (frameSz (xs.drop k) = 0) := by
          unfold Hid frameSz
          rw [if_neg]
          rw [HN.out, List.length_drop]
          omega
        go_wp2
        go_quiet (fail)
        rcases hbad with hbad | hbad | hbad
        all_goals
          go_wp2
          all_goals
            obtain ⟨⟨F, hO⟩, hU⟩ := rec_end HSo.out HZ.out HRo.out
            refine bodyPost_ret (v := .tuple #[.slice av out.length cv, .int .i64 k]) (by simp [results, Tryz.results82, go_sem]) rfl ?_
            rw [hU]
            have hb2 := bdrewB (Below.refl wr.heap.size wr) nq
            first | exact ⟨_, F, rfl, bytessR.keep hO hb2, bstep hbl hb2⟩ | exact ⟨_, rfl, ⟨F, bytessR.keep hO hb2⟩, bstep hbl hb2⟩
      · have d1 : ¬ (m : Int) < 1 := by omega
        have d2 : ¬ (500 : Int) < (m : Int) := by omega
        have d3 : ¬ (xs.length : Int) < (k : Int) + 4 + (m : Int) := by omega
        have hm1 : 1 ≤ m := by omega
        have hV := bytes_cut hX (k + 4) (k + 4 + m) (by omega) (by omega)
        rw [if_neg (by omega)] at hV
        simp only [Option.map_some, Nat.mul_one, addP] at hV
        rw [show (xs.drop (k + 4)).take (k + 4 + m - (k + 4)) = (xs.drop (k + 4)).take m by rw [show k + 4 + m - (k + 4) = m by omega]] at hV
        replace hV := BytesV_below hV hbl
        obtain ⟨rr, hrr⟩ : ∃ rr, (xs.drop (k + 4)).take m = rr := ⟨_, rfl⟩
        rw [hrr] at hV
        have hrl : rr.length ≤ 500 := by rw [← hrr, List.length_take, List.length_drop]; omega
        have HRR : Hid ((xs.drop (k + 4)).take m = rr) := hrr
        obtain ⟨r, hr⟩ : ∃ r, chk rr = r := ⟨_, rfl⟩
        have HR : Hid (chk rr = r) := hr
        have hm500 : m ≤ 500 := by omega
        clear hbad hrr hr
        go_wp2
        go_quiet (fail)
        go_wp2
        have hbq := bdrewB (Below.refl wr.heap.size wr) nq
        generalize wr.drewN nq = wq at *
        replace g2 := cell_keep hbq g2
        replace g3 := cell_keep hbq g3
        replace hV := BytesV_below hV hbq
        have HRo' := rowsB_below HRo.out hbq
        clear HRo g0 g1
        have hbw : Below w.heap.size w wq := bstep hbl hbq
        clear hbl hbq
        generalize Value.slice (some ⟨b, o + (k + 4), none⟩) (k + 4 + m - (k + 4)) (cx - (k + 4)) = sv at *
        have hCk : ∀ W : World, Below wq.heap.size wq W → Calls Tryz.prog 104 #[sv] W fun e w' => e = .returned (.int .i64 r) ∧ w' = W := fun W hW => by
          rw [← HR.out]
          exact specChk_any _ _ _ (BytesV_below hV hW)
        by_cases hc : r = (q : Int)
        · have HZ : Hid (frameSz (xs.drop k) = 4 + m) := by
            unfold Hid frameSz
            rw [HN.out, HC.out, List.length_drop, List.drop_drop, HRR.out, HR.out, if_pos]
            omega
          have hd : (r == (q : Int)) = true := by simpa using hc
          go_quiet (first | (go_at_call 104; refine Calls.quiet_of_same (hCk _ ?_); exact bdrewB (Below.refl _ _) _))
          have hb2 := bdrewB (Below.refl wq.heap.size wq) nq
          generalize wq.drewN nq = w3 at *
          clear hCk g2 g3 hc hd
          replace hV := BytesV_below hV hb2
          have hR3 := rowsB_below HRo' hb2
          have hbw3 : Below w.heap.size w w3 := bstep hbw hb2
          clear HRo' hb2 hbw
          have hs3 := hbw3.size
          have hrow := World.ownsRow_lit (base := w3.heap.size) (e := 5) (size := 1) w3 #[] 0 (by simp) (by unfold maxLen; omega) rfl
          have hrow' : World.ownsRow (w3.alloc (.cells #[] 5)) w3.heap.size 5 1 (.slice (some ⟨w3.heap.size, 0, none⟩) 0 0) ([] : List Byte).length (bytesC []) := hrow
          have hV3 := BytesV_below hV (balloc (Below.refl _ _) (.cells #[] 5))
          have hsrc := appAny_bytes hV3
          have hlen1 : ([] : List Byte).length + rr.length ≤ 1073741824 := by simp only [List.length_nil]; omega
          have hz3 : w3.heap.size ≤ (w3.alloc (.cells #[] 5)).heap.size := by simp
          clear hrow
          go_wp2_with (at_builtin; refine wpList_appB _ rfl _ _ rfl w3.heap.size _ [] rfl _ rr rfl hrow' hsrc hlen1 hz3 ?_)
          intro v1 w4 o1 hg hB
          have hb4 := hB w3 (balloc (Below.refl _ _) _)
          have o1' : bytesR.O w4 w3.heap.size (fun b => v1.ownBlock = some b) v1 rr := ⟨by simpa using o1, rfl⟩
          obtain ⟨a1, c1, rfl⟩ := bytes_form (bytesR.ofO o1')
          clear hB hg o1 hrow' hsrc hlen1 hz3 hV3
          have hol : out.length ≤ 1048576 := by omega
          go_wp2_with (at_builtin; refine wpList_pushB w3 w4 rfl _ _ rfl w.heap.size _ out hR3 hs3 hb4 _ _ rr o1' rfl rfl hol ?_)
          intro v2 w5 hR5 hB5
          have hb5 := hB5 w hbw3
          have HR5 : Hid (RowsB w5 w.heap.size v2 (out ++ [rr])) := hR5
          clear hR3 hB5 hR5 o1' hb4
          have HS5 := soFar_step HSo.out HZ.out hm1
          rw [HRR.out] at HS5
          have HS6 : Hid (SoFar xs (k + 4 + m) (out ++ [rr])) := HS5
          clear HS5
          go_wp2
          refine ⟨⟨k + 4 + m, out ++ [rr], by go_num, HS6.out, HR5.out, hb5⟩, by simp [intOf]; omega⟩
        · have HZ : Hid (frameSz (xs.drop k) = 0) := by
            unfold Hid frameSz
            rw [if_neg]
            rw [HN.out, HC.out, List.length_drop, List.drop_drop, HRR.out, HR.out]
            omega
          have hd : (r == (q : Int)) = false := by simpa using hc
          go_quiet (first | (go_at_call 104; refine Calls.quiet_of_same (hCk _ ?_); exact bdrewB (Below.refl _ _) _))
          have hb2 := bdrewB (Below.refl wq.heap.size wq) nq
          generalize wq.drewN nq = w3 at *
          obtain ⟨⟨F, hO⟩, hU⟩ := rec_end HSo.out HZ.out HRo'
          clear hCk hV HRo'
          go_wp2
          refine bodyPost_ret (v := .tuple #[.slice av out.length cv, .int .i64 k]) (by simp [results, Tryz.results82, go_sem]) rfl ?_
          rw [hU]
          first | exact ⟨_, F, rfl, bytessR.keep hO hb2, bstep hbw hb2⟩ | exact ⟨_, rfl, ⟨F, bytessR.keep hO hb2⟩, bstep hbw hb2⟩
    · go_wp2
      refine bodyPost_ret (v := .tuple #[.slice av out.length cv, .int .i64 k]) (by simp [results, Tryz.results82, go_sem]) rfl ?_
      obtain ⟨⟨F, hO⟩, hU⟩ := rec_end HSo.out (frameSz_short (by rw [List.length_drop]; omega)) HRo.out
      rw [hU]
      first | exact ⟨_, F, rfl, hO, hbl⟩ | exact ⟨_, rfl, ⟨F, hO⟩, hbl⟩
end Go.Proofs.YtecfelacdapdgaaGreat


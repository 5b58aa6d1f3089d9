/-
  PackNumber and UnpackNumber in the uniform form.
-/
import Derived.Test.YthikaieobdhckaaNum
import Derived.Test.YthikaieobdhckaaUBytes
namespace Go.Proofs.Ythikaieobdhckaa
open Go.RowKit
attribute [local go_sem ↓] Go.wp_at_zero Go.wp_at_succ

theorem specPack_u (n : Int) (w : World) :
    Calls Try.prog 11 #[.int .i64 n] w fun e w' => ∃ v F, e = .returned v ∧ bytesR.O w' w.heap.size F v (hiB n 8) ∧ Below w.heap.size w w' := by
  refine (specPack_any n w).mono ?_
  rintro e w' ⟨v, rfl, ho, hb⟩
  exact ⟨v, _, rfl, ⟨by rw [length_hiB]; exact ho, rfl⟩, hb⟩

theorem implPack_u (n : Int) (w : World) :
    Calls Try.prog 12 #[.int .i64 n] w fun e w' => ∃ v F, e = .returned v ∧ bytesR.O w' w.heap.size F v (hiB n 8) ∧ Below w.heap.size w w' := by
  refine (implPack_any n w).mono ?_
  rintro e w' ⟨v, rfl, ho, hb⟩
  exact ⟨v, _, rfl, ⟨by rw [length_hiB]; exact ho, rfl⟩, hb⟩

def unCode (xs : List Byte) : Int := if xs.length = 8 then 0 else 1
def unVal (xs : List Byte) : Int := if xs.length = 8 then IntKind.i64.wrap (hiN xs) else 0

set_option maxHeartbeats 400000 in
theorem specUnpack_any (x : Value) (xs : List Byte) (w : World) (hx : bytesR.V w x xs) :
    Calls Try.prog 16 #[x] w fun e w' => e = .returned (.agg #[.int .i64 (unCode xs), .int .i64 (unVal xs)]) ∧ Below w.heap.size w w' := by
  have hX := hx
  obtain ⟨ax, cx, rfl, hcx, hmx, _⟩ := hx
  unfold unCode unVal maxLen at *
  by_cases h : xs.length = 8
  · rw [if_pos h, if_pos h]
    have ht : xs.take 8 = xs := List.take_of_length_le (by omega)
    have hc : ((xs.length : Int) == 8) = true := by simp [h]
    have HH : Hid (xs.length = 8) := h
    obtain ⟨q, hq⟩ : ∃ q, IntKind.i64.wrap (hiN xs) = q := ⟨_, rfl⟩
    rw [hq]
    clear h
    go_enter Try.func16, Try.ntmps16
    go_wp2_with fail
    refine (l3Number_any _ xs _ (BytesV_below hX (by (repeat (first | exact Below.refl _ _ | assumption | refine Below.drew ?_ | refine balloc ?_ _ | refine bset ?_ (by simp; omega) _ | refine bset ?_ (by simp) _ | refine bstep ?_ (by assumption))))) (by have := HH.out; omega)).mono ?_
    rintro e w1 ⟨rfl, rfl⟩
    rw [ht, hq]
    go_wp2
    exact bodyPost_ret (v := .agg #[.int .i64 0, .int .i64 q]) (by simp [results, Try.results16, go_sem]) rfl ⟨rfl, by (repeat (first | exact Below.refl _ _ | assumption | refine Below.drew ?_ | refine balloc ?_ _ | refine bset ?_ (by simp; omega) _ | refine bset ?_ (by simp) _ | refine bstep ?_ (by assumption)))⟩
  · rw [if_neg h, if_neg h]
    have hc : ((xs.length : Int) == 8) = false := by simp; omega
    clear h
    go_enter Try.func16, Try.ntmps16
    go_wp2
    exact bodyPost_ret (v := .agg #[.int .i64 1, .int .i64 0]) (by simp [results, Try.results16, go_sem]) rfl ⟨rfl, by (repeat (first | exact Below.refl _ _ | assumption | refine Below.drew ?_ | refine balloc ?_ _ | refine bset ?_ (by simp; omega) _ | refine bset ?_ (by simp) _ | refine bstep ?_ (by assumption)))⟩

set_option maxHeartbeats 400000 in
theorem implUnpack_any (x : Value) (xs : List Byte) (w : World) (hx : bytesR.V w x xs) :
    Calls Try.prog 18 #[x] w fun e w' => e = .returned (.agg #[.int .i64 (unCode xs), .int .i64 (unVal xs)]) ∧ Below w.heap.size w w' := by
  have hX := hx
  obtain ⟨ax, cx, rfl, hcx, hmx, _⟩ := hx
  unfold unCode unVal maxLen at *
  by_cases h : xs.length = 8
  · rw [if_pos h, if_pos h]
    have hc : ((xs.length : Int) == 8) = true := by simp [h]
    obtain ⟨q, hq⟩ : ∃ q, IntKind.i64.wrap (hiN xs) = q := ⟨_, rfl⟩
    rw [hq]
    clear h
    go_enter Try.func18, Try.ntmps18
    go_wp2_with fail
    refine (numberIn_any _ xs _ (BytesV_below hX (by (repeat (first | exact Below.refl _ _ | assumption | refine Below.drew ?_ | refine balloc ?_ _ | refine bset ?_ (by simp; omega) _ | refine bset ?_ (by simp) _ | refine bstep ?_ (by assumption)))))).mono ?_
    rintro e w1 ⟨rfl, rfl⟩
    rw [hq]
    go_wp2
    exact bodyPost_ret (v := .agg #[.int .i64 0, .int .i64 q]) (by simp [results, Try.results18, go_sem]) rfl ⟨rfl, by (repeat (first | exact Below.refl _ _ | assumption | refine Below.drew ?_ | refine balloc ?_ _ | refine bset ?_ (by simp; omega) _ | refine bset ?_ (by simp) _ | refine bstep ?_ (by assumption)))⟩
  · rw [if_neg h, if_neg h]
    have hc : ((xs.length : Int) == 8) = false := by simp; omega
    clear h
    go_enter Try.func18, Try.ntmps18
    go_wp2
    exact bodyPost_ret (v := .agg #[.int .i64 1, .int .i64 0]) (by simp [results, Try.results18, go_sem]) rfl ⟨rfl, by (repeat (first | exact Below.refl _ _ | assumption | refine Below.drew ?_ | refine balloc ?_ _ | refine bset ?_ (by simp; omega) _ | refine bset ?_ (by simp) _ | refine bstep ?_ (by assumption)))⟩

end Go.Proofs.Ythikaieobdhckaa

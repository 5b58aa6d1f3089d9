/-
  CheckOf on both sides.
-/
import Derived.Test.YtfeolikagceohaaNum
import Derived.Test.YtfeolikagceohaaUBytes
namespace Go.Proofs.Ytfeolikagceohaa
open Go.RowKit
attribute [local go_sem ↓] Go.wp_at_zero Go.wp_at_succ

def chk (xs : List Byte) : Int := xs.foldl (fun h b => (h * 257 + (b.val : Int) + 1) % 65521) 1
theorem chk_snoc (xs : List Byte) (b : Byte) : chk (xs ++ [b]) = (chk xs * 257 + (b.val : Int) + 1) % 65521 := by simp [chk]
theorem chk_rng (xs : List Byte) : 0 ≤ chk xs ∧ chk xs < 65521 := by
  suffices h : ∀ (xs : List Byte) (n : Int), (0 ≤ n ∧ n < 65521) → 0 ≤ xs.foldl (fun h b => (h * 257 + (b.val : Int) + 1) % 65521) n ∧ xs.foldl (fun h b => (h * 257 + (b.val : Int) + 1) % 65521) n < 65521 from h xs 1 (by omega)
  intro xs
  induction xs with
  | nil => intro n h; exact h
  | cons b r ih => intro n h; exact ih ((n * 257 + (b.val : Int) + 1) % 65521) (by omega)
theorem chk_take (xs : List Byte) (k : Nat) (h : k < xs.length) : chk (xs.take (k + 1)) = (chk (xs.take k) * 257 + ((xs.getD k 0).val : Int) + 1) % 65521 := by
  rw [take_snocB xs k h, chk_snoc]

set_option maxHeartbeats 1000000 in
theorem specChk_any (x : Value) (xs : List Byte) (w : World) (hx : BytesV w x xs) :
    Calls Try.prog 44 #[x] w fun e w' => e = .returned (.int .i64 (chk xs)) ∧ w' = w := by
  obtain ⟨ax, cx, rfl, hcx, hmx, hx⟩ := hx
  unfold maxLen at hmx
  have hT := chk_take xs
  generalize hn' : xs.length = n at *
  have HN : Hid (xs.length = n) := hn'
  have HT : Hid (∀ k, k < n → chk (xs.take (k + 1)) = (chk (xs.take k) * 257 + ((xs.getD k 0).val : Int) + 1) % 65521) := hT
  clear hn' hT
  go_enter Try.func44, Try.ntmps44
  go_wp2
  go_loopw [3, 4] (fun q i w' => ∃ (k : Nat) (y : Int), k ≤ n ∧ i = .int .i64 k ∧ y = chk (xs.take k) ∧ q = .int .i64 y ∧ w' = w) (fun _ i _ => n - (intOf i).toNat)
  case atStart => exact ⟨0, 1, by omega, rfl, by simp [chk], rfl, rfl⟩
  case round =>
    obtain ⟨k, y, hk, rfl, hy, rfl, rfl⟩ := hrel
    have hr := chk_rng (xs.take k)
    rw [← hy] at hr
    obtain ⟨y0, y1⟩ := hr
    have HY : Hid (y = chk (xs.take k)) := hy
    clear hy
    by_cases hlt : k < n
    · obtain ⟨bx, ox, rfl, h1⟩ := hx k (by omega)
      have e1 := HT.out k (by omega)
      obtain ⟨b0, b1⟩ := byte_lt (xs.getD k 0)
      obtain ⟨l, hl⟩ : ∃ l : Int, l = ((xs.getD k 0).val : Int) := ⟨_, rfl⟩
      rw [← hl] at h1 e1 b0 b1
      have HE : Hid (chk (xs.take (k + 1)) = (chk (xs.take k) * 257 + l + 1) % 65521) := e1
      have v1 : IntKind.i64.wrap l = l := by rw [IntKind.wrap_i64]; omega
      have v2 : IntKind.i64.wrap (y * 257) = y * 257 := by rw [IntKind.wrap_i64]; omega
      have v3 : IntKind.i64.wrap (y * 257 + l) = y * 257 + l := by rw [IntKind.wrap_i64]; omega
      have v4 : IntKind.i64.wrap (y * 257 + l + 1) = y * 257 + l + 1 := by rw [IntKind.wrap_i64]; omega
      obtain ⟨q, hq⟩ : ∃ q, q = (y * 257 + l + 1) % 65521 := ⟨_, rfl⟩
      have v5 : IntKind.i64.wrap ((y * 257 + l + 1).tmod 65521) = q := by rw [IntKind.wrap_i64, Int.tmod_eq_emod_of_nonneg (by omega)]; omega
      have v6 : (y * 257 + l + 1).tmod 65521 = q := by rw [Int.tmod_eq_emod_of_nonneg (by omega)]; omega
      have v7 := hq.symm
      have HQ : Hid (q = (y * 257 + l + 1) % 65521) := hq
      clear hl hx e1 hq
      go_wp2
      refine ⟨⟨k + 1, q, by omega, by go_num, ?_, rfl, trivial⟩, by simp [intOf]; omega⟩
      rw [HE.out, HQ.out, HY.out]
    · go_wp2
      go_ret
      have hkn : k = n := by omega
      subst hkn
      refine ⟨?_, rfl⟩
      rw [HY.out, List.take_of_length_le (by have := HN.out; omega)]
      rfl

set_option maxHeartbeats 1000000 in
theorem implChk_any (x : Value) (xs : List Byte) (w : World) (hx : BytesV w x xs) :
    Calls Try.prog 25 #[x] w fun e w' => e = .returned (.int .i64 (chk xs)) ∧ w' = w := by
  obtain ⟨ax, cx, rfl, hcx, hmx, hx⟩ := hx
  unfold maxLen at hmx
  have hT := chk_take xs
  generalize hn' : xs.length = n at *
  have HN : Hid (xs.length = n) := hn'
  have HT : Hid (∀ k, k < n → chk (xs.take (k + 1)) = (chk (xs.take k) * 257 + ((xs.getD k 0).val : Int) + 1) % 65521) := hT
  clear hn' hT
  go_enter Try.func25, Try.ntmps25
  go_wp2
  go_loopw [3, 8] (fun q i w' => ∃ (k : Nat) (y : Int), k ≤ n ∧ i = .int .i64 k ∧ y = chk (xs.take k) ∧ q = .int .i64 y ∧ w' = w) (fun _ i _ => n - (intOf i).toNat)
  case atStart => exact ⟨0, 1, by omega, rfl, by simp [chk], rfl, rfl⟩
  case round =>
    obtain ⟨k, y, hk, rfl, hy, rfl, rfl⟩ := hrel
    have hr := chk_rng (xs.take k)
    rw [← hy] at hr
    obtain ⟨y0, y1⟩ := hr
    have HY : Hid (y = chk (xs.take k)) := hy
    clear hy
    by_cases hlt : k < n
    · obtain ⟨bx, ox, rfl, h1⟩ := hx k (by omega)
      have e1 := HT.out k (by omega)
      obtain ⟨b0, b1⟩ := byte_lt (xs.getD k 0)
      obtain ⟨l, hl⟩ : ∃ l : Int, l = ((xs.getD k 0).val : Int) := ⟨_, rfl⟩
      rw [← hl] at h1 e1 b0 b1
      have HE : Hid (chk (xs.take (k + 1)) = (chk (xs.take k) * 257 + l + 1) % 65521) := e1
      have v1 : IntKind.i64.wrap l = l := by rw [IntKind.wrap_i64]; omega
      have v2 : IntKind.i64.wrap (y * 257) = y * 257 := by rw [IntKind.wrap_i64]; omega
      have v3 : IntKind.i64.wrap (y * 257 + l) = y * 257 + l := by rw [IntKind.wrap_i64]; omega
      have v4 : IntKind.i64.wrap (y * 257 + l + 1) = y * 257 + l + 1 := by rw [IntKind.wrap_i64]; omega
      obtain ⟨q, hq⟩ : ∃ q, q = (y * 257 + l + 1) % 65521 := ⟨_, rfl⟩
      have v5 : IntKind.i64.wrap ((y * 257 + l + 1).tmod 65521) = q := by rw [IntKind.wrap_i64, Int.tmod_eq_emod_of_nonneg (by omega)]; omega
      have v6 : (y * 257 + l + 1).tmod 65521 = q := by rw [Int.tmod_eq_emod_of_nonneg (by omega)]; omega
      have v7 := hq.symm
      have HQ : Hid (q = (y * 257 + l + 1) % 65521) := hq
      clear hl hx e1 hq
      go_wp2
      refine ⟨⟨k + 1, q, by omega, by go_num, ?_, rfl, trivial⟩, by simp [intOf]; omega⟩
      rw [HE.out, HQ.out, HY.out]
    · go_wp2
      go_ret
      have hkn : k = n := by omega
      subst hkn
      refine ⟨?_, rfl⟩
      rw [HY.out, List.take_of_length_le (by have := HN.out; omega)]
      rfl

end Go.Proofs.Ytfeolikagceohaa

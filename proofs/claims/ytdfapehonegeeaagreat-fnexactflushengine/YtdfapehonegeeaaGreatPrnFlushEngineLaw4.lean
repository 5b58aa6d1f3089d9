import Derived.Test.YtdfapehonegeeaaGreatPrnFlushEngineLaw3
import Derived.Test.YtdfapehonegeeaaGreatPrnFlushEngineLaw1

/-
  CheckOf on both sides.
-/
namespace Go.Proofs.YtdfapehonegeeaaGreat
open Go.RowKit
attribute [local go_sem ↓] Go.wp_at_zero Go.wp_at_succ

def chk (xs : List Byte) : Int := xs.foldl (fun h b => (h * 257 + (b.val : Int) + 1) % 65521) 1
theorem chk_snoc (xs : List Byte) (b : Byte) : chk (xs ++ [b]) = (chk xs * 257 + (b.val : Int) + 1) % 65521 := by simp [chk]
theorem chk_rng (xs : List Byte) : 0 ≤ chk xs ∧ chk xs < 65521 := by
  suffices h : ∀ (xs : List Byte) (n : Int), (0 ≤ n ∧ n < 65521) → 0 ≤ xs.foldl (fun h b => (h * 257 + (b.val : Int) + 1) % 65521) n ∧ xs.foldl (fun h b => (h * 257 + (b.val : Int) + 1) % 65521) n < 65521 from h xs 1 (by omega)
  intro xs
  induction xs with
  | nil => intro n h; exact h
  | cons b r ih => intro n h; exact ih ((n * 257 + (b.val : Int) + 1) % 65521) (by omega)
theorem chk_take (xs : List Byte) (k : Nat) (h : k < xs.length) : chk (xs.take (k + 1)) = (chk (xs.take k) * 257 + ((xs.getD k 0).val : Int) + 1) % 65521 := by
  rw [take_snocB xs k h, chk_snoc]
set_option maxHeartbeats 1000000 in
theorem specChk_any (x : Value) (xs : List Byte) (w : World) (hx : BytesV w x xs) :
    Calls Tryz.prog 144 #[x] w fun e w' => e = .returned (.int .i64 (chk xs)) ∧ w' = w := by
  obtain ⟨ax, cx, rfl, hcx, hmx, hx⟩ := hx
  unfold maxLen at hmx
  have hT := chk_take xs
  generalize hn' : xs.length = n at *
  have HN : Hid (xs.length = n) := hn'
  have HT : Hid (∀ k, k < n → chk (xs.take (k + 1)) = (chk (xs.take k) * 257 + ((xs.getD k 0).val : Int) + 1) % 65521) := hT
  clear hn' hT
  go_enter Tryz.func144, Tryz.ntmps144
  go_wp2
  go_loopw [3, 4] (fun q i w' => ∃ (k : Nat) (y : Int), k ≤ n ∧ i = .int .i64 k ∧ y = chk (xs.take k) ∧ q = .int .i64 y ∧ w' = w) (fun _ i _ => n - (intOf i).toNat)
  case atStart => exact ⟨0, 1, by omega, rfl, by simp [chk], rfl, rfl⟩
  case round =>
    obtain ⟨k, y, hk, rfl, hy, rfl, rfl⟩ := hrel
    have hr := chk_rng (xs.take k)
    rw [← hy] at hr
    obtain ⟨y0, y1⟩ := hr
    have HY : Hid (y = chk (xs.take k)) := hy
    clear hy
    by_cases hlt : k < n
    · obtain ⟨bx, ox, rfl, h1⟩ := hx k (by omega)
      have e1 := HT.out k (by omega)
      obtain ⟨b0, b1⟩ := byte_lt (xs.getD k 0)
      obtain ⟨l, hl⟩ : ∃ l : Int, l = ((xs.getD k 0).val : Int) := ⟨_, rfl⟩
      rw [← hl] at h1 e1 b0 b1
      have HE : Hid (chk (xs.take (k + 1)) = (chk (xs.take k) * 257 + l + 1) % 65521) := e1
      have v1 : IntKind.i64.wrap l = l := by rw [IntKind.wrap_i64]; omega
      have v2 : IntKind.i64.wrap (y * 257) = y * 257 := by rw [IntKind.wrap_i64]; omega
      have v3 : IntKind.i64.wrap (y * 257 + l) = y * 257 + l := by rw [IntKind.wrap_i64]; omega
      have v4 : IntKind.i64.wrap (y * 257 + l + 1) = y * 257 + l + 1 := by rw [IntKind.wrap_i64]; omega
      obtain ⟨q, hq⟩ : ∃ q, q = (y * 257 + l + 1) % 65521 := ⟨_, rfl⟩
      have v5 : IntKind.i64.wrap ((y * 257 + l + 1).tmod 65521) = q := by rw [IntKind.wrap_i64, Int.tmod_eq_emod_of_nonneg (by omega)]; omega
      have v6 : (y * 257 + l + 1).tmod 65521 = q := by rw [Int.tmod_eq_emod_of_nonneg (by omega)]; omega
      have v7 := hq.symm
      have HQ : Hid (q = (y * 257 + l + 1) % 65521) := hq
      clear hl hx e1 hq
      go_wp2
      refine ⟨⟨k + 1, q, by omega, by go_num, ?_, rfl, trivial⟩, by simp [intOf]; omega⟩
      rw [HE.out, HQ.out, HY.out]
    · go_wp2
      go_ret
      have hkn : k = n := by omega
      subst hkn
      refine ⟨?_, rfl⟩
      rw [HY.out, List.take_of_length_le (by have := HN.out; omega)]
      rfl
set_option maxHeartbeats 1000000 in
theorem implChk_any (x : Value) (xs : List Byte) (w : World) (hx : BytesV w x xs) :
    Calls Tryz.prog 156 #[x] w fun e w' => e = .returned (.int .i64 (chk xs)) ∧ w' = w := by
  obtain ⟨ax, cx, rfl, hcx, hmx, hx⟩ := hx
  unfold maxLen at hmx
  have hT := chk_take xs
  generalize hn' : xs.length = n at *
  have HN : Hid (xs.length = n) := hn'
  have HT : Hid (∀ k, k < n → chk (xs.take (k + 1)) = (chk (xs.take k) * 257 + ((xs.getD k 0).val : Int) + 1) % 65521) := hT
  clear hn' hT
  go_enter Tryz.func156, Tryz.ntmps156
  go_wp2
  go_loopw [3, 8] (fun q i w' => ∃ (k : Nat) (y : Int), k ≤ n ∧ i = .int .i64 k ∧ y = chk (xs.take k) ∧ q = .int .i64 y ∧ w' = w) (fun _ i _ => n - (intOf i).toNat)
  case atStart => exact ⟨0, 1, by omega, rfl, by simp [chk], rfl, rfl⟩
  case round =>
    obtain ⟨k, y, hk, rfl, hy, rfl, rfl⟩ := hrel
    have hr := chk_rng (xs.take k)
    rw [← hy] at hr
    obtain ⟨y0, y1⟩ := hr
    have HY : Hid (y = chk (xs.take k)) := hy
    clear hy
    by_cases hlt : k < n
    · obtain ⟨bx, ox, rfl, h1⟩ := hx k (by omega)
      have e1 := HT.out k (by omega)
      obtain ⟨b0, b1⟩ := byte_lt (xs.getD k 0)
      obtain ⟨l, hl⟩ : ∃ l : Int, l = ((xs.getD k 0).val : Int) := ⟨_, rfl⟩
      rw [← hl] at h1 e1 b0 b1
      have HE : Hid (chk (xs.take (k + 1)) = (chk (xs.take k) * 257 + l + 1) % 65521) := e1
      have v1 : IntKind.i64.wrap l = l := by rw [IntKind.wrap_i64]; omega
      have v2 : IntKind.i64.wrap (y * 257) = y * 257 := by rw [IntKind.wrap_i64]; omega
      have v3 : IntKind.i64.wrap (y * 257 + l) = y * 257 + l := by rw [IntKind.wrap_i64]; omega
      have v4 : IntKind.i64.wrap (y * 257 + l + 1) = y * 257 + l + 1 := by rw [IntKind.wrap_i64]; omega
      obtain ⟨q, hq⟩ : ∃ q, q = (y * 257 + l + 1) % 65521 := ⟨_, rfl⟩
      have v5 : IntKind.i64.wrap ((y * 257 + l + 1).tmod 65521) = q := by rw [IntKind.wrap_i64, Int.tmod_eq_emod_of_nonneg (by omega)]; omega
      have v6 : (y * 257 + l + 1).tmod 65521 = q := by rw [Int.tmod_eq_emod_of_nonneg (by omega)]; omega
      have v7 := hq.symm
      have HQ : Hid (q = (y * 257 + l + 1) % 65521) := hq
      clear hl hx e1 hq
      go_wp2
      refine ⟨⟨k + 1, q, by omega, by go_num, ?_, rfl, trivial⟩, by simp [intOf]; omega⟩
      rw [HE.out, HQ.out, HY.out]
    · go_wp2
      go_ret
      have hkn : k = n := by omega
      subst hkn
      refine ⟨?_, rfl⟩
      rw [HY.out, List.take_of_length_le (by have := HN.out; omega)]
      rfl
end Go.Proofs.YtdfapehonegeeaaGreat

/-
  BytesResult. (Written by program: nest.py.)
-/
namespace Go.Proofs.YtdfapehonegeeaaGreat
open Go.RowKit
set_option linter.unusedSectionVars false
attribute [local go_sem ↓] Go.wp_at_zero Go.wp_at_succ

structure BytesR where
  code : Int
  bytes : List Byte
variable [DecidableEq BytesR] [Inhabited BytesR]

def bytesRR : Rep BytesR where
  V := fun w v x => ∃ u1, v = .agg #[.int .i64 x.code, u1] ∧ bytesR.V w u1 x.bytes
  O := fun w base F v x => ∃ u1 F1, v = .agg #[.int .i64 x.code, u1] ∧ bytesR.O w base F1 u1 x.bytes ∧ (∀ b, F b ↔ (F1 b))
  below := fun h hb => by
    obtain ⟨u1, rfl, h1⟩ := h
    exact ⟨u1, rfl, bytesR.below h1 hb⟩
  ofO := fun h => by
    obtain ⟨u1, F1, rfl, h1, _⟩ := h
    exact ⟨u1, rfl, bytesR.ofO h1⟩
  mod := fun h hm hd => by
    obtain ⟨u1, F1, rfl, h1, hF⟩ := h
    exact ⟨u1, F1, rfl, bytesR.mod h1 hm (fun b hb => hd b ((hF b).2 hb)), hF⟩
  rng := fun h b hb => by
    obtain ⟨u1, F1, rfl, h1, hF⟩ := h
    rcases (hF b).1 hb with hb
    · exact bytesR.rng h1 b hb
  base := fun h hb => by
    obtain ⟨u1, F1, rfl, h1, hF⟩ := h
    exact ⟨u1, F1, rfl, bytesR.base h1 hb, hF⟩
end Go.Proofs.YtdfapehonegeeaaGreat

/-
  Cells that are kept. (Written by program: lawgen.py.)
-/
namespace Go.Proofs.YtdfapehonegeeaaGreat
open Go.RowKit
theorem boxNew2 {Y w' : World} {B t : Nat} {v1 v2 : Value} (hb : Below (Y.alloc (.cells #[v1, v2] t)).heap.size (Y.alloc (.cells #[v1, v2] t)) w') (e : B = Y.heap.size) : w'.cell? ⟨B, 0, none⟩ = some v1 ∧ w'.cell? ⟨B, 1, none⟩ = some v2 ∧ (∀ o, w'.frozen? ⟨B, o, none⟩ = false) ∧ B < w'.heap.size := by
  subst e
  have h := hb.size
  simp only [World.size_alloc] at h
  exact ⟨cell_keep hb (by simp [go_sem]), cell_keep hb (by simp [go_sem]), fun o => by rw [(bcell hb).2 _ _ (by simp)]; simp [go_sem], by omega⟩
theorem boxNew3 {Y w' : World} {B t : Nat} {v1 v2 v3 : Value} (hb : Below (Y.alloc (.cells #[v1, v2, v3] t)).heap.size (Y.alloc (.cells #[v1, v2, v3] t)) w') (e : B = Y.heap.size) : w'.cell? ⟨B, 0, none⟩ = some v1 ∧ w'.cell? ⟨B, 1, none⟩ = some v2 ∧ w'.cell? ⟨B, 2, none⟩ = some v3 ∧ (∀ o, w'.frozen? ⟨B, o, none⟩ = false) ∧ B < w'.heap.size := by
  subst e
  have h := hb.size
  simp only [World.size_alloc] at h
  exact ⟨cell_keep hb (by simp [go_sem]), cell_keep hb (by simp [go_sem]), cell_keep hb (by simp [go_sem]), fun o => by rw [(bcell hb).2 _ _ (by simp)]; simp [go_sem], by omega⟩
theorem boxKeep {W w' : World} {B : Nat} (h : (∀ o, W.frozen? ⟨B, o, none⟩ = false) ∧ B < W.heap.size) (hb : Below W.heap.size W w') : (∀ o, w'.frozen? ⟨B, o, none⟩ = false) ∧ B < w'.heap.size :=
  ⟨fun o => by rw [(bcell hb).2 _ _ h.2]; exact h.1 o, Nat.lt_of_lt_of_le h.2 hb.size⟩
end Go.Proofs.YtdfapehonegeeaaGreat

/-
  FrameRecord on both sides.
-/
namespace Go.Proofs.YtdfapehonegeeaaGreat
open Go.RowKit
set_option linter.unusedSectionVars false
variable [DecidableEq BytesR] [Inhabited BytesR]
attribute [local go_sem ↓] Go.wp_at_zero Go.wp_at_succ

theorem bytesR_nil (w : World) (base : Nat) (c : Int) : bytesRR.O w base none_ (.agg #[.int .i64 c, .slice none 0 0]) ⟨c, []⟩ :=
  ⟨.slice none 0 0, none_, rfl, ⟨by simpa [bytesC] using World.ownsRow_nil w base 5 1, by funext b; simp [none_, Value.ownBlock]⟩, fun b => Iff.rfl⟩
end Go.Proofs.YtdfapehonegeeaaGreat


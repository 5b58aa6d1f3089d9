import Derived.Test.YtdfapehonegeeaaGreatBndEngineFaultLaw3
import Derived.Test.YtdfapehonegeeaaGreatBndEngineFaultLaw4
import Derived.Test.YtdfapehonegeeaaGreatBndEngineFaultLaw1

/-
  CheckOf on both sides.
-/
namespace Go.Proofs.YtdfapehonegeeaaGreat
open Go.RowKit
attribute [local go_sem ↓] Go.wp_at_zero Go.wp_at_succ

def chk (xs : List Byte) : Int := xs.foldl (fun h b => (h * 257 + (b.val : Int) + 1) % 65521) 1
theorem chk_snoc (xs : List Byte) (b : Byte) : chk (xs ++ [b]) = (chk xs * 257 + (b.val : Int) + 1) % 65521 := by simp [chk]
theorem chk_rng (xs : List Byte) : 0 ≤ chk xs ∧ chk xs < 65521 := by
  suffices h : ∀ (xs : List Byte) (n : Int), (0 ≤ n ∧ n < 65521) → 0 ≤ xs.foldl (fun h b => (h * 257 + (b.val : Int) + 1) % 65521) n ∧ xs.foldl (fun h b => (h * 257 + (b.val : Int) + 1) % 65521) n < 65521 from h xs 1 (by omega)
  intro xs
  induction xs with
  | nil => intro n h; exact h
  | cons b r ih => intro n h; exact ih ((n * 257 + (b.val : Int) + 1) % 65521) (by omega)
theorem chk_take (xs : List Byte) (k : Nat) (h : k < xs.length) : chk (xs.take (k + 1)) = (chk (xs.take k) * 257 + ((xs.getD k 0).val : Int) + 1) % 65521 := by
  rw [take_snocB xs k h, chk_snoc]

set_option maxHeartbeats 1000000 in
theorem specChk_any (x : Value) (xs : List Byte) (w : World) (hx : BytesV w x xs) :
    Calls Tryz.prog 144 #[x] w fun e w' => e = .returned (.int .i64 (chk xs)) ∧ w' = w := by
  obtain ⟨ax, cx, rfl, hcx, hmx, hx⟩ := hx
  unfold maxLen at hmx
  have hT := chk_take xs
  generalize hn' : xs.length = n at *
  have HN : Hid (xs.length = n) := hn'
  have HT : Hid (∀ k, k < n → chk (xs.take (k + 1)) = (chk (xs.take k) * 257 + ((xs.getD k 0).val : Int) + 1) % 65521) := hT
  clear hn' hT
  go_enter Tryz.func144, Tryz.ntmps144
  go_wp2
  go_loopw [3, 4] (fun q i w' => ∃ (k : Nat) (y : Int), k ≤ n ∧ i = .int .i64 k ∧ y = chk (xs.take k) ∧ q = .int .i64 y ∧ w' = w) (fun _ i _ => n - (intOf i).toNat)
  case atStart => exact ⟨0, 1, by omega, rfl, by simp [chk], rfl, rfl⟩
  case round =>
    obtain ⟨k, y, hk, rfl, hy, rfl, rfl⟩ := hrel
    have hr := chk_rng (xs.take k)
    rw [← hy] at hr
    obtain ⟨y0, y1⟩ := hr
    have HY : Hid (y = chk (xs.take k)) := hy
    clear hy
    by_cases hlt : k < n
    · obtain ⟨bx, ox, rfl, h1⟩ := hx k (by omega)
      have e1 := HT.out k (by omega)
      obtain ⟨b0, b1⟩ := byte_lt (xs.getD k 0)
      obtain ⟨l, hl⟩ : ∃ l : Int, l = ((xs.getD k 0).val : Int) := ⟨_, rfl⟩
      rw [← hl] at h1 e1 b0 b1
      have HE : Hid (chk (xs.take (k + 1)) = (chk (xs.take k) * 257 + l + 1) % 65521) := e1
      have v1 : IntKind.i64.wrap l = l := by rw [IntKind.wrap_i64]; omega
      have v2 : IntKind.i64.wrap (y * 257) = y * 257 := by rw [IntKind.wrap_i64]; omega
      have v3 : IntKind.i64.wrap (y * 257 + l) = y * 257 + l := by rw [IntKind.wrap_i64]; omega
      have v4 : IntKind.i64.wrap (y * 257 + l + 1) = y * 257 + l + 1 := by rw [IntKind.wrap_i64]; omega
      obtain ⟨q, hq⟩ : ∃ q, q = (y * 257 + l + 1) % 65521 := ⟨_, rfl⟩
      have v5 : IntKind.i64.wrap ((y * 257 + l + 1).tmod 65521) = q := by rw [IntKind.wrap_i64, Int.tmod_eq_emod_of_nonneg (by omega)]; omega
      have v6 : (y * 257 + l + 1).tmod 65521 = q := by rw [Int.tmod_eq_emod_of_nonneg (by omega)]; omega
      have v7 := hq.symm
      have HQ : Hid (q = (y * 257 + l + 1) % 65521) := hq
      clear hl hx e1 hq
      go_wp2
      refine ⟨⟨k + 1, q, by omega, by go_num, ?_, rfl, trivial⟩, by simp [intOf]; omega⟩
      rw [HE.out, HQ.out, HY.out]
    · go_wp2
      go_ret
      have hkn : k = n := by omega
      subst hkn
      refine ⟨?_, rfl⟩
      rw [HY.out, List.take_of_length_le (by have := HN.out; omega)]
      rfl

set_option maxHeartbeats 1000000 in
theorem implChk_any (x : Value) (xs : List Byte) (w : World) (hx : BytesV w x xs) :
    Calls Tryz.prog 156 #[x] w fun e w' => e = .returned (.int .i64 (chk xs)) ∧ w' = w := by
  obtain ⟨ax, cx, rfl, hcx, hmx, hx⟩ := hx
  unfold maxLen at hmx
  have hT := chk_take xs
  generalize hn' : xs.length = n at *
  have HN : Hid (xs.length = n) := hn'
  have HT : Hid (∀ k, k < n → chk (xs.take (k + 1)) = (chk (xs.take k) * 257 + ((xs.getD k 0).val : Int) + 1) % 65521) := hT
  clear hn' hT
  go_enter Tryz.func156, Tryz.ntmps156
  go_wp2
  go_loopw [3, 8] (fun q i w' => ∃ (k : Nat) (y : Int), k ≤ n ∧ i = .int .i64 k ∧ y = chk (xs.take k) ∧ q = .int .i64 y ∧ w' = w) (fun _ i _ => n - (intOf i).toNat)
  case atStart => exact ⟨0, 1, by omega, rfl, by simp [chk], rfl, rfl⟩
  case round =>
    obtain ⟨k, y, hk, rfl, hy, rfl, rfl⟩ := hrel
    have hr := chk_rng (xs.take k)
    rw [← hy] at hr
    obtain ⟨y0, y1⟩ := hr
    have HY : Hid (y = chk (xs.take k)) := hy
    clear hy
    by_cases hlt : k < n
    · obtain ⟨bx, ox, rfl, h1⟩ := hx k (by omega)
      have e1 := HT.out k (by omega)
      obtain ⟨b0, b1⟩ := byte_lt (xs.getD k 0)
      obtain ⟨l, hl⟩ : ∃ l : Int, l = ((xs.getD k 0).val : Int) := ⟨_, rfl⟩
      rw [← hl] at h1 e1 b0 b1
      have HE : Hid (chk (xs.take (k + 1)) = (chk (xs.take k) * 257 + l + 1) % 65521) := e1
      have v1 : IntKind.i64.wrap l = l := by rw [IntKind.wrap_i64]; omega
      have v2 : IntKind.i64.wrap (y * 257) = y * 257 := by rw [IntKind.wrap_i64]; omega
      have v3 : IntKind.i64.wrap (y * 257 + l) = y * 257 + l := by rw [IntKind.wrap_i64]; omega
      have v4 : IntKind.i64.wrap (y * 257 + l + 1) = y * 257 + l + 1 := by rw [IntKind.wrap_i64]; omega
      obtain ⟨q, hq⟩ : ∃ q, q = (y * 257 + l + 1) % 65521 := ⟨_, rfl⟩
      have v5 : IntKind.i64.wrap ((y * 257 + l + 1).tmod 65521) = q := by rw [IntKind.wrap_i64, Int.tmod_eq_emod_of_nonneg (by omega)]; omega
      have v6 : (y * 257 + l + 1).tmod 65521 = q := by rw [Int.tmod_eq_emod_of_nonneg (by omega)]; omega
      have v7 := hq.symm
      have HQ : Hid (q = (y * 257 + l + 1) % 65521) := hq
      clear hl hx e1 hq
      go_wp2
      refine ⟨⟨k + 1, q, by omega, by go_num, ?_, rfl, trivial⟩, by simp [intOf]; omega⟩
      rw [HE.out, HQ.out, HY.out]
    · go_wp2
      go_ret
      have hkn : k = n := by omega
      subst hkn
      refine ⟨?_, rfl⟩
      rw [HY.out, List.take_of_length_le (by have := HN.out; omega)]
      rfl

end Go.Proofs.YtdfapehonegeeaaGreat

/-
  BytesResult. (Written by program: nest.py.)
-/
namespace Go.Proofs.YtdfapehonegeeaaGreat
open Go.RowKit
set_option linter.unusedSectionVars false
attribute [local go_sem ↓] Go.wp_at_zero Go.wp_at_succ

structure BytesR where
  code : Int
  bytes : List Byte

variable [DecidableEq BytesR] [Inhabited BytesR]

def bytesRR : Rep BytesR where
  V := fun w v x => ∃ u1, v = .agg #[.int .i64 x.code, u1] ∧ bytesR.V w u1 x.bytes
  O := fun w base F v x => ∃ u1 F1, v = .agg #[.int .i64 x.code, u1] ∧ bytesR.O w base F1 u1 x.bytes ∧ (∀ b, F b ↔ (F1 b))
  below := fun h hb => by
    obtain ⟨u1, rfl, h1⟩ := h
    exact ⟨u1, rfl, bytesR.below h1 hb⟩
  ofO := fun h => by
    obtain ⟨u1, F1, rfl, h1, _⟩ := h
    exact ⟨u1, rfl, bytesR.ofO h1⟩
  mod := fun h hm hd => by
    obtain ⟨u1, F1, rfl, h1, hF⟩ := h
    exact ⟨u1, F1, rfl, bytesR.mod h1 hm (fun b hb => hd b ((hF b).2 hb)), hF⟩
  rng := fun h b hb => by
    obtain ⟨u1, F1, rfl, h1, hF⟩ := h
    rcases (hF b).1 hb with hb
    · exact bytesR.rng h1 b hb
  base := fun h hb => by
    obtain ⟨u1, F1, rfl, h1, hF⟩ := h
    exact ⟨u1, F1, rfl, bytesR.base h1 hb, hF⟩

def wtBytesR (x : BytesR) : Nat := wtBytes x.bytes
def cntBytesR (x : BytesR) : Nat := cntBytes x.bytes
def mkBytesR (k : Int) (x : BytesR) : BytesR := { x with bytes := mkBytes k x.bytes }
def lvBytesR (v : Value) : List Value := match v with | .agg a => one (a.getD 0 (.int .i64 0)) ++ one (a.getD 1 (.int .i64 0)) | _ => []
def cntElBytesR (x : BytesR) : Nat := 1 + cntBytes x.bytes
def mkElBytesR (k : Int) (x : BytesR) : BytesR := { code := k, bytes := mkBytes (k + 1) x.bytes }

theorem bytesR_form {w : World} {v : Value} {x : BytesR} (h : bytesRR.V w v x) : ∃ a1 c1, v = .agg #[.int .i64 x.code, .slice a1 x.bytes.length c1] := by
  obtain ⟨u1, rfl, h1⟩ := h
  obtain ⟨a1, c1, rfl⟩ := bytes_form h1
  exact ⟨_, _, rfl⟩
theorem bytesR_cnt (d : BytesR) : cntBytesR d ≤ 1 * wtBytesR d := by
  unfold cntBytesR wtBytesR
  have q1 := bytes_cnt d.bytes
  omega
theorem bytesR_cntEl (d : BytesR) : cntElBytesR d ≤ 2 * (1 + wtBytesR d) := by
  unfold cntElBytesR wtBytesR
  have q1 := bytes_cnt d.bytes
  omega

end Go.Proofs.YtdfapehonegeeaaGreat

/-
  Cells that are kept. (Written by program: lawgen.py.)
-/
namespace Go.Proofs.YtdfapehonegeeaaGreat
open Go.RowKit
theorem keepN0 {w w' : World} (hb : Below w.heap.size w w') : Below w.heap.size w w' :=
  hb
theorem keepN1 {w w' : World} {a0 : Addr} {x0 : Value} (hb : Below w.heap.size w w') (g0 : w.cell? a0 = some x0) : Below w.heap.size w w' ∧ w'.cell? a0 = some x0 :=
  ⟨hb, cell_keep hb g0⟩
theorem keepN2 {w w' : World} {a0 : Addr} {x0 : Value} {a1 : Addr} {x1 : Value} (hb : Below w.heap.size w w') (g0 : w.cell? a0 = some x0) (g1 : w.cell? a1 = some x1) : Below w.heap.size w w' ∧ w'.cell? a0 = some x0 ∧ w'.cell? a1 = some x1 :=
  ⟨hb, cell_keep hb g0, cell_keep hb g1⟩
theorem keepN3 {w w' : World} {a0 : Addr} {x0 : Value} {a1 : Addr} {x1 : Value} {a2 : Addr} {x2 : Value} (hb : Below w.heap.size w w') (g0 : w.cell? a0 = some x0) (g1 : w.cell? a1 = some x1) (g2 : w.cell? a2 = some x2) : Below w.heap.size w w' ∧ w'.cell? a0 = some x0 ∧ w'.cell? a1 = some x1 ∧ w'.cell? a2 = some x2 :=
  ⟨hb, cell_keep hb g0, cell_keep hb g1, cell_keep hb g2⟩
theorem keepN4 {w w' : World} {a0 : Addr} {x0 : Value} {a1 : Addr} {x1 : Value} {a2 : Addr} {x2 : Value} {a3 : Addr} {x3 : Value} (hb : Below w.heap.size w w') (g0 : w.cell? a0 = some x0) (g1 : w.cell? a1 = some x1) (g2 : w.cell? a2 = some x2) (g3 : w.cell? a3 = some x3) : Below w.heap.size w w' ∧ w'.cell? a0 = some x0 ∧ w'.cell? a1 = some x1 ∧ w'.cell? a2 = some x2 ∧ w'.cell? a3 = some x3 :=
  ⟨hb, cell_keep hb g0, cell_keep hb g1, cell_keep hb g2, cell_keep hb g3⟩
theorem keepN5 {w w' : World} {a0 : Addr} {x0 : Value} {a1 : Addr} {x1 : Value} {a2 : Addr} {x2 : Value} {a3 : Addr} {x3 : Value} {a4 : Addr} {x4 : Value} (hb : Below w.heap.size w w') (g0 : w.cell? a0 = some x0) (g1 : w.cell? a1 = some x1) (g2 : w.cell? a2 = some x2) (g3 : w.cell? a3 = some x3) (g4 : w.cell? a4 = some x4) : Below w.heap.size w w' ∧ w'.cell? a0 = some x0 ∧ w'.cell? a1 = some x1 ∧ w'.cell? a2 = some x2 ∧ w'.cell? a3 = some x3 ∧ w'.cell? a4 = some x4 :=
  ⟨hb, cell_keep hb g0, cell_keep hb g1, cell_keep hb g2, cell_keep hb g3, cell_keep hb g4⟩
theorem keepN6 {w w' : World} {a0 : Addr} {x0 : Value} {a1 : Addr} {x1 : Value} {a2 : Addr} {x2 : Value} {a3 : Addr} {x3 : Value} {a4 : Addr} {x4 : Value} {a5 : Addr} {x5 : Value} (hb : Below w.heap.size w w') (g0 : w.cell? a0 = some x0) (g1 : w.cell? a1 = some x1) (g2 : w.cell? a2 = some x2) (g3 : w.cell? a3 = some x3) (g4 : w.cell? a4 = some x4) (g5 : w.cell? a5 = some x5) : Below w.heap.size w w' ∧ w'.cell? a0 = some x0 ∧ w'.cell? a1 = some x1 ∧ w'.cell? a2 = some x2 ∧ w'.cell? a3 = some x3 ∧ w'.cell? a4 = some x4 ∧ w'.cell? a5 = some x5 :=
  ⟨hb, cell_keep hb g0, cell_keep hb g1, cell_keep hb g2, cell_keep hb g3, cell_keep hb g4, cell_keep hb g5⟩
theorem keepN7 {w w' : World} {a0 : Addr} {x0 : Value} {a1 : Addr} {x1 : Value} {a2 : Addr} {x2 : Value} {a3 : Addr} {x3 : Value} {a4 : Addr} {x4 : Value} {a5 : Addr} {x5 : Value} {a6 : Addr} {x6 : Value} (hb : Below w.heap.size w w') (g0 : w.cell? a0 = some x0) (g1 : w.cell? a1 = some x1) (g2 : w.cell? a2 = some x2) (g3 : w.cell? a3 = some x3) (g4 : w.cell? a4 = some x4) (g5 : w.cell? a5 = some x5) (g6 : w.cell? a6 = some x6) : Below w.heap.size w w' ∧ w'.cell? a0 = some x0 ∧ w'.cell? a1 = some x1 ∧ w'.cell? a2 = some x2 ∧ w'.cell? a3 = some x3 ∧ w'.cell? a4 = some x4 ∧ w'.cell? a5 = some x5 ∧ w'.cell? a6 = some x6 :=
  ⟨hb, cell_keep hb g0, cell_keep hb g1, cell_keep hb g2, cell_keep hb g3, cell_keep hb g4, cell_keep hb g5, cell_keep hb g6⟩
theorem keepN8 {w w' : World} {a0 : Addr} {x0 : Value} {a1 : Addr} {x1 : Value} {a2 : Addr} {x2 : Value} {a3 : Addr} {x3 : Value} {a4 : Addr} {x4 : Value} {a5 : Addr} {x5 : Value} {a6 : Addr} {x6 : Value} {a7 : Addr} {x7 : Value} (hb : Below w.heap.size w w') (g0 : w.cell? a0 = some x0) (g1 : w.cell? a1 = some x1) (g2 : w.cell? a2 = some x2) (g3 : w.cell? a3 = some x3) (g4 : w.cell? a4 = some x4) (g5 : w.cell? a5 = some x5) (g6 : w.cell? a6 = some x6) (g7 : w.cell? a7 = some x7) : Below w.heap.size w w' ∧ w'.cell? a0 = some x0 ∧ w'.cell? a1 = some x1 ∧ w'.cell? a2 = some x2 ∧ w'.cell? a3 = some x3 ∧ w'.cell? a4 = some x4 ∧ w'.cell? a5 = some x5 ∧ w'.cell? a6 = some x6 ∧ w'.cell? a7 = some x7 :=
  ⟨hb, cell_keep hb g0, cell_keep hb g1, cell_keep hb g2, cell_keep hb g3, cell_keep hb g4, cell_keep hb g5, cell_keep hb g6, cell_keep hb g7⟩
theorem keepN9 {w w' : World} {a0 : Addr} {x0 : Value} {a1 : Addr} {x1 : Value} {a2 : Addr} {x2 : Value} {a3 : Addr} {x3 : Value} {a4 : Addr} {x4 : Value} {a5 : Addr} {x5 : Value} {a6 : Addr} {x6 : Value} {a7 : Addr} {x7 : Value} {a8 : Addr} {x8 : Value} (hb : Below w.heap.size w w') (g0 : w.cell? a0 = some x0) (g1 : w.cell? a1 = some x1) (g2 : w.cell? a2 = some x2) (g3 : w.cell? a3 = some x3) (g4 : w.cell? a4 = some x4) (g5 : w.cell? a5 = some x5) (g6 : w.cell? a6 = some x6) (g7 : w.cell? a7 = some x7) (g8 : w.cell? a8 = some x8) : Below w.heap.size w w' ∧ w'.cell? a0 = some x0 ∧ w'.cell? a1 = some x1 ∧ w'.cell? a2 = some x2 ∧ w'.cell? a3 = some x3 ∧ w'.cell? a4 = some x4 ∧ w'.cell? a5 = some x5 ∧ w'.cell? a6 = some x6 ∧ w'.cell? a7 = some x7 ∧ w'.cell? a8 = some x8 :=
  ⟨hb, cell_keep hb g0, cell_keep hb g1, cell_keep hb g2, cell_keep hb g3, cell_keep hb g4, cell_keep hb g5, cell_keep hb g6, cell_keep hb g7, cell_keep hb g8⟩
theorem keepN10 {w w' : World} {a0 : Addr} {x0 : Value} {a1 : Addr} {x1 : Value} {a2 : Addr} {x2 : Value} {a3 : Addr} {x3 : Value} {a4 : Addr} {x4 : Value} {a5 : Addr} {x5 : Value} {a6 : Addr} {x6 : Value} {a7 : Addr} {x7 : Value} {a8 : Addr} {x8 : Value} {a9 : Addr} {x9 : Value} (hb : Below w.heap.size w w') (g0 : w.cell? a0 = some x0) (g1 : w.cell? a1 = some x1) (g2 : w.cell? a2 = some x2) (g3 : w.cell? a3 = some x3) (g4 : w.cell? a4 = some x4) (g5 : w.cell? a5 = some x5) (g6 : w.cell? a6 = some x6) (g7 : w.cell? a7 = some x7) (g8 : w.cell? a8 = some x8) (g9 : w.cell? a9 = some x9) : Below w.heap.size w w' ∧ w'.cell? a0 = some x0 ∧ w'.cell? a1 = some x1 ∧ w'.cell? a2 = some x2 ∧ w'.cell? a3 = some x3 ∧ w'.cell? a4 = some x4 ∧ w'.cell? a5 = some x5 ∧ w'.cell? a6 = some x6 ∧ w'.cell? a7 = some x7 ∧ w'.cell? a8 = some x8 ∧ w'.cell? a9 = some x9 :=
  ⟨hb, cell_keep hb g0, cell_keep hb g1, cell_keep hb g2, cell_keep hb g3, cell_keep hb g4, cell_keep hb g5, cell_keep hb g6, cell_keep hb g7, cell_keep hb g8, cell_keep hb g9⟩
theorem keepN11 {w w' : World} {a0 : Addr} {x0 : Value} {a1 : Addr} {x1 : Value} {a2 : Addr} {x2 : Value} {a3 : Addr} {x3 : Value} {a4 : Addr} {x4 : Value} {a5 : Addr} {x5 : Value} {a6 : Addr} {x6 : Value} {a7 : Addr} {x7 : Value} {a8 : Addr} {x8 : Value} {a9 : Addr} {x9 : Value} {a10 : Addr} {x10 : Value} (hb : Below w.heap.size w w') (g0 : w.cell? a0 = some x0) (g1 : w.cell? a1 = some x1) (g2 : w.cell? a2 = some x2) (g3 : w.cell? a3 = some x3) (g4 : w.cell? a4 = some x4) (g5 : w.cell? a5 = some x5) (g6 : w.cell? a6 = some x6) (g7 : w.cell? a7 = some x7) (g8 : w.cell? a8 = some x8) (g9 : w.cell? a9 = some x9) (g10 : w.cell? a10 = some x10) : Below w.heap.size w w' ∧ w'.cell? a0 = some x0 ∧ w'.cell? a1 = some x1 ∧ w'.cell? a2 = some x2 ∧ w'.cell? a3 = some x3 ∧ w'.cell? a4 = some x4 ∧ w'.cell? a5 = some x5 ∧ w'.cell? a6 = some x6 ∧ w'.cell? a7 = some x7 ∧ w'.cell? a8 = some x8 ∧ w'.cell? a9 = some x9 ∧ w'.cell? a10 = some x10 :=
  ⟨hb, cell_keep hb g0, cell_keep hb g1, cell_keep hb g2, cell_keep hb g3, cell_keep hb g4, cell_keep hb g5, cell_keep hb g6, cell_keep hb g7, cell_keep hb g8, cell_keep hb g9, cell_keep hb g10⟩
theorem keepN12 {w w' : World} {a0 : Addr} {x0 : Value} {a1 : Addr} {x1 : Value} {a2 : Addr} {x2 : Value} {a3 : Addr} {x3 : Value} {a4 : Addr} {x4 : Value} {a5 : Addr} {x5 : Value} {a6 : Addr} {x6 : Value} {a7 : Addr} {x7 : Value} {a8 : Addr} {x8 : Value} {a9 : Addr} {x9 : Value} {a10 : Addr} {x10 : Value} {a11 : Addr} {x11 : Value} (hb : Below w.heap.size w w') (g0 : w.cell? a0 = some x0) (g1 : w.cell? a1 = some x1) (g2 : w.cell? a2 = some x2) (g3 : w.cell? a3 = some x3) (g4 : w.cell? a4 = some x4) (g5 : w.cell? a5 = some x5) (g6 : w.cell? a6 = some x6) (g7 : w.cell? a7 = some x7) (g8 : w.cell? a8 = some x8) (g9 : w.cell? a9 = some x9) (g10 : w.cell? a10 = some x10) (g11 : w.cell? a11 = some x11) : Below w.heap.size w w' ∧ w'.cell? a0 = some x0 ∧ w'.cell? a1 = some x1 ∧ w'.cell? a2 = some x2 ∧ w'.cell? a3 = some x3 ∧ w'.cell? a4 = some x4 ∧ w'.cell? a5 = some x5 ∧ w'.cell? a6 = some x6 ∧ w'.cell? a7 = some x7 ∧ w'.cell? a8 = some x8 ∧ w'.cell? a9 = some x9 ∧ w'.cell? a10 = some x10 ∧ w'.cell? a11 = some x11 :=
  ⟨hb, cell_keep hb g0, cell_keep hb g1, cell_keep hb g2, cell_keep hb g3, cell_keep hb g4, cell_keep hb g5, cell_keep hb g6, cell_keep hb g7, cell_keep hb g8, cell_keep hb g9, cell_keep hb g10, cell_keep hb g11⟩
theorem keepN13 {w w' : World} {a0 : Addr} {x0 : Value} {a1 : Addr} {x1 : Value} {a2 : Addr} {x2 : Value} {a3 : Addr} {x3 : Value} {a4 : Addr} {x4 : Value} {a5 : Addr} {x5 : Value} {a6 : Addr} {x6 : Value} {a7 : Addr} {x7 : Value} {a8 : Addr} {x8 : Value} {a9 : Addr} {x9 : Value} {a10 : Addr} {x10 : Value} {a11 : Addr} {x11 : Value} {a12 : Addr} {x12 : Value} (hb : Below w.heap.size w w') (g0 : w.cell? a0 = some x0) (g1 : w.cell? a1 = some x1) (g2 : w.cell? a2 = some x2) (g3 : w.cell? a3 = some x3) (g4 : w.cell? a4 = some x4) (g5 : w.cell? a5 = some x5) (g6 : w.cell? a6 = some x6) (g7 : w.cell? a7 = some x7) (g8 : w.cell? a8 = some x8) (g9 : w.cell? a9 = some x9) (g10 : w.cell? a10 = some x10) (g11 : w.cell? a11 = some x11) (g12 : w.cell? a12 = some x12) : Below w.heap.size w w' ∧ w'.cell? a0 = some x0 ∧ w'.cell? a1 = some x1 ∧ w'.cell? a2 = some x2 ∧ w'.cell? a3 = some x3 ∧ w'.cell? a4 = some x4 ∧ w'.cell? a5 = some x5 ∧ w'.cell? a6 = some x6 ∧ w'.cell? a7 = some x7 ∧ w'.cell? a8 = some x8 ∧ w'.cell? a9 = some x9 ∧ w'.cell? a10 = some x10 ∧ w'.cell? a11 = some x11 ∧ w'.cell? a12 = some x12 :=
  ⟨hb, cell_keep hb g0, cell_keep hb g1, cell_keep hb g2, cell_keep hb g3, cell_keep hb g4, cell_keep hb g5, cell_keep hb g6, cell_keep hb g7, cell_keep hb g8, cell_keep hb g9, cell_keep hb g10, cell_keep hb g11, cell_keep hb g12⟩
theorem keepN14 {w w' : World} {a0 : Addr} {x0 : Value} {a1 : Addr} {x1 : Value} {a2 : Addr} {x2 : Value} {a3 : Addr} {x3 : Value} {a4 : Addr} {x4 : Value} {a5 : Addr} {x5 : Value} {a6 : Addr} {x6 : Value} {a7 : Addr} {x7 : Value} {a8 : Addr} {x8 : Value} {a9 : Addr} {x9 : Value} {a10 : Addr} {x10 : Value} {a11 : Addr} {x11 : Value} {a12 : Addr} {x12 : Value} {a13 : Addr} {x13 : Value} (hb : Below w.heap.size w w') (g0 : w.cell? a0 = some x0) (g1 : w.cell? a1 = some x1) (g2 : w.cell? a2 = some x2) (g3 : w.cell? a3 = some x3) (g4 : w.cell? a4 = some x4) (g5 : w.cell? a5 = some x5) (g6 : w.cell? a6 = some x6) (g7 : w.cell? a7 = some x7) (g8 : w.cell? a8 = some x8) (g9 : w.cell? a9 = some x9) (g10 : w.cell? a10 = some x10) (g11 : w.cell? a11 = some x11) (g12 : w.cell? a12 = some x12) (g13 : w.cell? a13 = some x13) : Below w.heap.size w w' ∧ w'.cell? a0 = some x0 ∧ w'.cell? a1 = some x1 ∧ w'.cell? a2 = some x2 ∧ w'.cell? a3 = some x3 ∧ w'.cell? a4 = some x4 ∧ w'.cell? a5 = some x5 ∧ w'.cell? a6 = some x6 ∧ w'.cell? a7 = some x7 ∧ w'.cell? a8 = some x8 ∧ w'.cell? a9 = some x9 ∧ w'.cell? a10 = some x10 ∧ w'.cell? a11 = some x11 ∧ w'.cell? a12 = some x12 ∧ w'.cell? a13 = some x13 :=
  ⟨hb, cell_keep hb g0, cell_keep hb g1, cell_keep hb g2, cell_keep hb g3, cell_keep hb g4, cell_keep hb g5, cell_keep hb g6, cell_keep hb g7, cell_keep hb g8, cell_keep hb g9, cell_keep hb g10, cell_keep hb g11, cell_keep hb g12, cell_keep hb g13⟩
theorem keepS1 {w W W' : World} {a1 : Addr} {v1 : Value} (h : Below w.heap.size w W ∧ W.cell? a1 = some v1) (hb : Below W.heap.size W W') : Below w.heap.size w W' ∧ W'.cell? a1 = some v1 :=
  ⟨bstep h.1 hb, cell_keep hb (h.2)⟩
theorem keepS1g {w W W' : World} {a1 : Addr} {v1 : Value} {b : Nat} (h : Below w.heap.size w W ∧ W.cell? a1 = some v1) (hg : W.grownBy W' (some b)) (hl : w.heap.size ≤ b) (n1 : some a1.block ≠ some b) : Below w.heap.size w W' ∧ W'.cell? a1 = some v1 :=
  ⟨h.1.grown hg h.1.size (fun k e => by cases e; exact hl), hg.cell (h.2) n1⟩
theorem keepS2 {w W W' : World} {a1 a2 : Addr} {v1 v2 : Value} (h : Below w.heap.size w W ∧ W.cell? a1 = some v1 ∧ W.cell? a2 = some v2) (hb : Below W.heap.size W W') : Below w.heap.size w W' ∧ W'.cell? a1 = some v1 ∧ W'.cell? a2 = some v2 :=
  ⟨bstep h.1 hb, cell_keep hb (h.2.1), cell_keep hb (h.2.2)⟩
theorem keepS2g {w W W' : World} {a1 a2 : Addr} {v1 v2 : Value} {b : Nat} (h : Below w.heap.size w W ∧ W.cell? a1 = some v1 ∧ W.cell? a2 = some v2) (hg : W.grownBy W' (some b)) (hl : w.heap.size ≤ b) (n1 : some a1.block ≠ some b) (n2 : some a2.block ≠ some b) : Below w.heap.size w W' ∧ W'.cell? a1 = some v1 ∧ W'.cell? a2 = some v2 :=
  ⟨h.1.grown hg h.1.size (fun k e => by cases e; exact hl), hg.cell (h.2.1) n1, hg.cell (h.2.2) n2⟩
theorem keepS3 {w W W' : World} {a1 a2 a3 : Addr} {v1 v2 v3 : Value} (h : Below w.heap.size w W ∧ W.cell? a1 = some v1 ∧ W.cell? a2 = some v2 ∧ W.cell? a3 = some v3) (hb : Below W.heap.size W W') : Below w.heap.size w W' ∧ W'.cell? a1 = some v1 ∧ W'.cell? a2 = some v2 ∧ W'.cell? a3 = some v3 :=
  ⟨bstep h.1 hb, cell_keep hb (h.2.1), cell_keep hb (h.2.2.1), cell_keep hb (h.2.2.2)⟩
theorem keepS3g {w W W' : World} {a1 a2 a3 : Addr} {v1 v2 v3 : Value} {b : Nat} (h : Below w.heap.size w W ∧ W.cell? a1 = some v1 ∧ W.cell? a2 = some v2 ∧ W.cell? a3 = some v3) (hg : W.grownBy W' (some b)) (hl : w.heap.size ≤ b) (n1 : some a1.block ≠ some b) (n2 : some a2.block ≠ some b) (n3 : some a3.block ≠ some b) : Below w.heap.size w W' ∧ W'.cell? a1 = some v1 ∧ W'.cell? a2 = some v2 ∧ W'.cell? a3 = some v3 :=
  ⟨h.1.grown hg h.1.size (fun k e => by cases e; exact hl), hg.cell (h.2.1) n1, hg.cell (h.2.2.1) n2, hg.cell (h.2.2.2) n3⟩
theorem keepS4 {w W W' : World} {a1 a2 a3 a4 : Addr} {v1 v2 v3 v4 : Value} (h : Below w.heap.size w W ∧ W.cell? a1 = some v1 ∧ W.cell? a2 = some v2 ∧ W.cell? a3 = some v3 ∧ W.cell? a4 = some v4) (hb : Below W.heap.size W W') : Below w.heap.size w W' ∧ W'.cell? a1 = some v1 ∧ W'.cell? a2 = some v2 ∧ W'.cell? a3 = some v3 ∧ W'.cell? a4 = some v4 :=
  ⟨bstep h.1 hb, cell_keep hb (h.2.1), cell_keep hb (h.2.2.1), cell_keep hb (h.2.2.2.1), cell_keep hb (h.2.2.2.2)⟩
theorem keepS4g {w W W' : World} {a1 a2 a3 a4 : Addr} {v1 v2 v3 v4 : Value} {b : Nat} (h : Below w.heap.size w W ∧ W.cell? a1 = some v1 ∧ W.cell? a2 = some v2 ∧ W.cell? a3 = some v3 ∧ W.cell? a4 = some v4) (hg : W.grownBy W' (some b)) (hl : w.heap.size ≤ b) (n1 : some a1.block ≠ some b) (n2 : some a2.block ≠ some b) (n3 : some a3.block ≠ some b) (n4 : some a4.block ≠ some b) : Below w.heap.size w W' ∧ W'.cell? a1 = some v1 ∧ W'.cell? a2 = some v2 ∧ W'.cell? a3 = some v3 ∧ W'.cell? a4 = some v4 :=
  ⟨h.1.grown hg h.1.size (fun k e => by cases e; exact hl), hg.cell (h.2.1) n1, hg.cell (h.2.2.1) n2, hg.cell (h.2.2.2.1) n3, hg.cell (h.2.2.2.2) n4⟩
theorem keepS5 {w W W' : World} {a1 a2 a3 a4 a5 : Addr} {v1 v2 v3 v4 v5 : Value} (h : Below w.heap.size w W ∧ W.cell? a1 = some v1 ∧ W.cell? a2 = some v2 ∧ W.cell? a3 = some v3 ∧ W.cell? a4 = some v4 ∧ W.cell? a5 = some v5) (hb : Below W.heap.size W W') : Below w.heap.size w W' ∧ W'.cell? a1 = some v1 ∧ W'.cell? a2 = some v2 ∧ W'.cell? a3 = some v3 ∧ W'.cell? a4 = some v4 ∧ W'.cell? a5 = some v5 :=
  ⟨bstep h.1 hb, cell_keep hb (h.2.1), cell_keep hb (h.2.2.1), cell_keep hb (h.2.2.2.1), cell_keep hb (h.2.2.2.2.1), cell_keep hb (h.2.2.2.2.2)⟩
theorem keepS5g {w W W' : World} {a1 a2 a3 a4 a5 : Addr} {v1 v2 v3 v4 v5 : Value} {b : Nat} (h : Below w.heap.size w W ∧ W.cell? a1 = some v1 ∧ W.cell? a2 = some v2 ∧ W.cell? a3 = some v3 ∧ W.cell? a4 = some v4 ∧ W.cell? a5 = some v5) (hg : W.grownBy W' (some b)) (hl : w.heap.size ≤ b) (n1 : some a1.block ≠ some b) (n2 : some a2.block ≠ some b) (n3 : some a3.block ≠ some b) (n4 : some a4.block ≠ some b) (n5 : some a5.block ≠ some b) : Below w.heap.size w W' ∧ W'.cell? a1 = some v1 ∧ W'.cell? a2 = some v2 ∧ W'.cell? a3 = some v3 ∧ W'.cell? a4 = some v4 ∧ W'.cell? a5 = some v5 :=
  ⟨h.1.grown hg h.1.size (fun k e => by cases e; exact hl), hg.cell (h.2.1) n1, hg.cell (h.2.2.1) n2, hg.cell (h.2.2.2.1) n3, hg.cell (h.2.2.2.2.1) n4, hg.cell (h.2.2.2.2.2) n5⟩
theorem keepS6 {w W W' : World} {a1 a2 a3 a4 a5 a6 : Addr} {v1 v2 v3 v4 v5 v6 : Value} (h : Below w.heap.size w W ∧ W.cell? a1 = some v1 ∧ W.cell? a2 = some v2 ∧ W.cell? a3 = some v3 ∧ W.cell? a4 = some v4 ∧ W.cell? a5 = some v5 ∧ W.cell? a6 = some v6) (hb : Below W.heap.size W W') : Below w.heap.size w W' ∧ W'.cell? a1 = some v1 ∧ W'.cell? a2 = some v2 ∧ W'.cell? a3 = some v3 ∧ W'.cell? a4 = some v4 ∧ W'.cell? a5 = some v5 ∧ W'.cell? a6 = some v6 :=
  ⟨bstep h.1 hb, cell_keep hb (h.2.1), cell_keep hb (h.2.2.1), cell_keep hb (h.2.2.2.1), cell_keep hb (h.2.2.2.2.1), cell_keep hb (h.2.2.2.2.2.1), cell_keep hb (h.2.2.2.2.2.2)⟩
theorem keepS6g {w W W' : World} {a1 a2 a3 a4 a5 a6 : Addr} {v1 v2 v3 v4 v5 v6 : Value} {b : Nat} (h : Below w.heap.size w W ∧ W.cell? a1 = some v1 ∧ W.cell? a2 = some v2 ∧ W.cell? a3 = some v3 ∧ W.cell? a4 = some v4 ∧ W.cell? a5 = some v5 ∧ W.cell? a6 = some v6) (hg : W.grownBy W' (some b)) (hl : w.heap.size ≤ b) (n1 : some a1.block ≠ some b) (n2 : some a2.block ≠ some b) (n3 : some a3.block ≠ some b) (n4 : some a4.block ≠ some b) (n5 : some a5.block ≠ some b) (n6 : some a6.block ≠ some b) : Below w.heap.size w W' ∧ W'.cell? a1 = some v1 ∧ W'.cell? a2 = some v2 ∧ W'.cell? a3 = some v3 ∧ W'.cell? a4 = some v4 ∧ W'.cell? a5 = some v5 ∧ W'.cell? a6 = some v6 :=
  ⟨h.1.grown hg h.1.size (fun k e => by cases e; exact hl), hg.cell (h.2.1) n1, hg.cell (h.2.2.1) n2, hg.cell (h.2.2.2.1) n3, hg.cell (h.2.2.2.2.1) n4, hg.cell (h.2.2.2.2.2.1) n5, hg.cell (h.2.2.2.2.2.2) n6⟩
theorem keepS7 {w W W' : World} {a1 a2 a3 a4 a5 a6 a7 : Addr} {v1 v2 v3 v4 v5 v6 v7 : Value} (h : Below w.heap.size w W ∧ W.cell? a1 = some v1 ∧ W.cell? a2 = some v2 ∧ W.cell? a3 = some v3 ∧ W.cell? a4 = some v4 ∧ W.cell? a5 = some v5 ∧ W.cell? a6 = some v6 ∧ W.cell? a7 = some v7) (hb : Below W.heap.size W W') : Below w.heap.size w W' ∧ W'.cell? a1 = some v1 ∧ W'.cell? a2 = some v2 ∧ W'.cell? a3 = some v3 ∧ W'.cell? a4 = some v4 ∧ W'.cell? a5 = some v5 ∧ W'.cell? a6 = some v6 ∧ W'.cell? a7 = some v7 :=
  ⟨bstep h.1 hb, cell_keep hb (h.2.1), cell_keep hb (h.2.2.1), cell_keep hb (h.2.2.2.1), cell_keep hb (h.2.2.2.2.1), cell_keep hb (h.2.2.2.2.2.1), cell_keep hb (h.2.2.2.2.2.2.1), cell_keep hb (h.2.2.2.2.2.2.2)⟩
theorem keepS7g {w W W' : World} {a1 a2 a3 a4 a5 a6 a7 : Addr} {v1 v2 v3 v4 v5 v6 v7 : Value} {b : Nat} (h : Below w.heap.size w W ∧ W.cell? a1 = some v1 ∧ W.cell? a2 = some v2 ∧ W.cell? a3 = some v3 ∧ W.cell? a4 = some v4 ∧ W.cell? a5 = some v5 ∧ W.cell? a6 = some v6 ∧ W.cell? a7 = some v7) (hg : W.grownBy W' (some b)) (hl : w.heap.size ≤ b) (n1 : some a1.block ≠ some b) (n2 : some a2.block ≠ some b) (n3 : some a3.block ≠ some b) (n4 : some a4.block ≠ some b) (n5 : some a5.block ≠ some b) (n6 : some a6.block ≠ some b) (n7 : some a7.block ≠ some b) : Below w.heap.size w W' ∧ W'.cell? a1 = some v1 ∧ W'.cell? a2 = some v2 ∧ W'.cell? a3 = some v3 ∧ W'.cell? a4 = some v4 ∧ W'.cell? a5 = some v5 ∧ W'.cell? a6 = some v6 ∧ W'.cell? a7 = some v7 :=
  ⟨h.1.grown hg h.1.size (fun k e => by cases e; exact hl), hg.cell (h.2.1) n1, hg.cell (h.2.2.1) n2, hg.cell (h.2.2.2.1) n3, hg.cell (h.2.2.2.2.1) n4, hg.cell (h.2.2.2.2.2.1) n5, hg.cell (h.2.2.2.2.2.2.1) n6, hg.cell (h.2.2.2.2.2.2.2) n7⟩
theorem keepS8 {w W W' : World} {a1 a2 a3 a4 a5 a6 a7 a8 : Addr} {v1 v2 v3 v4 v5 v6 v7 v8 : Value} (h : Below w.heap.size w W ∧ W.cell? a1 = some v1 ∧ W.cell? a2 = some v2 ∧ W.cell? a3 = some v3 ∧ W.cell? a4 = some v4 ∧ W.cell? a5 = some v5 ∧ W.cell? a6 = some v6 ∧ W.cell? a7 = some v7 ∧ W.cell? a8 = some v8) (hb : Below W.heap.size W W') : Below w.heap.size w W' ∧ W'.cell? a1 = some v1 ∧ W'.cell? a2 = some v2 ∧ W'.cell? a3 = some v3 ∧ W'.cell? a4 = some v4 ∧ W'.cell? a5 = some v5 ∧ W'.cell? a6 = some v6 ∧ W'.cell? a7 = some v7 ∧ W'.cell? a8 = some v8 :=
  ⟨bstep h.1 hb, cell_keep hb (h.2.1), cell_keep hb (h.2.2.1), cell_keep hb (h.2.2.2.1), cell_keep hb (h.2.2.2.2.1), cell_keep hb (h.2.2.2.2.2.1), cell_keep hb (h.2.2.2.2.2.2.1), cell_keep hb (h.2.2.2.2.2.2.2.1), cell_keep hb (h.2.2.2.2.2.2.2.2)⟩
theorem keepS8g {w W W' : World} {a1 a2 a3 a4 a5 a6 a7 a8 : Addr} {v1 v2 v3 v4 v5 v6 v7 v8 : Value} {b : Nat} (h : Below w.heap.size w W ∧ W.cell? a1 = some v1 ∧ W.cell? a2 = some v2 ∧ W.cell? a3 = some v3 ∧ W.cell? a4 = some v4 ∧ W.cell? a5 = some v5 ∧ W.cell? a6 = some v6 ∧ W.cell? a7 = some v7 ∧ W.cell? a8 = some v8) (hg : W.grownBy W' (some b)) (hl : w.heap.size ≤ b) (n1 : some a1.block ≠ some b) (n2 : some a2.block ≠ some b) (n3 : some a3.block ≠ some b) (n4 : some a4.block ≠ some b) (n5 : some a5.block ≠ some b) (n6 : some a6.block ≠ some b) (n7 : some a7.block ≠ some b) (n8 : some a8.block ≠ some b) : Below w.heap.size w W' ∧ W'.cell? a1 = some v1 ∧ W'.cell? a2 = some v2 ∧ W'.cell? a3 = some v3 ∧ W'.cell? a4 = some v4 ∧ W'.cell? a5 = some v5 ∧ W'.cell? a6 = some v6 ∧ W'.cell? a7 = some v7 ∧ W'.cell? a8 = some v8 :=
  ⟨h.1.grown hg h.1.size (fun k e => by cases e; exact hl), hg.cell (h.2.1) n1, hg.cell (h.2.2.1) n2, hg.cell (h.2.2.2.1) n3, hg.cell (h.2.2.2.2.1) n4, hg.cell (h.2.2.2.2.2.1) n5, hg.cell (h.2.2.2.2.2.2.1) n6, hg.cell (h.2.2.2.2.2.2.2.1) n7, hg.cell (h.2.2.2.2.2.2.2.2) n8⟩
theorem boxNew1 {Y w' : World} {B t : Nat} {v1 : Value} (hb : Below (Y.alloc (.cells #[v1] t)).heap.size (Y.alloc (.cells #[v1] t)) w') (e : B = Y.heap.size) : w'.cell? ⟨B, 0, none⟩ = some v1 ∧ (∀ o, w'.frozen? ⟨B, o, none⟩ = false) ∧ B < w'.heap.size := by
  subst e
  have h := hb.size
  simp only [World.size_alloc] at h
  exact ⟨cell_keep hb (by simp [go_sem]), fun o => by rw [(bcell hb).2 _ _ (by simp)]; simp [go_sem], by omega⟩
theorem boxNew2 {Y w' : World} {B t : Nat} {v1 v2 : Value} (hb : Below (Y.alloc (.cells #[v1, v2] t)).heap.size (Y.alloc (.cells #[v1, v2] t)) w') (e : B = Y.heap.size) : w'.cell? ⟨B, 0, none⟩ = some v1 ∧ w'.cell? ⟨B, 1, none⟩ = some v2 ∧ (∀ o, w'.frozen? ⟨B, o, none⟩ = false) ∧ B < w'.heap.size := by
  subst e
  have h := hb.size
  simp only [World.size_alloc] at h
  exact ⟨cell_keep hb (by simp [go_sem]), cell_keep hb (by simp [go_sem]), fun o => by rw [(bcell hb).2 _ _ (by simp)]; simp [go_sem], by omega⟩
theorem boxNew3 {Y w' : World} {B t : Nat} {v1 v2 v3 : Value} (hb : Below (Y.alloc (.cells #[v1, v2, v3] t)).heap.size (Y.alloc (.cells #[v1, v2, v3] t)) w') (e : B = Y.heap.size) : w'.cell? ⟨B, 0, none⟩ = some v1 ∧ w'.cell? ⟨B, 1, none⟩ = some v2 ∧ w'.cell? ⟨B, 2, none⟩ = some v3 ∧ (∀ o, w'.frozen? ⟨B, o, none⟩ = false) ∧ B < w'.heap.size := by
  subst e
  have h := hb.size
  simp only [World.size_alloc] at h
  exact ⟨cell_keep hb (by simp [go_sem]), cell_keep hb (by simp [go_sem]), cell_keep hb (by simp [go_sem]), fun o => by rw [(bcell hb).2 _ _ (by simp)]; simp [go_sem], by omega⟩
theorem boxNew4 {Y w' : World} {B t : Nat} {v1 v2 v3 v4 : Value} (hb : Below (Y.alloc (.cells #[v1, v2, v3, v4] t)).heap.size (Y.alloc (.cells #[v1, v2, v3, v4] t)) w') (e : B = Y.heap.size) : w'.cell? ⟨B, 0, none⟩ = some v1 ∧ w'.cell? ⟨B, 1, none⟩ = some v2 ∧ w'.cell? ⟨B, 2, none⟩ = some v3 ∧ w'.cell? ⟨B, 3, none⟩ = some v4 ∧ (∀ o, w'.frozen? ⟨B, o, none⟩ = false) ∧ B < w'.heap.size := by
  subst e
  have h := hb.size
  simp only [World.size_alloc] at h
  exact ⟨cell_keep hb (by simp [go_sem]), cell_keep hb (by simp [go_sem]), cell_keep hb (by simp [go_sem]), cell_keep hb (by simp [go_sem]), fun o => by rw [(bcell hb).2 _ _ (by simp)]; simp [go_sem], by omega⟩
theorem boxNew5 {Y w' : World} {B t : Nat} {v1 v2 v3 v4 v5 : Value} (hb : Below (Y.alloc (.cells #[v1, v2, v3, v4, v5] t)).heap.size (Y.alloc (.cells #[v1, v2, v3, v4, v5] t)) w') (e : B = Y.heap.size) : w'.cell? ⟨B, 0, none⟩ = some v1 ∧ w'.cell? ⟨B, 1, none⟩ = some v2 ∧ w'.cell? ⟨B, 2, none⟩ = some v3 ∧ w'.cell? ⟨B, 3, none⟩ = some v4 ∧ w'.cell? ⟨B, 4, none⟩ = some v5 ∧ (∀ o, w'.frozen? ⟨B, o, none⟩ = false) ∧ B < w'.heap.size := by
  subst e
  have h := hb.size
  simp only [World.size_alloc] at h
  exact ⟨cell_keep hb (by simp [go_sem]), cell_keep hb (by simp [go_sem]), cell_keep hb (by simp [go_sem]), cell_keep hb (by simp [go_sem]), cell_keep hb (by simp [go_sem]), fun o => by rw [(bcell hb).2 _ _ (by simp)]; simp [go_sem], by omega⟩
theorem boxNew6 {Y w' : World} {B t : Nat} {v1 v2 v3 v4 v5 v6 : Value} (hb : Below (Y.alloc (.cells #[v1, v2, v3, v4, v5, v6] t)).heap.size (Y.alloc (.cells #[v1, v2, v3, v4, v5, v6] t)) w') (e : B = Y.heap.size) : w'.cell? ⟨B, 0, none⟩ = some v1 ∧ w'.cell? ⟨B, 1, none⟩ = some v2 ∧ w'.cell? ⟨B, 2, none⟩ = some v3 ∧ w'.cell? ⟨B, 3, none⟩ = some v4 ∧ w'.cell? ⟨B, 4, none⟩ = some v5 ∧ w'.cell? ⟨B, 5, none⟩ = some v6 ∧ (∀ o, w'.frozen? ⟨B, o, none⟩ = false) ∧ B < w'.heap.size := by
  subst e
  have h := hb.size
  simp only [World.size_alloc] at h
  exact ⟨cell_keep hb (by simp [go_sem]), cell_keep hb (by simp [go_sem]), cell_keep hb (by simp [go_sem]), cell_keep hb (by simp [go_sem]), cell_keep hb (by simp [go_sem]), cell_keep hb (by simp [go_sem]), fun o => by rw [(bcell hb).2 _ _ (by simp)]; simp [go_sem], by omega⟩
theorem boxKeep {W w' : World} {B : Nat} (h : (∀ o, W.frozen? ⟨B, o, none⟩ = false) ∧ B < W.heap.size) (hb : Below W.heap.size W w') : (∀ o, w'.frozen? ⟨B, o, none⟩ = false) ∧ B < w'.heap.size :=
  ⟨fun o => by rw [(bcell hb).2 _ _ h.2]; exact h.1 o, Nat.lt_of_lt_of_le h.2 hb.size⟩

end Go.Proofs.YtdfapehonegeeaaGreat


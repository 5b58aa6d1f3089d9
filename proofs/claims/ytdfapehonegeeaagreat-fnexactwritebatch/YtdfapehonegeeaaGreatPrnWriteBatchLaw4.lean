import Derived.Test.YtdfapehonegeeaaGreatPrnWriteBatchLaw3
import Derived.Test.YtdfapehonegeeaaGreatPrnWriteBatchLaw1

/-
  CheckOf on both sides.
-/
namespace Go.Proofs.YtdfapehonegeeaaGreat
open Go.RowKit
attribute [local go_sem ↓] Go.wp_at_zero Go.wp_at_succ

def chk (xs : List Byte) : Int := xs.foldl (fun h b => (h * 257 + (b.val : Int) + 1) % 65521) 1
theorem chk_snoc (xs : List Byte) (b : Byte) : chk (xs ++ [b]) = (chk xs * 257 + (b.val : Int) + 1) % 65521 := by simp [chk]
theorem chk_rng (xs : List Byte) : 0 ≤ chk xs ∧ chk xs < 65521 := by
  suffices h : ∀ (xs : List Byte) (n : Int), (0 ≤ n ∧ n < 65521) → 0 ≤ xs.foldl (fun h b => (h * 257 + (b.val : Int) + 1) % 65521) n ∧ xs.foldl (fun h b => (h * 257 + (b.val : Int) + 1) % 65521) n < 65521 from h xs 1 (by omega)
  intro xs
  induction xs with
  | nil => intro n h; exact h
  | cons b r ih => intro n h; exact ih ((n * 257 + (b.val : Int) + 1) % 65521) (by omega)
theorem chk_take (xs : List Byte) (k : Nat) (h : k < xs.length) : chk (xs.take (k + 1)) = (chk (xs.take k) * 257 + ((xs.getD k 0).val : Int) + 1) % 65521 := by
  rw [take_snocB xs k h, chk_snoc]
set_option maxHeartbeats 1000000 in
theorem specChk_any (x : Value) (xs : List Byte) (w : World) (hx : BytesV w x xs) :
    Calls Tryz.prog 144 #[x] w fun e w' => e = .returned (.int .i64 (chk xs)) ∧ w' = w := by
  obtain ⟨ax, cx, rfl, hcx, hmx, hx⟩ := hx
  unfold maxLen at hmx
  have hT := chk_take xs
  generalize hn' : xs.length = n at *
  have HN : Hid (xs.length = n) := hn'
  have HT : Hid (∀ k, k < n → chk (xs.take (k + 1)) = (chk (xs.take k) * 257 + ((xs.getD k 0).val : Int) + 1) % 65521) := hT
  clear hn' hT
  go_enter Tryz.func144, Tryz.ntmps144
  go_wp2
  go_loopw [3, 4] (fun q i w' => ∃ (k : Nat) (y : Int), k ≤ n ∧ i = .int .i64 k ∧ y = chk (xs.take k) ∧ q = .int .i64 y ∧ w' = w) (fun _ i _ => n - (intOf i).toNat)
  case atStart => exact ⟨0, 1, by omega, rfl, by simp [chk], rfl, rfl⟩
  case round =>
    obtain ⟨k, y, hk, rfl, hy, rfl, rfl⟩ := hrel
    have hr := chk_rng (xs.take k)
    rw [← hy] at hr
    obtain ⟨y0, y1⟩ := hr
    have HY : Hid (y = chk (xs.take k)) := hy
    clear hy
    by_cases hlt : k < n
    · obtain ⟨bx, ox, rfl, h1⟩ := hx k (by omega)
      have e1 := HT.out k (by omega)
      obtain ⟨b0, b1⟩ := byte_lt (xs.getD k 0)
      obtain ⟨l, hl⟩ : ∃ l : Int, l = ((xs.getD k 0).val : Int) := ⟨_, rfl⟩
      rw [← hl] at h1 e1 b0 b1
      have HE : Hid (chk (xs.take (k + 1)) = (chk (xs.take k) * 257 + l + 1) % 65521) := e1
      have v1 : IntKind.i64.wrap l = l := by rw [IntKind.wrap_i64]; omega
      have v2 : IntKind.i64.wrap (y * 257) = y * 257 := by rw [IntKind.wrap_i64]; omega
      have v3 : IntKind.i64.wrap (y * 257 + l) = y * 257 + l := by rw [IntKind.wrap_i64]; omega
      have v4 : IntKind.i64.wrap (y * 257 + l + 1) = y * 257 + l + 1 := by rw [IntKind.wrap_i64]; omega
      obtain ⟨q, hq⟩ : ∃ q, q = (y * 257 + l + 1) % 65521 := ⟨_, rfl⟩
      have v5 : IntKind.i64.wrap ((y * 257 + l + 1).tmod 65521) = q := by rw [IntKind.wrap_i64, Int.tmod_eq_emod_of_nonneg (by omega)]; omega
      have v6 : (y * 257 + l + 1).tmod 65521 = q := by rw [Int.tmod_eq_emod_of_nonneg (by omega)]; omega
      have v7 := hq.symm
      have HQ : Hid (q = (y * 257 + l + 1) % 65521) := hq
      clear hl hx e1 hq
      go_wp2
      refine ⟨⟨k + 1, q, by omega, by go_num, ?_, rfl, trivial⟩, by simp [intOf]; omega⟩
      rw [HE.out, HQ.out, HY.out]
    · go_wp2
      go_ret
      have hkn : k = n := by omega
      subst hkn
      refine ⟨?_, rfl⟩
      rw [HY.out, List.take_of_length_le (by have := HN.out; omega)]
      rfl
set_option maxHeartbeats 1000000 in
theorem implChk_any (x : Value) (xs : List Byte) (w : World) (hx : BytesV w x xs) :
    Calls Tryz.prog 156 #[x] w fun e w' => e = .returned (.int .i64 (chk xs)) ∧ w' = w := by
  obtain ⟨ax, cx, rfl, hcx, hmx, hx⟩ := hx
  unfold maxLen at hmx
  have hT := chk_take xs
  generalize hn' : xs.length = n at *
  have HN : Hid (xs.length = n) := hn'
  have HT : Hid (∀ k, k < n → chk (xs.take (k + 1)) = (chk (xs.take k) * 257 + ((xs.getD k 0).val : Int) + 1) % 65521) := hT
  clear hn' hT
  go_enter Tryz.func156, Tryz.ntmps156
  go_wp2
  go_loopw [3, 8] (fun q i w' => ∃ (k : Nat) (y : Int), k ≤ n ∧ i = .int .i64 k ∧ y = chk (xs.take k) ∧ q = .int .i64 y ∧ w' = w) (fun _ i _ => n - (intOf i).toNat)
  case atStart => exact ⟨0, 1, by omega, rfl, by simp [chk], rfl, rfl⟩
  case round =>
    obtain ⟨k, y, hk, rfl, hy, rfl, rfl⟩ := hrel
    have hr := chk_rng (xs.take k)
    rw [← hy] at hr
    obtain ⟨y0, y1⟩ := hr
    have HY : Hid (y = chk (xs.take k)) := hy
    clear hy
    by_cases hlt : k < n
    · obtain ⟨bx, ox, rfl, h1⟩ := hx k (by omega)
      have e1 := HT.out k (by omega)
      obtain ⟨b0, b1⟩ := byte_lt (xs.getD k 0)
      obtain ⟨l, hl⟩ : ∃ l : Int, l = ((xs.getD k 0).val : Int) := ⟨_, rfl⟩
      rw [← hl] at h1 e1 b0 b1
      have HE : Hid (chk (xs.take (k + 1)) = (chk (xs.take k) * 257 + l + 1) % 65521) := e1
      have v1 : IntKind.i64.wrap l = l := by rw [IntKind.wrap_i64]; omega
      have v2 : IntKind.i64.wrap (y * 257) = y * 257 := by rw [IntKind.wrap_i64]; omega
      have v3 : IntKind.i64.wrap (y * 257 + l) = y * 257 + l := by rw [IntKind.wrap_i64]; omega
      have v4 : IntKind.i64.wrap (y * 257 + l + 1) = y * 257 + l + 1 := by rw [IntKind.wrap_i64]; omega
      obtain ⟨q, hq⟩ : ∃ q, q = (y * 257 + l + 1) % 65521 := ⟨_, rfl⟩
      have v5 : IntKind.i64.wrap ((y * 257 + l + 1).tmod 65521) = q := by rw [IntKind.wrap_i64, Int.tmod_eq_emod_of_nonneg (by omega)]; omega
      have v6 : (y * 257 + l + 1).tmod 65521 = q := by rw [Int.tmod_eq_emod_of_nonneg (by omega)]; omega
      have v7 := hq.symm
      have HQ : Hid (q = (y * 257 + l + 1) % 65521) := hq
      clear hl hx e1 hq
      go_wp2
      refine ⟨⟨k + 1, q, by omega, by go_num, ?_, rfl, trivial⟩, by simp [intOf]; omega⟩
      rw [HE.out, HQ.out, HY.out]
    · go_wp2
      go_ret
      have hkn : k = n := by omega
      subst hkn
      refine ⟨?_, rfl⟩
      rw [HY.out, List.take_of_length_le (by have := HN.out; omega)]
      rfl
end Go.Proofs.YtdfapehonegeeaaGreat

/-
  BytesResult. (Written by program: nest.py.)
-/
namespace Go.Proofs.YtdfapehonegeeaaGreat
open Go.RowKit
set_option linter.unusedSectionVars false
attribute [local go_sem ↓] Go.wp_at_zero Go.wp_at_succ

structure BytesR where
  code : Int
  bytes : List Byte
variable [DecidableEq BytesR] [Inhabited BytesR]

def bytesRR : Rep BytesR where
  V := fun w v x => ∃ u1, v = .agg #[.int .i64 x.code, u1] ∧ bytesR.V w u1 x.bytes
  O := fun w base F v x => ∃ u1 F1, v = .agg #[.int .i64 x.code, u1] ∧ bytesR.O w base F1 u1 x.bytes ∧ (∀ b, F b ↔ (F1 b))
  below := fun h hb => by
    obtain ⟨u1, rfl, h1⟩ := h
    exact ⟨u1, rfl, bytesR.below h1 hb⟩
  ofO := fun h => by
    obtain ⟨u1, F1, rfl, h1, _⟩ := h
    exact ⟨u1, rfl, bytesR.ofO h1⟩
  mod := fun h hm hd => by
    obtain ⟨u1, F1, rfl, h1, hF⟩ := h
    exact ⟨u1, F1, rfl, bytesR.mod h1 hm (fun b hb => hd b ((hF b).2 hb)), hF⟩
  rng := fun h b hb => by
    obtain ⟨u1, F1, rfl, h1, hF⟩ := h
    rcases (hF b).1 hb with hb
    · exact bytesR.rng h1 b hb
  base := fun h hb => by
    obtain ⟨u1, F1, rfl, h1, hF⟩ := h
    exact ⟨u1, F1, rfl, bytesR.base h1 hb, hF⟩
theorem bytesR_form {w : World} {v : Value} {x : BytesR} (h : bytesRR.V w v x) : ∃ a1 c1, v = .agg #[.int .i64 x.code, .slice a1 x.bytes.length c1] := by
  obtain ⟨u1, rfl, h1⟩ := h
  obtain ⟨a1, c1, rfl⟩ := bytes_form h1
  exact ⟨_, _, rfl⟩
end Go.Proofs.YtdfapehonegeeaaGreat

/-
  Cells that are kept. (Written by program: lawgen.py.)
-/
namespace Go.Proofs.YtdfapehonegeeaaGreat
open Go.RowKit
theorem boxNew2 {Y w' : World} {B t : Nat} {v1 v2 : Value} (hb : Below (Y.alloc (.cells #[v1, v2] t)).heap.size (Y.alloc (.cells #[v1, v2] t)) w') (e : B = Y.heap.size) : w'.cell? ⟨B, 0, none⟩ = some v1 ∧ w'.cell? ⟨B, 1, none⟩ = some v2 ∧ (∀ o, w'.frozen? ⟨B, o, none⟩ = false) ∧ B < w'.heap.size := by
  subst e
  have h := hb.size
  simp only [World.size_alloc] at h
  exact ⟨cell_keep hb (by simp [go_sem]), cell_keep hb (by simp [go_sem]), fun o => by rw [(bcell hb).2 _ _ (by simp)]; simp [go_sem], by omega⟩
theorem boxNew3 {Y w' : World} {B t : Nat} {v1 v2 v3 : Value} (hb : Below (Y.alloc (.cells #[v1, v2, v3] t)).heap.size (Y.alloc (.cells #[v1, v2, v3] t)) w') (e : B = Y.heap.size) : w'.cell? ⟨B, 0, none⟩ = some v1 ∧ w'.cell? ⟨B, 1, none⟩ = some v2 ∧ w'.cell? ⟨B, 2, none⟩ = some v3 ∧ (∀ o, w'.frozen? ⟨B, o, none⟩ = false) ∧ B < w'.heap.size := by
  subst e
  have h := hb.size
  simp only [World.size_alloc] at h
  exact ⟨cell_keep hb (by simp [go_sem]), cell_keep hb (by simp [go_sem]), cell_keep hb (by simp [go_sem]), fun o => by rw [(bcell hb).2 _ _ (by simp)]; simp [go_sem], by omega⟩
theorem boxKeep {W w' : World} {B : Nat} (h : (∀ o, W.frozen? ⟨B, o, none⟩ = false) ∧ B < W.heap.size) (hb : Below W.heap.size W w') : (∀ o, w'.frozen? ⟨B, o, none⟩ = false) ∧ B < w'.heap.size :=
  ⟨fun o => by rw [(bcell hb).2 _ _ h.2]; exact h.1 o, Nat.lt_of_lt_of_le h.2 hb.size⟩
end Go.Proofs.YtdfapehonegeeaaGreat

/-
  FrameRecord on both sides.
-/
namespace Go.Proofs.YtdfapehonegeeaaGreat
open Go.RowKit
set_option linter.unusedSectionVars false
variable [DecidableEq BytesR] [Inhabited BytesR]
attribute [local go_sem ↓] Go.wp_at_zero Go.wp_at_succ

theorem hiB_two (n : Int) : hiB n 2 = [toB (n / 256), toB n] := by
  have h : List.range 2 = [0, 1] := rfl
  simp [hiB, h]
theorem wrapU {n : Int} (h0 : 0 ≤ n) (h1 : n ≤ 18446744073709551615) : IntKind.u64.wrap n = n := by rw [IntKind.wrap_u64]; omega
set_option maxHeartbeats 400000 in
theorem l3Short_any (n : Int) (w : World) (h0 : 0 ≤ n) (h1 : n < 65536) :
    Calls Tryz.prog 153 #[.int .i64 n] w fun e w' => ∃ v F, e = .returned v ∧ bytesR.O w' w.heap.size F v (hiB n 2) ∧ Below w.heap.size w w' := by
  have v1 : n.tdiv 256 = n / 256 := Int.tdiv_eq_ediv_of_nonneg h0
  have v2 : n.tmod 256 = n % 256 := Int.tmod_eq_emod_of_nonneg h0
  have v3 : IntKind.i64.wrap (n / 256) = n / 256 := by rw [IntKind.wrap_i64]; omega
  have v4 : IntKind.i64.wrap (n % 256) = n % 256 := by rw [IntKind.wrap_i64]; omega
  obtain ⟨p, hp⟩ : ∃ p, IntKind.u8.wrap (n / 256) = p := ⟨_, rfl⟩
  obtain ⟨q, hq⟩ : ∃ q, IntKind.u8.wrap (n % 256) = q := ⟨_, rfl⟩
  go_enter Tryz.func153, Tryz.ntmps153
  go_wp2
  go_ret
  refine ⟨_, _, rfl, ⟨?_, rfl⟩, by (repeat (first | exact Below.refl _ _ | assumption | refine Below.drew ?_ | refine balloc ?_ _ | refine bset ?_ (by simp; omega) _ | refine bset ?_ (by simp) _ | refine bstep ?_ (by assumption)))⟩
  have hr := World.ownsRow_lit (base := w.heap.size) (e := 5) (size := 1) w #[.int .u8 p, .int .u8 q] 2 (by simp) (by unfold maxLen; omega) rfl
  have e1 : q = ((toB n).val : Int) := by rw [← hq, wrapB, toB_val, toB_val]; omega
  have e2 : p = ((toB (n / 256)).val : Int) := by rw [← hp, wrapB]
  rw [hiB_two]
  simpa [bytesC, ← e1, ← e2] using hr
def frameB (xs : List Byte) : List Byte := hiB xs.length 2 ++ hiB (chk xs) 2 ++ xs
theorem length_frameB (xs : List Byte) : (frameB xs).length = xs.length + 4 := by
  simp only [frameB, List.length_append, length_hiB]; omega
set_option maxHeartbeats 1000000 in
theorem l3Frame_any (x : Value) (xs : List Byte) (w : World) (hx : bytesR.V w x xs) (hn : xs.length ≤ 500) :
    Calls Tryz.prog 116 #[x] w fun e w' => ∃ v F, e = .returned v ∧ bytesR.O w' w.heap.size F v (frameB xs) ∧ Below w.heap.size w w' := by
  have hX := hx
  obtain ⟨ax, cx, rfl, hcx, hmx, _⟩ := hx
  obtain ⟨c0, c1⟩ := chk_rng xs
  have HF : Hid (frameB xs = hiB xs.length 2 ++ hiB (chk xs) 2 ++ xs) := rfl
  have HL1 : Hid ((hiB xs.length 2).length = 2) := length_hiB _ _
  have HL2 : Hid ((hiB (chk xs) 2).length = 2) := length_hiB _ _
  go_enter Tryz.func116, Tryz.ntmps116
  go_wp2_with fail
  refine (l3Short_any (xs.length : Int) _ (by omega) (by omega)).mono ?_
  rintro e w1 ⟨v1, F1, rfl, o1, hb1⟩
  obtain ⟨a1, n1, rfl⟩ := bytes_form (bytesR.ofO o1)
  go_wp2_with fail
  refine (specChk_any _ xs _ (bytesR.below hX (by (repeat (first | exact Below.refl _ _ | assumption | refine Below.drew ?_ | refine balloc ?_ _ | refine bset ?_ (by simp; omega) _ | refine bset ?_ (by simp) _ | refine bstep ?_ (by assumption)))))).mono ?_
  rintro e w2 ⟨rfl, rfl⟩
  generalize hiB xs.length 2 = d1 at *
  go_wp2_with fail
  refine (l3Short_any (chk xs) _ c0 (by omega)).mono ?_
  rintro e w3 ⟨v2, F2, rfl, o2, hb2⟩
  obtain ⟨a2, n2, rfl⟩ := bytes_form (bytesR.ofO o2)
  generalize hiB (chk xs) 2 = d2 at *
  have o1' := bytesR.keep o1 hb2
  have s1 := hb1.size
  have s2 := hb2.size
  have hB2 : Below w.heap.size w w3 := by (repeat (first | exact Below.refl _ _ | assumption | refine Below.drew ?_ | refine balloc ?_ _ | refine bset ?_ (by simp; omega) _ | refine bset ?_ (by simp) _ | refine bstep ?_ (by assumption)))
  have t2 := appAny_bytes (bytesR.ofO o2)
  have l2 : d1.length + d2.length ≤ 1073741824 := by have := HL1.out; have := HL2.out; omega
  have l3 : (d1 ++ d2).length + xs.length ≤ 1073741824 := by rw [List.length_append]; have := HL1.out; have := HL2.out; omega
  go_wp2_with (at_builtin; refine wpList_appB _ rfl _ _ rfl w.heap.size _ d1 rfl _ d2 rfl o1'.1 t2 l2 (Nat.le_trans s1 s2) ?_)
  intro v3 w4 o3 hg hB
  have hB4 := hB w hB2
  clear o1 o1' o2 hb1 hb2 hg hB hB2 t2 l2
  have s4 := hB4.size
  have t3 := appAny_bytes (bytesR.below hX hB4)
  have o3' : World.ownsRow w4 w.heap.size 5 1 v3 (d1 ++ d2).length (bytesC (d1 ++ d2)) := by simpa using o3
  clear o3
  generalize d1 ++ d2 = d3 at *
  obtain ⟨a3, n3, rfl⟩ := owns_form o3'
  go_wp2_with (at_builtin; refine wpList_appB _ rfl _ _ rfl w.heap.size _ d3 rfl _ xs rfl o3' t3 l3 s4 ?_)
  intro v4 w5 o4 hg hB
  have hB5 := hB w hB4
  have o4' : World.ownsRow w5 w.heap.size 5 1 v4 (d3 ++ xs).length (bytesC (d3 ++ xs)) := by simpa using o4
  have HO : Hid (World.ownsRow w5 w.heap.size 5 1 v4 (d3 ++ xs).length (bytesC (d3 ++ xs))) := o4'
  obtain ⟨a4, n4, rfl⟩ := owns_form o4'
  clear o4 o4' hg hB o3' t3 l3
  go_wp2
  go_ret
  refine ⟨_, _, rfl, ⟨?_, rfl⟩, hB5⟩
  rw [HF.out]
  exact HO.out
def frameD (xs : List Byte) : BytesR := if 1 ≤ xs.length ∧ xs.length ≤ 500 then ⟨0, frameB xs⟩ else ⟨2, []⟩
theorem bytesR_nil (w : World) (base : Nat) (c : Int) : bytesRR.O w base none_ (.agg #[.int .i64 c, .slice none 0 0]) ⟨c, []⟩ :=
  ⟨.slice none 0 0, none_, rfl, ⟨by simpa [bytesC] using World.ownsRow_nil w base 5 1, by funext b; simp [none_, Value.ownBlock]⟩, fun b => Iff.rfl⟩
set_option maxHeartbeats 1000000 in
theorem implFrame_u (x : Value) (xs : List Byte) (w : World) (hx : bytesR.V w x xs) :
    Calls Tryz.prog 120 #[x] w fun e w' => ∃ v F, e = .returned v ∧ bytesRR.O w' w.heap.size F v (frameD xs) ∧ Below w.heap.size w w' := by
  have hX := hx
  obtain ⟨ax, cx, rfl, hcx, hmx, _⟩ := hx
  unfold maxLen at hmx
  by_cases h : 1 ≤ xs.length ∧ xs.length ≤ 500
  · have HD : Hid (frameD xs = ⟨0, frameB xs⟩) := if_pos h
    obtain ⟨h1, h2⟩ := h
    obtain ⟨c0, c1⟩ := chk_rng xs
    have HF : Hid (frameB xs = [hiB xs.length 2, hiB (chk xs) 2, xs].flatten) := by simp [Hid, frameB]
    have HL : Hid ([hiB xs.length 2, hiB (chk xs) 2, xs].flatten.length ≤ 1073741824) := by
      simp only [Hid, List.flatten_cons, List.flatten_nil, List.length_append, length_hiB, List.length_nil]; omega
    have u1 : IntKind.u64.wrap (xs.length : Int) = xs.length := wrapU (by omega) (by omega)
    have u2 : IntKind.u64.wrap (chk xs) = chk xs := wrapU (by omega) (by omega)
    go_enter Tryz.func120, Tryz.ntmps120
    go_wp2_with fail
    refine (highest_any _ 2 2 _ rfl (by omega)).mono ?_
    rintro e w1 ⟨v1, rfl, o1, hb1⟩
    have V1 : bytesR.V w1 v1 (hiB xs.length 2) := BytesV_of_owns (by rw [length_hiB]; exact o1)
    clear o1
    obtain ⟨a1, n1, rfl⟩ := bytes_form V1
    generalize hiB xs.length 2 = d1 at *
    have hr0 : w1.cell? ⟨w.heap.size, 0, none⟩ = some (.int .i64 0) := cell_keep hb1 (by simp [go_sem])
    have hr1 : w1.cell? ⟨w.heap.size, 1, none⟩ = some (.slice none 0 0) := cell_keep hb1 (by simp [go_sem])
    have hrf : (∀ o, w1.frozen? ⟨w.heap.size, o, none⟩ = false) ∧ w.heap.size < w1.heap.size := (boxNew2 hb1 rfl).2.2
    have hB1 : Below w.heap.size w w1 := by (repeat (first | exact Below.refl _ _ | assumption | refine Below.drew ?_ | refine balloc ?_ _ | refine bset ?_ (by simp; omega) _ | refine bset ?_ (by simp) _ | refine bstep ?_ (by assumption)))
    go_wp2_with fail
    refine (implChk_any _ xs _ (bytesR.below hX (by (repeat (first | exact Below.refl _ _ | assumption | refine Below.drew ?_ | refine balloc ?_ _ | refine bset ?_ (by simp; omega) _ | refine bset ?_ (by simp) _ | refine bstep ?_ (by assumption)))))).mono ?_
    rintro e w2 ⟨rfl, rfl⟩
    go_wp2_with fail
    refine (highest_any _ 2 2 _ rfl (by omega)).mono ?_
    rintro e w3 ⟨v2, rfl, o2, hb3⟩
    have V2 : bytesR.V w3 v2 (hiB (chk xs) 2) := BytesV_of_owns (by rw [length_hiB]; exact o2)
    clear o2
    obtain ⟨a2, n2, rfl⟩ := bytes_form V2
    generalize hiB (chk xs) 2 = d2 at *
    replace V1 := bytesR.below V1 hb3
    replace hr0 := cell_keep hb3 hr0
    replace hr1 := cell_keep hb3 hr1
    replace hrf := boxKeep hrf hb3
    have hB3 : Below w.heap.size w w3 := by (repeat (first | exact Below.refl _ _ | assumption | refine Below.drew ?_ | refine balloc ?_ _ | refine bset ?_ (by simp; omega) _ | refine bset ?_ (by simp) _ | refine bstep ?_ (by assumption)))
    clear hb1 hb3 hB1
    go_wp2_with fail
    refine (joined_any _ [d1, d2, xs] _ (bytess3 (g := w3.heap.size) (by simp [go_sem]) (by simp [go_sem]) (by simp [go_sem]) (bytesR.below V1 (by (repeat (first | exact Below.refl _ _ | assumption | refine Below.drew ?_ | refine balloc ?_ _ | refine bset ?_ (by simp; omega) _ | refine bset ?_ (by simp) _ | refine bstep ?_ (by assumption))))) (bytesR.below V2 (by (repeat (first | exact Below.refl _ _ | assumption | refine Below.drew ?_ | refine balloc ?_ _ | refine bset ?_ (by simp; omega) _ | refine bset ?_ (by simp) _ | refine bstep ?_ (by assumption))))) (bytesR.below hX (by (repeat (first | exact Below.refl _ _ | assumption | refine Below.drew ?_ | refine balloc ?_ _ | refine bset ?_ (by simp; omega) _ | refine bset ?_ (by simp) _ | refine bstep ?_ (by assumption)))))) HL.out).mono ?_
    rintro e w4 ⟨v3, F3, rfl, o3, hb4⟩
    replace hr0 := cell_keep hb4 (cell_keep (by (repeat (first | exact Below.refl _ _ | assumption | refine Below.drew ?_ | refine balloc ?_ _ | refine bset ?_ (by simp; omega) _ | refine bset ?_ (by simp) _ | refine bstep ?_ (by assumption)))) hr0)
    replace hr1 := cell_keep hb4 (cell_keep (by (repeat (first | exact Below.refl _ _ | assumption | refine Below.drew ?_ | refine balloc ?_ _ | refine bset ?_ (by simp; omega) _ | refine bset ?_ (by simp) _ | refine bstep ?_ (by assumption)))) hr1)
    replace hrf := boxKeep (boxKeep hrf (by (repeat (first | exact Below.refl _ _ | assumption | refine Below.drew ?_ | refine balloc ?_ _ | refine bset ?_ (by simp; omega) _ | refine bset ?_ (by simp) _ | refine bstep ?_ (by assumption))))) hb4
    obtain ⟨hrf, hlt⟩ := hrf
    have hB4 : Below w.heap.size w w4 := by (repeat (first | exact Below.refl _ _ | assumption | refine Below.drew ?_ | refine balloc ?_ _ | refine bset ?_ (by simp; omega) _ | refine bset ?_ (by simp) _ | refine bstep ?_ (by assumption)))
    have hsz := hB3.size
    have o3' := bytesR.base (base' := w.heap.size + 1) o3 (by simp; omega)
    rw [← HF.out] at o3'
    obtain ⟨a3, n3, rfl⟩ := bytes_form (bytesR.ofO o3')
    clear o3 V1 V2 hb4 hB3
    go_wp2
    refine bodyPost_ret (v := .agg #[.int .i64 0, .slice a3 (frameB xs).length n3]) ?_ rfl ⟨_, F3, rfl, ?_, by (repeat (first | exact Below.refl _ _ | assumption | refine Below.drew ?_ | refine balloc ?_ _ | refine bset ?_ (by simp; omega) _ | refine bset ?_ (by simp) _ | refine bstep ?_ (by assumption)))⟩
    · simp [results, Tryz.results120, go_sem, hr0, hr1]
    · rw [HD.out]
      exact ⟨_, F3, rfl, bytesR.base (base := w.heap.size + 1) (bytesR.set (bytesR.set o3' _ (by simp)) _ (by simp)) (by omega), fun b => Iff.rfl⟩
  · have HD : Hid (frameD xs = ⟨2, []⟩) := if_neg h
    have h' : xs.length < 1 ∨ 500 < xs.length := by omega
    generalize xs.length = n at *
    go_enter Tryz.func120, Tryz.ntmps120
    rcases h' with h1 | h1
    all_goals
      clear h
      go_wp2
      refine bodyPost_ret (v := .agg #[.int .i64 2, .slice none 0 0]) ?_ rfl ?_
      · simp [results, Tryz.results120, go_sem]
      · rw [HD.out]
        first | exact ⟨_, none_, rfl, bytesR_nil _ _ _, by (repeat (first | exact Below.refl _ _ | assumption | refine Below.drew ?_ | refine balloc ?_ _ | refine bset ?_ (by simp; omega) _ | refine bset ?_ (by simp) _ | refine bstep ?_ (by assumption)))⟩ | exact ⟨_, rfl, ⟨none_, bytesR_nil _ _ _⟩, by (repeat (first | exact Below.refl _ _ | assumption | refine Below.drew ?_ | refine balloc ?_ _ | refine bset ?_ (by simp; omega) _ | refine bset ?_ (by simp) _ | refine bstep ?_ (by assumption)))⟩
end Go.Proofs.YtdfapehonegeeaaGreat


import Derived.Test.YteebglgbeijolaaPrnBytes9Law2
import Derived.PlainAid
import Derived.Laws.BitsAllLaws
import Derived.Test.YteebglgbeijolaaPrnBytes9Law1
import Derived.Deep.RegionHeld3
import Derived.Deep.DrawnRows
import Derived.Lib.ConvBytes

/-
  Numbers as bytes, on both sides.
-/
namespace Go.Proofs.Yteebglgbeijolaa
open Go.RowKit
attribute [local go_sem ↓] Go.wp_at_zero Go.wp_at_succ

def hiB (n : Int) (size : Nat) : List Byte := (List.range size).map (fun i => toB (n / 2 ^ (8 * (size - 1 - i))))
theorem length_hiB (n : Int) (size : Nat) : (hiB n size).length = size := by simp [hiB]
theorem getD_hiB (n : Int) (size i : Nat) (h : i < size) : (hiB n size).getD i 0 = toB (n / 2 ^ (8 * (size - 1 - i))) := by simp [hiB, List.getD, h]
theorem hiB_take (n : Int) (size i : Nat) (h : i < size) : (hiB n size).take (i + 1) = (hiB n size).take i ++ [toB (n / 2 ^ (8 * (size - 1 - i)))] := by
  rw [List.take_add_one]
  congr 1
  simp [hiB, h]
theorem toB_mod (n : Int) (k : Nat) (h : k ≤ 56) : toB (n % 18446744073709551616 / 2 ^ k) = toB (n / 2 ^ k) := by
  apply Fin.ext
  have e : ((toB (n % 18446744073709551616 / 2 ^ k)).val : Int) = ((toB (n / 2 ^ k)).val : Int) := by
    rw [toB_val, toB_val]
    have h1 : (18446744073709551616 : Int) = 2 ^ k * (256 * 2 ^ (56 - k)) := by
      rw [show (256 : Int) = 2 ^ 8 by decide, ← Int.pow_add, ← Int.pow_add, show k + (8 + (56 - k)) = 64 by omega]
      decide
    have h2 : (0 : Int) < 2 ^ k := Int.pow_pos (by omega)
    have h3 : n % 18446744073709551616 = n - 2 ^ k * (256 * 2 ^ (56 - k) * (n / 18446744073709551616)) := by
      rw [Int.emod_def, ← Int.mul_assoc, ← h1]
    rw [h3, Int.sub_eq_add_neg, ← Int.mul_neg, Int.add_mul_ediv_left _ _ (Int.ne_of_gt h2)]
    rw [show -(256 * 2 ^ (56 - k) * (n / 18446744073709551616)) = 256 * (-(2 ^ (56 - k) * (n / 18446744073709551616))) by rw [Int.mul_neg, Int.mul_assoc]]
    exact Int.add_mul_emod_self_left _ _ _
  omega
set_option maxHeartbeats 1000000 in
theorem specPack_any (n : Int) (w : World) :
    Calls Try.prog 142 #[.int .i64 n] w fun e w' => ∃ v, e = .returned v ∧ w'.ownsRow w.heap.size 5 1 v 8 (bytesC (hiB n 8)) ∧ Below w.heap.size w w' := by
  obtain ⟨i0, hi, hz0, hz1, hz2⟩ := info_parts infoByte
  go_enter Try.func142, Try.ntmps142
  go_wp2
  go_loopw [3, 4] (fun v i w' => ∃ (k : Nat) (j : Int), k ≤ 8 ∧ j = 7 - k ∧ i = .int .i64 j ∧ w'.ownsRow w.heap.size 5 1 v ((hiB n 8).take k).length (bytesC ((hiB n 8).take k)) ∧ Below w.heap.size w w') (fun _ i _ => 8 - (7 - intOf i).toNat)
  case atStart =>
    refine ⟨0, 7, by omega, by omega, rfl, ?_, balloc (Below.refl _ _) _⟩
    have := World.ownsRow_lit (base := w.heap.size) (e := 5) (size := 1) w #[] 0 (by simp) (by unfold maxLen; omega) rfl
    simpa [bytesC] using this
  case round =>
    obtain ⟨k, j, hk, hj, rfl, ho, hbl⟩ := hrel
    have HJ : Hid (k ≤ 8 ∧ j = 7 - (k : Int)) := ⟨hk, hj⟩
    by_cases hlt : 0 ≤ j
    · have j1 : j ≤ 7 := by omega
      have hk8 : k < 8 := by omega
      clear hj hk
      have hsz := hbl.size
      have hle : ((hiB n 8).take k).length ≤ 8 := by rw [List.length_take]; omega
      have e1 := hiB_take n 8 k hk8
      have HE : Hid ((hiB n 8).take (k + 1) = (hiB n 8).take k ++ [toB (n / 2 ^ (8 * (8 - 1 - k)))]) := e1
      clear e1 hk8
      generalize (hiB n 8).take k = ys at *
      obtain ⟨s, hs⟩ : ∃ s, s = 8 * j := ⟨_, rfl⟩
      have HS : Hid (s = 8 * j) := hs
      have v1 : IntKind.i64.wrap (8 * j) = s := by rw [IntKind.wrap_i64]; omega
      have v2 : IntKind.u64.wrap s = s := by rw [IntKind.wrap_u64]; omega
      have s0 : 0 ≤ s := by omega
      have s1 : s ≤ 56 := by omega
      obtain ⟨u, hu⟩ : ∃ u, IntKind.u64.wrap n = u := ⟨_, rfl⟩
      obtain ⟨q, hq⟩ : ∃ q, IntKind.u8.wrap (u / 2 ^ s.toNat) = q := ⟨_, rfl⟩
      clear hs
      go_wp2_with (at_builtin; refine wpList_appB _ rfl _ _ rfl w.heap.size _ ys rfl _ [toB (n / 2 ^ (8 * (8 - 1 - k)))] rfl (ho.alloc _) ?c1 ?c2 ?c3 ?_)
      case c1 =>
        refine appAny_one (g := wr.heap.size) (q := q) (by simp [go_sem]) ?_
        have e2 : s.toNat = 8 * (8 - 1 - k) := by have := HJ.out; have := HS.out; omega
        rw [← hq, wrapB, e2, ← hu, IntKind.wrap_u64, toB_mod _ _ (by omega)]
      case c2 => simp; omega
      case c3 => simp; omega
      · intro v' w1 ho' hg hB
        have hB1 := hB w (balloc hbl _)
        have h2 : World.ownsRow w1 w.heap.size 5 1 v' (ys ++ [toB (n / 2 ^ (8 * (8 - 1 - k)))]).length (bytesC (ys ++ [toB (n / 2 ^ (8 * (8 - 1 - k)))])) := by simpa using ho'
        have HO : Hid (World.ownsRow w1 w.heap.size 5 1 v' (ys ++ [toB (n / 2 ^ (8 * (8 - 1 - k)))]).length (bytesC (ys ++ [toB (n / 2 ^ (8 * (8 - 1 - k)))]))) := h2
        clear hB hg ho ho' h2
        go_wp2
        refine ⟨⟨k + 1, j - 1, by have := HJ.out; omega, by have := HJ.out; omega, rfl, ?_, hB1⟩, by simp [intOf]; omega⟩
        rw [HE.out]
        exact HO.out
    · clear hj hk

      go_wp2
      go_ret
      have hkn : k = 8 := by have := HJ.out; omega
      subst hkn
      rw [List.take_of_length_le (by rw [length_hiB]; omega), length_hiB] at ho
      exact ⟨_, rfl, ho, hbl⟩
def fromB (k n : Nat) (cs : List Value) (ys : List Byte) : Prop := ∀ j, n - k ≤ j → j < n → cs[j]? = (bytesC ys)[j]?
theorem fromB_set {k n : Nat} {cs : List Value} {ys : List Byte} {l : Int} (h : fromB k n cs ys) (hk : k < n) (hn : ys.length = n) (hl : cs.length = n * 1) (he : l = ((ys.getD (n - 1 - k) 0).val : Int)) : fromB (k + 1) n (cs.set (n - 1 - k) (.int .u8 l)) ys := by
  intro j h1 h2
  rw [List.getElem?_set]
  by_cases e : n - 1 - k = j
  · subst e
    rw [if_pos rfl, if_pos (by omega), get_bytesC ys _ (by omega), he]
  · rw [if_neg e]
    exact h j (by omega) h2
theorem fromB_full {n : Nat} {cs : List Value} {ys : List Byte} (h : fromB n n cs ys) (hl : cs.length = n * 1) (hn : ys.length = n) : cs = bytesC ys := by
  apply List.ext_getElem?
  intro j
  by_cases hj : j < n
  · exact h j (by omega) hj
  · rw [List.getElem?_eq_none (by omega), List.getElem?_eq_none (by simp [bytesC]; omega)]
theorem div_step (b : Int) (k : Nat) : b / 2 ^ (8 * k) / 256 = b / 2 ^ (8 * (k + 1)) := by
  rw [Int.ediv_ediv_of_nonneg (Int.pow_nonneg (by decide)), show (256 : Int) = 2 ^ 8 by decide, ← Int.pow_add, Nat.mul_add]
set_option maxHeartbeats 1000000 in
theorem highest_any (b z : Int) (n : Nat) (w : World) (hz : z = n) (hn : n ≤ 1048576) :
    Calls Try.prog 62 #[.int .u64 b, .int .i64 z] w fun e w' => ∃ v, e = .returned v ∧ w'.ownsRow w.heap.size 5 1 v n (bytesC (hiB b n)) ∧ Below w.heap.size w w' := by
  subst hz
  obtain ⟨i0, hi, hz0, hz1, hz2⟩ := info_parts infoByte
  obtain ⟨w1, hmk, hown, hgr⟩ := run_make_full (P := Try.prog) w w.heap.size 22 5 i0 _ 1 Try.underlying22 hi hz0 hz1 .i64 .i64 n (by rw [hz2]; omega) (by unfold maxLen; omega) (Nat.le_refl _)
  have hbl0 : Below w.heap.size w w1 := (Below.refl _ _).grown hgr (Nat.le_refl _) (fun k h => by cases h)
  go_enter Try.func62, Try.ntmps62
  go_wp2
  go_loopw [0, 6] (fun q i w' => ∃ (k : Nat) (j x : Int) (cs : List Value), k ≤ n ∧ j = n - 1 - k ∧ x = b / 2 ^ (8 * k) ∧ q = .int .u64 x ∧ i = .int .i64 j ∧ w'.ownsRow w.heap.size 5 1 (.slice (some ⟨w.heap.size, 0, none⟩) n n) n cs ∧ fromB k n cs (hiB b n) ∧ Below w.heap.size w w') (fun _ i _ => n - (n - 1 - intOf i).toNat)
  case atStart => exact ⟨0, n - 1, b, _, Nat.zero_le _, by omega, by simp, rfl, rfl, hown, fun j h1 h2 => by omega, hbl0⟩
  case round =>
    obtain ⟨k, j, x, cs, hk, hj, hx, rfl, rfl, ho, hup, hbl⟩ := hrel
    have HU : Hid (fromB k n cs (hiB b n)) := hup
    have HJ : Hid (k ≤ n ∧ j = n - 1 - k) := ⟨hk, hj⟩
    have HX : Hid (x = b / 2 ^ (8 * k)) := hx
    clear hup hown hmk hgr hbl0 hx
    by_cases hlt : 0 ≤ j
    · have hkn : k < n := by omega
      have ej : j = ((n - 1 - k : Nat) : Int) := by omega
      clear hj hk
      subst ej
      obtain ⟨u0, g0⟩ := owns_some ho (n - 1 - k) (by omega)
      have hf := fun j => ho.frozenAt j
      obtain ⟨q, hq⟩ : ∃ q, IntKind.u8.wrap x = q := ⟨_, rfl⟩
      have hin : n - 1 - k < n := by omega
      have HK : Hid (k < n) := hkn
      clear hkn
      generalize hm : n - 1 - k = m at *
      have HM : Hid (n - 1 - k = m) := hm
      clear hm
      have e1 : toB (b / 2 ^ (8 * k)) = (hiB b n).getD m 0 := by
        have := HK.out
        rw [← HM.out, getD_hiB b n _ (by omega), show n - 1 - (n - 1 - k) = k by omega]
      have HE : Hid (toB (b / 2 ^ (8 * k)) = (hiB b n).getD m 0) := e1
      clear e1
      go_wp2
      have s0 := ho.stored m (.int .u8 q)
      have hkn := HK.out
      have hm := HM.out
      refine ⟨⟨k + 1, _, _, _, by omega, ?_, ?_, rfl, rfl, s0.1, ?_, hbl.setCell (Nat.le_refl _) _⟩, ?_⟩
      · omega
      · rw [HX.out, div_step]
      · rw [← hm]
        refine fromB_set HU.out hkn (length_hiB _ _) ho.1 ?_
        rw [hm, ← HE.out, ← HX.out, ← wrapB, hq]
      · simp [intOf]; omega
    · clear hj hk
      go_wp2
      go_ret
      have hkn : k = n := by have := HJ.out; omega
      subst hkn
      have e := fromB_full HU.out ho.1 (length_hiB _ _)
      subst e
      exact ⟨_, rfl, ho, hbl⟩
set_option maxHeartbeats 1000000 in
theorem implPack_any (n : Int) (w : World) :
    Calls Try.prog 18 #[.int .i64 n] w fun e w' => ∃ v, e = .returned v ∧ w'.ownsRow w.heap.size 5 1 v 8 (bytesC (hiB n 8)) ∧ Below w.heap.size w w' := by
  obtain ⟨u, hu⟩ : ∃ u, IntKind.u64.wrap n = u := ⟨_, rfl⟩
  go_enter Try.func18, Try.ntmps18
  go_wp2_with fail
  refine (highest_any u 8 8 _ rfl (by omega)).mono ?_
  rintro e w1 ⟨v, rfl, ho, hb⟩
  go_wp2
  go_ret
  refine ⟨_, rfl, ?_, hb⟩
  have e : hiB u 8 = hiB n 8 := by
    unfold hiB
    apply List.map_congr_left
    intro i hi
    rw [← hu, IntKind.wrap_u64, toB_mod _ _ (by have := List.mem_range.1 hi; omega)]
  rw [← e]
  exact ho
def hiN (xs : List Byte) : Int := xs.foldl (fun n b => n * 256 + (b.val : Int)) 0
theorem hiN_snoc (xs : List Byte) (b : Byte) : hiN (xs ++ [b]) = hiN xs * 256 + (b.val : Int) := by simp [hiN]
theorem take_snocB (xs : List Byte) (k : Nat) (h : k < xs.length) : xs.take (k + 1) = xs.take k ++ [xs.getD k 0] := by
  rw [List.take_add_one]
  congr 1
  simp [List.getD, h]
theorem hiN_take (xs : List Byte) (k : Nat) (h : k < xs.length) : hiN (xs.take (k + 1)) = hiN (xs.take k) * 256 + ((xs.getD k 0).val : Int) := by
  rw [take_snocB xs k h, hiN_snoc]
theorem wrap_mod (a : Int) : IntKind.i64.wrap (a % 18446744073709551616) = IntKind.i64.wrap a := by rw [IntKind.wrap_i64, IntKind.wrap_i64]; omega
set_option maxHeartbeats 1000000 in
theorem l3Number_any (x : Value) (xs : List Byte) (w : World) (hx : BytesV w x xs) (hn : 8 ≤ xs.length) :
    Calls Try.prog 109 #[x] w fun e w' => e = .returned (.int .i64 (IntKind.i64.wrap (hiN (xs.take 8)))) ∧ w' = w := by
  obtain ⟨ax, cx, rfl, hcx, hmx, hx⟩ := hx
  unfold maxLen at hmx
  have hT := hiN_take xs
  generalize hn' : xs.length = n at *
  have HN : Hid (xs.length = n) := hn'
  have HT : Hid (∀ k, k < n → hiN (xs.take (k + 1)) = hiN (xs.take k) * 256 + ((xs.getD k 0).val : Int)) := hT
  clear hn' hT
  go_enter Try.func109, Try.ntmps109
  go_wp2
  go_loopw [3, 4] (fun q i w' => ∃ (k : Nat) (y : Int), k ≤ 8 ∧ i = .int .i64 k ∧ y = hiN (xs.take k) % 18446744073709551616 ∧ q = .int .u64 y ∧ w' = w) (fun _ i _ => 8 - (intOf i).toNat)
  case atStart => exact ⟨0, 0, by omega, rfl, by simp [hiN], rfl, rfl⟩
  case round =>
    obtain ⟨k, y, hk, rfl, hy, rfl, rfl⟩ := hrel
    have HY : Hid (y = hiN (xs.take k) % 18446744073709551616) := hy
    clear hy
    by_cases hlt : k < 8
    · obtain ⟨bx, ox, rfl, h1⟩ := hx k (by omega)
      have e1 := HT.out k (by omega)
      have hb := byte_lt (xs.getD k 0)
      obtain ⟨l, hl⟩ : ∃ l : Int, l = ((xs.getD k 0).val : Int) := ⟨_, rfl⟩
      rw [← hl] at h1 e1 hb
      have HE : Hid (hiN (xs.take (k + 1)) = hiN (xs.take k) * 256 + l) := e1
      have v1 : IntKind.u64.wrap l = l := by rw [IntKind.wrap_u64]; omega
      obtain ⟨p, hp⟩ : ∃ p, IntKind.u64.wrap (y * 256) = p := ⟨_, rfl⟩
      obtain ⟨q, hq⟩ : ∃ q, IntKind.u64.wrap (p + l) = q := ⟨_, rfl⟩
      clear hl hx e1 hb
      go_wp2
      refine ⟨⟨k + 1, q, by omega, by go_num, ?_, rfl, trivial⟩, by simp [intOf]; omega⟩
      rw [HE.out, ← hq, ← hp, HY.out, IntKind.wrap_u64, IntKind.wrap_u64]
      omega
    · obtain ⟨q, hq⟩ : ∃ q, IntKind.i64.wrap y = q := ⟨_, rfl⟩
      go_wp2
      go_ret
      have hk8 : k = 8 := by omega
      subst hk8
      refine ⟨?_, rfl⟩
      rw [← hq, HY.out, wrap_mod]
      rfl
theorem or_byte (x l : Int) (hx0 : 0 ≤ x) (hx1 : x < 18446744073709551616) (h0 : 0 ≤ l) (h1 : l ≤ 255) :
    bits .or .u64 (IntKind.u64.wrap (x * 256)) l = (x * 256 + l) % 18446744073709551616 := by
  rw [IntKind.wrap_u64, u64_or _ _ (by omega) (by omega) (by omega) (by omega)]
  obtain ⟨X, rfl⟩ := Int.eq_ofNat_of_zero_le hx0
  obtain ⟨L, rfl⟩ := Int.eq_ofNat_of_zero_le h0
  have e1 : ((X : Int) * 256 % 18446744073709551616).toNat = (X % 72057594037927936) * 2 ^ 8 := by omega
  rw [e1, Int.toNat_natCast, Nat.mul_comm, ← Nat.two_pow_add_eq_or_of_lt (i := 8) (by omega) (X % 72057594037927936)]
  omega
set_option maxHeartbeats 1000000 in
theorem bitsIn_any (x : Value) (xs : List Byte) (w : World) (hx : BytesV w x xs) :
    Calls Try.prog 108 #[x] w fun e w' => e = .returned (.int .u64 (hiN xs % 18446744073709551616)) ∧ w' = w := by
  obtain ⟨ax, cx, rfl, hcx, hmx, hx⟩ := hx
  unfold maxLen at hmx
  have hT := hiN_take xs
  generalize hn' : xs.length = n at *
  have HN : Hid (xs.length = n) := hn'
  have HT : Hid (∀ k, k < n → hiN (xs.take (k + 1)) = hiN (xs.take k) * 256 + ((xs.getD k 0).val : Int)) := hT
  clear hn' hT
  go_enter Try.func108, Try.ntmps108
  go_wp2
  go_loopw [3, 8] (fun q i w' => ∃ (k : Nat) (y : Int), k ≤ n ∧ i = .int .i64 k ∧ y = hiN (xs.take k) % 18446744073709551616 ∧ q = .int .u64 y ∧ w' = w) (fun _ i _ => n - (intOf i).toNat)
  case atStart => exact ⟨0, 0, by omega, rfl, by simp [hiN], rfl, rfl⟩
  case round =>
    obtain ⟨k, y, hk, rfl, hy, rfl, rfl⟩ := hrel
    have y0 : 0 ≤ y := by omega
    have y1 : y < 18446744073709551616 := by omega
    have HY : Hid (y = hiN (xs.take k) % 18446744073709551616) := hy
    clear hy
    by_cases hlt : k < n
    · obtain ⟨bx, ox, rfl, h1⟩ := hx k (by omega)
      have e1 := HT.out k (by omega)
      have hb := byte_lt (xs.getD k 0)
      obtain ⟨l, hl⟩ : ∃ l : Int, l = ((xs.getD k 0).val : Int) := ⟨_, rfl⟩
      rw [← hl] at h1 e1 hb
      have HE : Hid (hiN (xs.take (k + 1)) = hiN (xs.take k) * 256 + l) := e1
      have v1 : IntKind.u64.wrap l = l := by rw [IntKind.wrap_u64]; omega
      have hor := or_byte y l y0 y1 hb.1 hb.2
      obtain ⟨p, hp⟩ : ∃ p, IntKind.u64.wrap (y * 256) = p := ⟨_, rfl⟩
      obtain ⟨q, hq⟩ : ∃ q, bits .or .u64 p l = q := ⟨_, rfl⟩
      rw [hp, hq] at hor
      have HO : Hid (q = (y * 256 + l) % 18446744073709551616) := hor
      clear hl hx e1 hb hor
      go_wp2
      refine ⟨⟨k + 1, q, by omega, by go_num, ?_, rfl, trivial⟩, by simp [intOf]; omega⟩
      rw [HE.out, HO.out, HY.out]
      omega
    · go_wp2
      go_ret
      have hkn : k = n := by omega
      subst hkn
      refine ⟨?_, rfl⟩
      rw [HY.out, List.take_of_length_le (by have := HN.out; omega)]
      rfl
set_option maxHeartbeats 400000 in
theorem numberIn_any (x : Value) (xs : List Byte) (w : World) (hx : BytesV w x xs) :
    Calls Try.prog 68 #[x] w fun e w' => e = .returned (.int .i64 (IntKind.i64.wrap (hiN xs))) ∧ w' = w := by
  have hX := hx
  obtain ⟨ax, cx, rfl, _⟩ := hx
  obtain ⟨u, hu⟩ : ∃ u, hiN xs % 18446744073709551616 = u := ⟨_, rfl⟩
  obtain ⟨q, hq⟩ : ∃ q, IntKind.i64.wrap u = q := ⟨_, rfl⟩
  go_enter Try.func68, Try.ntmps68
  go_wp2_with fail
  refine (bitsIn_any _ xs _ hX).mono ?_
  rintro e w1 ⟨rfl, rfl⟩
  rw [hu]
  go_wp2
  go_ret
  refine ⟨?_, rfl⟩
  rw [← hq, ← hu, wrap_mod]
  rfl
end Go.Proofs.Yteebglgbeijolaa

/-
  Rows of []byte. (Written by program: nest.py.)
-/
namespace Go.Proofs.Yteebglgbeijolaa
open Go.RowKit
attribute [local go_sem ↓] Go.wp_at_zero Go.wp_at_succ

def bytessR : Rep (List (List Byte)) := nRep bytesR 22 1 one
theorem infoBytess : (Try.prog.info? 22).map (fun i => (i.zero, i.size, i.bytes)) = some (some (.slice none 0 0), 1, 24) := by kernel_rfl
end Go.Proofs.Yteebglgbeijolaa

/-
  Parts joined, single bytes, a text's bytes, on both sides.
-/
namespace Go.Proofs.Yteebglgbeijolaa
open Go.RowKit
attribute [local go_sem ↓] Go.wp_at_zero Go.wp_at_succ

theorem flat_take (ps : List (List Byte)) (k : Nat) (h : k < ps.length) : (ps.take (k + 1)).flatten = (ps.take k).flatten ++ ps.getD k default := by
  rw [List.take_add_one, List.flatten_append]
  congr 1
  simp [List.getD, h]
theorem flat_le (ps : List (List Byte)) : ∀ k, (ps.take k).flatten.length ≤ ps.flatten.length := by
  intro k
  have h : ps.flatten = (ps.take k).flatten ++ (ps.drop k).flatten := by rw [← List.flatten_append, List.take_append_drop]
  rw [h, List.length_append]
  omega
set_option maxHeartbeats 1000000 in
theorem joined_any (x : Value) (ps : List (List Byte)) (w : World) (hx : bytessR.V w x ps) (hn : ps.flatten.length ≤ 1073741824) :
    Calls Try.prog 70 #[x] w fun e w' => ∃ v F, e = .returned v ∧ bytesR.O w' w.heap.size F v ps.flatten ∧ Below w.heap.size w w' := by
  obtain ⟨ax, cx, rfl, hcx, hmx, hx⟩ := hx
  unfold maxLen at hmx
  have hT : ∀ k, k < ps.length → (ps.take (k + 1)).flatten = (ps.take k).flatten ++ ps.getD k default ∧ ((ps.take k).flatten.length + (ps.getD k default).length ≤ 1073741824) := fun k hk => by
    have e := flat_take ps k hk
    have := flat_le ps (k + 1)
    refine ⟨e, ?_⟩
    rw [e, List.length_append] at this
    omega
  have HA : Hid (ps.take ps.length = ps) := List.take_length
  generalize hn' : ps.length = n at *
  have HT : Hid (∀ k, k < n → (ps.take (k + 1)).flatten = (ps.take k).flatten ++ ps.getD k default ∧ ((ps.take k).flatten.length + (ps.getD k default).length ≤ 1073741824)) := hT
  clear hn' hT
  go_enter Try.func70, Try.ntmps70
  go_wp2
  go_loopw [3, 8] (fun v i w' => ∃ k : Nat, k ≤ n ∧ i = .int .i64 k ∧ w'.ownsRow w.heap.size 5 1 v (ps.take k).flatten.length (bytesC (ps.take k).flatten) ∧ Below w.heap.size w w') (fun _ i _ => n - (intOf i).toNat)
  case atStart => exact ⟨0, Nat.zero_le _, rfl, by simpa [bytesC] using World.ownsRow_nil _ _ _ _, Below.refl _ _⟩
  case round =>
    obtain ⟨k, hk, rfl, ho, hbl⟩ := hrel
    by_cases hlt : k < n
    · obtain ⟨bx, ox, u, rfl, _, p1, hv⟩ := hx k hlt
      obtain ⟨e1, e2⟩ := HT.out k hlt
      have HE : Hid ((ps.take (k + 1)).flatten = (ps.take k).flatten ++ ps.getD k default) := e1
      have g0 := cell_keep hbl (cells1 p1)
      have hv1 := bytesR.below hv hbl
      have hsz := hbl.size
      generalize (ps.take k).flatten = ys at *
      generalize ps.getD k default = zs at *
      clear e1 hx p1
      go_wp2_with (at_builtin; refine wpList_appB _ rfl _ _ rfl w.heap.size _ ys rfl _ zs rfl ho (appAny_bytes hv1) e2 hsz ?_)
      intro v' w1 ho' hg hB
      have hB1 := hB w hbl
      have h2 : World.ownsRow w1 w.heap.size 5 1 v' (ys.length + zs.length) (bytesC (ys ++ zs)) := by simpa using ho'
      have HO : Hid (World.ownsRow w1 w.heap.size 5 1 v' (ys.length + zs.length) (bytesC (ys ++ zs))) := h2
      clear hB hg ho ho' h2 e2 hv hv1
      go_wp2
      refine ⟨⟨k + 1, by omega, by go_num, ?_, hB1⟩, by simp [intOf]; omega⟩
      rw [HE.out, List.length_append]
      exact HO.out
    · go_wp2
      go_ret
      have hkn : k = n := by omega
      subst hkn
      rw [HA.out] at ho
      exact ⟨_, _, rfl, ⟨ho, rfl⟩, hbl⟩
def NumsV (w : World) (v : Value) (ys : List Int) : Prop :=
  ∃ a cap, v = .slice a ys.length cap ∧ ys.length ≤ cap ∧ cap ≤ maxLen ∧ ∀ i, i < ys.length → ∃ b o, a = some ⟨b, o, none⟩ ∧ w.cell? ⟨b, o + i, none⟩ = some (.int .i64 (ys.getD i 0))
theorem nums3 {w : World} {g : Nat} {a b c : Int} (h0 : w.cell? ⟨g, 0, none⟩ = some (.int .i64 a)) (h1 : w.cell? ⟨g, 1, none⟩ = some (.int .i64 b)) (h2 : w.cell? ⟨g, 2, none⟩ = some (.int .i64 c)) : NumsV w (.slice (some ⟨g, 0, none⟩) 3 3) [a, b, c] := by
  refine ⟨_, _, rfl, by simp, by unfold maxLen; omega, fun i hi => ⟨g, 0, rfl, ?_⟩⟩
  match i, hi with
  | 0, _ => simpa using h0
  | 1, _ => simpa using h1
  | 2, _ => simpa using h2
set_option maxHeartbeats 1000000 in
theorem singles_any (x : Value) (ys : List Int) (w : World) (hx : NumsV w x ys) (hn : ys.length ≤ 1048576) :
    Calls Try.prog 69 #[x] w fun e w' => ∃ v F, e = .returned v ∧ bytesR.O w' w.heap.size F v (ys.map toB) ∧ Below w.heap.size w w' := by
  obtain ⟨ax, cx, rfl, hcx, hmx, hx⟩ := hx
  unfold maxLen at hmx
  obtain ⟨i0, hi, hz0, hz1, hz2⟩ := info_parts infoByte
  obtain ⟨w1, hmk, hown, hgr⟩ := run_make_full (P := Try.prog) w w.heap.size 22 5 i0 _ 1 Try.underlying22 hi hz0 hz1 .i64 .i64 ys.length (by rw [hz2]; omega) (by unfold maxLen; omega) (Nat.le_refl _)
  have hbl0 : Below w.heap.size w w1 := (Below.refl _ _).grown hgr (Nat.le_refl _) (fun k h => by cases h)
  have HL : Hid ((ys.map toB).length = ys.length) := by simp [Hid]
  have HG : Hid (∀ k, k < ys.length → (ys.map toB).getD k 0 = toB (ys.getD k 0)) := fun k hk => by simp [List.getD, hk]
  generalize hn' : ys.length = n at *
  clear hn'
  go_enter Try.func69, Try.ntmps69
  go_wp2
  go_loopw [11] (fun i w' => ∃ (k : Nat) (cs : List Value), k ≤ n ∧ i = .int .i64 k ∧ w'.ownsRow w.heap.size 5 1 (.slice (some ⟨w.heap.size, 0, none⟩) n n) n cs ∧ uptoB k cs (ys.map toB) ∧ Below w.heap.size w w') (fun i _ => n - (intOf i).toNat)
  case atStart => exact ⟨0, _, Nat.zero_le _, rfl, hown, fun j h => by omega, hbl0⟩
  case round =>
    obtain ⟨k, cs, hk, rfl, ho, hup, hbl⟩ := hrel
    have HU : Hid (uptoB k cs (ys.map toB)) := hup
    clear hup hown hmk hgr hbl0
    by_cases hlt : k < n
    · obtain ⟨bx, ox, rfl, h1⟩ := hx k hlt
      obtain ⟨l, hl⟩ : ∃ l : Int, l = ys.getD k 0 := ⟨_, rfl⟩
      rw [← hl] at h1
      have H1 : Hid (l = ys.getD k 0) := hl
      clear hl hx
      have a1 := cell_keep hbl h1
      obtain ⟨u0, g0⟩ := owns_some ho k (by omega)
      have hf := fun j => ho.frozenAt j
      obtain ⟨q, hq⟩ : ∃ q, IntKind.u8.wrap l = q := ⟨_, rfl⟩
      have HQ : Hid (q = ((toB l).val : Int)) := by rw [← hq]; exact wrapB l
      go_wp2
      have s0 := ho.stored k (.int .u8 q)
      refine ⟨⟨k + 1, _, by omega, by go_num, s0.1, uptoB_set HU.out (by rw [HL.out]; exact hlt) (by rw [HL.out]; exact ho.1) (by rw [HG.out k hlt, ← H1.out]; exact HQ.out), ?_⟩, by simp [intOf]; omega⟩
      exact hbl.setCell (Nat.le_refl _) _
    · go_wp2
      go_ret
      have hkn : k = n := by omega
      subst hkn
      have e := uptoB_full HU.out ho.1 HL.out
      subst e
      refine ⟨_, _, rfl, ⟨?_, rfl⟩, hbl⟩
      rw [HL.out]
      exact ho
end Go.Proofs.Yteebglgbeijolaa

/-
  BytesResult. (Written by program: nest.py.)
-/
namespace Go.Proofs.Yteebglgbeijolaa
open Go.RowKit
set_option linter.unusedSectionVars false
attribute [local go_sem ↓] Go.wp_at_zero Go.wp_at_succ

structure BytesR where
  code : Int
  bytes : List Byte
variable [DecidableEq BytesR] [Inhabited BytesR]

def bytesRR : Rep BytesR where
  V := fun w v x => ∃ u1, v = .agg #[.int .i64 x.code, u1] ∧ bytesR.V w u1 x.bytes
  O := fun w base F v x => ∃ u1 F1, v = .agg #[.int .i64 x.code, u1] ∧ bytesR.O w base F1 u1 x.bytes ∧ (∀ b, F b ↔ (F1 b))
  below := fun h hb => by
    obtain ⟨u1, rfl, h1⟩ := h
    exact ⟨u1, rfl, bytesR.below h1 hb⟩
  ofO := fun h => by
    obtain ⟨u1, F1, rfl, h1, _⟩ := h
    exact ⟨u1, rfl, bytesR.ofO h1⟩
  mod := fun h hm hd => by
    obtain ⟨u1, F1, rfl, h1, hF⟩ := h
    exact ⟨u1, F1, rfl, bytesR.mod h1 hm (fun b hb => hd b ((hF b).2 hb)), hF⟩
  rng := fun h b hb => by
    obtain ⟨u1, F1, rfl, h1, hF⟩ := h
    rcases (hF b).1 hb with hb
    · exact bytesR.rng h1 b hb
  base := fun h hb => by
    obtain ⟨u1, F1, rfl, h1, hF⟩ := h
    exact ⟨u1, F1, rfl, bytesR.base h1 hb, hF⟩
theorem bytesR_form {w : World} {v : Value} {x : BytesR} (h : bytesRR.V w v x) : ∃ a1 c1, v = .agg #[.int .i64 x.code, .slice a1 x.bytes.length c1] := by
  obtain ⟨u1, rfl, h1⟩ := h
  obtain ⟨a1, c1, rfl⟩ := bytes_form h1
  exact ⟨_, _, rfl⟩
end Go.Proofs.Yteebglgbeijolaa


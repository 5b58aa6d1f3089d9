import Derived.Test.YtecfelacdapdgaaGreatPrnEventsOfLaw4
import Derived.PlainAid
import Derived.Laws.BitsAllLaws
import Derived.Test.YtecfelacdapdgaaGreatPrnEventsOfLaw2
import Derived.Deep.RegionHeld3
import Derived.Deep.DrawnRows

/-
  Appending bytes.
-/
namespace Go.Proofs.YtecfelacdapdgaaGreat
open Go.RowKit

theorem appAny_bytes {w : World} {v : Value} {xs : List Byte} (h : BytesV w v xs) : AppAny w v xs.length (bytesC xs) := by
  obtain ⟨a, c, rfl, _, _, hc⟩ := h
  cases a with
  | none =>
    have h0 : xs = [] := by
      cases xs with
      | nil => rfl
      | cons x r => obtain ⟨b, o, e, _⟩ := hc 0 (by simp); cases e
    subst h0
    exact .inl ⟨c, rfl, rfl, rfl⟩
  | some ad =>
    refine .inr ⟨ad, c, rfl, fun j x hj => ?_⟩
    have hjl : j < xs.length := by
      have := (List.getElem?_eq_some_iff.1 hj).1
      rw [length_bytesC] at this
      exact this
    obtain ⟨b, o, e, g0⟩ := hc j hjl
    simp only [Option.some.injEq] at e
    subst e
    have hadd : (Addr.mk b o none).add j = ⟨b, o + j, none⟩ := by
      by_cases h : j = 0
      · subst h; simp [Addr.add]
      · simp [Addr.add, h]
    rw [hadd, g0, ← get_bytesC xs j hjl]
    exact hj
theorem wpList_appB (w : World) {ops : Array Oper} {rest : List Oper} {o : Oper} {a : Act} {Q : Exit → Act → World → Prop} (hgd : o.guard = none) (s x : Operand)
    (ho : o.op = .call { callee := .builtin .append, args := #[s, x], argTypes := #[37, 37] })
    (base : Nat) (v : Value) (xs : List Byte) (hs : a.eval s = v) (u : Value) (ys : List Byte) (hx : a.eval x = u)
    (hown : w.ownsRow base 5 1 v xs.length (bytesC xs)) (hsrc : AppAny w u ys.length (bytesC ys)) (hlen : xs.length + ys.length ≤ 1073741824) (hbase : base ≤ w.heap.size)
    (h : ∀ v' w', w'.ownsRow base 5 1 v' (xs ++ ys).length (bytesC (xs ++ ys)) → w.grownBy w' v.ownBlock → (∀ W : World, Below base W w → Below base W w') → wpList Tryz.prog ops Q rest (a.put o.dst v') w') :
    wpList Tryz.prog ops Q (o :: rest) a w := by
  obtain ⟨i0, hi, hz0, hz1, hz2⟩ := info_parts infoByte
  refine wpList_appAny w hgd s x 37 ho base 5 i0 _ 1 1 Tryz.underlying37 hi hz0 hz1 hz2 rfl (by decide) v xs.length (bytesC xs) hs u ys.length (bytesC ys) hx hown hsrc (by rw [length_bytesC]; omega) (bytesC_one ys) (by unfold maxLen; omega) (by omega) hbase ?_
  intro v' w' h1 h2 h3
  refine h v' w' ?_ h2 h3
  rw [List.length_append, bytesC_append]
  exact h1
end Go.Proofs.YtecfelacdapdgaaGreat

/-
  Numbers as bytes, on both sides.
-/
namespace Go.Proofs.YtecfelacdapdgaaGreat
open Go.RowKit
attribute [local go_sem ↓] Go.wp_at_zero Go.wp_at_succ

def hiN (xs : List Byte) : Int := xs.foldl (fun n b => n * 256 + (b.val : Int)) 0
theorem hiN_snoc (xs : List Byte) (b : Byte) : hiN (xs ++ [b]) = hiN xs * 256 + (b.val : Int) := by simp [hiN]
theorem take_snocB (xs : List Byte) (k : Nat) (h : k < xs.length) : xs.take (k + 1) = xs.take k ++ [xs.getD k 0] := by
  rw [List.take_add_one]
  congr 1
  simp [List.getD, h]
theorem hiN_take (xs : List Byte) (k : Nat) (h : k < xs.length) : hiN (xs.take (k + 1)) = hiN (xs.take k) * 256 + ((xs.getD k 0).val : Int) := by
  rw [take_snocB xs k h, hiN_snoc]
theorem wrap_mod (a : Int) : IntKind.i64.wrap (a % 18446744073709551616) = IntKind.i64.wrap a := by rw [IntKind.wrap_i64, IntKind.wrap_i64]; omega
set_option maxHeartbeats 1000000 in
theorem l3Number_any (x : Value) (xs : List Byte) (w : World) (hx : BytesV w x xs) (hn : 8 ≤ xs.length) :
    Calls Tryz.prog 77 #[x] w fun e w' => e = .returned (.int .i64 (IntKind.i64.wrap (hiN (xs.take 8)))) ∧ w' = w := by
  obtain ⟨ax, cx, rfl, hcx, hmx, hx⟩ := hx
  unfold maxLen at hmx
  have hT := hiN_take xs
  generalize hn' : xs.length = n at *
  have HN : Hid (xs.length = n) := hn'
  have HT : Hid (∀ k, k < n → hiN (xs.take (k + 1)) = hiN (xs.take k) * 256 + ((xs.getD k 0).val : Int)) := hT
  clear hn' hT
  go_enter Tryz.func77, Tryz.ntmps77
  go_wp2
  go_loopw [3, 4] (fun q i w' => ∃ (k : Nat) (y : Int), k ≤ 8 ∧ i = .int .i64 k ∧ y = hiN (xs.take k) % 18446744073709551616 ∧ q = .int .u64 y ∧ w' = w) (fun _ i _ => 8 - (intOf i).toNat)
  case atStart => exact ⟨0, 0, by omega, rfl, by simp [hiN], rfl, rfl⟩
  case round =>
    obtain ⟨k, y, hk, rfl, hy, rfl, rfl⟩ := hrel
    have HY : Hid (y = hiN (xs.take k) % 18446744073709551616) := hy
    clear hy
    by_cases hlt : k < 8
    · obtain ⟨bx, ox, rfl, h1⟩ := hx k (by omega)
      have e1 := HT.out k (by omega)
      have hb := byte_lt (xs.getD k 0)
      obtain ⟨l, hl⟩ : ∃ l : Int, l = ((xs.getD k 0).val : Int) := ⟨_, rfl⟩
      rw [← hl] at h1 e1 hb
      have HE : Hid (hiN (xs.take (k + 1)) = hiN (xs.take k) * 256 + l) := e1
      have v1 : IntKind.u64.wrap l = l := by rw [IntKind.wrap_u64]; omega
      obtain ⟨p, hp⟩ : ∃ p, IntKind.u64.wrap (y * 256) = p := ⟨_, rfl⟩
      obtain ⟨q, hq⟩ : ∃ q, IntKind.u64.wrap (p + l) = q := ⟨_, rfl⟩
      clear hl hx e1 hb
      go_wp2
      refine ⟨⟨k + 1, q, by omega, by go_num, ?_, rfl, trivial⟩, by simp [intOf]; omega⟩
      rw [HE.out, ← hq, ← hp, HY.out, IntKind.wrap_u64, IntKind.wrap_u64]
      omega
    · obtain ⟨q, hq⟩ : ∃ q, IntKind.i64.wrap y = q := ⟨_, rfl⟩
      go_wp2
      go_ret
      have hk8 : k = 8 := by omega
      subst hk8
      refine ⟨?_, rfl⟩
      rw [← hq, HY.out, wrap_mod]
      rfl
theorem or_byte (x l : Int) (hx0 : 0 ≤ x) (hx1 : x < 18446744073709551616) (h0 : 0 ≤ l) (h1 : l ≤ 255) :
    bits .or .u64 (IntKind.u64.wrap (x * 256)) l = (x * 256 + l) % 18446744073709551616 := by
  rw [IntKind.wrap_u64, u64_or _ _ (by omega) (by omega) (by omega) (by omega)]
  obtain ⟨X, rfl⟩ := Int.eq_ofNat_of_zero_le hx0
  obtain ⟨L, rfl⟩ := Int.eq_ofNat_of_zero_le h0
  have e1 : ((X : Int) * 256 % 18446744073709551616).toNat = (X % 72057594037927936) * 2 ^ 8 := by omega
  rw [e1, Int.toNat_natCast, Nat.mul_comm, ← Nat.two_pow_add_eq_or_of_lt (i := 8) (by omega) (X % 72057594037927936)]
  omega
set_option maxHeartbeats 1000000 in
theorem bitsIn_any (x : Value) (xs : List Byte) (w : World) (hx : BytesV w x xs) :
    Calls Tryz.prog 122 #[x] w fun e w' => e = .returned (.int .u64 (hiN xs % 18446744073709551616)) ∧ w' = w := by
  obtain ⟨ax, cx, rfl, hcx, hmx, hx⟩ := hx
  unfold maxLen at hmx
  have hT := hiN_take xs
  generalize hn' : xs.length = n at *
  have HN : Hid (xs.length = n) := hn'
  have HT : Hid (∀ k, k < n → hiN (xs.take (k + 1)) = hiN (xs.take k) * 256 + ((xs.getD k 0).val : Int)) := hT
  clear hn' hT
  go_enter Tryz.func122, Tryz.ntmps122
  go_wp2
  go_loopw [3, 8] (fun q i w' => ∃ (k : Nat) (y : Int), k ≤ n ∧ i = .int .i64 k ∧ y = hiN (xs.take k) % 18446744073709551616 ∧ q = .int .u64 y ∧ w' = w) (fun _ i _ => n - (intOf i).toNat)
  case atStart => exact ⟨0, 0, by omega, rfl, by simp [hiN], rfl, rfl⟩
  case round =>
    obtain ⟨k, y, hk, rfl, hy, rfl, rfl⟩ := hrel
    have y0 : 0 ≤ y := by omega
    have y1 : y < 18446744073709551616 := by omega
    have HY : Hid (y = hiN (xs.take k) % 18446744073709551616) := hy
    clear hy
    by_cases hlt : k < n
    · obtain ⟨bx, ox, rfl, h1⟩ := hx k (by omega)
      have e1 := HT.out k (by omega)
      have hb := byte_lt (xs.getD k 0)
      obtain ⟨l, hl⟩ : ∃ l : Int, l = ((xs.getD k 0).val : Int) := ⟨_, rfl⟩
      rw [← hl] at h1 e1 hb
      have HE : Hid (hiN (xs.take (k + 1)) = hiN (xs.take k) * 256 + l) := e1
      have v1 : IntKind.u64.wrap l = l := by rw [IntKind.wrap_u64]; omega
      have hor := or_byte y l y0 y1 hb.1 hb.2
      obtain ⟨p, hp⟩ : ∃ p, IntKind.u64.wrap (y * 256) = p := ⟨_, rfl⟩
      obtain ⟨q, hq⟩ : ∃ q, bits .or .u64 p l = q := ⟨_, rfl⟩
      rw [hp, hq] at hor
      have HO : Hid (q = (y * 256 + l) % 18446744073709551616) := hor
      clear hl hx e1 hb hor
      go_wp2
      refine ⟨⟨k + 1, q, by omega, by go_num, ?_, rfl, trivial⟩, by simp [intOf]; omega⟩
      rw [HE.out, HO.out, HY.out]
      omega
    · go_wp2
      go_ret
      have hkn : k = n := by omega
      subst hkn
      refine ⟨?_, rfl⟩
      rw [HY.out, List.take_of_length_le (by have := HN.out; omega)]
      rfl
set_option maxHeartbeats 400000 in
theorem numberIn_any (x : Value) (xs : List Byte) (w : World) (hx : BytesV w x xs) :
    Calls Tryz.prog 103 #[x] w fun e w' => e = .returned (.int .i64 (IntKind.i64.wrap (hiN xs))) ∧ w' = w := by
  have hX := hx
  obtain ⟨ax, cx, rfl, _⟩ := hx
  obtain ⟨u, hu⟩ : ∃ u, hiN xs % 18446744073709551616 = u := ⟨_, rfl⟩
  obtain ⟨q, hq⟩ : ∃ q, IntKind.i64.wrap u = q := ⟨_, rfl⟩
  go_enter Tryz.func103, Tryz.ntmps103
  go_wp2_with fail
  refine (bitsIn_any _ xs _ hX).mono ?_
  rintro e w1 ⟨rfl, rfl⟩
  rw [hu]
  go_wp2
  go_ret
  refine ⟨?_, rfl⟩
  rw [← hq, ← hu, wrap_mod]
  rfl
end Go.Proofs.YtecfelacdapdgaaGreat

/-
  Rows of uint8: the uniform forms. (Written by program: nest.py.)
-/
namespace Go.Proofs.YtecfelacdapdgaaGreat
open Go.RowKit
attribute [local go_sem ↓] Go.wp_at_zero Go.wp_at_succ

def bytesR : Rep (List Byte) := fRep 5 1 bytesC BytesV BytesV_below BytesV_of_owns
def wtBytes (xs : List Byte) : Nat := xs.length
def cntBytes (xs : List Byte) : Nat := xs.length
def mkBytes (k : Int) (xs : List Byte) : List Byte := marksB k xs.length
theorem bytes_form {w : World} {v : Value} {xs : List Byte} (h : bytesR.V w v xs) : ∃ a c, v = .slice a xs.length c := by
  obtain ⟨a, c, rfl, _⟩ := h
  exact ⟨_, _, rfl⟩
theorem bytes_cnt (d : List Byte) : cntBytes d ≤ 1 * wtBytes d := by unfold cntBytes wtBytes; omega
theorem toByteS_u (x : Value) (d : List Byte) (w : World) (hx : bytesR.V w x d) (hn : wtBytes d ≤ 1048576) :
    Calls Tryz.prog 19 #[x] w fun e w' => ∃ v F, e = .returned v ∧ bytesR.O w' w.heap.size F v d ∧ Below w.heap.size w w' := by
  refine (toByteS_any x d w hx hn).mono ?_
  rintro e w' ⟨v, rfl, ho, hb⟩
  exact ⟨v, _, rfl, ⟨ho, rfl⟩, hb⟩
theorem eqByteS_u (x y : Value) (d d' : List Byte) (w : World) (hx : bytesR.V w x d) (hy : bytesR.V w y d') :
    Calls Tryz.prog 22 #[x, y] w fun e w' => e = .returned (.bool (decide (d = d'))) ∧ Below w.heap.size w w' := eqByteS_any x y d d' w hx hy
theorem szByteS_u (x : Value) (d : List Byte) (left : Int) (w : World) (hx : bytesR.V w x d) (h0 : 0 ≤ left) (h1 : left ≤ 1048576) :
    Calls Tryz.prog 81 #[x, .int .i64 left] w fun e w' => e = .returned (.int .i64 (szLen left (wtBytes d))) ∧ Below w.heap.size w w' := by
  refine (szByteS_any x d left w hx h0 h1).mono ?_
  rintro e w' ⟨rfl, rfl⟩
  exact ⟨rfl, Below.refl _ _⟩
theorem markByteS_u (v : Value) (d : List Byte) (base : Nat) (F : Nat → Prop) (k : Int) (w : World) (ho : bytesR.O w base F v d) (hw : wtBytes d ≤ 1048576) (hn : k + cntBytes d ≤ 1073741824) (hk0 : 0 ≤ k) :
    Calls Tryz.prog 23 #[v, .int .i64 k] w fun r w' => r = .returned (.int .i64 (k + cntBytes d)) ∧ bytesR.O w' base F v (mkBytes k d) ∧ Mod F w w' := by
  refine (markByteS_any v d.length _ base _ k w ho.1 hw hk0 (by omega)).mono ?_
  rintro e w' ⟨rfl, h1, h2⟩
  refine ⟨by simp [cntBytes], ⟨?_, ho.2⟩, by rw [ho.2]; exact Mod.of_grown h2⟩
  unfold mkBytes
  rw [length_marksB]
  exact h1
end Go.Proofs.YtecfelacdapdgaaGreat

/-
  Rows of []byte. (Written by program: nest.py.)
-/
namespace Go.Proofs.YtecfelacdapdgaaGreat
open Go.RowKit
attribute [local go_sem ↓] Go.wp_at_zero Go.wp_at_succ

def bytessR : Rep (List (List Byte)) := nRep bytesR 37 1 one
theorem bytess_form {w : World} {v : Value} {xs : List (List Byte)} (h : bytessR.V w v xs) : ∃ a c, v = .slice a xs.length c := by
  obtain ⟨a, c, rfl, _⟩ := h
  exact ⟨_, _, rfl⟩
theorem infoBytess : (Tryz.prog.info? 37).map (fun i => (i.zero, i.size, i.bytes)) = some (some (.slice none 0 0), 1, 24) := by kernel_rfl
end Go.Proofs.YtecfelacdapdgaaGreat


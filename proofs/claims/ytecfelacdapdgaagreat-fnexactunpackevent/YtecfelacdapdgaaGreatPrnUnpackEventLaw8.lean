import Derived.Test.YtecfelacdapdgaaGreatPrnUnpackEventLaw7
import Derived.Test.YtecfelacdapdgaaGreatPrnUnpackEventLaw6
import Derived.Test.YtecfelacdapdgaaGreatPrnUnpackEventLaw3
import Derived.Test.YtecfelacdapdgaaGreatPrnUnpackEventLaw4
import Derived.Test.YtecfelacdapdgaaGreatPrnUnpackEventLaw2
import Derived.Deep.RegionHeld3
import Derived.Deep.DrawnRows
import Derived.Lib.ConvBytes
import Derived.Test.YtecfelacdapdgaaGreatPrnUnpackEventLaw5

/-
  A contract read out of bytes: the specification's side.
-/
namespace Go.Proofs.YtecfelacdapdgaaGreat
open Go.RowKit
set_option linter.unusedSectionVars false
variable [DecidableEq Leg] [Inhabited Leg] [DecidableEq Cont] [Inhabited Cont] [DecidableEq ContR] [Inhabited ContR]
set_option linter.unusedSimpArgs false
attribute [local go_sem ↓] Go.wp_at_zero Go.wp_at_succ

set_option maxHeartbeats 4000000 in
theorem l3Uncontract_ok (x : Value) (xs : List Byte) (w : World) (hx : bytesR.V w x xs) (h8 : 8 ≤ xs.length) (h11 : (xs.length - 8) % 11 = 0) (h96 : xs.length ≤ 96) :
    Calls Tryz.prog 76 #[x] w fun e w' => ∃ v F, e = .returned (.tuple #[.agg #[.int .i64 (unCont xs).id, v], .bool (decide (contractFault (unCont xs).id (unCont xs).legs = 0))]) ∧ legsR.O w' w.heap.size F v (unCont xs).legs ∧ Below w.heap.size w w' := by
  have hX := hx
  obtain ⟨ax, cx, rfl, hcx, hmx, hx⟩ := hx
  unfold maxLen at hmx
  obtain ⟨b, o, rfl, _⟩ := hx 0 (by omega)
  obtain ⟨id, hid⟩ : ∃ id, IntKind.i64.wrap (hiN (xs.take 8)) = id := ⟨_, rfl⟩
  have HID : Hid (unCont xs = ⟨id, unLegs xs ((xs.length - 8) / 11)⟩) := by unfold Hid unCont; rw [hid]
  obtain ⟨n, hn⟩ : ∃ n, (xs.length - 8) / 11 = n := ⟨_, rfl⟩
  have hlen : xs.length = 8 + 11 * n := by omega
  have HLEN : Hid (xs.length = 8 + 11 * n) := hlen
  have hn8 : n ≤ 8 := by omega
  have HN : Hid ((xs.length - 8) / 11 = n) := hn
  have c1 : ¬ (xs.length : Int) < 8 := by omega
  have c2 : ((xs.length : Int) - 8).tmod 11 = 0 := by rw [Int.tmod_eq_emod_of_nonneg (by omega)]; omega
  have c2' : ((xs.length : Int) - 8) % 11 = 0 := by omega
  have c2'' : ((((xs.length : Int) - 8).tmod 11) == 0) = true := by rw [c2]; rfl
  have c3 : ¬ (96 : Int) < (xs.length : Int) := by omega
  have c4 : IntKind.i64.wrap ((xs.length : Int) - 8) = xs.length - 8 := by rw [IntKind.wrap_i64]; omega
  have hV8 := bytes_cut hX 0 8 (by omega) (by omega)
  simp only [Option.map_some, Nat.mul_one, addP, Nat.zero_mul, Nat.sub_zero, List.drop_zero, Nat.add_zero, ite_self] at hV8
  have hl8 : 8 ≤ (xs.take 8).length := by rw [List.length_take]; omega
  have e8 : (xs.take 8).take 8 = xs.take 8 := by rw [List.take_take]; rfl
  clear hn hlen
  go_enter Tryz.func76, Tryz.ntmps76
  go_wp2_with fail
  refine (l3Number_any _ (xs.take 8) _ (BytesV_below hV8 (by (repeat (first | exact Below.refl _ _ | assumption | refine Below.drew ?_ | refine balloc ?_ _ | refine bset ?_ (by simp; omega) _ | refine bset ?_ (by simp) _ | refine bstep ?_ (by assumption))))) hl8).mono ?_
  rintro e w1 ⟨rfl, rfl⟩
  rw [e8, hid]
  clear e8 hl8 hV8 hid c2 c2' c2'' c4
  go_wp2
  go_loopw [5] (fun i w' => ∃ (k t : Nat) (v : Value), k ≤ n ∧ t = 8 + 11 * k ∧ i = .int .i64 t ∧ UnSt w w' id v (unLegs xs k)) (fun i _ => xs.length - (intOf i).toNat)
  case atStart =>
    refine ⟨0, 8, .slice none 0 0, by omega, by omega, rfl, ⟨by simp [go_sem], by simp [go_sem]⟩, ⟨by simp [go_sem], by simp [go_sem]⟩, ⟨fun o => by simp [go_sem], fun o => by simp [go_sem]⟩, by simp, ?_, by (repeat (first | exact Below.refl _ _ | assumption | refine Below.drew ?_ | refine balloc ?_ _ | refine bset ?_ (by simp; omega) _ | refine bset ?_ (by simp) _ | refine bstep ?_ (by assumption)))⟩
    have : unLegs xs 0 = [] := rfl
    rw [this]
    exact World.ownsRow_nil _ _ _ _
  case round =>
    obtain ⟨k, t, v, hk, ht, rfl, ⟨d0, d1⟩, ⟨r0, r1⟩, ⟨fr, fd⟩, hz, ho, hbl⟩ := hrel
    have HT : Hid (k ≤ n ∧ t = 8 + 11 * k) := ⟨hk, ht⟩
    obtain ⟨pv, qv, rfl⟩ := owns_form ho
    have hzr := World.block_lt_of_cell? _ _ d0
    dsimp only at hzr
    by_cases hlt : t < xs.length
    · have hlt11 : t + 11 ≤ xs.length := by have := HLEN.out; omega
      obtain ⟨b', o', e, g0⟩ := hx t (by omega)
      simp only [Option.some.injEq, Addr.mk.injEq, and_true] at e
      obtain ⟨rfl, rfl⟩ := e
      obtain ⟨b', o', e, g1⟩ := hx (t + 1) (by omega)
      simp only [Option.some.injEq, Addr.mk.injEq, and_true] at e
      obtain ⟨rfl, rfl⟩ := e
      obtain ⟨b', o', e, g2⟩ := hx (t + 2) (by omega)
      simp only [Option.some.injEq, Addr.mk.injEq, and_true] at e
      obtain ⟨rfl, rfl⟩ := e
      obtain ⟨p0, hp0⟩ : ∃ p : Int, ((xs.getD t 0).val : Int) = p := ⟨_, rfl⟩
      obtain ⟨p1, hp1⟩ : ∃ p : Int, ((xs.getD (t + 1) 0).val : Int) = p := ⟨_, rfl⟩
      obtain ⟨p2, hp2⟩ : ∃ p : Int, ((xs.getD (t + 2) 0).val : Int) = p := ⟨_, rfl⟩
      have l0 := byte_lt (xs.getD t 0)
      have l1 := byte_lt (xs.getD (t + 1) 0)
      have l2 := byte_lt (xs.getD (t + 2) 0)
      rw [hp0] at g0 l0
      rw [hp1] at g1 l1
      rw [hp2] at g2 l2
      have hV3 := bytes_cut hX (t + 3) (t + 11) (by omega) (by omega)
      rw [if_neg (by omega)] at hV3
      simp only [Option.map_some, Nat.mul_one, addP] at hV3
      rw [show t + 11 - (t + 3) = 8 by omega] at hV3
      have hl3 : 8 ≤ ((xs.drop (t + 3)).take 8).length := by rw [List.length_take, List.length_drop]; omega
      obtain ⟨am, ham⟩ : ∃ am, IntKind.i64.wrap (hiN ((xs.drop (t + 3)).take 8)) = am := ⟨_, rfl⟩
      have e3 : IntKind.i64.wrap (hiN (((xs.drop (t + 3)).take 8).take 8)) = am := by rw [List.take_take]; exact ham
      have HL : Hid (unLegs xs (k + 1) = unLegs xs k ++ [⟨p0, p1, p2, am⟩]) := by
        unfold Hid
        rw [unLegs_succ, ← ht, unLeg, hp0, hp1, hp2, ham]
      have hol : (unLegs xs k).length ≤ 1048576 := by rw [length_unLegs]; omega
      have w0 : IntKind.i64.wrap p0 = p0 := by rw [IntKind.wrap_i64]; omega
      have w1 : IntKind.i64.wrap p1 = p1 := by rw [IntKind.wrap_i64]; omega
      have w2 : IntKind.i64.wrap p2 = p2 := by rw [IntKind.wrap_i64]; omega
      have y1 : IntKind.i64.wrap ((t : Int) + 1) = t + 1 := by rw [IntKind.wrap_i64]; omega
      have y2 : IntKind.i64.wrap ((t : Int) + 2) = t + 2 := by rw [IntKind.wrap_i64]; omega
      have y3 : IntKind.i64.wrap ((t : Int) + 3) = t + 3 := by rw [IntKind.wrap_i64]; omega
      have y4 : IntKind.i64.wrap ((t : Int) + 11) = t + 11 := by rw [IntKind.wrap_i64]; omega
      have i1 : ((t : Int) + 1).toNat = t + 1 := by omega
      have i2 : ((t : Int) + 2).toNat = t + 2 := by omega
      have i3 : ((t : Int) + 3).toNat = t + 3 := by omega
      have i4 : ((t : Int) + 11).toNat = t + 11 := by omega
      have j0 : (0 : Int) ≤ (t : Int) := by omega
      have j1 : (t : Int) < (xs.length : Int) := by omega
      have j2 : (t : Int) + 1 < (xs.length : Int) := by omega
      have j3 : (t : Int) + 2 < (xs.length : Int) := by omega
      have j4 : (t : Int) + 11 ≤ (cx : Int) := by omega
      have j5 : ¬ cx = t + 3 := by omega
      have j6 : (0 : Int) ≤ (t : Int) + 1 := by omega
      have j7 : (0 : Int) ≤ (t : Int) + 2 := by omega
      have j8 : (0 : Int) ≤ (t : Int) + 3 := by omega
      have j9 : (t : Int) + 3 ≤ (t : Int) + 11 := by omega
      have hle : w.heap.size ≤ w.heap.size + 2 := by omega
      have hlt0 : (⟨w.heap.size, 0, none⟩ : Addr).block < w.heap.size + 2 := by simp
      have hlt1 : (⟨w.heap.size + 1, 0, none⟩ : Addr).block < w.heap.size + 2 := by simp
      generalize unLegs xs k = ys at *
      clear hp0 hp1 hp2 ham ht hk hx
      go_wp2
      refine wp_region_noPanic ?_
      refine region_upto (fun w' => Below w.heap.size w w' ∧ w'.cell? ⟨b, o + t, none⟩ = some (.int .u8 p0) ∧ w'.cell? ⟨b, o + (t + 1), none⟩ = some (.int .u8 p1) ∧ w'.cell? ⟨b, o + (t + 2), none⟩ = some (.int .u8 p2) ∧ w'.cell? ⟨w.heap.size + 1, 1, none⟩ = some (.slice pv ys.length qv)) 30 (by kernel_rfl) ⟨Below.drew hbl, cell_keep (Below.drew hbl) g0, cell_keep (Below.drew hbl) g1, cell_keep (Below.drew hbl) g2, cell_keep (Below.drew (Below.refl _ _)) d1⟩ (fun hS => ?_)
      refine upto_take (i := 0) (v := ?_) rfl (by kernel_rfl) (by kernel_rfl) (by kernel_rfl) (by kernel_rfl) (fun _ _ _ h => h) (by rfl) hS ?_ ?_
      rotate_left
      · intro wS hSw
        try dsimp only at hSw
        first | (go_simp; done) | (go_simp; with_reducible rfl)
      try simp only [Act.put, List.setIfInBounds_toArray, List.set_cons_zero, List.set_cons_succ]
      refine upto_take (i := 1) (v := ?_) rfl (by kernel_rfl) (by kernel_rfl) (by kernel_rfl) (by kernel_rfl) (fun _ _ _ h => h) (by rfl) hS ?_ ?_
      rotate_left
      · intro wS hSw
        try dsimp only at hSw
        first | (go_simp; done) | (go_simp; with_reducible rfl)
      try simp only [Act.put, List.setIfInBounds_toArray, List.set_cons_zero, List.set_cons_succ]
      refine upto_take (i := 2) (v := ?_) rfl (by kernel_rfl) (by kernel_rfl) (by kernel_rfl) (by kernel_rfl) (fun _ _ _ h => h) (by rfl) hS ?_ ?_
      rotate_left
      · intro wS hSw
        try dsimp only at hSw
        first | (go_simp; done) | (go_simp; with_reducible rfl)
      try simp only [Act.put, List.setIfInBounds_toArray, List.set_cons_zero, List.set_cons_succ]
      refine upto_take (i := 3) (v := ?_) rfl (by kernel_rfl) (by kernel_rfl) (by kernel_rfl) (by kernel_rfl) (fun _ _ _ h => h) (by rfl) hS ?_ ?_
      rotate_left
      · intro wS hSw
        try dsimp only at hSw
        first | (go_simp; done) | (go_simp; with_reducible rfl)
      try simp only [Act.put, List.setIfInBounds_toArray, List.set_cons_zero, List.set_cons_succ]
      refine upto_take (i := 4) (v := ?_) rfl (by kernel_rfl) (by kernel_rfl) (by kernel_rfl) (by kernel_rfl) (fun _ _ _ h => h) (by rfl) hS ?_ ?_
      rotate_left
      · intro wS hSw
        try dsimp only at hSw
        first | (go_simp; done) | (go_simp; with_reducible rfl)
      try simp only [Act.put, List.setIfInBounds_toArray, List.set_cons_zero, List.set_cons_succ]
      refine upto_take (i := 5) (v := ?_) rfl (by kernel_rfl) (by kernel_rfl) (by kernel_rfl) (by kernel_rfl) (fun _ _ _ h => h) (by rfl) hS ?_ ?_
      rotate_left
      · intro wS hSw
        try dsimp only at hSw
        first | (go_simp; done) | (go_simp; with_reducible rfl)
      try simp only [Act.put, List.setIfInBounds_toArray, List.set_cons_zero, List.set_cons_succ]
      refine upto_take (i := 6) (v := ?_) rfl (by kernel_rfl) (by kernel_rfl) (by kernel_rfl) (by kernel_rfl) (fun _ _ _ h => h) (by rfl) hS ?_ ?_
      rotate_left
      · intro wS hSw
        try dsimp only at hSw
        first | (go_simp; done) | (go_simp; with_reducible rfl)
      try simp only [Act.put, List.setIfInBounds_toArray, List.set_cons_zero, List.set_cons_succ]
      refine upto_take (i := 7) (v := ?_) rfl (by kernel_rfl) (by kernel_rfl) (by kernel_rfl) (by kernel_rfl) (fun _ _ _ h => h) (by rfl) hS ?_ ?_
      rotate_left
      · intro wS hSw
        try dsimp only at hSw
        first | (go_simp; done) | (go_simp; with_reducible rfl)
      try simp only [Act.put, List.setIfInBounds_toArray, List.set_cons_zero, List.set_cons_succ]
      refine upto_take (i := 8) (v := ?_) rfl (by kernel_rfl) (by kernel_rfl) (by kernel_rfl) (by kernel_rfl) (fun _ _ _ h => h) (by rfl) hS ?_ ?_
      rotate_left
      · intro wS hSw
        try dsimp only at hSw
        first | (go_simp; done) | (go_simp; with_reducible rfl)
      try simp only [Act.put, List.setIfInBounds_toArray, List.set_cons_zero, List.set_cons_succ]
      refine upto_take (i := 9) (v := ?_) rfl (by kernel_rfl) (by kernel_rfl) (by kernel_rfl) (by kernel_rfl) (fun _ _ _ h => h) (by rfl) hS ?_ ?_
      rotate_left
      · intro wS hSw
        try dsimp only at hSw
        first | (go_simp; done) | (go_simp; with_reducible rfl)
      try simp only [Act.put, List.setIfInBounds_toArray, List.set_cons_zero, List.set_cons_succ]
      refine upto_take (i := 10) (v := ?_) rfl (by kernel_rfl) (by kernel_rfl) (by kernel_rfl) (by kernel_rfl) (fun _ _ _ h => h) (by rfl) hS ?_ ?_
      rotate_left
      · intro wS hSw
        try dsimp only at hSw
        first | (go_simp; done) | (go_simp; with_reducible rfl)
      try simp only [Act.put, List.setIfInBounds_toArray, List.set_cons_zero, List.set_cons_succ]
      refine upto_take (i := 11) (v := ?_) rfl (by kernel_rfl) (by kernel_rfl) (by kernel_rfl) (by kernel_rfl) (fun _ _ _ h => h) (by rfl) hS ?_ ?_
      rotate_left
      · intro wS hSw
        try dsimp only at hSw
        first | (go_simp; done) | (go_simp; with_reducible rfl)
      try simp only [Act.put, List.setIfInBounds_toArray, List.set_cons_zero, List.set_cons_succ]
      refine upto_take (i := 12) (v := ?_) rfl (by kernel_rfl) (by kernel_rfl) (by kernel_rfl) (by kernel_rfl) (fun _ _ _ h => h) (by rfl) hS ?_ ?_
      rotate_left
      · intro wS hSw
        try dsimp only at hSw
        first | (go_simp; done) | (go_simp; with_reducible rfl)
      try simp only [Act.put, List.setIfInBounds_toArray, List.set_cons_zero, List.set_cons_succ]
      refine upto_take (i := 13) (v := ?_) rfl (by kernel_rfl) (by kernel_rfl) (by kernel_rfl) (by kernel_rfl) (fun _ _ _ h => h) (by rfl) hS ?_ ?_
      rotate_left
      · intro wS hSw
        try dsimp only at hSw
        first | (go_simp; done) | (go_simp; with_reducible rfl)
      try simp only [Act.put, List.setIfInBounds_toArray, List.set_cons_zero, List.set_cons_succ]
      refine upto_take (i := 14) (v := ?_) rfl (by kernel_rfl) (by kernel_rfl) (by kernel_rfl) (by kernel_rfl) (fun _ _ _ h => h) (by rfl) hS ?_ ?_
      rotate_left
      · intro wS hSw
        try dsimp only at hSw
        first | (go_simp; done) | (go_simp; with_reducible rfl)
      try simp only [Act.put, List.setIfInBounds_toArray, List.set_cons_zero, List.set_cons_succ]
      refine upto_take (i := 15) (v := ?_) rfl (by kernel_rfl) (by kernel_rfl) (by kernel_rfl) (by kernel_rfl) (fun _ _ _ h => h) (by rfl) hS ?_ ?_
      rotate_left
      · intro wS hSw
        try dsimp only at hSw
        first | (go_simp; done) | (go_simp; with_reducible rfl)
      try simp only [Act.put, List.setIfInBounds_toArray, List.set_cons_zero, List.set_cons_succ]
      refine upto_take (i := 16) (v := ?_) rfl (by kernel_rfl) (by kernel_rfl) (by kernel_rfl) (by kernel_rfl) (fun _ _ _ h => h) (by rfl) hS ?_ ?_
      rotate_left
      · intro wS hSw
        try dsimp only at hSw
        first | (go_simp; done) | (go_simp; with_reducible rfl)
      try simp only [Act.put, List.setIfInBounds_toArray, List.set_cons_zero, List.set_cons_succ]
      refine upto_take (i := 17) (v := ?_) rfl (by kernel_rfl) (by kernel_rfl) (by kernel_rfl) (by kernel_rfl) (fun _ _ _ h => h) (by rfl) hS ?_ ?_
      rotate_left
      · intro wS hSw
        try dsimp only at hSw
        first | (go_simp; done) | (go_simp; with_reducible rfl)
      try simp only [Act.put, List.setIfInBounds_toArray, List.set_cons_zero, List.set_cons_succ]
      refine upto_take (i := 18) (v := ?_) rfl (by kernel_rfl) (by kernel_rfl) (by kernel_rfl) (by kernel_rfl) (fun _ _ _ h => h) (by rfl) hS ?_ ?_
      rotate_left
      · intro wS hSw
        try dsimp only at hSw
        first | (go_simp; done) | (go_simp; with_reducible rfl)
      try simp only [Act.put, List.setIfInBounds_toArray, List.set_cons_zero, List.set_cons_succ]
      refine upto_take (i := 19) (v := ?_) rfl (by kernel_rfl) (by kernel_rfl) (by kernel_rfl) (by kernel_rfl) (fun _ _ _ h => h) (by rfl) hS ?_ ?_
      rotate_left
      · intro wS hSw
        try dsimp only at hSw
        first | (go_simp; done) | (go_simp; with_reducible rfl)
      try simp only [Act.put, List.setIfInBounds_toArray, List.set_cons_zero, List.set_cons_succ]
      refine upto_take (i := 20) (v := ?_) rfl (by kernel_rfl) (by kernel_rfl) (by kernel_rfl) (by kernel_rfl) (fun _ _ _ h => h) (by rfl) hS ?_ ?_
      rotate_left
      · intro wS hSw
        try dsimp only at hSw
        first | (go_simp; done) | (go_simp; with_reducible rfl)
      try simp only [Act.put, List.setIfInBounds_toArray, List.set_cons_zero, List.set_cons_succ]
      refine upto_take (i := 21) (v := ?_) rfl (by kernel_rfl) (by kernel_rfl) (by kernel_rfl) (by kernel_rfl) (fun _ _ _ h => h) (by rfl) hS ?_ ?_
      rotate_left
      · intro wS hSw
        try dsimp only at hSw
        first | (go_simp; done) | (go_simp; with_reducible rfl)
      try simp only [Act.put, List.setIfInBounds_toArray, List.set_cons_zero, List.set_cons_succ]
      refine upto_take (i := 22) (v := ?_) rfl (by kernel_rfl) (by kernel_rfl) (by kernel_rfl) (by kernel_rfl) (fun _ _ _ h => h) (by rfl) hS ?_ ?_
      rotate_left
      · intro wS hSw
        try dsimp only at hSw
        first | (go_simp; done) | (go_simp; with_reducible rfl)
      try simp only [Act.put, List.setIfInBounds_toArray, List.set_cons_zero, List.set_cons_succ]
      refine upto_take (i := 23) (v := ?_) rfl (by kernel_rfl) (by kernel_rfl) (by kernel_rfl) (by kernel_rfl) (fun _ _ _ h => h) (by rfl) hS ?_ ?_
      rotate_left
      · intro wS hSw
        try dsimp only at hSw
        first | (go_simp; done) | (go_simp; with_reducible rfl)
      try simp only [Act.put, List.setIfInBounds_toArray, List.set_cons_zero, List.set_cons_succ]
      refine upto_take (i := 24) (v := ?_) rfl (by kernel_rfl) (by kernel_rfl) (by kernel_rfl) (by kernel_rfl) (fun _ _ _ h => h) (by rfl) hS ?_ ?_
      rotate_left
      · intro wS hSw
        try dsimp only at hSw
        first | (go_simp; done) | (go_simp; with_reducible rfl)
      try simp only [Act.put, List.setIfInBounds_toArray, List.set_cons_zero, List.set_cons_succ]
      refine upto_step (i := 25) (by kernel_rfl) rfl ?_
      intro K hK
      go_simp
      refine (l3Number_any _ ((xs.drop (t + 3)).take 8) _ (BytesV_below hV3 (Below.drew hbl)) hl3).mono ?_
      rintro e w3 ⟨rfl, rfl⟩
      rw [e3]
      refine hK _ _ (fun _ => hS) ?_
      clear hK K
      try simp only [Act.put, List.setIfInBounds_toArray, List.set_cons_zero, List.set_cons_succ]
      refine upto_take (i := 26) (v := ?_) rfl (by kernel_rfl) (by kernel_rfl) (by kernel_rfl) (by kernel_rfl) (fun _ _ _ h => h) (by rfl) hS ?_ ?_
      rotate_left
      · intro wS hSw
        try dsimp only at hSw
        first | (go_simp; done) | (go_simp; with_reducible rfl)
      try simp only [Act.put, List.setIfInBounds_toArray, List.set_cons_zero, List.set_cons_succ]
      refine upto_step (i := 27) (by kernel_rfl) rfl ?_
      intro K hK
      go_simp
      refine hK _ _ (fun _ => ⟨balloc hS.1 _, cell_keep (balloc (Below.refl _ _) _) hS.2.1, cell_keep (balloc (Below.refl _ _) _) hS.2.2.1, cell_keep (balloc (Below.refl _ _) _) hS.2.2.2.1, cell_keep (balloc (Below.refl _ _) _) hS.2.2.2.2⟩) ?_
      clear hK K
      try simp only [Act.put, List.setIfInBounds_toArray, List.set_cons_zero, List.set_cons_succ]
      refine upto_step (i := 28) (by kernel_rfl) rfl ?_
      intro K hK
      refine step_pushLeg _ rfl _ _ rfl (w.heap.size + 2) _ ys rfl ⟨p0, p1, p2, am⟩ _ rfl (owns_below ho (balloc (Below.drew (Below.refl _ _)) _)) ?_ hol ?_ ?_
      · exact appAny_leg (g := wr.heap.size) (by simp [go_sem]) (by simp [go_sem]) (by simp [go_sem]) (by simp [go_sem])
      · simp; omega
      intro v5 w5 o5 hg5 hB5
      obtain ⟨p5, c5, rfl⟩ := owns_form o5
      have hw5 := hB5 wr ((balloc (Below.drew (Below.refl wr.heap.size wr)) _).mono hz)
      have hb5 := hbl.trans (hw5.mono hle)
      have q0 := (hw5.cell (p := ⟨w.heap.size + 1, 0, none⟩) hlt1).trans d0
      have q1 := (hw5.cell (p := ⟨w.heap.size + 1, 1, none⟩) hlt1).trans d1
      have q2 := (hw5.cell (p := ⟨w.heap.size, 0, none⟩) hlt0).trans r0
      have q3 := (hw5.cell (p := ⟨w.heap.size, 1, none⟩) hlt0).trans r1
      have q4 := fun o => (hw5.frozen (p := ⟨w.heap.size, o, none⟩) hlt0).trans (fr o)
      have q5 := fun o => (hw5.frozen (p := ⟨w.heap.size + 1, o, none⟩) hlt1).trans (fd o)
      have hS5 := keepN4 hb5 g0 g1 g2 g2
      have hS6 := And.intro hb5 (And.intro hS5.2.1 (And.intro hS5.2.2.1 (And.intro hS5.2.2.2.1 q1)))
      refine hK _ _ (fun _ => hS6) ?_
      clear hK K
      try simp only [Act.put, List.setIfInBounds_toArray, List.set_cons_zero, List.set_cons_succ]
      refine upto_take (i := 29) (v := ?_) rfl (by kernel_rfl) (by kernel_rfl) (by kernel_rfl) (by kernel_rfl) (fun _ _ _ h => h) (by rfl) hS6 ?_ ?_
      rotate_left
      · intro wS hSw
        try dsimp only at hSw
        first | (go_simp; done) | (go_simp; with_reducible rfl)
      try simp only [Act.put, List.setIfInBounds_toArray, List.set_cons_zero, List.set_cons_succ]
      refine upto_step (i := 30) (by kernel_rfl) rfl ?_
      intro K hK
      go_simp
      refine hK _ _ (fun h => absurd rfl h) ?_
      clear hK K
      refine upto_done (by kernel_rfl) ?_
      refine NoPanic.normal ?_
      have hz5 : w.heap.size + 2 ≤ w5.heap.size := Nat.le_trans hz hw5.size
      have HO5 : Hid (World.ownsRow w5 (w.heap.size + 2) 110 4 (.slice p5 (ys ++ [(⟨p0, p1, p2, am⟩ : Leg)]).length c5) (ys ++ [(⟨p0, p1, p2, am⟩ : Leg)]).length (legsC (ys ++ [⟨p0, p1, p2, am⟩]))) := o5
      have HB5 : Hid (Below w.heap.size w w5) := hb5
      clear hS hS5 hS6 o5 hg5 hB5 hw5 hb5
      go_wp2
      refine ⟨⟨k + 1, t + 11, .slice p5 (ys ++ [(⟨p0, p1, p2, am⟩ : Leg)]).length c5, ?_, ?_, by go_num, ?_⟩, by simp [intOf]; omega⟩
      · have := HT.out; have := HLEN.out; omega
      · have := HT.out; omega
      · rw [HL.out]
        refine ⟨⟨?_, ?_⟩, ⟨?_, ?_⟩, ⟨fun o => ?_, fun o => ?_⟩, by simp; omega, ?_, HB5.out.setCell (by simp) _⟩
        · rw [set_other (by simp)]; exact q0
        · exact (by simpa using set_same q1)
        · rw [set_other (by simp)]; exact q2
        · rw [set_other (by simp)]; exact q3
        · simp [q4]
        · simp [q5]
        · exact owns_setCell HO5.out (by simp) _
    · have hkn : k = n := by have := HT.out; have := HLEN.out; omega
      subst hkn
      have HC : Hid (unCont xs = ⟨id, unLegs xs k⟩) := by unfold Hid; rw [HID.out, HN.out]
      have hLV : LegsV wr (.slice pv (unLegs xs k).length qv) (unLegs xs k) := LegsV_of_owns ho
      have HO : Hid (World.ownsRow wr (w.heap.size + 2) 110 4 (.slice pv (unLegs xs k).length qv) (unLegs xs k).length (legsC (unLegs xs k))) := ho
      have h0 := And.intro hbl (And.intro d0 d1)
      have hz0 : w.heap.size < wr.drew.heap.size := by show w.heap.size < wr.heap.size; omega
      clear HID HN ht hk hx ho
      generalize unLegs xs k = ys at *
      go_wp2
      go_region_held3 (fun w' => Below w.heap.size w w' ∧ w'.cell? ⟨w.heap.size + 1, 0, none⟩ = some (.int .i64 id) ∧ w'.cell? ⟨w.heap.size + 1, 1, none⟩ = some (.slice pv ys.length qv)) ((first | exact keepS2 h0 (Below.drew (Below.refl _ _)) | exact hS3 | exact unKeep hS3 _ _)) (first | (go_at_call 36; refine (specFault_any id _ ys _ ?_).mono ?_; (focus (exact LegsV_below hLV (Below.drew (Below.refl _ _)))); rintro e w3 ⟨rfl, hb3⟩; have hS3 := keepS2 (keepS2 h0 (Below.drew (Below.refl _ _))) hb3; have e0 := cell_keep hb3 (cell_keep (Below.drew (Below.refl _ _)) r0); have e1 := cell_keep hb3 (cell_keep (Below.drew (Below.refl _ _)) r1); have e2 := fun o => ((bcell hb3).2 w.heap.size o hz0).trans (fr o)))
      have hS4 := (unKeep hS3 (.int .i64 id) (.slice pv ys.length qv)).1
      have HS4 : Hid (Below w.heap.size w ((w3.setCell ⟨w.heap.size, 0, none⟩ (.int .i64 id)).setCell ⟨w.heap.size, 1, none⟩ (.slice pv ys.length qv))) := hS4
      have HO3 : Hid (World.ownsRow w3 (w.heap.size + 2) 110 4 (.slice pv ys.length qv) ys.length (legsC ys)) := owns_below (owns_below HO.out (Below.drew (Below.refl _ _))) hb3
      clear hS4 hS3 hb3 h0 hLV
      go_wp2
      refine bodyPost_ret (v := .tuple #[.agg #[.int .i64 id, .slice pv ys.length qv], .bool (contractFault id ys == 0)]) (by simp [results, Tryz.results76, go_sem, e0, e1]) rfl ?_
      rw [HC.out]
      exact ⟨_, fun b => (Value.slice pv ys.length qv).ownBlock = some b, rfl, ⟨owns_base (owns_setCell (owns_setCell HO3.out (by simp) _) (by simp) _) (by omega), rfl⟩, HS4.out⟩
set_option maxHeartbeats 2000000 in
theorem l3Uncontract_bad (x : Value) (xs : List Byte) (w : World) (hx : bytesR.V w x xs) (h : ¬ (8 ≤ xs.length ∧ (xs.length - 8) % 11 = 0 ∧ xs.length ≤ 96)) :
    Calls Tryz.prog 76 #[x] w fun e w' => e = .returned (.tuple #[.agg #[.int .i64 0, .slice none 0 0], .bool false]) ∧ Below w.heap.size w w' := by
  obtain ⟨ax, cx, rfl, hcx, hmx, _⟩ := hx
  unfold maxLen at hmx
  generalize xs.length = n at *
  have c4 : IntKind.i64.wrap ((n : Int) - 8) = n - 8 := by rw [IntKind.wrap_i64]; omega
  by_cases h1 : n < 8
  · go_enter Tryz.func76, Tryz.ntmps76
    go_wp2
    exact bodyPost_ret (v := .tuple #[.agg #[.int .i64 0, .slice none 0 0], .bool false]) (by simp [results, Tryz.results76, go_sem]) rfl ⟨rfl, by (repeat (first | exact Below.refl _ _ | assumption | refine Below.drew ?_ | refine balloc ?_ _ | refine bset ?_ (by simp; omega) _ | refine bset ?_ (by simp) _ | refine bstep ?_ (by assumption)))⟩
  · obtain ⟨q, hq⟩ : ∃ q, ((n : Int) - 8).tmod 11 = q := ⟨_, rfl⟩
    have hq2 : q = ((n : Int) - 8) % 11 := by rw [← hq, Int.tmod_eq_emod_of_nonneg (by omega)]
    have HQ : Hid (q = ((n : Int) - 8) % 11) := hq2
    have hq3 : ((n : Int) - 8) % 11 = q := hq2.symm
    clear hq2
    by_cases h2 : q = 0
    · have h3 : 96 < n := by have := HQ.out; omega
      subst h2
      go_enter Tryz.func76, Tryz.ntmps76
      go_wp2
      exact bodyPost_ret (v := .tuple #[.agg #[.int .i64 0, .slice none 0 0], .bool false]) (by simp [results, Tryz.results76, go_sem]) rfl ⟨rfl, by (repeat (first | exact Below.refl _ _ | assumption | refine Below.drew ?_ | refine balloc ?_ _ | refine bset ?_ (by simp; omega) _ | refine bset ?_ (by simp) _ | refine bstep ?_ (by assumption)))⟩
    · have hd : (q == 0) = false := by simpa using h2
      go_enter Tryz.func76, Tryz.ntmps76
      go_wp2
      all_goals exact bodyPost_ret (v := .tuple #[.agg #[.int .i64 0, .slice none 0 0], .bool false]) (by simp [results, Tryz.results76, go_sem]) rfl ⟨rfl, by (repeat (first | exact Below.refl _ _ | assumption | refine Below.drew ?_ | refine balloc ?_ _ | refine bset ?_ (by simp; omega) _ | refine bset ?_ (by simp) _ | refine bstep ?_ (by assumption)))⟩
end Go.Proofs.YtecfelacdapdgaaGreat

/-
  A contract read out of bytes: the program's side.
-/
namespace Go.Proofs.YtecfelacdapdgaaGreat
open Go.RowKit
set_option linter.unusedSectionVars false
variable [DecidableEq Leg] [Inhabited Leg] [DecidableEq Cont] [Inhabited Cont] [DecidableEq ContR] [Inhabited ContR]
set_option linter.unusedSimpArgs false
attribute [local go_sem ↓] Go.wp_at_zero Go.wp_at_succ

set_option maxHeartbeats 2000000 in
theorem legIn_any (x : Value) (ys : List Byte) (w : World) (hx : BytesV w x ys) (hn : ys.length = 11) :
    Calls Tryz.prog 121 #[x] w fun e w' => e = .returned (.agg #[.int .i64 ((ys.getD 0 0).val : Int), .int .i64 ((ys.getD 1 0).val : Int), .int .i64 ((ys.getD 2 0).val : Int), .int .i64 (IntKind.i64.wrap (hiN (ys.drop 3)))]) ∧ Below w.heap.size w w' := by
  have hX := hx
  obtain ⟨ax, cx, rfl, hcx, hmx, hx⟩ := hx
  unfold maxLen at hmx
  obtain ⟨b, o, rfl, g0⟩ := hx 0 (by omega)
  obtain ⟨b', o', e, g1⟩ := hx 1 (by omega)
  simp only [Option.some.injEq, Addr.mk.injEq, and_true] at e
  obtain ⟨rfl, rfl⟩ := e
  obtain ⟨b', o', e, g2⟩ := hx 2 (by omega)
  simp only [Option.some.injEq, Addr.mk.injEq, and_true] at e
  obtain ⟨rfl, rfl⟩ := e
  have l0 := byte_lt (ys.getD 0 0)
  have l1 := byte_lt (ys.getD 1 0)
  have l2 := byte_lt (ys.getD 2 0)
  have hV3 := bytes_cut hX 3 11 (by omega) (by omega)
  rw [if_neg (by omega)] at hV3
  simp only [Option.map_some, Nat.mul_one, addP] at hV3
  rw [show (ys.drop 3).take (11 - 3) = ys.drop 3 from List.take_of_length_le (by rw [List.length_drop]; omega)] at hV3
  rw [hn] at hX hcx ⊢
  generalize ((ys.getD 0 0).val : Int) = p0 at *
  generalize ((ys.getD 1 0).val : Int) = p1 at *
  generalize ((ys.getD 2 0).val : Int) = p2 at *
  obtain ⟨am, ham⟩ : ∃ am, IntKind.i64.wrap (hiN (ys.drop 3)) = am := ⟨_, rfl⟩
  rw [ham]
  have w0 : IntKind.i64.wrap p0 = p0 := by rw [IntKind.wrap_i64]; omega
  have w1 : IntKind.i64.wrap p1 = p1 := by rw [IntKind.wrap_i64]; omega
  have w2 : IntKind.i64.wrap p2 = p2 := by rw [IntKind.wrap_i64]; omega
  have j5 : ¬ cx = 3 := by omega
  clear hx hX hn
  go_enter Tryz.func121, Tryz.ntmps121
  go_wp2
  go_region_held3 (fun w' => Below w.heap.size w w' ∧ w'.cell? ⟨b, o, none⟩ = some (.int .u8 p0) ∧ w'.cell? ⟨b, o + 1, none⟩ = some (.int .u8 p1) ∧ w'.cell? ⟨b, o + 2, none⟩ = some (.int .u8 p2)) ((refine keepN3 ?_ g0 g1 g2; (repeat (first | exact Below.refl _ _ | assumption | refine Below.drew ?_ | refine balloc ?_ _ | refine bset ?_ (by simp; omega) _ | refine bset ?_ (by simp) _ | refine bstep ?_ (by assumption))))) (first | (go_at_call 103; refine (numberIn_any _ (ys.drop 3) _ ?_).mono ?_; (focus (exact BytesV_below hV3 (by (repeat (first | exact Below.refl _ _ | assumption | refine Below.drew ?_ | refine balloc ?_ _ | refine bset ?_ (by simp; omega) _ | refine bset ?_ (by simp) _ | refine bstep ?_ (by assumption)))))); rintro e w3 ⟨rfl, rfl⟩; rw [ham]))
  all_goals
    rename_i hH
    have hB := hH.1
    clear hH
    go_wp2
    exact bodyPost_ret (v := .agg #[.int .i64 p0, .int .i64 p1, .int .i64 p2, .int .i64 am]) (by simp [results, Tryz.results121, go_sem]) rfl ⟨rfl, hB⟩
set_option maxHeartbeats 4000000 in
theorem contractIn_any (x : Value) (xs : List Byte) (w : World) (hx : bytesR.V w x xs) (h8 : 8 ≤ xs.length) (h11 : (xs.length - 8) % 11 = 0) (h96 : xs.length ≤ 96) :
    Calls Tryz.prog 102 #[x] w fun e w' => ∃ v F, e = .returned (.agg #[.int .i64 (unCont xs).id, v]) ∧ legsR.O w' w.heap.size F v (unCont xs).legs ∧ Below w.heap.size w w' := by
  have hX := hx
  obtain ⟨ax, cx, rfl, hcx, hmx, hx⟩ := hx
  unfold maxLen at hmx
  obtain ⟨b, o, rfl, _⟩ := hx 0 (by omega)
  obtain ⟨id, hid⟩ : ∃ id, IntKind.i64.wrap (hiN (xs.take 8)) = id := ⟨_, rfl⟩
  have HID : Hid (unCont xs = ⟨id, unLegs xs ((xs.length - 8) / 11)⟩) := by unfold Hid unCont; rw [hid]
  obtain ⟨n, hn⟩ : ∃ n, (xs.length - 8) / 11 = n := ⟨_, rfl⟩
  have hlen : xs.length = 8 + 11 * n := by omega
  have HLEN : Hid (xs.length = 8 + 11 * n) := hlen
  have HN : Hid ((xs.length - 8) / 11 = n) := hn
  have hV8 := bytes_cut hX 0 8 (by omega) (by omega)
  simp only [Option.map_some, Nat.mul_one, addP, Nat.zero_mul, Nat.sub_zero, List.drop_zero, Nat.add_zero, ite_self] at hV8
  clear hn hlen
  go_enter Tryz.func102, Tryz.ntmps102
  go_wp2_with fail
  refine (numberIn_any _ (xs.take 8) _ (BytesV_below hV8 (by (repeat (first | exact Below.refl _ _ | assumption | refine Below.drew ?_ | refine balloc ?_ _ | refine bset ?_ (by simp; omega) _ | refine bset ?_ (by simp) _ | refine bstep ?_ (by assumption)))))).mono ?_
  rintro e w1 ⟨rfl, rfl⟩
  rw [hid]
  clear hV8 hid
  go_wp2
  go_loopw [4] (fun i w' => ∃ (k t : Nat) (v : Value), k ≤ n ∧ t = 8 + 11 * k ∧ i = .int .i64 t ∧ UnSt w w' id v (unLegs xs k)) (fun i _ => xs.length - (intOf i).toNat)
  case atStart =>
    refine ⟨0, 8, .slice none 0 0, by omega, by omega, rfl, ⟨by simp [go_sem], by simp [go_sem]⟩, ⟨by simp [go_sem], by simp [go_sem]⟩, ⟨fun o => by simp [go_sem], fun o => by simp [go_sem]⟩, by simp, ?_, by (repeat (first | exact Below.refl _ _ | assumption | refine Below.drew ?_ | refine balloc ?_ _ | refine bset ?_ (by simp; omega) _ | refine bset ?_ (by simp) _ | refine bstep ?_ (by assumption)))⟩
    have : unLegs xs 0 = [] := rfl
    rw [this]
    exact World.ownsRow_nil _ _ _ _
  case round =>
    obtain ⟨k, t, v, hk, ht, rfl, ⟨d0, d1⟩, ⟨r0, r1⟩, ⟨fr, fd⟩, hz, ho, hbl⟩ := hrel
    have HT : Hid (k ≤ n ∧ t = 8 + 11 * k) := ⟨hk, ht⟩
    obtain ⟨pv, qv, rfl⟩ := owns_form ho
    have hzr := World.block_lt_of_cell? _ _ d0
    dsimp only at hzr
    by_cases hlt : t < xs.length
    · have hlt11 : t + 11 ≤ xs.length := by have := HLEN.out; omega
      have hV3 := bytes_cut hX t (t + 11) (by omega) (by omega)
      rw [if_neg (by omega)] at hV3
      simp only [Option.map_some, Nat.mul_one, addP] at hV3
      rw [show t + 11 - t = 11 by omega] at hV3
      obtain ⟨zs, hzs⟩ : ∃ zs, (xs.drop t).take 11 = zs := ⟨_, rfl⟩
      rw [hzs] at hV3
      have hzl : zs.length = 11 := by rw [← hzs, List.length_take, List.length_drop]; omega
      obtain ⟨l, hl⟩ : ∃ l : Leg, l = ⟨((zs.getD 0 0).val : Int), ((zs.getD 1 0).val : Int), ((zs.getD 2 0).val : Int), IntKind.i64.wrap (hiN (zs.drop 3))⟩ := ⟨_, rfl⟩
      have HL : Hid (unLegs xs (k + 1) = unLegs xs k ++ [l]) := by
        unfold Hid
        rw [unLegs_succ, ← ht, hl, ← hzs]
        congr 2
        unfold unLeg
        congr 1
        · simp [List.getD]
        · simp [List.getD]
        · simp [List.getD]
        · rw [List.drop_take, List.drop_drop]
      have hCk : ∀ W : World, Below w.heap.size w W → Calls Tryz.prog 121 #[.slice (some ⟨b, o + t, none⟩) 11 (cx - t)] W fun e w' => e = .returned (.agg #[.int .i64 l.sh, .int .i64 l.ac, .int .i64 l.ast, .int .i64 l.am]) ∧ Below W.heap.size W w' := fun W hW => by
        rw [hl]
        exact legIn_any _ zs W (BytesV_below hV3 hW) hzl
      have hol : (unLegs xs k).length ≤ 1048576 := by rw [length_unLegs]; have := HLEN.out; omega
      have y4 : IntKind.i64.wrap ((t : Int) + 11) = t + 11 := by rw [IntKind.wrap_i64]; omega
      have i4 : ((t : Int) + 11).toNat = t + 11 := by omega
      have j0 : (0 : Int) ≤ (t : Int) := by omega
      have j1 : (t : Int) < (xs.length : Int) := by omega
      have j4 : (t : Int) + 11 ≤ (cx : Int) := by omega
      have j5 : ¬ cx = t := by omega
      have j9 : (t : Int) ≤ (t : Int) + 11 := by omega
      have hle : w.heap.size ≤ w.heap.size + 2 := by omega
      have hlt0 : (⟨w.heap.size, 0, none⟩ : Addr).block < w.heap.size + 2 := by simp
      have hlt1 : (⟨w.heap.size + 1, 0, none⟩ : Addr).block < w.heap.size + 2 := by simp
      generalize unLegs xs k = ys at *
      clear hl hzs hV3 ht hk hx
      go_wp2
      refine wp_region_noPanic ?_
      refine region_upto (fun w' => Below w.heap.size w w' ∧ w'.cell? ⟨w.heap.size + 1, 1, none⟩ = some (.slice pv ys.length qv)) 11 (by kernel_rfl) ⟨Below.drew hbl, cell_keep (Below.drew (Below.refl _ _)) d1⟩ (fun hS => ?_)
      refine upto_take (i := 0) (v := ?_) rfl (by kernel_rfl) (by kernel_rfl) (by kernel_rfl) (by kernel_rfl) (fun _ _ _ h => h) (by rfl) hS ?_ ?_
      rotate_left
      · intro wS hSw
        try dsimp only at hSw
        first | (go_simp; done) | (go_simp; with_reducible rfl)
      try simp only [Act.put, List.setIfInBounds_toArray, List.set_cons_zero, List.set_cons_succ]
      refine upto_take (i := 1) (v := ?_) rfl (by kernel_rfl) (by kernel_rfl) (by kernel_rfl) (by kernel_rfl) (fun _ _ _ h => h) (by rfl) hS ?_ ?_
      rotate_left
      · intro wS hSw
        try dsimp only at hSw
        first | (go_simp; done) | (go_simp; with_reducible rfl)
      try simp only [Act.put, List.setIfInBounds_toArray, List.set_cons_zero, List.set_cons_succ]
      refine upto_take (i := 2) (v := ?_) rfl (by kernel_rfl) (by kernel_rfl) (by kernel_rfl) (by kernel_rfl) (fun _ _ _ h => h) (by rfl) hS ?_ ?_
      rotate_left
      · intro wS hSw
        try dsimp only at hSw
        first | (go_simp; done) | (go_simp; with_reducible rfl)
      try simp only [Act.put, List.setIfInBounds_toArray, List.set_cons_zero, List.set_cons_succ]
      refine upto_take (i := 3) (v := ?_) rfl (by kernel_rfl) (by kernel_rfl) (by kernel_rfl) (by kernel_rfl) (fun _ _ _ h => h) (by rfl) hS ?_ ?_
      rotate_left
      · intro wS hSw
        try dsimp only at hSw
        first | (go_simp; done) | (go_simp; with_reducible rfl)
      try simp only [Act.put, List.setIfInBounds_toArray, List.set_cons_zero, List.set_cons_succ]
      refine upto_take (i := 4) (v := ?_) rfl (by kernel_rfl) (by kernel_rfl) (by kernel_rfl) (by kernel_rfl) (fun _ _ _ h => h) (by rfl) hS ?_ ?_
      rotate_left
      · intro wS hSw
        try dsimp only at hSw
        first | (go_simp; done) | (go_simp; with_reducible rfl)
      try simp only [Act.put, List.setIfInBounds_toArray, List.set_cons_zero, List.set_cons_succ]
      refine upto_take (i := 5) (v := ?_) rfl (by kernel_rfl) (by kernel_rfl) (by kernel_rfl) (by kernel_rfl) (fun _ _ _ h => h) (by rfl) hS ?_ ?_
      rotate_left
      · intro wS hSw
        try dsimp only at hSw
        first | (go_simp; done) | (go_simp; with_reducible rfl)
      try simp only [Act.put, List.setIfInBounds_toArray, List.set_cons_zero, List.set_cons_succ]
      refine upto_take (i := 6) (v := ?_) rfl (by kernel_rfl) (by kernel_rfl) (by kernel_rfl) (by kernel_rfl) (fun _ _ _ h => h) (by rfl) hS ?_ ?_
      rotate_left
      · intro wS hSw
        try dsimp only at hSw
        first | (go_simp; done) | (go_simp; with_reducible rfl)
      try simp only [Act.put, List.setIfInBounds_toArray, List.set_cons_zero, List.set_cons_succ]
      refine upto_step (i := 7) (by kernel_rfl) rfl ?_
      intro K hK
      go_simp
      refine (hCk _ (Below.drew hbl)).mono ?_
      rintro e w3 ⟨rfl, hb3⟩
      have hS3 := And.intro (bstep hS.1 hb3) (cell_keep hb3 hS.2)
      have hbr : Below wr.heap.size wr w3 := bstep (Below.drew (Below.refl _ _)) hb3
      have hz3 := hbr.size
      refine hK _ _ (fun _ => hS3) ?_
      clear hK K
      try simp only [Act.put, List.setIfInBounds_toArray, List.set_cons_zero, List.set_cons_succ]
      refine upto_step (i := 8) (by kernel_rfl) rfl ?_
      intro K hK
      go_simp
      refine hK _ _ (fun _ => ⟨balloc hS3.1 _, cell_keep (balloc (Below.refl _ _) _) hS3.2⟩) ?_
      clear hK K
      try simp only [Act.put, List.setIfInBounds_toArray, List.set_cons_zero, List.set_cons_succ]
      refine upto_step (i := 9) (by kernel_rfl) rfl ?_
      intro K hK
      refine step_pushLeg _ rfl _ _ rfl (w.heap.size + 2) _ ys rfl l _ rfl (owns_below ho (balloc hbr _)) ?_ hol ?_ ?_
      · exact appAny_leg (g := w3.heap.size) (by simp [go_sem]) (by simp [go_sem]) (by simp [go_sem]) (by simp [go_sem])
      · simp; omega
      intro v5 w5 o5 hg5 hB5
      obtain ⟨p5, c5, rfl⟩ := owns_form o5
      have hw5 := hB5 wr ((balloc hbr _).mono hz)
      have hb5 := hbl.trans (hw5.mono hle)
      have q0 := (hw5.cell (p := ⟨w.heap.size + 1, 0, none⟩) hlt1).trans d0
      have q1 := (hw5.cell (p := ⟨w.heap.size + 1, 1, none⟩) hlt1).trans d1
      have q2 := (hw5.cell (p := ⟨w.heap.size, 0, none⟩) hlt0).trans r0
      have q3 := (hw5.cell (p := ⟨w.heap.size, 1, none⟩) hlt0).trans r1
      have q4 := fun o => (hw5.frozen (p := ⟨w.heap.size, o, none⟩) hlt0).trans (fr o)
      have q5 := fun o => (hw5.frozen (p := ⟨w.heap.size + 1, o, none⟩) hlt1).trans (fd o)
      have hS6 := And.intro hb5 q1
      refine hK _ _ (fun _ => hS6) ?_
      clear hK K
      try simp only [Act.put, List.setIfInBounds_toArray, List.set_cons_zero, List.set_cons_succ]
      refine upto_take (i := 10) (v := ?_) rfl (by kernel_rfl) (by kernel_rfl) (by kernel_rfl) (by kernel_rfl) (fun _ _ _ h => h) (by rfl) hS6 ?_ ?_
      rotate_left
      · intro wS hSw
        try dsimp only at hSw
        first | (go_simp; done) | (go_simp; with_reducible rfl)
      try simp only [Act.put, List.setIfInBounds_toArray, List.set_cons_zero, List.set_cons_succ]
      refine upto_step (i := 11) (by kernel_rfl) rfl ?_
      intro K hK
      go_simp
      refine hK _ _ (fun h => absurd rfl h) ?_
      clear hK K
      refine upto_done (by kernel_rfl) ?_
      refine NoPanic.normal ?_
      have hz5 : w.heap.size + 2 ≤ w5.heap.size := Nat.le_trans hz hw5.size
      have HO5 : Hid (World.ownsRow w5 (w.heap.size + 2) 110 4 (.slice p5 (ys ++ [l]).length c5) (ys ++ [l]).length (legsC (ys ++ [l]))) := o5
      have HB5 : Hid (Below w.heap.size w w5) := hb5
      clear hS hS3 hS6 o5 hg5 hB5 hw5 hb5 hb3 hbr hCk
      go_wp2
      refine ⟨⟨k + 1, t + 11, .slice p5 (ys ++ [l]).length c5, ?_, ?_, by go_num, ?_⟩, by simp [intOf]; omega⟩
      · have := HT.out; have := HLEN.out; omega
      · have := HT.out; omega
      · rw [HL.out]
        refine ⟨⟨?_, ?_⟩, ⟨?_, ?_⟩, ⟨fun o => ?_, fun o => ?_⟩, by simp; omega, ?_, HB5.out.setCell (by simp) _⟩
        · rw [set_other (by simp)]; exact q0
        · exact (by simpa using set_same q1)
        · rw [set_other (by simp)]; exact q2
        · rw [set_other (by simp)]; exact q3
        · simp [q4]
        · simp [q5]
        · exact owns_setCell HO5.out (by simp) _
    · have hkn : k = n := by have := HT.out; have := HLEN.out; omega
      subst hkn
      have HC : Hid (unCont xs = ⟨id, unLegs xs k⟩) := by unfold Hid; rw [HID.out, HN.out]
      have HO : Hid (World.ownsRow wr (w.heap.size + 2) 110 4 (.slice pv (unLegs xs k).length qv) (unLegs xs k).length (legsC (unLegs xs k))) := ho
      clear HID HN ht hk hx ho
      generalize unLegs xs k = ys at *
      go_wp2
      refine bodyPost_ret (v := .agg #[.int .i64 id, .slice pv ys.length qv]) (by simp [results, Tryz.results102, go_sem, r0, r1]) rfl ?_
      rw [HC.out]
      exact ⟨_, fun b => (Value.slice pv ys.length qv).ownBlock = some b, rfl, ⟨owns_base (owns_setCell (owns_setCell HO.out (by simp) _) (by simp) _) (by omega), rfl⟩, by (repeat (first | exact Below.refl _ _ | assumption | refine Below.drew ?_ | refine balloc ?_ _ | refine bset ?_ (by simp; omega) _ | refine bset ?_ (by simp) _ | refine bstep ?_ (by assumption)))⟩
end Go.Proofs.YtecfelacdapdgaaGreat

/-
  UnpackContract on both sides.
-/
namespace Go.Proofs.YtecfelacdapdgaaGreat
open Go.RowKit
set_option linter.unusedSectionVars false
variable [DecidableEq Leg] [Inhabited Leg] [DecidableEq Cont] [Inhabited Cont] [DecidableEq ContR] [Inhabited ContR]
set_option linter.unusedSimpArgs false
attribute [local go_sem ↓] Go.wp_at_zero Go.wp_at_succ

def unpD (xs : List Byte) : ContR := if (8 ≤ xs.length ∧ (xs.length - 8) % 11 = 0 ∧ xs.length ≤ 96) ∧ contractFault (unCont xs).id (unCont xs).legs = 0 then ⟨0, unCont xs⟩ else ⟨5, ⟨0, []⟩⟩
theorem contR_nil (w : World) (base : Nat) : contRR.O w base none_ (.agg #[.int .i64 5, .int .i64 0, .slice none 0 0]) ⟨5, ⟨0, []⟩⟩ :=
  ⟨.slice none 0 0, none_, rfl, ⟨.slice none 0 0, none_, rfl, ⟨by simpa [legsC] using World.ownsRow_nil w base 110 4, by funext b; simp [none_, Value.ownBlock]⟩, fun b => Iff.rfl⟩, fun b => Iff.rfl⟩
set_option maxHeartbeats 1000000 in
theorem isSize_any (n : Nat) (w : World) (hn : n ≤ 9223372036854775807) :
    Calls Tryz.prog 101 #[.int .i64 n] w fun e w' => e = .returned (.bool (decide (8 ≤ n ∧ (n - 8) % 11 = 0 ∧ n ≤ 96))) ∧ w' = w := by
  have c4 : IntKind.i64.wrap ((n : Int) - 8) = n - 8 := by rw [IntKind.wrap_i64]; omega
  by_cases h1 : n < 8
  · have HR : Hid (decide (8 ≤ n ∧ (n - 8) % 11 = 0 ∧ n ≤ 96) = false) := by unfold Hid; simp; omega
    have d1 : decide ((0 : Int) ≤ (n : Int) - 8) = false := by simp; omega
    rw [HR.out]
    go_enter Tryz.func101, Tryz.ntmps101
    go_wp2
    go_ret
    exact ⟨rfl, rfl⟩
  · by_cases h2 : n ≤ 96
    · obtain ⟨q, hq⟩ : ∃ q, ((n : Int) - 8).tmod 11 = q := ⟨_, rfl⟩
      have hq2 : q = ((n : Int) - 8) % 11 := by rw [← hq, Int.tmod_eq_emod_of_nonneg (by omega)]
      have hq3 := hq2.symm
      have HR : Hid (decide (8 ≤ n ∧ (n - 8) % 11 = 0 ∧ n ≤ 96) = (q == 0)) := by
        unfold Hid
        by_cases h3 : q = 0
        · have h4 : 8 ≤ n ∧ (n - 8) % 11 = 0 ∧ n ≤ 96 := by omega
          rw [decide_eq_true h4, h3]
          rfl
        · have h4 : ¬ (8 ≤ n ∧ (n - 8) % 11 = 0 ∧ n ≤ 96) := by omega
          rw [decide_eq_false h4]
          simp [h3]
      have d1 : decide ((0 : Int) ≤ (n : Int) - 8) = true := by simp; omega
      have d2 : decide ((n : Int) - 8 ≤ 88) = true := by simp; omega
      rw [HR.out]
      clear hq2
      go_enter Tryz.func101, Tryz.ntmps101
      go_wp2
      go_ret
      exact ⟨rfl, rfl⟩
    · have HR : Hid (decide (8 ≤ n ∧ (n - 8) % 11 = 0 ∧ n ≤ 96) = false) := by unfold Hid; simp; omega
      have d1 : decide ((0 : Int) ≤ (n : Int) - 8) = true := by simp; omega
      have d2 : decide ((n : Int) - 8 ≤ 88) = false := by simp; omega
      rw [HR.out]
      go_enter Tryz.func101, Tryz.ntmps101
      go_wp2
      go_ret
      exact ⟨rfl, rfl⟩
theorem setKeep {w : World} {base : Nat} {F : Nat → Prop} {v : Value} {ys : List Leg} (h : legsR.O w base F v ys) {g : Nat} (hg : g < base) (a b c : Value) :
    legsR.O (((w.setCell ⟨g, 0, none⟩ a).setCell ⟨g, 1, none⟩ b).setCell ⟨g, 2, none⟩ c) base F v ys := legsR.set (legsR.set (legsR.set h _ hg) _ hg) _ hg
set_option maxHeartbeats 2000000 in
theorem implUnpC_u (x : Value) (xs : List Byte) (w : World) (hx : bytesR.V w x xs) :
    Calls Tryz.prog 78 #[x] w fun e w' => ∃ v F, e = .returned v ∧ contRR.O w' w.heap.size F v (unpD xs) ∧ Below w.heap.size w w' := by
  have hX := hx
  obtain ⟨ax, cx, rfl, hcx, hmx, _⟩ := hx
  unfold maxLen at hmx
  go_enter Tryz.func78, Tryz.ntmps78
  go_wp2_with fail
  refine (isSize_any xs.length _ (by omega)).mono ?_
  rintro e w0 ⟨rfl, rfl⟩
  by_cases h : 8 ≤ xs.length ∧ (xs.length - 8) % 11 = 0 ∧ xs.length ≤ 96
  · have e0 : decide (8 ≤ xs.length ∧ (xs.length - 8) % 11 = 0 ∧ xs.length ≤ 96) = true := by simpa using h
    rw [e0]
    clear e0
    go_wp2_with fail
    refine (contractIn_any _ xs _ (bytesR.below hX (by (repeat (first | exact Below.refl _ _ | assumption | refine Below.drew ?_ | refine balloc ?_ _ | refine bset ?_ (by simp; omega) _ | refine bset ?_ (by simp) _ | refine bstep ?_ (by assumption))))) h.1 h.2.1 h.2.2).mono ?_
    rintro e w1 ⟨v, F, rfl, ho, hb⟩
    obtain ⟨p, q, rfl⟩ := legs_form (legsR.ofO ho)
    have hr0 : w1.cell? ⟨w.heap.size, 0, none⟩ = some (.int .i64 0) := cell_keep hb (by simp [go_sem])
    have hr1 : w1.cell? ⟨w.heap.size, 1, none⟩ = some (.int .i64 0) := cell_keep hb (by simp [go_sem])
    have hr2 : w1.cell? ⟨w.heap.size, 2, none⟩ = some (.slice none 0 0) := cell_keep hb (by simp [go_sem])
    have hrf := (boxNew3 hb rfl).2.2.2
    have hB : Below w.heap.size w w1 := by (repeat (first | exact Below.refl _ _ | assumption | refine Below.drew ?_ | refine balloc ?_ _ | refine bset ?_ (by simp; omega) _ | refine bset ?_ (by simp) _ | refine bstep ?_ (by assumption)))
    have ho' := legsR.base (base' := w.heap.size + 1) ho (by simp)
    clear ho hb
    go_wp2_with fail
    refine (implFault_any (unCont xs).id _ (unCont xs).legs _ (LegsV_below (legsR.ofO ho') (by (repeat (first | exact Below.refl _ _ | assumption | refine Below.drew ?_ | refine balloc ?_ _ | refine bset ?_ (by simp; omega) _ | refine bset ?_ (by simp) _ | refine bstep ?_ (by assumption)))))).mono ?_
    rintro e w2 ⟨rfl, hb2⟩
    have d0 : w2.cell? ⟨w1.heap.size, 0, none⟩ = some (.int .i64 (unCont xs).id) := cell_keep hb2 (by simp [go_sem])
    have d1 : w2.cell? ⟨w1.heap.size, 1, none⟩ = some (.slice p (unCont xs).legs.length q) := cell_keep hb2 (by simp [go_sem])
    replace hr0 := cell_keep hb2 (cell_keep (by (repeat (first | exact Below.refl _ _ | assumption | refine Below.drew ?_ | refine balloc ?_ _ | refine bset ?_ (by simp; omega) _ | refine bset ?_ (by simp) _ | refine bstep ?_ (by assumption)))) hr0)
    replace hr1 := cell_keep hb2 (cell_keep (by (repeat (first | exact Below.refl _ _ | assumption | refine Below.drew ?_ | refine balloc ?_ _ | refine bset ?_ (by simp; omega) _ | refine bset ?_ (by simp) _ | refine bstep ?_ (by assumption)))) hr1)
    replace hr2 := cell_keep hb2 (cell_keep (by (repeat (first | exact Below.refl _ _ | assumption | refine Below.drew ?_ | refine balloc ?_ _ | refine bset ?_ (by simp; omega) _ | refine bset ?_ (by simp) _ | refine bstep ?_ (by assumption)))) hr2)
    obtain ⟨hrf, hlt⟩ := boxKeep (boxKeep hrf (by (repeat (first | exact Below.refl _ _ | assumption | refine Below.drew ?_ | refine balloc ?_ _ | refine bset ?_ (by simp; omega) _ | refine bset ?_ (by simp) _ | refine bstep ?_ (by assumption))))) hb2
    have hB2 : Below w.heap.size w w2 := by (repeat (first | exact Below.refl _ _ | assumption | refine Below.drew ?_ | refine balloc ?_ _ | refine bset ?_ (by simp; omega) _ | refine bset ?_ (by simp) _ | refine bstep ?_ (by assumption)))
    replace ho' := legsR.keep (legsR.alloc ho' _) hb2
    clear hb2
    by_cases hc : contractFault (unCont xs).id (unCont xs).legs = 0
    · have HD : Hid (unpD xs = ⟨0, unCont xs⟩) := if_pos ⟨h, hc⟩
      rw [hc]
      clear hc
      go_wp2
      refine bodyPost_ret (v := .agg #[.int .i64 0, .int .i64 (unCont xs).id, .slice p (unCont xs).legs.length q]) (by simp [results, Tryz.results78, go_sem, hr0, hr1, hr2]) rfl ?_
      rw [HD.out]
      exact ⟨_, F, rfl, ⟨_, F, rfl, ⟨_, F, rfl, legsR.base (setKeep ho' (by omega) _ _ _) (by omega), fun b => Iff.rfl⟩, fun b => Iff.rfl⟩, by (repeat (first | exact Below.refl _ _ | assumption | refine Below.drew ?_ | refine balloc ?_ _ | refine bset ?_ (by simp; omega) _ | refine bset ?_ (by simp) _ | refine bstep ?_ (by assumption)))⟩
    · have HD : Hid (unpD xs = ⟨5, ⟨0, []⟩⟩) := if_neg (fun hh => hc hh.2)
      have hd : (contractFault (unCont xs).id (unCont xs).legs == 0) = false := by simpa using hc
      go_wp2
      refine bodyPost_ret (v := .agg #[.int .i64 5, .int .i64 0, .slice none 0 0]) (by simp [results, Tryz.results78, go_sem, hr0, hr1, hr2]) rfl ?_
      rw [HD.out]
      first | exact ⟨_, none_, rfl, contR_nil _ _, by (repeat (first | exact Below.refl _ _ | assumption | refine Below.drew ?_ | refine balloc ?_ _ | refine bset ?_ (by simp; omega) _ | refine bset ?_ (by simp) _ | refine bstep ?_ (by assumption)))⟩ | exact ⟨_, rfl, ⟨none_, contR_nil _ _⟩, by (repeat (first | exact Below.refl _ _ | assumption | refine Below.drew ?_ | refine balloc ?_ _ | refine bset ?_ (by simp; omega) _ | refine bset ?_ (by simp) _ | refine bstep ?_ (by assumption)))⟩
  · have HD : Hid (unpD xs = ⟨5, ⟨0, []⟩⟩) := if_neg (fun hh => h hh.1)
    have e0 : decide (8 ≤ xs.length ∧ (xs.length - 8) % 11 = 0 ∧ xs.length ≤ 96) = false := by simpa using h
    rw [e0]
    clear e0
    go_wp2
    refine bodyPost_ret (v := .agg #[.int .i64 5, .int .i64 0, .slice none 0 0]) (by simp [results, Tryz.results78, go_sem]) rfl ?_
    rw [HD.out]
    first | exact ⟨_, none_, rfl, contR_nil _ _, by (repeat (first | exact Below.refl _ _ | assumption | refine Below.drew ?_ | refine balloc ?_ _ | refine bset ?_ (by simp; omega) _ | refine bset ?_ (by simp) _ | refine bstep ?_ (by assumption)))⟩ | exact ⟨_, rfl, ⟨none_, contR_nil _ _⟩, by (repeat (first | exact Below.refl _ _ | assumption | refine Below.drew ?_ | refine balloc ?_ _ | refine bset ?_ (by simp; omega) _ | refine bset ?_ (by simp) _ | refine bstep ?_ (by assumption)))⟩
theorem unpD_wt (xs : List Byte) : wtContR (unpD xs) ≤ 8 := by
  unfold unpD
  split
  · rename_i h
    unfold wtContR wtCont wtLegs unCont
    rw [length_unLegs]
    omega
  · simp [wtContR, wtCont, wtLegs]
end Go.Proofs.YtecfelacdapdgaaGreat

/-
  Events, in mathematics.
-/
namespace Go.Proofs.YtecfelacdapdgaaGreat
open Go.RowKit
set_option linter.unusedSectionVars false
variable [DecidableEq Leg] [Inhabited Leg] [DecidableEq Cont] [Inhabited Cont] [DecidableEq Evt] [Inhabited Evt] [DecidableEq EvtR] [Inhabited EvtR] [DecidableEq BytesR] [Inhabited BytesR] [DecidableEq ContR] [Inhabited ContR]

def evtF (e : Evt) : Int :=
  if e.vote = true then (if contractFault e.con.id e.con.legs = 0 then (if e.out = 0 then 0 else 1) else contractFault e.con.id e.con.legs)
  else (if (inB e.con.id 1 1000000000 && inB e.out 1 2) = true then (if e.con.legs.length = 0 then 0 else 1) else 3)
def nilE : Evt := ⟨false, ⟨0, []⟩, 0⟩
def errE : EvtR := ⟨5, nilE⟩
def outE (xs : List Byte) : Evt := ⟨false, ⟨IntKind.i64.wrap (hiN ((xs.drop 1).take 8)), []⟩, ((xs.getD 9 0).val : Int)⟩
def unpE (xs : List Byte) : EvtR :=
  if xs.length = 0 then errE
  else if (xs.getD 0 0).val = 1 then (if (unpD (xs.drop 1)).code = 0 then ⟨0, ⟨true, (unpD (xs.drop 1)).contract, 0⟩⟩ else errE)
  else if (xs.getD 0 0).val = 2 ∧ xs.length = 10 then (if evtF (outE xs) = 0 then ⟨0, outE xs⟩ else errE)
  else errE
theorem unpE_wt (xs : List Byte) : wtEvtR (unpE xs) ≤ 8 := by
  have h0 : wtEvtR errE = 0 := rfl
  unfold unpE
  split
  · omega
  split
  · split
    · have h := unpD_wt (xs.drop 1)
      exact h
    · omega
  split
  · split
    · show (outE xs).con.legs.length ≤ 8
      simp [outE]
    · omega
  · omega
end Go.Proofs.YtecfelacdapdgaaGreat


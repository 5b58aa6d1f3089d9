/-
  A contract read out of bytes: the specification's side.
-/
import Derived.Test.YthikaieobdhckaaUnpM
import Derived.Test.YthikaieobdhckaaRegT
namespace Go.Proofs.Ythikaieobdhckaa
open Go.RowKit
set_option linter.unusedSectionVars false
variable [DecidableEq Leg] [Inhabited Leg] [DecidableEq Cont] [Inhabited Cont] [DecidableEq ContR] [Inhabited ContR]
set_option linter.unusedSimpArgs false
attribute [local go_sem ↓] Go.wp_at_zero Go.wp_at_succ

set_option maxHeartbeats 4000000 in
theorem l3Uncontract_ok (x : Value) (xs : List Byte) (w : World) (hx : bytesR.V w x xs) (h8 : 8 ≤ xs.length) (h11 : (xs.length - 8) % 11 = 0) (h96 : xs.length ≤ 96) :
    Calls Try.prog 57 #[x] w fun e w' => ∃ v F, e = .returned (.tuple #[.agg #[.int .i64 (unCont xs).id, v], .bool (decide (contractFault (unCont xs).id (unCont xs).legs = 0))]) ∧ legsR.O w' w.heap.size F v (unCont xs).legs ∧ Below w.heap.size w w' := by
  have hX := hx
  obtain ⟨ax, cx, rfl, hcx, hmx, hx⟩ := hx
  unfold maxLen at hmx
  obtain ⟨b, o, rfl, _⟩ := hx 0 (by omega)
  obtain ⟨id, hid⟩ : ∃ id, IntKind.i64.wrap (hiN (xs.take 8)) = id := ⟨_, rfl⟩
  have HID : Hid (unCont xs = ⟨id, unLegs xs ((xs.length - 8) / 11)⟩) := by unfold Hid unCont; rw [hid]
  obtain ⟨n, hn⟩ : ∃ n, (xs.length - 8) / 11 = n := ⟨_, rfl⟩
  have hlen : xs.length = 8 + 11 * n := by omega
  have HLEN : Hid (xs.length = 8 + 11 * n) := hlen
  have hn8 : n ≤ 8 := by omega
  have HN : Hid ((xs.length - 8) / 11 = n) := hn
  have c1 : ¬ (xs.length : Int) < 8 := by omega
  have c2 : ((xs.length : Int) - 8).tmod 11 = 0 := by rw [Int.tmod_eq_emod_of_nonneg (by omega)]; omega
  have c2' : ((xs.length : Int) - 8) % 11 = 0 := by omega
  have c2'' : ((((xs.length : Int) - 8).tmod 11) == 0) = true := by rw [c2]; rfl
  have c3 : ¬ (96 : Int) < (xs.length : Int) := by omega
  have c4 : IntKind.i64.wrap ((xs.length : Int) - 8) = xs.length - 8 := by rw [IntKind.wrap_i64]; omega
  have hV8 := bytes_cut hX 0 8 (by omega) (by omega)
  simp only [Option.map_some, Nat.mul_one, addP, Nat.zero_mul, Nat.sub_zero, List.drop_zero, Nat.add_zero, ite_self] at hV8
  have hl8 : 8 ≤ (xs.take 8).length := by rw [List.length_take]; omega
  have e8 : (xs.take 8).take 8 = xs.take 8 := by rw [List.take_take]; rfl
  clear hn hlen
  go_enter Try.func57, Try.ntmps57
  go_wp2_with fail
  refine (l3Number_any _ (xs.take 8) _ (BytesV_below hV8 (by (repeat (first | exact Below.refl _ _ | assumption | refine Below.drew ?_ | refine balloc ?_ _ | refine bset ?_ (by simp; omega) _ | refine bset ?_ (by simp) _ | refine bstep ?_ (by assumption))))) hl8).mono ?_
  rintro e w1 ⟨rfl, rfl⟩
  rw [e8, hid]
  clear e8 hl8 hV8 hid c2 c2' c2'' c4
  go_wp2
  go_loopw [5] (fun i w' => ∃ (k t : Nat) (v : Value), k ≤ n ∧ t = 8 + 11 * k ∧ i = .int .i64 t ∧ UnSt w w' id v (unLegs xs k)) (fun i _ => xs.length - (intOf i).toNat)
  case atStart =>
    refine ⟨0, 8, .slice none 0 0, by omega, by omega, rfl, ⟨by simp [go_sem], by simp [go_sem]⟩, ⟨by simp [go_sem], by simp [go_sem]⟩, ⟨fun o => by simp [go_sem], fun o => by simp [go_sem]⟩, by simp, ?_, by (repeat (first | exact Below.refl _ _ | assumption | refine Below.drew ?_ | refine balloc ?_ _ | refine bset ?_ (by simp; omega) _ | refine bset ?_ (by simp) _ | refine bstep ?_ (by assumption)))⟩
    have : unLegs xs 0 = [] := rfl
    rw [this]
    exact World.ownsRow_nil _ _ _ _
  case round =>
    obtain ⟨k, t, v, hk, ht, rfl, ⟨d0, d1⟩, ⟨r0, r1⟩, ⟨fr, fd⟩, hz, ho, hbl⟩ := hrel
    have HT : Hid (k ≤ n ∧ t = 8 + 11 * k) := ⟨hk, ht⟩
    obtain ⟨pv, qv, rfl⟩ := owns_form ho
    have hzr := World.block_lt_of_cell? _ _ d0
    dsimp only at hzr
    by_cases hlt : t < xs.length
    · have hlt11 : t + 11 ≤ xs.length := by have := HLEN.out; omega
      obtain ⟨b', o', e, g0⟩ := hx t (by omega)
      simp only [Option.some.injEq, Addr.mk.injEq, and_true] at e
      obtain ⟨rfl, rfl⟩ := e
      obtain ⟨b', o', e, g1⟩ := hx (t + 1) (by omega)
      simp only [Option.some.injEq, Addr.mk.injEq, and_true] at e
      obtain ⟨rfl, rfl⟩ := e
      obtain ⟨b', o', e, g2⟩ := hx (t + 2) (by omega)
      simp only [Option.some.injEq, Addr.mk.injEq, and_true] at e
      obtain ⟨rfl, rfl⟩ := e
      obtain ⟨p0, hp0⟩ : ∃ p : Int, ((xs.getD t 0).val : Int) = p := ⟨_, rfl⟩
      obtain ⟨p1, hp1⟩ : ∃ p : Int, ((xs.getD (t + 1) 0).val : Int) = p := ⟨_, rfl⟩
      obtain ⟨p2, hp2⟩ : ∃ p : Int, ((xs.getD (t + 2) 0).val : Int) = p := ⟨_, rfl⟩
      have l0 := byte_lt (xs.getD t 0)
      have l1 := byte_lt (xs.getD (t + 1) 0)
      have l2 := byte_lt (xs.getD (t + 2) 0)
      rw [hp0] at g0 l0
      rw [hp1] at g1 l1
      rw [hp2] at g2 l2
      have hV3 := bytes_cut hX (t + 3) (t + 11) (by omega) (by omega)
      rw [if_neg (by omega)] at hV3
      simp only [Option.map_some, Nat.mul_one, addP] at hV3
      rw [show t + 11 - (t + 3) = 8 by omega] at hV3
      have hl3 : 8 ≤ ((xs.drop (t + 3)).take 8).length := by rw [List.length_take, List.length_drop]; omega
      obtain ⟨am, ham⟩ : ∃ am, IntKind.i64.wrap (hiN ((xs.drop (t + 3)).take 8)) = am := ⟨_, rfl⟩
      have e3 : IntKind.i64.wrap (hiN (((xs.drop (t + 3)).take 8).take 8)) = am := by rw [List.take_take]; exact ham
      have HL : Hid (unLegs xs (k + 1) = unLegs xs k ++ [⟨p0, p1, p2, am⟩]) := by
        unfold Hid
        rw [unLegs_succ, ← ht, unLeg, hp0, hp1, hp2, ham]
      have hol : (unLegs xs k).length ≤ 1048576 := by rw [length_unLegs]; omega
      have w0 : IntKind.i64.wrap p0 = p0 := by rw [IntKind.wrap_i64]; omega
      have w1 : IntKind.i64.wrap p1 = p1 := by rw [IntKind.wrap_i64]; omega
      have w2 : IntKind.i64.wrap p2 = p2 := by rw [IntKind.wrap_i64]; omega
      have y1 : IntKind.i64.wrap ((t : Int) + 1) = t + 1 := by rw [IntKind.wrap_i64]; omega
      have y2 : IntKind.i64.wrap ((t : Int) + 2) = t + 2 := by rw [IntKind.wrap_i64]; omega
      have y3 : IntKind.i64.wrap ((t : Int) + 3) = t + 3 := by rw [IntKind.wrap_i64]; omega
      have y4 : IntKind.i64.wrap ((t : Int) + 11) = t + 11 := by rw [IntKind.wrap_i64]; omega
      have i1 : ((t : Int) + 1).toNat = t + 1 := by omega
      have i2 : ((t : Int) + 2).toNat = t + 2 := by omega
      have i3 : ((t : Int) + 3).toNat = t + 3 := by omega
      have i4 : ((t : Int) + 11).toNat = t + 11 := by omega
      have j0 : (0 : Int) ≤ (t : Int) := by omega
      have j1 : (t : Int) < (xs.length : Int) := by omega
      have j2 : (t : Int) + 1 < (xs.length : Int) := by omega
      have j3 : (t : Int) + 2 < (xs.length : Int) := by omega
      have j4 : (t : Int) + 11 ≤ (cx : Int) := by omega
      have j5 : ¬ cx = t + 3 := by omega
      have j6 : (0 : Int) ≤ (t : Int) + 1 := by omega
      have j7 : (0 : Int) ≤ (t : Int) + 2 := by omega
      have j8 : (0 : Int) ≤ (t : Int) + 3 := by omega
      have j9 : (t : Int) + 3 ≤ (t : Int) + 11 := by omega
      have hle : w.heap.size ≤ w.heap.size + 2 := by omega
      have hlt0 : (⟨w.heap.size, 0, none⟩ : Addr).block < w.heap.size + 2 := by simp
      have hlt1 : (⟨w.heap.size + 1, 0, none⟩ : Addr).block < w.heap.size + 2 := by simp
      generalize unLegs xs k = ys at *
      clear hp0 hp1 hp2 ham ht hk hx
      go_wp2
      refine wp_region_noPanic ?_
      refine region_upto (fun w' => Below w.heap.size w w' ∧ w'.cell? ⟨b, o + t, none⟩ = some (.int .u8 p0) ∧ w'.cell? ⟨b, o + (t + 1), none⟩ = some (.int .u8 p1) ∧ w'.cell? ⟨b, o + (t + 2), none⟩ = some (.int .u8 p2) ∧ w'.cell? ⟨w.heap.size + 1, 1, none⟩ = some (.slice pv ys.length qv)) 30 (by kernel_rfl) ⟨Below.drew hbl, cell_keep (Below.drew hbl) g0, cell_keep (Below.drew hbl) g1, cell_keep (Below.drew hbl) g2, cell_keep (Below.drew (Below.refl _ _)) d1⟩ (fun hS => ?_)
      refine upto_take (i := 0) (v := ?_) rfl (by kernel_rfl) (by kernel_rfl) (by kernel_rfl) (by kernel_rfl) (fun _ _ _ h => h) (by rfl) hS ?_ ?_
      rotate_left
      · intro wS hSw
        try dsimp only at hSw
        first | (go_simp; done) | (go_simp; with_reducible rfl)
      try simp only [Act.put, List.setIfInBounds_toArray, List.set_cons_zero, List.set_cons_succ]
      refine upto_take (i := 1) (v := ?_) rfl (by kernel_rfl) (by kernel_rfl) (by kernel_rfl) (by kernel_rfl) (fun _ _ _ h => h) (by rfl) hS ?_ ?_
      rotate_left
      · intro wS hSw
        try dsimp only at hSw
        first | (go_simp; done) | (go_simp; with_reducible rfl)
      try simp only [Act.put, List.setIfInBounds_toArray, List.set_cons_zero, List.set_cons_succ]
      refine upto_take (i := 2) (v := ?_) rfl (by kernel_rfl) (by kernel_rfl) (by kernel_rfl) (by kernel_rfl) (fun _ _ _ h => h) (by rfl) hS ?_ ?_
      rotate_left
      · intro wS hSw
        try dsimp only at hSw
        first | (go_simp; done) | (go_simp; with_reducible rfl)
      try simp only [Act.put, List.setIfInBounds_toArray, List.set_cons_zero, List.set_cons_succ]
      refine upto_take (i := 3) (v := ?_) rfl (by kernel_rfl) (by kernel_rfl) (by kernel_rfl) (by kernel_rfl) (fun _ _ _ h => h) (by rfl) hS ?_ ?_
      rotate_left
      · intro wS hSw
        try dsimp only at hSw
        first | (go_simp; done) | (go_simp; with_reducible rfl)
      try simp only [Act.put, List.setIfInBounds_toArray, List.set_cons_zero, List.set_cons_succ]
      refine upto_take (i := 4) (v := ?_) rfl (by kernel_rfl) (by kernel_rfl) (by kernel_rfl) (by kernel_rfl) (fun _ _ _ h => h) (by rfl) hS ?_ ?_
      rotate_left
      · intro wS hSw
        try dsimp only at hSw
        first | (go_simp; done) | (go_simp; with_reducible rfl)
      try simp only [Act.put, List.setIfInBounds_toArray, List.set_cons_zero, List.set_cons_succ]
      refine upto_take (i := 5) (v := ?_) rfl (by kernel_rfl) (by kernel_rfl) (by kernel_rfl) (by kernel_rfl) (fun _ _ _ h => h) (by rfl) hS ?_ ?_
      rotate_left
      · intro wS hSw
        try dsimp only at hSw
        first | (go_simp; done) | (go_simp; with_reducible rfl)
      try simp only [Act.put, List.setIfInBounds_toArray, List.set_cons_zero, List.set_cons_succ]
      refine upto_take (i := 6) (v := ?_) rfl (by kernel_rfl) (by kernel_rfl) (by kernel_rfl) (by kernel_rfl) (fun _ _ _ h => h) (by rfl) hS ?_ ?_
      rotate_left
      · intro wS hSw
        try dsimp only at hSw
        first | (go_simp; done) | (go_simp; with_reducible rfl)
      try simp only [Act.put, List.setIfInBounds_toArray, List.set_cons_zero, List.set_cons_succ]
      refine upto_take (i := 7) (v := ?_) rfl (by kernel_rfl) (by kernel_rfl) (by kernel_rfl) (by kernel_rfl) (fun _ _ _ h => h) (by rfl) hS ?_ ?_
      rotate_left
      · intro wS hSw
        try dsimp only at hSw
        first | (go_simp; done) | (go_simp; with_reducible rfl)
      try simp only [Act.put, List.setIfInBounds_toArray, List.set_cons_zero, List.set_cons_succ]
      refine upto_take (i := 8) (v := ?_) rfl (by kernel_rfl) (by kernel_rfl) (by kernel_rfl) (by kernel_rfl) (fun _ _ _ h => h) (by rfl) hS ?_ ?_
      rotate_left
      · intro wS hSw
        try dsimp only at hSw
        first | (go_simp; done) | (go_simp; with_reducible rfl)
      try simp only [Act.put, List.setIfInBounds_toArray, List.set_cons_zero, List.set_cons_succ]
      refine upto_take (i := 9) (v := ?_) rfl (by kernel_rfl) (by kernel_rfl) (by kernel_rfl) (by kernel_rfl) (fun _ _ _ h => h) (by rfl) hS ?_ ?_
      rotate_left
      · intro wS hSw
        try dsimp only at hSw
        first | (go_simp; done) | (go_simp; with_reducible rfl)
      try simp only [Act.put, List.setIfInBounds_toArray, List.set_cons_zero, List.set_cons_succ]
      refine upto_take (i := 10) (v := ?_) rfl (by kernel_rfl) (by kernel_rfl) (by kernel_rfl) (by kernel_rfl) (fun _ _ _ h => h) (by rfl) hS ?_ ?_
      rotate_left
      · intro wS hSw
        try dsimp only at hSw
        first | (go_simp; done) | (go_simp; with_reducible rfl)
      try simp only [Act.put, List.setIfInBounds_toArray, List.set_cons_zero, List.set_cons_succ]
      refine upto_take (i := 11) (v := ?_) rfl (by kernel_rfl) (by kernel_rfl) (by kernel_rfl) (by kernel_rfl) (fun _ _ _ h => h) (by rfl) hS ?_ ?_
      rotate_left
      · intro wS hSw
        try dsimp only at hSw
        first | (go_simp; done) | (go_simp; with_reducible rfl)
      try simp only [Act.put, List.setIfInBounds_toArray, List.set_cons_zero, List.set_cons_succ]
      refine upto_take (i := 12) (v := ?_) rfl (by kernel_rfl) (by kernel_rfl) (by kernel_rfl) (by kernel_rfl) (fun _ _ _ h => h) (by rfl) hS ?_ ?_
      rotate_left
      · intro wS hSw
        try dsimp only at hSw
        first | (go_simp; done) | (go_simp; with_reducible rfl)
      try simp only [Act.put, List.setIfInBounds_toArray, List.set_cons_zero, List.set_cons_succ]
      refine upto_take (i := 13) (v := ?_) rfl (by kernel_rfl) (by kernel_rfl) (by kernel_rfl) (by kernel_rfl) (fun _ _ _ h => h) (by rfl) hS ?_ ?_
      rotate_left
      · intro wS hSw
        try dsimp only at hSw
        first | (go_simp; done) | (go_simp; with_reducible rfl)
      try simp only [Act.put, List.setIfInBounds_toArray, List.set_cons_zero, List.set_cons_succ]
      refine upto_take (i := 14) (v := ?_) rfl (by kernel_rfl) (by kernel_rfl) (by kernel_rfl) (by kernel_rfl) (fun _ _ _ h => h) (by rfl) hS ?_ ?_
      rotate_left
      · intro wS hSw
        try dsimp only at hSw
        first | (go_simp; done) | (go_simp; with_reducible rfl)
      try simp only [Act.put, List.setIfInBounds_toArray, List.set_cons_zero, List.set_cons_succ]
      refine upto_take (i := 15) (v := ?_) rfl (by kernel_rfl) (by kernel_rfl) (by kernel_rfl) (by kernel_rfl) (fun _ _ _ h => h) (by rfl) hS ?_ ?_
      rotate_left
      · intro wS hSw
        try dsimp only at hSw
        first | (go_simp; done) | (go_simp; with_reducible rfl)
      try simp only [Act.put, List.setIfInBounds_toArray, List.set_cons_zero, List.set_cons_succ]
      refine upto_take (i := 16) (v := ?_) rfl (by kernel_rfl) (by kernel_rfl) (by kernel_rfl) (by kernel_rfl) (fun _ _ _ h => h) (by rfl) hS ?_ ?_
      rotate_left
      · intro wS hSw
        try dsimp only at hSw
        first | (go_simp; done) | (go_simp; with_reducible rfl)
      try simp only [Act.put, List.setIfInBounds_toArray, List.set_cons_zero, List.set_cons_succ]
      refine upto_take (i := 17) (v := ?_) rfl (by kernel_rfl) (by kernel_rfl) (by kernel_rfl) (by kernel_rfl) (fun _ _ _ h => h) (by rfl) hS ?_ ?_
      rotate_left
      · intro wS hSw
        try dsimp only at hSw
        first | (go_simp; done) | (go_simp; with_reducible rfl)
      try simp only [Act.put, List.setIfInBounds_toArray, List.set_cons_zero, List.set_cons_succ]
      refine upto_take (i := 18) (v := ?_) rfl (by kernel_rfl) (by kernel_rfl) (by kernel_rfl) (by kernel_rfl) (fun _ _ _ h => h) (by rfl) hS ?_ ?_
      rotate_left
      · intro wS hSw
        try dsimp only at hSw
        first | (go_simp; done) | (go_simp; with_reducible rfl)
      try simp only [Act.put, List.setIfInBounds_toArray, List.set_cons_zero, List.set_cons_succ]
      refine upto_take (i := 19) (v := ?_) rfl (by kernel_rfl) (by kernel_rfl) (by kernel_rfl) (by kernel_rfl) (fun _ _ _ h => h) (by rfl) hS ?_ ?_
      rotate_left
      · intro wS hSw
        try dsimp only at hSw
        first | (go_simp; done) | (go_simp; with_reducible rfl)
      try simp only [Act.put, List.setIfInBounds_toArray, List.set_cons_zero, List.set_cons_succ]
      refine upto_take (i := 20) (v := ?_) rfl (by kernel_rfl) (by kernel_rfl) (by kernel_rfl) (by kernel_rfl) (fun _ _ _ h => h) (by rfl) hS ?_ ?_
      rotate_left
      · intro wS hSw
        try dsimp only at hSw
        first | (go_simp; done) | (go_simp; with_reducible rfl)
      try simp only [Act.put, List.setIfInBounds_toArray, List.set_cons_zero, List.set_cons_succ]
      refine upto_take (i := 21) (v := ?_) rfl (by kernel_rfl) (by kernel_rfl) (by kernel_rfl) (by kernel_rfl) (fun _ _ _ h => h) (by rfl) hS ?_ ?_
      rotate_left
      · intro wS hSw
        try dsimp only at hSw
        first | (go_simp; done) | (go_simp; with_reducible rfl)
      try simp only [Act.put, List.setIfInBounds_toArray, List.set_cons_zero, List.set_cons_succ]
      refine upto_take (i := 22) (v := ?_) rfl (by kernel_rfl) (by kernel_rfl) (by kernel_rfl) (by kernel_rfl) (fun _ _ _ h => h) (by rfl) hS ?_ ?_
      rotate_left
      · intro wS hSw
        try dsimp only at hSw
        first | (go_simp; done) | (go_simp; with_reducible rfl)
      try simp only [Act.put, List.setIfInBounds_toArray, List.set_cons_zero, List.set_cons_succ]
      refine upto_take (i := 23) (v := ?_) rfl (by kernel_rfl) (by kernel_rfl) (by kernel_rfl) (by kernel_rfl) (fun _ _ _ h => h) (by rfl) hS ?_ ?_
      rotate_left
      · intro wS hSw
        try dsimp only at hSw
        first | (go_simp; done) | (go_simp; with_reducible rfl)
      try simp only [Act.put, List.setIfInBounds_toArray, List.set_cons_zero, List.set_cons_succ]
      refine upto_take (i := 24) (v := ?_) rfl (by kernel_rfl) (by kernel_rfl) (by kernel_rfl) (by kernel_rfl) (fun _ _ _ h => h) (by rfl) hS ?_ ?_
      rotate_left
      · intro wS hSw
        try dsimp only at hSw
        first | (go_simp; done) | (go_simp; with_reducible rfl)
      try simp only [Act.put, List.setIfInBounds_toArray, List.set_cons_zero, List.set_cons_succ]
      refine upto_step (i := 25) (by kernel_rfl) rfl ?_
      intro K hK
      go_simp
      refine (l3Number_any _ ((xs.drop (t + 3)).take 8) _ (BytesV_below hV3 (Below.drew hbl)) hl3).mono ?_
      rintro e w3 ⟨rfl, rfl⟩
      rw [e3]
      refine hK _ _ (fun _ => hS) ?_
      clear hK K
      try simp only [Act.put, List.setIfInBounds_toArray, List.set_cons_zero, List.set_cons_succ]
      refine upto_take (i := 26) (v := ?_) rfl (by kernel_rfl) (by kernel_rfl) (by kernel_rfl) (by kernel_rfl) (fun _ _ _ h => h) (by rfl) hS ?_ ?_
      rotate_left
      · intro wS hSw
        try dsimp only at hSw
        first | (go_simp; done) | (go_simp; with_reducible rfl)
      try simp only [Act.put, List.setIfInBounds_toArray, List.set_cons_zero, List.set_cons_succ]
      refine upto_step (i := 27) (by kernel_rfl) rfl ?_
      intro K hK
      go_simp
      refine hK _ _ (fun _ => ⟨balloc hS.1 _, cell_keep (balloc (Below.refl _ _) _) hS.2.1, cell_keep (balloc (Below.refl _ _) _) hS.2.2.1, cell_keep (balloc (Below.refl _ _) _) hS.2.2.2.1, cell_keep (balloc (Below.refl _ _) _) hS.2.2.2.2⟩) ?_
      clear hK K
      try simp only [Act.put, List.setIfInBounds_toArray, List.set_cons_zero, List.set_cons_succ]
      refine upto_step (i := 28) (by kernel_rfl) rfl ?_
      intro K hK
      refine step_pushLeg _ rfl _ _ rfl (w.heap.size + 2) _ ys rfl ⟨p0, p1, p2, am⟩ _ rfl (owns_below ho (balloc (Below.drew (Below.refl _ _)) _)) ?_ hol ?_ ?_
      · exact appAny_leg (g := wr.heap.size) (by simp [go_sem]) (by simp [go_sem]) (by simp [go_sem]) (by simp [go_sem])
      · simp; omega
      intro v5 w5 o5 hg5 hB5
      obtain ⟨p5, c5, rfl⟩ := owns_form o5
      have hw5 := hB5 wr ((balloc (Below.drew (Below.refl wr.heap.size wr)) _).mono hz)
      have hb5 := hbl.trans (hw5.mono hle)
      have q0 := (hw5.cell (p := ⟨w.heap.size + 1, 0, none⟩) hlt1).trans d0
      have q1 := (hw5.cell (p := ⟨w.heap.size + 1, 1, none⟩) hlt1).trans d1
      have q2 := (hw5.cell (p := ⟨w.heap.size, 0, none⟩) hlt0).trans r0
      have q3 := (hw5.cell (p := ⟨w.heap.size, 1, none⟩) hlt0).trans r1
      have q4 := fun o => (hw5.frozen (p := ⟨w.heap.size, o, none⟩) hlt0).trans (fr o)
      have q5 := fun o => (hw5.frozen (p := ⟨w.heap.size + 1, o, none⟩) hlt1).trans (fd o)
      have hS5 := keepN4 hb5 g0 g1 g2 g2
      have hS6 := And.intro hb5 (And.intro hS5.2.1 (And.intro hS5.2.2.1 (And.intro hS5.2.2.2.1 q1)))
      refine hK _ _ (fun _ => hS6) ?_
      clear hK K
      try simp only [Act.put, List.setIfInBounds_toArray, List.set_cons_zero, List.set_cons_succ]
      refine upto_take (i := 29) (v := ?_) rfl (by kernel_rfl) (by kernel_rfl) (by kernel_rfl) (by kernel_rfl) (fun _ _ _ h => h) (by rfl) hS6 ?_ ?_
      rotate_left
      · intro wS hSw
        try dsimp only at hSw
        first | (go_simp; done) | (go_simp; with_reducible rfl)
      try simp only [Act.put, List.setIfInBounds_toArray, List.set_cons_zero, List.set_cons_succ]
      refine upto_step (i := 30) (by kernel_rfl) rfl ?_
      intro K hK
      go_simp
      refine hK _ _ (fun h => absurd rfl h) ?_
      clear hK K
      refine upto_done (by kernel_rfl) ?_
      refine NoPanic.normal ?_
      have hz5 : w.heap.size + 2 ≤ w5.heap.size := Nat.le_trans hz hw5.size
      have HO5 : Hid (World.ownsRow w5 (w.heap.size + 2) 72 4 (.slice p5 (ys ++ [(⟨p0, p1, p2, am⟩ : Leg)]).length c5) (ys ++ [(⟨p0, p1, p2, am⟩ : Leg)]).length (legsC (ys ++ [⟨p0, p1, p2, am⟩]))) := o5
      have HB5 : Hid (Below w.heap.size w w5) := hb5
      clear hS hS5 hS6 o5 hg5 hB5 hw5 hb5
      go_wp2
      refine ⟨⟨k + 1, t + 11, .slice p5 (ys ++ [(⟨p0, p1, p2, am⟩ : Leg)]).length c5, ?_, ?_, by go_num, ?_⟩, by simp [intOf]; omega⟩
      · have := HT.out; have := HLEN.out; omega
      · have := HT.out; omega
      · rw [HL.out]
        refine ⟨⟨?_, ?_⟩, ⟨?_, ?_⟩, ⟨fun o => ?_, fun o => ?_⟩, by simp; omega, ?_, HB5.out.setCell (by simp) _⟩
        · rw [set_other (by simp)]; exact q0
        · exact (by simpa using set_same q1)
        · rw [set_other (by simp)]; exact q2
        · rw [set_other (by simp)]; exact q3
        · simp [q4]
        · simp [q5]
        · exact owns_setCell HO5.out (by simp) _
    · have hkn : k = n := by have := HT.out; have := HLEN.out; omega
      subst hkn
      have HC : Hid (unCont xs = ⟨id, unLegs xs k⟩) := by unfold Hid; rw [HID.out, HN.out]
      have hLV : LegsV wr (.slice pv (unLegs xs k).length qv) (unLegs xs k) := LegsV_of_owns ho
      have HO : Hid (World.ownsRow wr (w.heap.size + 2) 72 4 (.slice pv (unLegs xs k).length qv) (unLegs xs k).length (legsC (unLegs xs k))) := ho
      have h0 := And.intro hbl (And.intro d0 d1)
      have hz0 : w.heap.size < wr.drew.heap.size := by show w.heap.size < wr.heap.size; omega
      clear HID HN ht hk hx ho
      generalize unLegs xs k = ys at *
      go_wp2
      go_region_held3 (fun w' => Below w.heap.size w w' ∧ w'.cell? ⟨w.heap.size + 1, 0, none⟩ = some (.int .i64 id) ∧ w'.cell? ⟨w.heap.size + 1, 1, none⟩ = some (.slice pv ys.length qv)) ((first | exact keepS2 h0 (Below.drew (Below.refl _ _)) | exact hS3 | exact unKeep hS3 _ _)) (first | (go_at_call 49; refine (specFault_any id _ ys _ ?_).mono ?_; (focus (exact LegsV_below hLV (Below.drew (Below.refl _ _)))); rintro e w3 ⟨rfl, hb3⟩; have hS3 := keepS2 (keepS2 h0 (Below.drew (Below.refl _ _))) hb3; have e0 := cell_keep hb3 (cell_keep (Below.drew (Below.refl _ _)) r0); have e1 := cell_keep hb3 (cell_keep (Below.drew (Below.refl _ _)) r1); have e2 := fun o => ((bcell hb3).2 w.heap.size o hz0).trans (fr o)))
      have hS4 := (unKeep hS3 (.int .i64 id) (.slice pv ys.length qv)).1
      have HS4 : Hid (Below w.heap.size w ((w3.setCell ⟨w.heap.size, 0, none⟩ (.int .i64 id)).setCell ⟨w.heap.size, 1, none⟩ (.slice pv ys.length qv))) := hS4
      have HO3 : Hid (World.ownsRow w3 (w.heap.size + 2) 72 4 (.slice pv ys.length qv) ys.length (legsC ys)) := owns_below (owns_below HO.out (Below.drew (Below.refl _ _))) hb3
      clear hS4 hS3 hb3 h0 hLV
      go_wp2
      refine bodyPost_ret (v := .tuple #[.agg #[.int .i64 id, .slice pv ys.length qv], .bool (contractFault id ys == 0)]) (by simp [results, Try.results57, go_sem, e0, e1]) rfl ?_
      rw [HC.out]
      exact ⟨_, fun b => (Value.slice pv ys.length qv).ownBlock = some b, rfl, ⟨owns_base (owns_setCell (owns_setCell HO3.out (by simp) _) (by simp) _) (by omega), rfl⟩, HS4.out⟩

set_option maxHeartbeats 2000000 in
theorem l3Uncontract_bad (x : Value) (xs : List Byte) (w : World) (hx : bytesR.V w x xs) (h : ¬ (8 ≤ xs.length ∧ (xs.length - 8) % 11 = 0 ∧ xs.length ≤ 96)) :
    Calls Try.prog 57 #[x] w fun e w' => e = .returned (.tuple #[.agg #[.int .i64 0, .slice none 0 0], .bool false]) ∧ Below w.heap.size w w' := by
  obtain ⟨ax, cx, rfl, hcx, hmx, _⟩ := hx
  unfold maxLen at hmx
  generalize xs.length = n at *
  have c4 : IntKind.i64.wrap ((n : Int) - 8) = n - 8 := by rw [IntKind.wrap_i64]; omega
  by_cases h1 : n < 8
  · go_enter Try.func57, Try.ntmps57
    go_wp2
    exact bodyPost_ret (v := .tuple #[.agg #[.int .i64 0, .slice none 0 0], .bool false]) (by simp [results, Try.results57, go_sem]) rfl ⟨rfl, by (repeat (first | exact Below.refl _ _ | assumption | refine Below.drew ?_ | refine balloc ?_ _ | refine bset ?_ (by simp; omega) _ | refine bset ?_ (by simp) _ | refine bstep ?_ (by assumption)))⟩
  · obtain ⟨q, hq⟩ : ∃ q, ((n : Int) - 8).tmod 11 = q := ⟨_, rfl⟩
    have hq2 : q = ((n : Int) - 8) % 11 := by rw [← hq, Int.tmod_eq_emod_of_nonneg (by omega)]
    have HQ : Hid (q = ((n : Int) - 8) % 11) := hq2
    have hq3 : ((n : Int) - 8) % 11 = q := hq2.symm
    clear hq2
    by_cases h2 : q = 0
    · have h3 : 96 < n := by have := HQ.out; omega
      subst h2
      go_enter Try.func57, Try.ntmps57
      go_wp2
      exact bodyPost_ret (v := .tuple #[.agg #[.int .i64 0, .slice none 0 0], .bool false]) (by simp [results, Try.results57, go_sem]) rfl ⟨rfl, by (repeat (first | exact Below.refl _ _ | assumption | refine Below.drew ?_ | refine balloc ?_ _ | refine bset ?_ (by simp; omega) _ | refine bset ?_ (by simp) _ | refine bstep ?_ (by assumption)))⟩
    · have hd : (q == 0) = false := by simpa using h2
      go_enter Try.func57, Try.ntmps57
      go_wp2
      all_goals exact bodyPost_ret (v := .tuple #[.agg #[.int .i64 0, .slice none 0 0], .bool false]) (by simp [results, Try.results57, go_sem]) rfl ⟨rfl, by (repeat (first | exact Below.refl _ _ | assumption | refine Below.drew ?_ | refine balloc ?_ _ | refine bset ?_ (by simp; omega) _ | refine bset ?_ (by simp) _ | refine bstep ?_ (by assumption)))⟩

end Go.Proofs.Ythikaieobdhckaa

/-
  A contract read out of bytes: the program's side.
-/
import Derived.Test.YthikaieobdhckaaUnpM
import Derived.Test.YthikaieobdhckaaRegT
import Derived.Test.YthikaieobdhckaaImplFault2
namespace Go.Proofs.Ythikaieobdhckaa
open Go.RowKit
set_option linter.unusedSectionVars false
variable [DecidableEq Leg] [Inhabited Leg] [DecidableEq Cont] [Inhabited Cont] [DecidableEq ContR] [Inhabited ContR]
set_option linter.unusedSimpArgs false
attribute [local go_sem ↓] Go.wp_at_zero Go.wp_at_succ

set_option maxHeartbeats 2000000 in
theorem legIn_any (x : Value) (ys : List Byte) (w : World) (hx : BytesV w x ys) (hn : ys.length = 11) :
    Calls Try.prog 76 #[x] w fun e w' => e = .returned (.agg #[.int .i64 ((ys.getD 0 0).val : Int), .int .i64 ((ys.getD 1 0).val : Int), .int .i64 ((ys.getD 2 0).val : Int), .int .i64 (IntKind.i64.wrap (hiN (ys.drop 3)))]) ∧ Below w.heap.size w w' := by
  have hX := hx
  obtain ⟨ax, cx, rfl, hcx, hmx, hx⟩ := hx
  unfold maxLen at hmx
  obtain ⟨b, o, rfl, g0⟩ := hx 0 (by omega)
  obtain ⟨b', o', e, g1⟩ := hx 1 (by omega)
  simp only [Option.some.injEq, Addr.mk.injEq, and_true] at e
  obtain ⟨rfl, rfl⟩ := e
  obtain ⟨b', o', e, g2⟩ := hx 2 (by omega)
  simp only [Option.some.injEq, Addr.mk.injEq, and_true] at e
  obtain ⟨rfl, rfl⟩ := e
  have l0 := byte_lt (ys.getD 0 0)
  have l1 := byte_lt (ys.getD 1 0)
  have l2 := byte_lt (ys.getD 2 0)
  have hV3 := bytes_cut hX 3 11 (by omega) (by omega)
  rw [if_neg (by omega)] at hV3
  simp only [Option.map_some, Nat.mul_one, addP] at hV3
  rw [show (ys.drop 3).take (11 - 3) = ys.drop 3 from List.take_of_length_le (by rw [List.length_drop]; omega)] at hV3
  rw [hn] at hX hcx ⊢
  generalize ((ys.getD 0 0).val : Int) = p0 at *
  generalize ((ys.getD 1 0).val : Int) = p1 at *
  generalize ((ys.getD 2 0).val : Int) = p2 at *
  obtain ⟨am, ham⟩ : ∃ am, IntKind.i64.wrap (hiN (ys.drop 3)) = am := ⟨_, rfl⟩
  rw [ham]
  have w0 : IntKind.i64.wrap p0 = p0 := by rw [IntKind.wrap_i64]; omega
  have w1 : IntKind.i64.wrap p1 = p1 := by rw [IntKind.wrap_i64]; omega
  have w2 : IntKind.i64.wrap p2 = p2 := by rw [IntKind.wrap_i64]; omega
  have j5 : ¬ cx = 3 := by omega
  clear hx hX hn
  go_enter Try.func76, Try.ntmps76
  go_wp2
  go_region_held3 (fun w' => Below w.heap.size w w' ∧ w'.cell? ⟨b, o, none⟩ = some (.int .u8 p0) ∧ w'.cell? ⟨b, o + 1, none⟩ = some (.int .u8 p1) ∧ w'.cell? ⟨b, o + 2, none⟩ = some (.int .u8 p2)) ((refine keepN3 ?_ g0 g1 g2; (repeat (first | exact Below.refl _ _ | assumption | refine Below.drew ?_ | refine balloc ?_ _ | refine bset ?_ (by simp; omega) _ | refine bset ?_ (by simp) _ | refine bstep ?_ (by assumption))))) (first | (go_at_call 47; refine (numberIn_any _ (ys.drop 3) _ ?_).mono ?_; (focus (exact BytesV_below hV3 (by (repeat (first | exact Below.refl _ _ | assumption | refine Below.drew ?_ | refine balloc ?_ _ | refine bset ?_ (by simp; omega) _ | refine bset ?_ (by simp) _ | refine bstep ?_ (by assumption)))))); rintro e w3 ⟨rfl, rfl⟩; rw [ham]))
  all_goals
    rename_i hH
    have hB := hH.1
    clear hH
    go_wp2
    exact bodyPost_ret (v := .agg #[.int .i64 p0, .int .i64 p1, .int .i64 p2, .int .i64 am]) (by simp [results, Try.results76, go_sem]) rfl ⟨rfl, hB⟩

set_option maxHeartbeats 4000000 in
theorem contractIn_any (x : Value) (xs : List Byte) (w : World) (hx : bytesR.V w x xs) (h8 : 8 ≤ xs.length) (h11 : (xs.length - 8) % 11 = 0) (h96 : xs.length ≤ 96) :
    Calls Try.prog 59 #[x] w fun e w' => ∃ v F, e = .returned (.agg #[.int .i64 (unCont xs).id, v]) ∧ legsR.O w' w.heap.size F v (unCont xs).legs ∧ Below w.heap.size w w' := by
  have hX := hx
  obtain ⟨ax, cx, rfl, hcx, hmx, hx⟩ := hx
  unfold maxLen at hmx
  obtain ⟨b, o, rfl, _⟩ := hx 0 (by omega)
  obtain ⟨id, hid⟩ : ∃ id, IntKind.i64.wrap (hiN (xs.take 8)) = id := ⟨_, rfl⟩
  have HID : Hid (unCont xs = ⟨id, unLegs xs ((xs.length - 8) / 11)⟩) := by unfold Hid unCont; rw [hid]
  obtain ⟨n, hn⟩ : ∃ n, (xs.length - 8) / 11 = n := ⟨_, rfl⟩
  have hlen : xs.length = 8 + 11 * n := by omega
  have HLEN : Hid (xs.length = 8 + 11 * n) := hlen
  have HN : Hid ((xs.length - 8) / 11 = n) := hn
  have hV8 := bytes_cut hX 0 8 (by omega) (by omega)
  simp only [Option.map_some, Nat.mul_one, addP, Nat.zero_mul, Nat.sub_zero, List.drop_zero, Nat.add_zero, ite_self] at hV8
  clear hn hlen
  go_enter Try.func59, Try.ntmps59
  go_wp2_with fail
  refine (numberIn_any _ (xs.take 8) _ (BytesV_below hV8 (by (repeat (first | exact Below.refl _ _ | assumption | refine Below.drew ?_ | refine balloc ?_ _ | refine bset ?_ (by simp; omega) _ | refine bset ?_ (by simp) _ | refine bstep ?_ (by assumption)))))).mono ?_
  rintro e w1 ⟨rfl, rfl⟩
  rw [hid]
  clear hV8 hid
  go_wp2
  go_loopw [4] (fun i w' => ∃ (k t : Nat) (v : Value), k ≤ n ∧ t = 8 + 11 * k ∧ i = .int .i64 t ∧ UnSt w w' id v (unLegs xs k)) (fun i _ => xs.length - (intOf i).toNat)
  case atStart =>
    refine ⟨0, 8, .slice none 0 0, by omega, by omega, rfl, ⟨by simp [go_sem], by simp [go_sem]⟩, ⟨by simp [go_sem], by simp [go_sem]⟩, ⟨fun o => by simp [go_sem], fun o => by simp [go_sem]⟩, by simp, ?_, by (repeat (first | exact Below.refl _ _ | assumption | refine Below.drew ?_ | refine balloc ?_ _ | refine bset ?_ (by simp; omega) _ | refine bset ?_ (by simp) _ | refine bstep ?_ (by assumption)))⟩
    have : unLegs xs 0 = [] := rfl
    rw [this]
    exact World.ownsRow_nil _ _ _ _
  case round =>
    obtain ⟨k, t, v, hk, ht, rfl, ⟨d0, d1⟩, ⟨r0, r1⟩, ⟨fr, fd⟩, hz, ho, hbl⟩ := hrel
    have HT : Hid (k ≤ n ∧ t = 8 + 11 * k) := ⟨hk, ht⟩
    obtain ⟨pv, qv, rfl⟩ := owns_form ho
    have hzr := World.block_lt_of_cell? _ _ d0
    dsimp only at hzr
    by_cases hlt : t < xs.length
    · have hlt11 : t + 11 ≤ xs.length := by have := HLEN.out; omega
      have hV3 := bytes_cut hX t (t + 11) (by omega) (by omega)
      rw [if_neg (by omega)] at hV3
      simp only [Option.map_some, Nat.mul_one, addP] at hV3
      rw [show t + 11 - t = 11 by omega] at hV3
      obtain ⟨zs, hzs⟩ : ∃ zs, (xs.drop t).take 11 = zs := ⟨_, rfl⟩
      rw [hzs] at hV3
      have hzl : zs.length = 11 := by rw [← hzs, List.length_take, List.length_drop]; omega
      obtain ⟨l, hl⟩ : ∃ l : Leg, l = ⟨((zs.getD 0 0).val : Int), ((zs.getD 1 0).val : Int), ((zs.getD 2 0).val : Int), IntKind.i64.wrap (hiN (zs.drop 3))⟩ := ⟨_, rfl⟩
      have HL : Hid (unLegs xs (k + 1) = unLegs xs k ++ [l]) := by
        unfold Hid
        rw [unLegs_succ, ← ht, hl, ← hzs]
        congr 2
        unfold unLeg
        congr 1
        · simp [List.getD]
        · simp [List.getD]
        · simp [List.getD]
        · rw [List.drop_take, List.drop_drop]
      have hCk : ∀ W : World, Below w.heap.size w W → Calls Try.prog 76 #[.slice (some ⟨b, o + t, none⟩) 11 (cx - t)] W fun e w' => e = .returned (.agg #[.int .i64 l.sh, .int .i64 l.ac, .int .i64 l.ast, .int .i64 l.am]) ∧ Below W.heap.size W w' := fun W hW => by
        rw [hl]
        exact legIn_any _ zs W (BytesV_below hV3 hW) hzl
      have hol : (unLegs xs k).length ≤ 1048576 := by rw [length_unLegs]; have := HLEN.out; omega
      have y4 : IntKind.i64.wrap ((t : Int) + 11) = t + 11 := by rw [IntKind.wrap_i64]; omega
      have i4 : ((t : Int) + 11).toNat = t + 11 := by omega
      have j0 : (0 : Int) ≤ (t : Int) := by omega
      have j1 : (t : Int) < (xs.length : Int) := by omega
      have j4 : (t : Int) + 11 ≤ (cx : Int) := by omega
      have j5 : ¬ cx = t := by omega
      have j9 : (t : Int) ≤ (t : Int) + 11 := by omega
      have hle : w.heap.size ≤ w.heap.size + 2 := by omega
      have hlt0 : (⟨w.heap.size, 0, none⟩ : Addr).block < w.heap.size + 2 := by simp
      have hlt1 : (⟨w.heap.size + 1, 0, none⟩ : Addr).block < w.heap.size + 2 := by simp
      generalize unLegs xs k = ys at *
      clear hl hzs hV3 ht hk hx
      go_wp2
      refine wp_region_noPanic ?_
      refine region_upto (fun w' => Below w.heap.size w w' ∧ w'.cell? ⟨w.heap.size + 1, 1, none⟩ = some (.slice pv ys.length qv)) 11 (by kernel_rfl) ⟨Below.drew hbl, cell_keep (Below.drew (Below.refl _ _)) d1⟩ (fun hS => ?_)
      refine upto_take (i := 0) (v := ?_) rfl (by kernel_rfl) (by kernel_rfl) (by kernel_rfl) (by kernel_rfl) (fun _ _ _ h => h) (by rfl) hS ?_ ?_
      rotate_left
      · intro wS hSw
        try dsimp only at hSw
        first | (go_simp; done) | (go_simp; with_reducible rfl)
      try simp only [Act.put, List.setIfInBounds_toArray, List.set_cons_zero, List.set_cons_succ]
      refine upto_take (i := 1) (v := ?_) rfl (by kernel_rfl) (by kernel_rfl) (by kernel_rfl) (by kernel_rfl) (fun _ _ _ h => h) (by rfl) hS ?_ ?_
      rotate_left
      · intro wS hSw
        try dsimp only at hSw
        first | (go_simp; done) | (go_simp; with_reducible rfl)
      try simp only [Act.put, List.setIfInBounds_toArray, List.set_cons_zero, List.set_cons_succ]
      refine upto_take (i := 2) (v := ?_) rfl (by kernel_rfl) (by kernel_rfl) (by kernel_rfl) (by kernel_rfl) (fun _ _ _ h => h) (by rfl) hS ?_ ?_
      rotate_left
      · intro wS hSw
        try dsimp only at hSw
        first | (go_simp; done) | (go_simp; with_reducible rfl)
      try simp only [Act.put, List.setIfInBounds_toArray, List.set_cons_zero, List.set_cons_succ]
      refine upto_take (i := 3) (v := ?_) rfl (by kernel_rfl) (by kernel_rfl) (by kernel_rfl) (by kernel_rfl) (fun _ _ _ h => h) (by rfl) hS ?_ ?_
      rotate_left
      · intro wS hSw
        try dsimp only at hSw
        first | (go_simp; done) | (go_simp; with_reducible rfl)
      try simp only [Act.put, List.setIfInBounds_toArray, List.set_cons_zero, List.set_cons_succ]
      refine upto_take (i := 4) (v := ?_) rfl (by kernel_rfl) (by kernel_rfl) (by kernel_rfl) (by kernel_rfl) (fun _ _ _ h => h) (by rfl) hS ?_ ?_
      rotate_left
      · intro wS hSw
        try dsimp only at hSw
        first | (go_simp; done) | (go_simp; with_reducible rfl)
      try simp only [Act.put, List.setIfInBounds_toArray, List.set_cons_zero, List.set_cons_succ]
      refine upto_take (i := 5) (v := ?_) rfl (by kernel_rfl) (by kernel_rfl) (by kernel_rfl) (by kernel_rfl) (fun _ _ _ h => h) (by rfl) hS ?_ ?_
      rotate_left
      · intro wS hSw
        try dsimp only at hSw
        first | (go_simp; done) | (go_simp; with_reducible rfl)
      try simp only [Act.put, List.setIfInBounds_toArray, List.set_cons_zero, List.set_cons_succ]
      refine upto_take (i := 6) (v := ?_) rfl (by kernel_rfl) (by kernel_rfl) (by kernel_rfl) (by kernel_rfl) (fun _ _ _ h => h) (by rfl) hS ?_ ?_
      rotate_left
      · intro wS hSw
        try dsimp only at hSw
        first | (go_simp; done) | (go_simp; with_reducible rfl)
      try simp only [Act.put, List.setIfInBounds_toArray, List.set_cons_zero, List.set_cons_succ]
      refine upto_step (i := 7) (by kernel_rfl) rfl ?_
      intro K hK
      go_simp
      refine (hCk _ (Below.drew hbl)).mono ?_
      rintro e w3 ⟨rfl, hb3⟩
      have hS3 := And.intro (bstep hS.1 hb3) (cell_keep hb3 hS.2)
      have hbr : Below wr.heap.size wr w3 := bstep (Below.drew (Below.refl _ _)) hb3
      have hz3 := hbr.size
      refine hK _ _ (fun _ => hS3) ?_
      clear hK K
      try simp only [Act.put, List.setIfInBounds_toArray, List.set_cons_zero, List.set_cons_succ]
      refine upto_step (i := 8) (by kernel_rfl) rfl ?_
      intro K hK
      go_simp
      refine hK _ _ (fun _ => ⟨balloc hS3.1 _, cell_keep (balloc (Below.refl _ _) _) hS3.2⟩) ?_
      clear hK K
      try simp only [Act.put, List.setIfInBounds_toArray, List.set_cons_zero, List.set_cons_succ]
      refine upto_step (i := 9) (by kernel_rfl) rfl ?_
      intro K hK
      refine step_pushLeg _ rfl _ _ rfl (w.heap.size + 2) _ ys rfl l _ rfl (owns_below ho (balloc hbr _)) ?_ hol ?_ ?_
      · exact appAny_leg (g := w3.heap.size) (by simp [go_sem]) (by simp [go_sem]) (by simp [go_sem]) (by simp [go_sem])
      · simp; omega
      intro v5 w5 o5 hg5 hB5
      obtain ⟨p5, c5, rfl⟩ := owns_form o5
      have hw5 := hB5 wr ((balloc hbr _).mono hz)
      have hb5 := hbl.trans (hw5.mono hle)
      have q0 := (hw5.cell (p := ⟨w.heap.size + 1, 0, none⟩) hlt1).trans d0
      have q1 := (hw5.cell (p := ⟨w.heap.size + 1, 1, none⟩) hlt1).trans d1
      have q2 := (hw5.cell (p := ⟨w.heap.size, 0, none⟩) hlt0).trans r0
      have q3 := (hw5.cell (p := ⟨w.heap.size, 1, none⟩) hlt0).trans r1
      have q4 := fun o => (hw5.frozen (p := ⟨w.heap.size, o, none⟩) hlt0).trans (fr o)
      have q5 := fun o => (hw5.frozen (p := ⟨w.heap.size + 1, o, none⟩) hlt1).trans (fd o)
      have hS6 := And.intro hb5 q1
      refine hK _ _ (fun _ => hS6) ?_
      clear hK K
      try simp only [Act.put, List.setIfInBounds_toArray, List.set_cons_zero, List.set_cons_succ]
      refine upto_take (i := 10) (v := ?_) rfl (by kernel_rfl) (by kernel_rfl) (by kernel_rfl) (by kernel_rfl) (fun _ _ _ h => h) (by rfl) hS6 ?_ ?_
      rotate_left
      · intro wS hSw
        try dsimp only at hSw
        first | (go_simp; done) | (go_simp; with_reducible rfl)
      try simp only [Act.put, List.setIfInBounds_toArray, List.set_cons_zero, List.set_cons_succ]
      refine upto_step (i := 11) (by kernel_rfl) rfl ?_
      intro K hK
      go_simp
      refine hK _ _ (fun h => absurd rfl h) ?_
      clear hK K
      refine upto_done (by kernel_rfl) ?_
      refine NoPanic.normal ?_
      have hz5 : w.heap.size + 2 ≤ w5.heap.size := Nat.le_trans hz hw5.size
      have HO5 : Hid (World.ownsRow w5 (w.heap.size + 2) 72 4 (.slice p5 (ys ++ [l]).length c5) (ys ++ [l]).length (legsC (ys ++ [l]))) := o5
      have HB5 : Hid (Below w.heap.size w w5) := hb5
      clear hS hS3 hS6 o5 hg5 hB5 hw5 hb5 hb3 hbr hCk
      go_wp2
      refine ⟨⟨k + 1, t + 11, .slice p5 (ys ++ [l]).length c5, ?_, ?_, by go_num, ?_⟩, by simp [intOf]; omega⟩
      · have := HT.out; have := HLEN.out; omega
      · have := HT.out; omega
      · rw [HL.out]
        refine ⟨⟨?_, ?_⟩, ⟨?_, ?_⟩, ⟨fun o => ?_, fun o => ?_⟩, by simp; omega, ?_, HB5.out.setCell (by simp) _⟩
        · rw [set_other (by simp)]; exact q0
        · exact (by simpa using set_same q1)
        · rw [set_other (by simp)]; exact q2
        · rw [set_other (by simp)]; exact q3
        · simp [q4]
        · simp [q5]
        · exact owns_setCell HO5.out (by simp) _
    · have hkn : k = n := by have := HT.out; have := HLEN.out; omega
      subst hkn
      have HC : Hid (unCont xs = ⟨id, unLegs xs k⟩) := by unfold Hid; rw [HID.out, HN.out]
      have HO : Hid (World.ownsRow wr (w.heap.size + 2) 72 4 (.slice pv (unLegs xs k).length qv) (unLegs xs k).length (legsC (unLegs xs k))) := ho
      clear HID HN ht hk hx ho
      generalize unLegs xs k = ys at *
      go_wp2
      refine bodyPost_ret (v := .agg #[.int .i64 id, .slice pv ys.length qv]) (by simp [results, Try.results59, go_sem, r0, r1]) rfl ?_
      rw [HC.out]
      exact ⟨_, fun b => (Value.slice pv ys.length qv).ownBlock = some b, rfl, ⟨owns_base (owns_setCell (owns_setCell HO.out (by simp) _) (by simp) _) (by omega), rfl⟩, by (repeat (first | exact Below.refl _ _ | assumption | refine Below.drew ?_ | refine balloc ?_ _ | refine bset ?_ (by simp; omega) _ | refine bset ?_ (by simp) _ | refine bstep ?_ (by assumption)))⟩

end Go.Proofs.Ythikaieobdhckaa

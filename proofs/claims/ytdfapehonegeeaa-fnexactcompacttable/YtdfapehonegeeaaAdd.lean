/-
  sortedList.add: a row put where it belongs.
-/
import Derived.Test.YtdfapehonegeeaaInsA
import Derived.Test.YtdfapehonegeeaaBsf
import Derived.Test.YtdfapehonegeeaaMrgM
namespace Go.Proofs.Ytdfapehonegeeaa
open Go.RowKit Go.Shelf
set_option linter.unusedSectionVars false
variable [DecidableEq Rw] [Inhabited Rw] [DecidableEq TabR] [Inhabited TabR]
set_option linter.unusedVariables false
set_option linter.unusedSimpArgs false
attribute [local go_sem ↓] Go.wp_at_zero Go.wp_at_succ

theorem addKeep {w w' : World} {b b' : Nat} {u v : Value} {x : Rw} (hb : Below w.heap.size w w') (h0 : w.cell? ⟨b, 0, none⟩ = some u) (h1 : w.cell? ⟨b, 1, none⟩ = some v) (h : rowCells w b' 0 x) :
    Below w.heap.size w w' ∧ w'.cell? ⟨b, 0, none⟩ = some u ∧ w'.cell? ⟨b, 1, none⟩ = some v ∧ (w'.cell? ⟨b', 0, none⟩ = some (.string x.key) ∧ w'.cell? ⟨b', 0 + 1, none⟩ = some (.int .i64 x.ver) ∧ w'.cell? ⟨b', 0 + 2, none⟩ = some (.string x.val) ∧ w'.cell? ⟨b', 0 + 3, none⟩ = some (.bool x.gone)) := ⟨hb, cell_keep hb h0, cell_keep hb h1, rowCells_below hb h⟩

/-- a list that rises, in its box -/
structure LstB (w : World) (base B : Nat) (v : Value) (ys : List Rw) : Prop where
  c0 : w.cell? ⟨B, 0, none⟩ = some v
  c1 : w.cell? ⟨B, 1, none⟩ = some cmpF
  fr : w.frozen? ⟨B, 0, none⟩ = false
  own : w.ownsRow base 32 4 v ys.length (rwsC ys)
  ne : v.ownBlock ≠ some B
  ri : Rises ys

set_option maxRecDepth 100000 in
set_option maxHeartbeats 8000000 in
theorem add_any (B : Nat) (v : Value) (ys : List Rw) (r : Rw) (base : Nat) (w : World) (hl : LstB w base B v ys) (hn : ys.length ≤ 1048000) (hbase : base ≤ w.heap.size) :
    Calls Try.prog 96 #[.pointer (some ⟨B, 0, none⟩), rowV r] w fun e w' => (∃ u, e = .returned u) ∧ ∃ v', LstB w' base B v' (putL ys r) ∧
      Mod (fun b => b = B ∨ v.ownBlock = some b) w w' ∧ (∀ b, v'.ownBlock = some b → v.ownBlock = some b ∨ (w.heap.size ≤ b ∧ b < w'.heap.size)) := by
  obtain ⟨h0, h1, hf, hown, hne, hri⟩ := hl
  have HRI : Hid (Rises ys) := hri
  have hVx : RowsV w v ys := RowsV_of_owns hown
  obtain ⟨a0, c0, rfl⟩ := owns_form hown
  generalize hN : ys.length = n at *
  have HN : Hid (ys.length = n) := hN
  clear hN hri
  have zB := World.block_lt_of_cell? _ _ h0
  dsimp only at zB
  unfold rowV
  unfold cmpF at h1
  go_enter Try.func96, Try.ntmps96
  go_wp2
  obtain ⟨w1, hw1⟩ : ∃ w1, w1 = w.alloc (.cells #[.string r.key, .int .i64 r.ver, .string r.val, .bool r.gone] 32) := ⟨_, rfl⟩
  rw [← hw1]
  have hb1 : Below w.heap.size w w1 := by rw [hw1]; exact balloc (Below.refl _ _) _
  have q0 := cell_keep hb1 h0
  have q1 := cell_keep hb1 h1
  have qr : rowCells w1 w.heap.size 0 r := by rw [hw1]; unfold rowCells; simp [go_sem]
  clear hw1
  have hC : ∀ W, Below w1.heap.size w1 W → Calls Try.prog 126 #[.slice a0 n c0, .agg #[.string r.key, .int .i64 r.ver, .string r.val, .bool r.gone], .func (.func 58) #[] #[]] W fun e w' =>
      ∃ (i : Nat) (f : Bool), e = .returned (.tuple #[.int .i64 i, .bool f]) ∧ Hid (i ≤ n ∧ PutAt ys r i ∧ (f = true → putL ys r = ys) ∧ (f = false → putL ys r = ys.take i ++ [r] ++ ys.drop i)) ∧ Below W.heap.size W w' := fun W hW => by
    refine (bsf_any (.slice a0 n c0) ys r W (RowsV_below hVx (bstep hb1 hW)) (by rw [HN.out]; omega) (rises_mono HRI.out r)).mono ?_
    rintro e w' ⟨i, hi, rfl, p1, p2, hb⟩
    have hp := putAt_of hi p1 p2
    refine ⟨i, _, rfl, ⟨by rw [← HN.out]; exact hi, hp, fun h => put_found hp (of_decide_eq_true h), fun h => put_new hp (of_decide_eq_false h)⟩, hb⟩
  go_region_held3 (fun W => Below w1.heap.size w1 W ∧ W.cell? ⟨B, 0, none⟩ = some (.slice a0 n c0) ∧ W.cell? ⟨B, 1, none⟩ = some (.func (.func 58) #[] #[]) ∧ (W.cell? ⟨w.heap.size, 0, none⟩ = some (.string r.key) ∧ W.cell? ⟨w.heap.size, 0 + 1, none⟩ = some (.int .i64 r.ver) ∧ W.cell? ⟨w.heap.size, 0 + 2, none⟩ = some (.string r.val) ∧ W.cell? ⟨w.heap.size, 0 + 3, none⟩ = some (.bool r.gone))) ((refine addKeep ?_ q0 q1 qr; repeat (first | exact Below.refl _ _ | assumption | refine Below.drew ?_ | refine balloc ?_ _ | refine bstep ?_ (by assumption))))
    (first | (go_at_call 126; refine (hC _ (by repeat (first | exact Below.refl _ _ | assumption | refine Below.drew ?_ | refine balloc ?_ _ | refine bstep ?_ (by assumption)))).mono ?_; rintro e wa ⟨i, f, rfl, HP, hb2⟩))
  rename_i hH
  have hB2 : Below w.heap.size w wa := bstep hb1 hH.1
  have r0 := hH.2.1
  have rr : rowCells wa w.heap.size 0 r := hH.2.2.2
  have rf : wa.frozen? ⟨B, 0, none⟩ = false := (hB2.frozen (p := ⟨B, 0, none⟩) zB).trans hf
  have r1 : wa.cell? ⟨B, 1, none⟩ = some (.func (.func 58) #[] #[]) := hH.2.2.1
  have ro : wa.ownsRow base 32 4 (.slice a0 n c0) n (rwsC ys) := owns_below hown hB2
  have hs2 := hB2.size
  clear hH q0 q1 qr hC
  cases f with
  | true =>
    have HE : Hid (putL ys r = ys) := HP.out.2.2.1 rfl
    go_wp2
    go_end0
    refine ⟨⟨_, rfl⟩, .slice a0 n c0, ⟨r0, r1, rf, ?_, hne, ?_⟩, Mod.of_below hB2, fun b hb => .inl hb⟩
    · rw [HE.out, HN.out]
      exact ro
    · rw [HE.out]
      exact HRI.out
  | false =>
    have HE : Hid (putL ys r = ys.take i ++ [r] ++ ys.drop i) := HP.out.2.2.2 rfl
    have hin : i ≤ n := HP.out.1
    obtain ⟨z0, z1, z2, z3⟩ := rr
    simp only [Nat.zero_add] at z1 z2 z3
    go_wp2
    refine wp_region_noPanic ?_
    refine region_upto (fun W => Mod (fun b => (Value.slice a0 n c0).ownBlock = some b) wa W ∧ W.cell? ⟨B, 0, none⟩ = some (.slice a0 n c0) ∧ W.cell? ⟨w.heap.size, 0, none⟩ = some (.string r.key) ∧ W.cell? ⟨w.heap.size, 1, none⟩ = some (.int .i64 r.ver) ∧ W.cell? ⟨w.heap.size, 2, none⟩ = some (.string r.val) ∧ W.cell? ⟨w.heap.size, 3, none⟩ = some (.bool r.gone)) 11 (by kernel_rfl) ⟨Mod.of_below (Below.drew (Below.refl _ _)), r0, z0, z1, z2, z3⟩ (fun hS => ?_)
    refine upto_take (i := 0) (v := ?_) rfl (by kernel_rfl) (by kernel_rfl) (by kernel_rfl) (by kernel_rfl) (fun _ _ _ h => h) (by rfl) hS ?_ ?_
    rotate_left
    · intro wS hSw
      try dsimp only at hSw
      first | (go_simp; done) | (go_simp; with_reducible rfl)
    try simp only [Act.put, List.getElem_toArray, List.getElem_cons_zero, List.getElem_cons_succ, List.setIfInBounds_toArray, List.set_cons_zero, List.set_cons_succ]
    refine upto_take (i := 1) (v := ?_) rfl (by kernel_rfl) (by kernel_rfl) (by kernel_rfl) (by kernel_rfl) (fun _ _ _ h => h) (by rfl) hS ?_ ?_
    rotate_left
    · intro wS hSw
      try dsimp only at hSw
      first | (go_simp; done) | (go_simp; with_reducible rfl)
    try simp only [Act.put, List.getElem_toArray, List.getElem_cons_zero, List.getElem_cons_succ, List.setIfInBounds_toArray, List.set_cons_zero, List.set_cons_succ]
    refine upto_take (i := 2) (v := ?_) rfl (by kernel_rfl) (by kernel_rfl) (by kernel_rfl) (by kernel_rfl) (fun _ _ _ h => h) (by rfl) hS ?_ ?_
    rotate_left
    · intro wS hSw
      try dsimp only at hSw
      first | (go_simp; done) | (go_simp; with_reducible rfl)
    try simp only [Act.put, List.getElem_toArray, List.getElem_cons_zero, List.getElem_cons_succ, List.setIfInBounds_toArray, List.set_cons_zero, List.set_cons_succ]
    refine upto_take (i := 3) (v := ?_) rfl (by kernel_rfl) (by kernel_rfl) (by kernel_rfl) (by kernel_rfl) (fun _ _ _ h => h) (by rfl) hS ?_ ?_
    rotate_left
    · intro wS hSw
      try dsimp only at hSw
      first | (go_simp; done) | (go_simp; with_reducible rfl)
    try simp only [Act.put, List.getElem_toArray, List.getElem_cons_zero, List.getElem_cons_succ, List.setIfInBounds_toArray, List.set_cons_zero, List.set_cons_succ]
    refine upto_take (i := 4) (v := ?_) rfl (by kernel_rfl) (by kernel_rfl) (by kernel_rfl) (by kernel_rfl) (fun _ _ _ h => h) (by rfl) hS ?_ ?_
    rotate_left
    · intro wS hSw
      try dsimp only at hSw
      first | (go_simp; done) | (go_simp; with_reducible rfl)
    try simp only [Act.put, List.getElem_toArray, List.getElem_cons_zero, List.getElem_cons_succ, List.setIfInBounds_toArray, List.set_cons_zero, List.set_cons_succ]
    refine upto_take (i := 5) (v := ?_) rfl (by kernel_rfl) (by kernel_rfl) (by kernel_rfl) (by kernel_rfl) (fun _ _ _ h => h) (by rfl) hS ?_ ?_
    rotate_left
    · intro wS hSw
      try dsimp only at hSw
      first | (go_simp; done) | (go_simp; with_reducible rfl)
    try simp only [Act.put, List.getElem_toArray, List.getElem_cons_zero, List.getElem_cons_succ, List.setIfInBounds_toArray, List.set_cons_zero, List.set_cons_succ]
    refine upto_take (i := 6) (v := ?_) rfl (by kernel_rfl) (by kernel_rfl) (by kernel_rfl) (by kernel_rfl) (fun _ _ _ h => h) (by rfl) hS ?_ ?_
    rotate_left
    · intro wS hSw
      try dsimp only at hSw
      first | (go_simp; done) | (go_simp; with_reducible rfl)
    try simp only [Act.put, List.getElem_toArray, List.getElem_cons_zero, List.getElem_cons_succ, List.setIfInBounds_toArray, List.set_cons_zero, List.set_cons_succ]
    refine upto_step (i := 7) (by kernel_rfl) rfl ?_
    intro K hK
    go_simp
    have hb3 : Below wa.heap.size wa (wa.alloc (.cells #[.string r.key, .int .i64 r.ver, .string r.val, .bool r.gone] 32)).drew := Below.drew (balloc (Below.refl _ _) _)
    have hv3 : (wa.alloc (.cells #[.string r.key, .int .i64 r.ver, .string r.val, .bool r.gone] 32)).drew.heap[wa.heap.size]? = some (.cells (rowC r).toArray 32 (0, 0)) := World.alloc_heap_new wa _
    generalize (wa.alloc (.cells #[.string r.key, .int .i64 r.ver, .string r.val, .bool r.gone] 32)).drew = w3 at *
    have hs3 := hb3.size
    have k0 := cell_keep hb3 r0
    have k1 := cell_keep hb3 r1
    have kf : w3.frozen? ⟨B, 0, none⟩ = false := (hb3.frozen (p := ⟨B, 0, none⟩) (by dsimp only; omega)).trans rf
    have ko := owns_below ro hb3
    refine hK _ _ (fun _ => ⟨Mod.of_below hb3, k0, cell_keep hb3 z0, cell_keep hb3 z1, cell_keep hb3 z2, cell_keep hb3 z3⟩) ?_
    clear hK K hS
    try simp only [Act.put, List.getElem_toArray, List.getElem_cons_zero, List.getElem_cons_succ, List.setIfInBounds_toArray, List.set_cons_zero, List.set_cons_succ]
    refine upto_step (i := 8) (by kernel_rfl) rfl ?_
    intro K hK
    go_simp
    refine (insert_any base (.slice a0 n c0) i wa.heap.size ys r w3 (by rw [HN.out]; exact ko) (by rw [HN.out]; exact hin) (by rw [HN.out]; exact hn) (by omega) hv3 ?_).mono ?_
    · intro e
      have := (ro.lt _ e).2
      omega
    rintro e w4 ⟨v4, rfl, o4, m4, l4⟩
    have hnw : (Value.slice a0 n c0).ownBlock ≠ some w.heap.size := fun e => by
      have := (hown.lt _ e).2
      omega
    have hs4 := m4.size
    have j0 := m4.cell k0 hne
    have j1 := m4.cell k1 hne
    have jf : w4.frozen? ⟨B, 0, none⟩ = false := (m4.frozen (a := ⟨B, 0, none⟩) (by dsimp only; omega) hne).trans kf
    have hM4 : Mod (fun b => (Value.slice a0 n c0).ownBlock = some b) wa w4 := (Mod.of_below hb3).trans m4
    have hS4 := And.intro hM4 (And.intro j0 (And.intro (m4.cell (cell_keep hb3 z0) hnw) (And.intro (m4.cell (cell_keep hb3 z1) hnw) (And.intro (m4.cell (cell_keep hb3 z2) hnw) (m4.cell (cell_keep hb3 z3) hnw)))))
    refine hK _ _ (fun _ => hS4) ?_
    clear hK K
    try simp only [Act.put, List.getElem_toArray, List.getElem_cons_zero, List.getElem_cons_succ, List.setIfInBounds_toArray, List.set_cons_zero, List.set_cons_succ]
    refine upto_step (i := 9) (by kernel_rfl) rfl ?_
    intro K hK
    go_simp
    refine hK _ _ (fun _ => hS4) ?_
    clear hK K
    try simp only [Act.put, List.getElem_toArray, List.getElem_cons_zero, List.getElem_cons_succ, List.setIfInBounds_toArray, List.set_cons_zero, List.set_cons_succ]
    refine upto_step (i := 10) (by kernel_rfl) rfl ?_
    intro K hK
    go_simp
    refine hK _ _ (fun _ => hS4) ?_
    clear hK K
    try simp only [Act.put, List.getElem_toArray, List.getElem_cons_zero, List.getElem_cons_succ, List.setIfInBounds_toArray, List.set_cons_zero, List.set_cons_succ]
    obtain ⟨L4, hL4⟩ : ∃ L4, (ys.take i ++ [r] ++ ys.drop i).length = L4 := ⟨_, rfl⟩
    rw [hL4] at o4
    have HL4 : Hid ((ys.take i ++ [r] ++ ys.drop i).length = L4) := hL4
    clear hL4
    obtain ⟨a4, c4, rfl⟩ := owns_form o4
    refine upto_step (i := 11) (by kernel_rfl) rfl ?_
    intro K hK
    go_simp
    refine hK _ _ (fun h => absurd rfl h) ?_
    clear hK K
    refine upto_done (by kernel_rfl) ?_
    refine NoPanic.normal ?_
    go_wp2
    go_end0
    have hset := Mod.of_set w4 ⟨B, 0, none⟩ (.slice a4 L4 c4)
    have hsz := hset.size
    have hnb : ∀ b, (Value.slice a4 L4 c4).ownBlock = some b → b ≠ B := fun b hb e => by
      rcases l4 b hb with h | h
      · exact hne (by rw [h, e])
      · omega
    refine ⟨⟨_, rfl⟩, .slice a4 L4 c4, ⟨set_same j0, (set_other (by simp)).trans j1, by rw [World.frozen?_setCell]; exact jf, ?_, fun e => hnb B e rfl, putL_rises r HRI.out⟩, ?_, fun b hb => ?_⟩
    · rw [HE.out, HL4.out]
      exact o4.kept (w' := w4.setCell ⟨B, 0, none⟩ (.slice a4 L4 c4)) ⟨rfl, rfl, rfl, hsz, fun k hk hn => hset.block k hk (fun e => hn (by rw [e]))⟩ (.inr (fun e => hnb B e rfl))
    · exact ((Mod.of_below hB2).trans (hM4.mono (fun b h => .inr h))).trans (hset.mono (fun b h => .inl h))
    · rcases l4 b hb with h | h
      · exact .inl h
      · exact .inr ⟨by omega, by omega⟩

end Go.Proofs.Ytdfapehonegeeaa

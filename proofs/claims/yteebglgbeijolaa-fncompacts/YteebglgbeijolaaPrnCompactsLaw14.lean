import Derived.Test.YteebglgbeijolaaPrnCompactsLaw13
import Derived.Test.YteebglgbeijolaaPrnCompactsLaw9
import Derived.Test.YteebglgbeijolaaPrnCompactsLaw11
import Derived.Scope
import Derived.Test.YteebglgbeijolaaPrnCompactsLaw8
import Derived.Test.YteebglgbeijolaaPrnCompactsLaw10

/-
  sortedList.add: a row put where it belongs.
-/
namespace Go.Proofs.Yteebglgbeijolaa
open Go.RowKit Go.Shelf
set_option linter.unusedSectionVars false
variable [DecidableEq Rw] [Inhabited Rw] [DecidableEq TabR] [Inhabited TabR]
set_option linter.unusedVariables false
set_option linter.unusedSimpArgs false
attribute [local go_sem ↓] Go.wp_at_zero Go.wp_at_succ

theorem addKeep {w w' : World} {b b' : Nat} {u v : Value} {x : Rw} (hb : Below w.heap.size w w') (h0 : w.cell? ⟨b, 0, none⟩ = some u) (h1 : w.cell? ⟨b, 1, none⟩ = some v) (h : rowCells w b' 0 x) :
    Below w.heap.size w w' ∧ w'.cell? ⟨b, 0, none⟩ = some u ∧ w'.cell? ⟨b, 1, none⟩ = some v ∧ (w'.cell? ⟨b', 0, none⟩ = some (.string x.key) ∧ w'.cell? ⟨b', 0 + 1, none⟩ = some (.int .i64 x.ver) ∧ w'.cell? ⟨b', 0 + 2, none⟩ = some (.string x.val) ∧ w'.cell? ⟨b', 0 + 3, none⟩ = some (.bool x.gone)) := ⟨hb, cell_keep hb h0, cell_keep hb h1, rowCells_below hb h⟩
structure LstB (w : World) (base B : Nat) (v : Value) (ys : List Rw) : Prop where
  c0 : w.cell? ⟨B, 0, none⟩ = some v
  c1 : w.cell? ⟨B, 1, none⟩ = some cmpF
  fr : w.frozen? ⟨B, 0, none⟩ = false
  own : w.ownsRow base 61 4 v ys.length (rwsC ys)
  ne : v.ownBlock ≠ some B
  ri : Rises ys
set_option maxRecDepth 100000 in
set_option maxHeartbeats 8000000 in
theorem add_any (B : Nat) (v : Value) (ys : List Rw) (r : Rw) (base : Nat) (w : World) (hl : LstB w base B v ys) (hn : ys.length ≤ 1048000) (hbase : base ≤ w.heap.size) :
    Calls Try.prog 114 #[.pointer (some ⟨B, 0, none⟩), rowV r] w fun e w' => (∃ u, e = .returned u) ∧ ∃ v', LstB w' base B v' (putL ys r) ∧
      Mod (fun b => b = B ∨ v.ownBlock = some b) w w' ∧ (∀ b, v'.ownBlock = some b → v.ownBlock = some b ∨ (w.heap.size ≤ b ∧ b < w'.heap.size)) := by
  obtain ⟨h0, h1, hf, hown, hne, hri⟩ := hl
  have HRI : Hid (Rises ys) := hri
  have hVx : RowsV w v ys := RowsV_of_owns hown
  obtain ⟨a0, c0, rfl⟩ := owns_form hown
  generalize hN : ys.length = n at *
  have HN : Hid (ys.length = n) := hN
  clear hN hri
  have zB := World.block_lt_of_cell? _ _ h0
  dsimp only at zB
  unfold rowV
  unfold cmpF at h1
  go_enter Try.func114, Try.ntmps114
  go_wp2
  obtain ⟨w1, hw1⟩ : ∃ w1, w1 = w.alloc (.cells #[.string r.key, .int .i64 r.ver, .string r.val, .bool r.gone] 61) := ⟨_, rfl⟩
  rw [← hw1]
  have hb1 : Below w.heap.size w w1 := by rw [hw1]; exact balloc (Below.refl _ _) _
  have q0 := cell_keep hb1 h0
  have q1 := cell_keep hb1 h1
  have qr : rowCells w1 w.heap.size 0 r := by rw [hw1]; unfold rowCells; simp [go_sem]
  clear hw1
  have hC : ∀ W, Below w1.heap.size w1 W → Calls Try.prog 145 #[.slice a0 n c0, .agg #[.string r.key, .int .i64 r.ver, .string r.val, .bool r.gone], .func (.func 77) #[] #[]] W fun e w' =>
      ∃ (i : Nat) (f : Bool), e = .returned (.tuple #[.int .i64 i, .bool f]) ∧ Hid (i ≤ n ∧ PutAt ys r i ∧ (f = true → putL ys r = ys) ∧ (f = false → putL ys r = ys.take i ++ [r] ++ ys.drop i)) ∧ Below W.heap.size W w' := fun W hW => by
    refine (bsf_any (.slice a0 n c0) ys r W (RowsV_below hVx (bstep hb1 hW)) (by rw [HN.out]; omega) (rises_mono HRI.out r)).mono ?_
    rintro e w' ⟨i, hi, rfl, p1, p2, hb⟩
    have hp := putAt_of hi p1 p2
    refine ⟨i, _, rfl, ⟨by rw [← HN.out]; exact hi, hp, fun h => put_found hp (of_decide_eq_true h), fun h => put_new hp (of_decide_eq_false h)⟩, hb⟩
  go_region_held3 (fun W => Below w1.heap.size w1 W ∧ W.cell? ⟨B, 0, none⟩ = some (.slice a0 n c0) ∧ W.cell? ⟨B, 1, none⟩ = some (.func (.func 77) #[] #[]) ∧ (W.cell? ⟨w.heap.size, 0, none⟩ = some (.string r.key) ∧ W.cell? ⟨w.heap.size, 0 + 1, none⟩ = some (.int .i64 r.ver) ∧ W.cell? ⟨w.heap.size, 0 + 2, none⟩ = some (.string r.val) ∧ W.cell? ⟨w.heap.size, 0 + 3, none⟩ = some (.bool r.gone))) ((refine addKeep ?_ q0 q1 qr; repeat (first | exact Below.refl _ _ | assumption | refine Below.drew ?_ | refine balloc ?_ _ | refine bstep ?_ (by assumption))))
    (first | (go_at_call 145; refine (hC _ (by repeat (first | exact Below.refl _ _ | assumption | refine Below.drew ?_ | refine balloc ?_ _ | refine bstep ?_ (by assumption)))).mono ?_; rintro e wa ⟨i, f, rfl, HP, hb2⟩))
  rename_i hH
  have hB2 : Below w.heap.size w wa := bstep hb1 hH.1
  have r0 := hH.2.1
  have rr : rowCells wa w.heap.size 0 r := hH.2.2.2
  have rf : wa.frozen? ⟨B, 0, none⟩ = false := (hB2.frozen (p := ⟨B, 0, none⟩) zB).trans hf
  have r1 : wa.cell? ⟨B, 1, none⟩ = some (.func (.func 77) #[] #[]) := hH.2.2.1
  have ro : wa.ownsRow base 61 4 (.slice a0 n c0) n (rwsC ys) := owns_below hown hB2
  have hs2 := hB2.size
  clear hH q0 q1 qr hC
  cases f with
  | true =>
    have HE : Hid (putL ys r = ys) := HP.out.2.2.1 rfl
    go_wp2
    go_end0
    refine ⟨⟨_, rfl⟩, .slice a0 n c0, ⟨r0, r1, rf, ?_, hne, ?_⟩, Mod.of_below hB2, fun b hb => .inl hb⟩
    · rw [HE.out, HN.out]
      exact ro
    · rw [HE.out]
      exact HRI.out
  | false =>
    have HE : Hid (putL ys r = ys.take i ++ [r] ++ ys.drop i) := HP.out.2.2.2 rfl
    have hin : i ≤ n := HP.out.1
    obtain ⟨z0, z1, z2, z3⟩ := rr
    simp only [Nat.zero_add] at z1 z2 z3
    go_wp2
    refine wp_region_noPanic ?_
    refine region_upto (fun W => Mod (fun b => (Value.slice a0 n c0).ownBlock = some b) wa W ∧ W.cell? ⟨B, 0, none⟩ = some (.slice a0 n c0) ∧ W.cell? ⟨w.heap.size, 0, none⟩ = some (.string r.key) ∧ W.cell? ⟨w.heap.size, 1, none⟩ = some (.int .i64 r.ver) ∧ W.cell? ⟨w.heap.size, 2, none⟩ = some (.string r.val) ∧ W.cell? ⟨w.heap.size, 3, none⟩ = some (.bool r.gone)) 11 (by kernel_rfl) ⟨Mod.of_below (Below.drew (Below.refl _ _)), r0, z0, z1, z2, z3⟩ (fun hS => ?_)
    refine upto_take (i := 0) (v := ?_) rfl (by kernel_rfl) (by kernel_rfl) (by kernel_rfl) (by kernel_rfl) (fun _ _ _ h => h) (by rfl) hS ?_ ?_
    rotate_left
    · intro wS hSw
      try dsimp only at hSw
      first | (go_simp; done) | (go_simp; with_reducible rfl)
    try simp only [Act.put, List.getElem_toArray, List.getElem_cons_zero, List.getElem_cons_succ, List.setIfInBounds_toArray, List.set_cons_zero, List.set_cons_succ]
    refine upto_take (i := 1) (v := ?_) rfl (by kernel_rfl) (by kernel_rfl) (by kernel_rfl) (by kernel_rfl) (fun _ _ _ h => h) (by rfl) hS ?_ ?_
    rotate_left
    · intro wS hSw
      try dsimp only at hSw
      first | (go_simp; done) | (go_simp; with_reducible rfl)
    try simp only [Act.put, List.getElem_toArray, List.getElem_cons_zero, List.getElem_cons_succ, List.setIfInBounds_toArray, List.set_cons_zero, List.set_cons_succ]
    refine upto_take (i := 2) (v := ?_) rfl (by kernel_rfl) (by kernel_rfl) (by kernel_rfl) (by kernel_rfl) (fun _ _ _ h => h) (by rfl) hS ?_ ?_
    rotate_left
    · intro wS hSw
      try dsimp only at hSw
      first | (go_simp; done) | (go_simp; with_reducible rfl)
    try simp only [Act.put, List.getElem_toArray, List.getElem_cons_zero, List.getElem_cons_succ, List.setIfInBounds_toArray, List.set_cons_zero, List.set_cons_succ]
    refine upto_take (i := 3) (v := ?_) rfl (by kernel_rfl) (by kernel_rfl) (by kernel_rfl) (by kernel_rfl) (fun _ _ _ h => h) (by rfl) hS ?_ ?_
    rotate_left
    · intro wS hSw
      try dsimp only at hSw
      first | (go_simp; done) | (go_simp; with_reducible rfl)
    try simp only [Act.put, List.getElem_toArray, List.getElem_cons_zero, List.getElem_cons_succ, List.setIfInBounds_toArray, List.set_cons_zero, List.set_cons_succ]
    refine upto_take (i := 4) (v := ?_) rfl (by kernel_rfl) (by kernel_rfl) (by kernel_rfl) (by kernel_rfl) (fun _ _ _ h => h) (by rfl) hS ?_ ?_
    rotate_left
    · intro wS hSw
      try dsimp only at hSw
      first | (go_simp; done) | (go_simp; with_reducible rfl)
    try simp only [Act.put, List.getElem_toArray, List.getElem_cons_zero, List.getElem_cons_succ, List.setIfInBounds_toArray, List.set_cons_zero, List.set_cons_succ]
    refine upto_take (i := 5) (v := ?_) rfl (by kernel_rfl) (by kernel_rfl) (by kernel_rfl) (by kernel_rfl) (fun _ _ _ h => h) (by rfl) hS ?_ ?_
    rotate_left
    · intro wS hSw
      try dsimp only at hSw
      first | (go_simp; done) | (go_simp; with_reducible rfl)
    try simp only [Act.put, List.getElem_toArray, List.getElem_cons_zero, List.getElem_cons_succ, List.setIfInBounds_toArray, List.set_cons_zero, List.set_cons_succ]
    refine upto_take (i := 6) (v := ?_) rfl (by kernel_rfl) (by kernel_rfl) (by kernel_rfl) (by kernel_rfl) (fun _ _ _ h => h) (by rfl) hS ?_ ?_
    rotate_left
    · intro wS hSw
      try dsimp only at hSw
      first | (go_simp; done) | (go_simp; with_reducible rfl)
    try simp only [Act.put, List.getElem_toArray, List.getElem_cons_zero, List.getElem_cons_succ, List.setIfInBounds_toArray, List.set_cons_zero, List.set_cons_succ]
    refine upto_step (i := 7) (by kernel_rfl) rfl ?_
    intro K hK
    go_simp
    have hb3 : Below wa.heap.size wa (wa.alloc (.cells #[.string r.key, .int .i64 r.ver, .string r.val, .bool r.gone] 61)).drew := Below.drew (balloc (Below.refl _ _) _)
    have hv3 : (wa.alloc (.cells #[.string r.key, .int .i64 r.ver, .string r.val, .bool r.gone] 61)).drew.heap[wa.heap.size]? = some (.cells (rowC r).toArray 61 (0, 0)) := World.alloc_heap_new wa _
    generalize (wa.alloc (.cells #[.string r.key, .int .i64 r.ver, .string r.val, .bool r.gone] 61)).drew = w3 at *
    have hs3 := hb3.size
    have k0 := cell_keep hb3 r0
    have k1 := cell_keep hb3 r1
    have kf : w3.frozen? ⟨B, 0, none⟩ = false := (hb3.frozen (p := ⟨B, 0, none⟩) (by dsimp only; omega)).trans rf
    have ko := owns_below ro hb3
    refine hK _ _ (fun _ => ⟨Mod.of_below hb3, k0, cell_keep hb3 z0, cell_keep hb3 z1, cell_keep hb3 z2, cell_keep hb3 z3⟩) ?_
    clear hK K hS
    try simp only [Act.put, List.getElem_toArray, List.getElem_cons_zero, List.getElem_cons_succ, List.setIfInBounds_toArray, List.set_cons_zero, List.set_cons_succ]
    refine upto_step (i := 8) (by kernel_rfl) rfl ?_
    intro K hK
    go_simp
    refine (insert_any base (.slice a0 n c0) i wa.heap.size ys r w3 (by rw [HN.out]; exact ko) (by rw [HN.out]; exact hin) (by rw [HN.out]; exact hn) (by omega) hv3 ?_).mono ?_
    · intro e
      have := (ro.lt _ e).2
      omega
    rintro e w4 ⟨v4, rfl, o4, m4, l4⟩
    have hnw : (Value.slice a0 n c0).ownBlock ≠ some w.heap.size := fun e => by
      have := (hown.lt _ e).2
      omega
    have hs4 := m4.size
    have j0 := m4.cell k0 hne
    have j1 := m4.cell k1 hne
    have jf : w4.frozen? ⟨B, 0, none⟩ = false := (m4.frozen (a := ⟨B, 0, none⟩) (by dsimp only; omega) hne).trans kf
    have hM4 : Mod (fun b => (Value.slice a0 n c0).ownBlock = some b) wa w4 := (Mod.of_below hb3).trans m4
    have hS4 := And.intro hM4 (And.intro j0 (And.intro (m4.cell (cell_keep hb3 z0) hnw) (And.intro (m4.cell (cell_keep hb3 z1) hnw) (And.intro (m4.cell (cell_keep hb3 z2) hnw) (m4.cell (cell_keep hb3 z3) hnw)))))
    refine hK _ _ (fun _ => hS4) ?_
    clear hK K
    try simp only [Act.put, List.getElem_toArray, List.getElem_cons_zero, List.getElem_cons_succ, List.setIfInBounds_toArray, List.set_cons_zero, List.set_cons_succ]
    refine upto_step (i := 9) (by kernel_rfl) rfl ?_
    intro K hK
    go_simp
    refine hK _ _ (fun _ => hS4) ?_
    clear hK K
    try simp only [Act.put, List.getElem_toArray, List.getElem_cons_zero, List.getElem_cons_succ, List.setIfInBounds_toArray, List.set_cons_zero, List.set_cons_succ]
    refine upto_step (i := 10) (by kernel_rfl) rfl ?_
    intro K hK
    go_simp
    refine hK _ _ (fun _ => hS4) ?_
    clear hK K
    try simp only [Act.put, List.getElem_toArray, List.getElem_cons_zero, List.getElem_cons_succ, List.setIfInBounds_toArray, List.set_cons_zero, List.set_cons_succ]
    obtain ⟨L4, hL4⟩ : ∃ L4, (ys.take i ++ [r] ++ ys.drop i).length = L4 := ⟨_, rfl⟩
    rw [hL4] at o4
    have HL4 : Hid ((ys.take i ++ [r] ++ ys.drop i).length = L4) := hL4
    clear hL4
    obtain ⟨a4, c4, rfl⟩ := owns_form o4
    refine upto_step (i := 11) (by kernel_rfl) rfl ?_
    intro K hK
    go_simp
    refine hK _ _ (fun h => absurd rfl h) ?_
    clear hK K
    refine upto_done (by kernel_rfl) ?_
    refine NoPanic.normal ?_
    go_wp2
    go_end0
    have hset := Mod.of_set w4 ⟨B, 0, none⟩ (.slice a4 L4 c4)
    have hsz := hset.size
    have hnb : ∀ b, (Value.slice a4 L4 c4).ownBlock = some b → b ≠ B := fun b hb e => by
      rcases l4 b hb with h | h
      · exact hne (by rw [h, e])
      · omega
    refine ⟨⟨_, rfl⟩, .slice a4 L4 c4, ⟨set_same j0, (set_other (by simp)).trans j1, by rw [World.frozen?_setCell]; exact jf, ?_, fun e => hnb B e rfl, putL_rises r HRI.out⟩, ?_, fun b hb => ?_⟩
    · rw [HE.out, HL4.out]
      exact o4.kept (w' := w4.setCell ⟨B, 0, none⟩ (.slice a4 L4 c4)) ⟨rfl, rfl, rfl, hsz, fun k hk hn => hset.block k hk (fun e => hn (by rw [e]))⟩ (.inr (fun e => hnb B e rfl))
    · exact ((Mod.of_below hB2).trans (hM4.mono (fun b h => .inr h))).trans (hset.mono (fun b h => .inl h))
    · rcases l4 b hb with h | h
      · exact .inl h
      · exact .inr ⟨by omega, by omega⟩
end Go.Proofs.Yteebglgbeijolaa

/-
  merged: rows of several iterators put into one list, until there are too many.
-/
namespace Go.Proofs.Yteebglgbeijolaa
open Go.RowKit Go.Shelf
set_option linter.unusedSectionVars false
variable [DecidableEq Rw] [Inhabited Rw] [DecidableEq TabR] [Inhabited TabR]
set_option linter.unusedVariables false
set_option linter.unusedSimpArgs false
attribute [local go_sem ↓] Go.wp_at_zero Go.wp_at_succ
attribute [local go_sem] Oper.semAt_some
attribute [local go_sem] run_store_func

theorem Seqx.mod {α : Type} {P : Program} {g : Nat} {lb : Array Value} {enc : α → Value} {xs : List α} {R : Nat → Prop} {w W0 : World} (h : Seqx P g lb enc xs R w) (hm : Mod (fun k => ¬ R k) w W0) : Seqx P g lb enc xs R W0 :=
  fun l J Jx W X hm2 => h l J Jx W X (hm.trans hm2)
def PartsV (w : World) (v : Value) (m : Nat) (gs : Nat → Nat) (lbs : Nat → Array Value) : Prop :=
  ∃ a cap, v = .slice a m cap ∧ m ≤ cap ∧ cap ≤ maxLen ∧ ∀ i, i < m → ∃ b o, a = some ⟨b, o, none⟩ ∧ w.cell? ⟨b, o + i, none⟩ = some (.func (.func (gs i)) #[] (lbs i))
def marks (ds : List Nat) : List Deferred := ds.map (fun D => { target := .collected D, args := #[] })
structure MrgB (w : World) (N most : Nat) (f : Bool) (W : World) (v : Value) (ys : List Rw) (ds : List Nat) : Prop where
  l : LstB W (N + 4) (N + 2) v ys
  c : W.cell? ⟨N, 0, none⟩ = some (.int .i64 most)
  r0 : W.cell? ⟨N + 1, 0, none⟩ = some (.slice none 0 0)
  r1 : ∃ u, W.cell? ⟨N + 1, 1, none⟩ = some u
  rf : ∀ o, W.frozen? ⟨N + 1, o, none⟩ = false
  t : W.cell? ⟨N + 3, 0, none⟩ = some (.bool f)
  tf : W.frozen? ⟨N + 3, 0, none⟩ = false
  s : N + 4 ≤ W.heap.size
  d : ∀ D ∈ ds, N + 4 ≤ D ∧ W.heap[D]? = some (.deferred (some [])) ∧ v.ownBlock ≠ some D
  dd : ds.Nodup
  b : Below N w W
theorem MrgB.mod {w : World} {N most : Nat} {f : Bool} {W W' : World} {v : Value} {ys : List Rw} {ds : List Nat} {F : Nat → Prop} (h : MrgB w N most f W v ys ds) (hm : Mod F W W') (hF : ∀ b, b < N + 4 → ¬ F b) (hFv : ∀ b, v.ownBlock = some b → ¬ F b) (hFd : ∀ D ∈ ds, ¬ F D) :
    MrgB w N most f W' v ys ds := by
  obtain ⟨hl, hc, h0, ⟨u, h1⟩, hf, ht, htf, hs, hd, hdd, hb⟩ := h
  have hz := hm.size
  refine ⟨⟨hm.cell hl.c0 (hF _ (by dsimp only; omega)), hm.cell hl.c1 (hF _ (by dsimp only; omega)), (hm.frozen (a := ⟨N + 2, 0, none⟩) (by dsimp only; omega) (hF _ (by dsimp only; omega))).trans hl.fr, hm.owns hl.own hFv, hl.ne, hl.ri⟩,
    hm.cell hc (hF _ (by dsimp only; omega)), hm.cell h0 (hF _ (by dsimp only; omega)), ⟨u, hm.cell h1 (hF _ (by dsimp only; omega))⟩, fun o => (hm.frozen (a := ⟨N + 1, o, none⟩) (by dsimp only; omega) (hF _ (by dsimp only; omega))).trans (hf o),
    hm.cell ht (hF _ (by dsimp only; omega)), (hm.frozen (a := ⟨N + 3, 0, none⟩) (by dsimp only; omega) (hF _ (by dsimp only; omega))).trans htf, by omega, fun D hD => ?_, hdd, ?_⟩
  · obtain ⟨p1, p2, p3⟩ := hd D hD
    exact ⟨p1, (hm.block D (Array.getElem?_eq_some_iff.1 p2).1 (hFd D hD)).trans p2, p3⟩
  · exact ⟨hm.os.trans hb.os, hm.tape.trans hb.tape, hm.output.trans hb.output, Nat.le_trans hb.size hz, fun b hb' => (hm.block b (by omega) (hF b (by omega))).trans (hb.block b hb')⟩
theorem MrgB.add {w : World} {N most : Nat} {W W' : World} {v v' : Value} {ys ys' : List Rw} {ds : List Nat} (f : Bool) (h : MrgB w N most true W v ys ds) (hl : LstB W' (N + 4) (N + 2) v' ys') (hm : Mod (fun b => b = N + 2 ∨ v.ownBlock = some b) W W')
    (ho : ∀ b, v'.ownBlock = some b → v.ownBlock = some b ∨ (W.heap.size ≤ b ∧ b < W'.heap.size)) : MrgB w N most f (W'.setCell ⟨N + 3, 0, none⟩ (.bool f)) v' ys' ds ∧ Mod (fun b => b = N + 2 ∨ v.ownBlock = some b ∨ b = N + 3) W (W'.setCell ⟨N + 3, 0, none⟩ (.bool f)) := by
  have hset : Mod (fun b => b = N + 3) W' (W'.setCell ⟨N + 3, 0, none⟩ (.bool f)) := Mod.of_set W' ⟨N + 3, 0, none⟩ (.bool f)
  have hM : Mod (fun b => b = N + 2 ∨ v.ownBlock = some b ∨ b = N + 3) W (W'.setCell ⟨N + 3, 0, none⟩ (.bool f)) := (hm.mono (fun b h => h.imp id .inl)).trans (hset.mono (fun b h => .inr (.inr h)))
  have hlow : ∀ b, b < N + 2 → ¬ (b = N + 2 ∨ v.ownBlock = some b ∨ b = N + 3) := by
    rintro b hb (h1 | h1 | h1)
    · omega
    · have := (h.l.own.lt b h1).1
      omega
    · omega
  have h3 : ¬ (N + 3 = N + 2 ∨ v.ownBlock = some (N + 3)) := by
    rintro (h1 | h1)
    · omega
    · have := (h.l.own.lt _ h1).1
      omega
  have hs := h.s
  have z1 := hM.size
  have z2 := hm.size
  obtain ⟨u, hu⟩ := h.r1
  refine ⟨⟨⟨hset.cell hl.c0 (by dsimp only; omega), hset.cell hl.c1 (by dsimp only; omega), by rw [World.frozen?_setCell]; exact hl.fr, hset.owns hl.own (fun b hb e => by have := (hl.own.lt b hb).1; omega), hl.ne, hl.ri⟩,
    hM.cell h.c (hlow _ (by dsimp only; omega)), hM.cell h.r0 (hlow _ (by dsimp only; omega)), ⟨u, hM.cell hu (hlow _ (by dsimp only; omega))⟩, fun o => (hM.frozen (a := ⟨N + 1, o, none⟩) (by dsimp only; omega) (hlow _ (by dsimp only; omega))).trans (h.rf o),
    set_same (hm.cell h.t h3), by rw [World.frozen?_setCell]; exact (hm.frozen (a := ⟨N + 3, 0, none⟩) (by dsimp only; omega) h3).trans h.tf, by omega, fun D hD => ?_, h.dd, ?_⟩, hM⟩
  · obtain ⟨p1, p2, p3⟩ := h.d D hD
    have hlt := (Array.getElem?_eq_some_iff.1 p2).1
    refine ⟨p1, (hM.block D hlt (by rintro (e | e | e); omega; exact p3 e; omega)).trans p2, fun e => ?_⟩
    rcases ho D e with e | e
    · exact p3 e
    · omega
  · have hb := h.b
    exact ⟨hM.os.trans hb.os, hM.tape.trans hb.tape, hM.output.trans hb.output, Nat.le_trans hb.size z1, fun b hb' => (hM.block b (by omega) (hlow b (by omega))).trans (hb.block b hb')⟩
def unmark (W : World) (ds : List Nat) : World := ds.foldl (fun W D => W.putObj D (.deferred none)) W
theorem unmark_mod : ∀ (ds : List Nat) (W : World), Mod (fun b => b ∈ ds) W (unmark W ds)
  | [], W => Mod.refl _ _
  | D :: ds, W => ((mod_put W D _).mono (fun b h => by rw [h]; exact List.mem_cons_self ..)).trans ((unmark_mod ds _).mono (fun b h => List.mem_cons_of_mem _ h))
theorem leaves_marks {P : Program} {fn : Func} {tmps : Array Value} {R : Ending → World → Prop} : ∀ (ds : List Nat) (W : World), (∀ D ∈ ds, W.heap[D]? = some (.deferred (some []))) → ds.Nodup →
    LeavesInM Fence.wide 0 P fn tmps R [] .returning (unmark W ds) → LeavesInM Fence.wide 0 P fn tmps R (marks ds) .returning W
  | [], W, _, _, h => h
  | D :: ds, W, hd, hn, h => by
    rw [List.nodup_cons] at hn
    refine ⟨by simp, .inl ⟨D, W.putObj D (.deferred none), rfl, run_takeDeferred (hd D (List.mem_cons_self ..)), leaves_marks ds _ (fun E hE => ?_) hn.2 h⟩⟩
    have hne : E ≠ D := fun e => hn.1 (by rw [← e]; exact hE)
    exact (World.putObj_heap_other hne).trans (hd E (List.mem_cons_of_mem _ hE))
def MrgI (w : World) (N most : Nat) (ds : List Nat) (done : List Rw) (f : Bool) (pre : List Rw) (W : World) (Y : Nat → Prop) : Prop :=
  ∃ v, MrgB w N most f W v (putsL [] (done ++ pre)) ds ∧ (∀ b, b < N + 4 → ¬ Y b) ∧ (∀ b, v.ownBlock = some b → ¬ Y b) ∧ (∀ D ∈ ds, ¬ Y D) ∧ (f = true → (putsL [] (done ++ pre)).length ≤ most)
theorem MrgI_stb (w : World) (N most : Nat) (ds : List Nat) (done : List Rw) (f : Bool) : Stb (MrgI w N most ds done f) := by
  rintro pre W W' Y Y' ⟨v, h, h1, h2, h3, h4⟩ hm hYY hYn
  refine ⟨v, h.mod hm h1 h2 h3, fun b hb hy => ?_, fun b hb hy => ?_, fun D hD hy => ?_, h4⟩
  · rcases (hYn b hy).1 with h' | h'
    · exact h1 b hb h'
    · have := h.s
      omega
  · rcases (hYn b hy).1 with h' | h'
    · exact h2 b hb h'
    · have := (h.l.own.lt b hb).2
      omega
  · rcases (hYn D hy).1 with h' | h'
    · exact h3 D hD h'
    · have := (Array.getElem?_eq_some_iff.1 (h.d D hD).2.1).1
      omega
def MrgX (w : World) (N most : Nat) (ds : List Nat) (done : List Rw) (c : Code) (pre : List Rw) (W : World) (Y : Nat → Prop) : Prop :=
  c = .exit 0 ∧ most < (putsL [] (done ++ pre)).length ∧ MrgI w N most ds done false pre W Y
theorem MrgX_stb (w : World) (N most : Nat) (ds : List Nat) (done : List Rw) (c : Code) : Stb (MrgX w N most ds done c) := by
  rintro pre W W' Y Y' ⟨e, hl, h⟩ hm hYY hYn
  exact ⟨e, hl, MrgI_stb w N most ds done false pre W W' Y Y' h hm hYY hYn⟩
set_option maxRecDepth 100000 in
set_option maxHeartbeats 8000000 in
theorem merged_any (pv : Value) (m most : Nat) (gs : Nat → Nat) (lbs : Nat → Array Value) (xss : Nat → List Rw) (w : World) (hp : PartsV w pv m gs lbs) (hmost : most ≤ 1048576) (htot : (flatTo xss m).length ≤ 1000000)
    (heg : ∀ i, i < m → ∀ args w, (callFunc (gs i) args).run Try.prog w = .ok (.enter (gs i) args) w) (hseq : ∀ i, i < m → Seqx Try.prog (gs i) (lbs i) rowV (xss i) (fun b => b < w.heap.size) w) :
    Calls Try.prog 76 #[cmpF, .int .i64 most, pv] w fun e w' => ∃ v f, e = .returned (.tuple #[.agg #[v, cmpF], .bool f]) ∧ (∃ a n c, v = .slice a n c) ∧ Below w.heap.size w w' ∧
      (f = true → w'.ownsRow w.heap.size 61 4 v (putsL [] (flatTo xss m)).length (rwsC (putsL [] (flatTo xss m))) ∧ (putsL [] (flatTo xss m)).length ≤ most) ∧ (f = false → most < (putsL [] (flatTo xss m)).length) := by
  obtain ⟨ap, cp, rfl, hmc, hcm, hpart⟩ := hp
  unfold maxLen at hcm
  have HSEQ : Hid (∀ i, i < m → Seqx Try.prog (gs i) (lbs i) rowV (xss i) (fun b => b < w.heap.size) w) := hseq
  have HEG : Hid (∀ i, i < m → ∀ args w, (callFunc (gs i) args).run Try.prog w = .ok (.enter (gs i) args) w) := heg
  have HTOT : Hid ((flatTo xss m).length ≤ 1000000) := htot
  clear hseq heg htot
  refine (callsIn_wide (n := 0)).1 ?_
  refine callsIn_of_wp_marks Try.func76 rfl trivial ?_ rfl
  refine wpIn_wide.2 ?_
  unfold cmpF
  simp only [Try.ntmps76, List.size_toArray, List.length_cons, List.length_nil, Nat.reduceAdd, Nat.reduceSub, Array.replicate_succ, Array.replicate_zero, List.push_toArray, List.append_toArray, List.nil_append, List.cons_append]
  go_wp2
  refine wp_scope_straight ?_
  go_wp2
  refine wp_label ?_
  go_wp2
  obtain ⟨N, hN⟩ : ∃ N, N = w.heap.size := ⟨_, rfl⟩
  have HN : Hid (N = w.heap.size) := hN
  obtain ⟨W0, hW0⟩ : ∃ W0, W0 = ((((w.alloc (.cells #[.int .i64 most] 3)).alloc (.cells #[.slice none 0 0, .nilFunc] 122)).alloc (.cells #[.slice none 0 0, .func (.func 77) #[] #[]] 122)).alloc (.cells #[.bool true] 4)) := ⟨_, rfl⟩
  have hB0 : MrgB w N most true W0 (.slice none 0 0) (putsL [] (flatTo xss 0)) [] := by
    rw [hN, hW0]
    refine ⟨⟨by simp [go_sem], by simp [go_sem, cmpF], by simp [go_sem], World.ownsRow_nil _ _ _ _, by simp [Value.ownBlock], rises_nil⟩, by simp [go_sem], by simp [go_sem], ⟨.nilFunc, by simp [go_sem]⟩, fun o => by simp [go_sem], by simp [go_sem], by simp [go_sem], by simp, fun D hD => by simp at hD, List.nodup_nil, ?_⟩
    exact balloc (balloc (balloc (balloc (Below.refl _ _) _) _) _) _
  rw [← hW0, ← hN]
  clear hW0 hN
  refine wp_loop (fun a W => ∃ (k : Nat) (v : Value) (ds : List Nat) (u11 u18 u19 u20 u21 u32 : Value), k ≤ m ∧ Hid (MrgB w N most true W v (putsL [] (flatTo xss k)) ds) ∧ (putsL [] (flatTo xss k)).length ≤ most ∧
    a = { tmps := #[.func (.func 77) #[] #[], .int .i64 most, .slice ap m cp, undef, .pointer (some ⟨N, 0, none⟩), undef, .pointer (some ⟨N + 1, 0, none⟩), .bool false, .pointer (some ⟨N + 1 + 1, 0, none⟩), .pointer (some ⟨N + 1 + 1 + 1, 0, none⟩), undef, u11, undef,
      .func (.func 77) #[] #[], .agg #[.slice none 0 0, .func (.func 77) #[] #[]], .slice ap m cp, .int .i64 m, .int .i64 k, u18, u19, u20, u21, undef, undef, undef, undef, undef, undef, undef, undef, undef, undef, u32, undef, undef], defers := marks ds }) (fun a _ => m - (intOf (a.tmps.getD 17 undef)).toNat) ?_ ?_
  · exact ⟨0, .slice none 0 0, [], undef, undef, undef, undef, undef, undef, Nat.zero_le _, hB0, Nat.zero_le _, rfl⟩
  clear hB0
  rintro a W ⟨k, v, ds, u11, u18, u19, u20, u21, u32, hk, HB, hlen, rfl⟩
  by_cases hlt : k < m
  · obtain ⟨b, o, rfl, hc⟩ := hpart k hlt
    have hc2 : W.cell? ⟨b, o + k, none⟩ = some (.func (.func (gs k)) #[] (lbs k)) := (HB.out.b.cell (p := ⟨b, o + k, none⟩) (by rw [HN.out]; exact World.block_lt_of_cell? _ _ hc)).trans hc
    have hi4 : (0 : Int) ≤ k := by omega
    have hi5 : (k : Int) < m := by omega
    have hseqW : Seqx Try.prog (gs k) (lbs k) rowV (xss k) (fun b => b < w.heap.size) W := (HSEQ.out k hlt).mod ⟨HB.out.b.os, HB.out.b.tape, HB.out.b.output, by have := HB.out.b.size; have := HN.out; omega, fun b hb hn => HB.out.b.block b (by have := HN.out; omega)⟩
    have hRa : ∀ b, b < w.heap.size → b < W.heap.size := fun b hb => by have := HB.out.s; have := HN.out; omega
    have HSQ : Hid (Seqx Try.prog (gs k) (lbs k) rowV (xss k) (fun b => b < w.heap.size) W) := hseqW
    have HRA : Hid (∀ b, b < w.heap.size → b < W.heap.size) := hRa
    have HFL : Hid (∀ pre, pre <+: xss k → (putsL [] (flatTo xss k ++ pre)).length ≤ 1000000) := fun pre hpre => by
      have h1 := (length_putsL (flatTo xss k ++ pre) []).2
      have h2 := hpre.length_le
      have h3 : ∀ n, k < n → n ≤ m → (flatTo xss k).length + (xss k).length ≤ (flatTo xss n).length := by
        intro n
        induction n with
        | zero => intro h; omega
        | succ n ih =>
          intro h h'
          have e0 : flatTo xss (n + 1) = flatTo xss n ++ xss n := rfl
          rw [e0, List.length_append]
          by_cases e : k = n
          · subst e; omega
          · have := ih (by omega) (by omega); omega
      have h4 := h3 m hlt (Nat.le_refl _)
      have h5 := HTOT.out
      simp only [List.length_nil, List.length_append, Nat.zero_add] at h1
      omega
    have HI0 : Hid (MrgI w N most ds (flatTo xss k) true [] W (fun _ => False)) := ⟨v, by rw [List.append_nil]; exact HB.out, fun _ _ h => h, fun _ _ h => h, fun _ _ h => h, fun _ => by rw [List.append_nil]; exact hlen⟩
    have hs4 := HB.out.s
    clear hseqW hRa
    go_wp2
    refine (wpIn_wide (n := 0)).1 ?_
    refine wp_rangeX (gf := gs k) rfl (HEG.out k hlt) HSQ.out HRA.out (MrgI w N most ds (flatTo xss k) true) (MrgX w N most ds (flatTo xss k)) (MrgI_stb _ _ _ _ _ _) (MrgX_stb _ _ _ _ _) (fun _ => False) (fun _ h => h.elim) HI0.out
      (fun x => RowBox (N + 4) (fun B => { tmps := #[.func (.func 77) #[] #[], .int .i64 most, .slice (some ⟨b, o, none⟩) m cp, undef, .pointer (some ⟨N, 0, none⟩), undef, .pointer (some ⟨N + 1, 0, none⟩), .bool false, .pointer (some ⟨N + 1 + 1, 0, none⟩), .pointer (some ⟨N + 1 + 1 + 1, 0, none⟩), undef, .func (.func (gs k)) #[] (lbs k), .pointer (some ⟨B, 0, none⟩),
        .func (.func 77) #[] #[], .agg #[.slice none 0 0, .func (.func 77) #[] #[]], .slice (some ⟨b, o, none⟩) m cp, .int .i64 m, .int .i64 k, .bool true, .pointer (some ⟨b, o + k, none⟩), .func (.func (gs k)) #[] (lbs k), .func (.func (gs k)) #[] (lbs k), .agg #[.string x.key, .int .i64 x.ver, .string x.val, .bool x.gone], undef, undef, undef, undef, undef, undef, undef, undef, undef, u32, undef, undef], defers := [] }) x)
      (fun x a' => RowBox_stb _ _ x a') ?assign ?body ?done ?stop
    case assign =>
      rintro l2 pre x W3 Y K ⟨_, hB3, _⟩ hYl hYa hK
      have h3s := hB3.s
      unfold rowV
      gi_wp2
      refine hK _ _ (mod_alloc _ _ _) ⟨W3.heap.size, h3s, by simp, by unfold rowCells; simp [go_sem], fun h => ?_, rfl⟩
      have := hYa _ h
      omega
    case body =>
      rintro l2 pre x a' W3 Y hYl hYa ⟨v3, hB3, y1, y2, y3, y4⟩ ⟨B, hBlo, hBs, hr, hYB, rfl⟩ hpre
      have HP : Hid (putsL [] (flatTo xss k ++ (pre ++ [x])) = putL (putsL [] (flatTo xss k ++ pre)) x) := by
        rw [Hid, ← List.append_assoc, putsL_snoc]
      have hfl := HFL.out pre ((List.prefix_append pre [x]).trans hpre)
      obtain ⟨r0, r1, r2, r3⟩ := hr
      simp only [Nat.zero_add] at r1 r2 r3
      have HB3 : Hid (MrgB w N most true W3 v3 (putsL [] (flatTo xss k ++ pre)) ds) := hB3
      have hl3 := hB3.l
      have hs3 := hB3.s
      clear hB3
      generalize putsL [] (flatTo xss k ++ pre) = ys at *
      gi_wp2
      refine ⟨trivial, rfl, (CallsIn.inRound l2 (callsIn_wide.2 (add_any (N + 2) v3 ys x (N + 4) W3 hl3 (by omega) hs3))).mono ?_⟩
      rintro e W4 ⟨⟨u, rfl⟩, v4, l4, m4, o4⟩
      obtain ⟨L4, hL4⟩ : ∃ L4, (putL ys x).length = L4 := ⟨_, rfl⟩
      have HL4 : Hid ((putL ys x).length = L4) := hL4
      have k0 := l4.own
      rw [hL4] at k0
      clear hL4
      obtain ⟨a4, c4, rfl⟩ := owns_form k0
      clear k0
      have k0 : W4.cell? ⟨N + 1 + 1, 0, none⟩ = some (.slice a4 L4 c4) := l4.c0
      have h4s : L4 ≤ 1000001 := by
        have := (length_putL ys x).2
        have := HL4.out
        omega
      have k1 : W4.cell? ⟨N, 0, none⟩ = some (.int .i64 most) := m4.cell HB3.out.c (by rintro (h | h); dsimp only at h; omega; have := (hl3.own.lt _ h).1; dsimp only at this; omega)
      have hn3 : ¬ (N + 3 = N + 2 ∨ v3.ownBlock = some (N + 3)) := by
        rintro (h | h)
        · omega
        · have := (hl3.own.lt _ h).1
          omega
      have k2 : W4.cell? ⟨N + 1 + 1 + 1, 0, none⟩ = some (.bool true) := m4.cell HB3.out.t hn3
      have k3 : W4.frozen? ⟨N + 1 + 1 + 1, 0, none⟩ = false := (m4.frozen (a := ⟨N + 3, 0, none⟩) (by dsimp only; omega) hn3).trans HB3.out.tf
      have HA := fun f => MrgB.add f HB3.out l4 m4 o4
      have HKP : Hid (∀ W5, Mod (fun b => b = N + 2 ∨ v3.ownBlock = some b ∨ b = N + 3) W3 W5 → Kp (fun b => b < w.heap.size) Y W3 W5) := fun W5 hm => hm.mono (fun b h => by
        have hwN := HN.out
        rcases h with rfl | h | rfl
        · rintro (h2 | h2)
          · omega
          · exact y1 _ (by omega) h2
        · have := (hl3.own.lt b h).1
          rintro (h2 | h2)
          · omega
          · exact y2 b h h2
        · rintro (h2 | h2)
          · omega
          · exact y1 _ (by omega) h2)
      have HYO : Hid (∀ b, (Value.slice a4 L4 c4).ownBlock = some b → ¬ Y b) := fun b hb hy => by
        rcases o4 b hb with h | h
        · exact y2 b h hy
        · have := hYa b hy
          omega
      by_cases hle : L4 ≤ most
      · have hd : decide ((L4 : Int) ≤ (most : Int)) = true := decide_eq_true (by omega)
        have HH := HA true
        have HN1 : Hid (MrgB w N most true (W4.setCell ⟨N + 1 + 1 + 1, 0, none⟩ (.bool true)) (.slice a4 L4 c4) (putL ys x) ds ∧ Mod (fun b => b = N + 2 ∨ v3.ownBlock = some b ∨ b = N + 3) W3 (W4.setCell ⟨N + 1 + 1 + 1, 0, none⟩ (.bool true))) := HH
        clear HH HA
        gi_wp2
        refine ⟨HKP.out _ HN1.out.2, .slice a4 L4 c4, ?_, y1, HYO.out, y3, fun _ => ?_⟩
        · rw [HP.out]
          exact HN1.out.1
        · rw [HP.out, HL4.out]
          exact hle
      · have hd : decide ((L4 : Int) ≤ (most : Int)) = false := decide_eq_false (by omega)
        have HH := HA false
        have HN1 : Hid (MrgB w N most false (W4.setCell ⟨N + 1 + 1 + 1, 0, none⟩ (.bool false)) (.slice a4 L4 c4) (putL ys x) ds ∧ Mod (fun b => b = N + 2 ∨ v3.ownBlock = some b ∨ b = N + 3) W3 (W4.setCell ⟨N + 1 + 1 + 1, 0, none⟩ (.bool false))) := HH
        clear HH HA
        gi_wp2
        refine ⟨HKP.out _ HN1.out.2, rfl, ?_, .slice a4 L4 c4, ?_, y1, HYO.out, y3, fun h => by cases h⟩
        · rw [HP.out, HL4.out]
          omega
        · rw [HP.out]
          exact HN1.out.1
    case done =>
      rintro D W5 Y hD hYD ⟨v5, hB5, y1, y2, y3, y4⟩ hdef
      have hBk : MrgB w N most true W5 v5 (putsL [] (flatTo xss (k + 1))) (D :: ds) := by
        refine ⟨hB5.l, hB5.c, hB5.r0, hB5.r1, hB5.rf, hB5.t, hB5.tf, hB5.s, fun E hE => ?_, ?_, hB5.b⟩
        · rcases List.mem_cons.1 hE with rfl | hE
          · exact ⟨by omega, hdef, fun e => y2 _ e hYD⟩
          · exact hB5.d E hE
        · rw [List.nodup_cons]
          exact ⟨fun h => y3 D h hYD, hB5.dd⟩
      have hlk : (putsL [] (flatTo xss (k + 1))).length ≤ most := y4 rfl
      have HBk : Hid (MrgB w N most true W5 v5 (putsL [] (flatTo xss (k + 1))) (D :: ds) ∧ (putsL [] (flatTo xss (k + 1))).length ≤ most) := ⟨hBk, hlk⟩
      clear hBk hlk hB5 y1 y2 y3 y4
      go_wp2
      refine ⟨⟨k + 1, v5, D :: ds, _, _, _, _, _, _, by omega, HBk.out.1, HBk.out.2, rfl⟩, ?_⟩
      simp [intOf]
      omega
    case stop =>
      rintro D c pre W5 Y hD hYD hpre ⟨rfl, hlong, v5, hB5, y1, y2, y3, y4⟩ hdef
      have HB5 : Hid (MrgB w N most false W5 v5 (putsL [] (flatTo xss k ++ pre)) (D :: ds)) := by
        refine ⟨hB5.l, hB5.c, hB5.r0, hB5.r1, hB5.rf, hB5.t, hB5.tf, hB5.s, fun E hE => ?_, ?_, hB5.b⟩
        · rcases List.mem_cons.1 hE with rfl | hE
          · exact ⟨by omega, hdef, fun e => y2 _ e hYD⟩
          · exact hB5.d E hE
        · rw [List.nodup_cons]
          exact ⟨fun h => y3 D h hYD, hB5.dd⟩
      clear hB5 y1 y2 y3 y4
      refine wpIn_wide.2 ?_
      go_wp2
      obtain ⟨L5, hL5⟩ : ∃ L5, (putsL [] (flatTo xss k ++ pre)).length = L5 := ⟨_, rfl⟩
      have HL5 : Hid ((putsL [] (flatTo xss k ++ pre)).length = L5) := hL5
      have o5 := HB5.out.l.own
      rw [hL5] at o5
      clear hL5
      obtain ⟨a5, c5, rfl⟩ := owns_form o5
      have e0 : W5.cell? ⟨N + 1 + 1, 0, none⟩ = some (.slice a5 L5 c5) := HB5.out.l.c0
      have e1 : W5.cell? ⟨N + 1 + 1, 1, none⟩ = some (.func (.func 77) #[] #[]) := HB5.out.l.c1
      have e2 : W5.cell? ⟨N + 1 + 1 + 1, 0, none⟩ = some (.bool false) := HB5.out.t
      have e3 := HB5.out.r0
      obtain ⟨u1, e4⟩ := HB5.out.r1
      have e5 := HB5.out.rf
      have hs5 := HB5.out.s
      refine wp_region_noPanic ?_
      refine region_upto (fun W' => W'.cell? ⟨N + 1 + 1, 0, none⟩ = some (.slice a5 L5 c5) ∧ W'.cell? ⟨N + 1 + 1, 1, none⟩ = some (.func (.func 77) #[] #[]) ∧ W'.cell? ⟨N + 1 + 1 + 1, 0, none⟩ = some (.bool false)) 3 (by kernel_rfl) ⟨e0, e1, e2⟩ (fun hS => ?_)
      refine upto_take (i := 0) (v := ?_) rfl (by kernel_rfl) (by kernel_rfl) (by kernel_rfl) (by kernel_rfl) (fun _ _ _ h => h) (by rfl) hS ?_ ?_
      rotate_left
      · intro wS hSw
        try dsimp only at hSw
        first | (go_simp; done) | (go_simp; with_reducible rfl)
      try simp only [Act.put, List.getElem_toArray, List.getElem_cons_zero, List.getElem_cons_succ, List.setIfInBounds_toArray, List.set_cons_zero, List.set_cons_succ]
      refine upto_take (i := 1) (v := ?_) rfl (by kernel_rfl) (by kernel_rfl) (by kernel_rfl) (by kernel_rfl) (fun _ _ _ h => h) (by rfl) hS ?_ ?_
      rotate_left
      · intro wS hSw
        try dsimp only at hSw
        first | (go_simp; done) | (go_simp; with_reducible rfl)
      try simp only [Act.put, List.getElem_toArray, List.getElem_cons_zero, List.getElem_cons_succ, List.setIfInBounds_toArray, List.set_cons_zero, List.set_cons_succ]
      refine upto_step (i := 2) (by kernel_rfl) rfl ?_
      intro K hK
      go_simp
      obtain ⟨W6, hW6⟩ : ∃ W6, W6 = ((W5.setCell ⟨N + 1, 0, none⟩ (.slice a5 L5 c5)).setCell ⟨N + 1, 1, none⟩ (.func (.func 77) #[] #[])).drew := ⟨_, rfl⟩
      have hm6 : Mod (fun b => b = N + 1) W5 W6 := by
        rw [hW6]
        exact ((Mod.of_set W5 ⟨N + 1, 0, none⟩ _).trans (Mod.of_set _ ⟨N + 1, 1, none⟩ _)).trans (Mod.of_below (Below.drew (Below.refl _ _)))
      have g0 : W6.cell? ⟨N + 1, 0, none⟩ = some (.slice a5 L5 c5) := by
        rw [hW6]
        exact (set_other (w := W5.setCell ⟨N + 1, 0, none⟩ (.slice a5 L5 c5)) (by simp)).trans (set_same e3)
      have g1 : W6.cell? ⟨N + 1, 1, none⟩ = some (.func (.func 77) #[] #[]) := by
        rw [hW6]
        exact set_same ((set_other (by simp)).trans e4)
      rw [← hW6]
      clear hW6
      refine hK _ _ (fun _ => ⟨hm6.cell e0 (by dsimp only; omega), hm6.cell e1 (by dsimp only; omega), hm6.cell e2 (by dsimp only; omega)⟩) ?_
      clear hK K hS
      try simp only [Act.put, List.getElem_toArray, List.getElem_cons_zero, List.getElem_cons_succ, List.setIfInBounds_toArray, List.set_cons_zero, List.set_cons_succ]
      refine upto_step (i := 3) (by kernel_rfl) rfl ?_
      intro K hK
      go_simp
      refine hK _ _ (fun h => absurd rfl h) ?_
      clear hK K
      try simp only [Act.put, List.getElem_toArray, List.getElem_cons_zero, List.getElem_cons_succ, List.setIfInBounds_toArray, List.set_cons_zero, List.set_cons_succ]
      refine upto_done (by kernel_rfl) ?_
      refine NoPanic.normal ?_
      have HD : Hid (∀ E ∈ (D :: ds), N + 4 ≤ E ∧ W6.heap[E]? = some (.deferred (some [])) ∧ (Value.slice a5 L5 c5).ownBlock ≠ some E) := fun E hD => by
        obtain ⟨p1, p2, p3⟩ := HB5.out.d E hD
        exact ⟨p1, (hm6.block E (Array.getElem?_eq_some_iff.1 p2).1 (by omega)).trans p2, p3⟩
      have HU := unmark_mod (D :: ds) W6
      have hz6 := hm6.size
      have y0 := HU.cell g0 (fun h => by have := (HD.out _ h).1; dsimp only at this; omega)
      have y1 := HU.cell g1 (fun h => by have := (HD.out _ h).1; dsimp only at this; omega)
      have HBL : Hid (Below N w (unmark W6 (D :: ds))) := by
        have h1 := HB5.out.b
        have h2 := HB5.out.s
        have h3 := HU.size
        refine ⟨HU.os.trans (hm6.os.trans h1.os), HU.tape.trans (hm6.tape.trans h1.tape), HU.output.trans (hm6.output.trans h1.output), by have := h1.size; omega, fun b hb => ?_⟩
        have hbl : b < W5.heap.size := by omega
        exact ((HU.block b (by omega) (fun h => by have := (HD.out _ h).1; omega)).trans (hm6.block b hbl (by omega))).trans (h1.block b hb)
      have HOW : Hid ((unmark W6 (D :: ds)).ownsRow (N + 4) 61 4 (.slice a5 L5 c5) L5 _) := HU.owns (hm6.owns o5 (fun b hb e => by have := (o5.lt b hb).1; omega)) (fun b hb h => (HD.out b h).2.2 hb)
      clear HU
      go_wp2
      refine leaves_marks (D :: ds) _ (fun D hD => (HD.out D hD).2.1) HB5.out.dd ?_
      refine ⟨.tuple #[.agg #[.slice a5 L5 c5, .func (.func 77) #[] #[]], .bool false], by simp [results, Try.results76, go_sem, y0, y1], ?_⟩
      refine ⟨.slice a5 L5 c5, false, rfl, ⟨_, _, _, rfl⟩, by rw [← HN.out]; exact HBL.out, ?_, ?_⟩
      · intro h; cases h
      · intro _
        have h1 : (flatTo xss k ++ pre) <+: flatTo xss m := by
          have h3 : ∀ n, k < n → n ≤ m → flatTo xss (k + 1) <+: flatTo xss n := by
            intro n
            induction n with
            | zero => intro h; omega
            | succ n ih =>
              intro h h'
              by_cases e : k = n
              · subst e; exact List.prefix_refl _
              · exact (ih (by omega) (by omega)).trans (List.prefix_append _ _)
          refine List.IsPrefix.trans ?_ (h3 m hlt (Nat.le_refl _))
          exact (List.prefix_append_right_inj _).2 hpre
        have h2 := length_putsL_pre (ys := []) h1
        omega
  · obtain rfl : k = m := by omega
    have hi5 : ¬ ((k : Int) < k) := by omega
    have hi6 : decide (k < k) = false := decide_eq_false hlt
    go_wp2
    obtain ⟨L5, hL5⟩ : ∃ L5, (putsL [] (flatTo xss k)).length = L5 := ⟨_, rfl⟩
    have HL5 : Hid ((putsL [] (flatTo xss k)).length = L5) := hL5
    have o5 := HB.out.l.own
    rw [hL5] at o5
    clear hL5
    obtain ⟨a5, c5, rfl⟩ := owns_form o5
    have e0 : W.cell? ⟨N + 1 + 1, 0, none⟩ = some (.slice a5 L5 c5) := HB.out.l.c0
    have e1 : W.cell? ⟨N + 1 + 1, 1, none⟩ = some (.func (.func 77) #[] #[]) := HB.out.l.c1
    have e2 : W.cell? ⟨N + 1 + 1 + 1, 0, none⟩ = some (.bool true) := HB.out.t
    have e3 := HB.out.r0
    obtain ⟨u1, e4⟩ := HB.out.r1
    have e5 := HB.out.rf
    have hs5 := HB.out.s
    refine wp_region_noPanic ?_
    refine region_upto (fun W' => W'.cell? ⟨N + 1 + 1, 0, none⟩ = some (.slice a5 L5 c5) ∧ W'.cell? ⟨N + 1 + 1, 1, none⟩ = some (.func (.func 77) #[] #[]) ∧ W'.cell? ⟨N + 1 + 1 + 1, 0, none⟩ = some (.bool true)) 3 (by kernel_rfl) ⟨e0, e1, e2⟩ (fun hS => ?_)
    refine upto_take (i := 0) (v := ?_) rfl (by kernel_rfl) (by kernel_rfl) (by kernel_rfl) (by kernel_rfl) (fun _ _ _ h => h) (by rfl) hS ?_ ?_
    rotate_left
    · intro wS hSw
      try dsimp only at hSw
      first | (go_simp; done) | (go_simp; with_reducible rfl)
    try simp only [Act.put, List.getElem_toArray, List.getElem_cons_zero, List.getElem_cons_succ, List.setIfInBounds_toArray, List.set_cons_zero, List.set_cons_succ]
    refine upto_take (i := 1) (v := ?_) rfl (by kernel_rfl) (by kernel_rfl) (by kernel_rfl) (by kernel_rfl) (fun _ _ _ h => h) (by rfl) hS ?_ ?_
    rotate_left
    · intro wS hSw
      try dsimp only at hSw
      first | (go_simp; done) | (go_simp; with_reducible rfl)
    try simp only [Act.put, List.getElem_toArray, List.getElem_cons_zero, List.getElem_cons_succ, List.setIfInBounds_toArray, List.set_cons_zero, List.set_cons_succ]
    refine upto_step (i := 2) (by kernel_rfl) rfl ?_
    intro K hK
    go_simp
    obtain ⟨W6, hW6⟩ : ∃ W6, W6 = ((W.setCell ⟨N + 1, 0, none⟩ (.slice a5 L5 c5)).setCell ⟨N + 1, 1, none⟩ (.func (.func 77) #[] #[])).drew := ⟨_, rfl⟩
    have hm6 : Mod (fun b => b = N + 1) W W6 := by
      rw [hW6]
      exact ((Mod.of_set W ⟨N + 1, 0, none⟩ _).trans (Mod.of_set _ ⟨N + 1, 1, none⟩ _)).trans (Mod.of_below (Below.drew (Below.refl _ _)))
    have g0 : W6.cell? ⟨N + 1, 0, none⟩ = some (.slice a5 L5 c5) := by
      rw [hW6]
      exact (set_other (w := W.setCell ⟨N + 1, 0, none⟩ (.slice a5 L5 c5)) (by simp)).trans (set_same e3)
    have g1 : W6.cell? ⟨N + 1, 1, none⟩ = some (.func (.func 77) #[] #[]) := by
      rw [hW6]
      exact set_same ((set_other (by simp)).trans e4)
    rw [← hW6]
    clear hW6
    refine hK _ _ (fun _ => ⟨hm6.cell e0 (by dsimp only; omega), hm6.cell e1 (by dsimp only; omega), hm6.cell e2 (by dsimp only; omega)⟩) ?_
    clear hK K hS
    try simp only [Act.put, List.getElem_toArray, List.getElem_cons_zero, List.getElem_cons_succ, List.setIfInBounds_toArray, List.set_cons_zero, List.set_cons_succ]
    refine upto_step (i := 3) (by kernel_rfl) rfl ?_
    intro K hK
    go_simp
    refine hK _ _ (fun h => absurd rfl h) ?_
    clear hK K
    try simp only [Act.put, List.getElem_toArray, List.getElem_cons_zero, List.getElem_cons_succ, List.setIfInBounds_toArray, List.set_cons_zero, List.set_cons_succ]
    refine upto_done (by kernel_rfl) ?_
    refine NoPanic.normal ?_
    have HD : Hid (∀ D ∈ ds, N + 4 ≤ D ∧ W6.heap[D]? = some (.deferred (some [])) ∧ (Value.slice a5 L5 c5).ownBlock ≠ some D) := fun D hD => by
      obtain ⟨p1, p2, p3⟩ := HB.out.d D hD
      exact ⟨p1, (hm6.block D (Array.getElem?_eq_some_iff.1 p2).1 (by omega)).trans p2, p3⟩
    have HU := unmark_mod ds W6
    have hz6 := hm6.size
    have y0 := HU.cell g0 (fun h => by have := (HD.out _ h).1; dsimp only at this; omega)
    have y1 := HU.cell g1 (fun h => by have := (HD.out _ h).1; dsimp only at this; omega)
    have HBL : Hid (Below N w (unmark W6 ds)) := by
      have h1 := HB.out.b
      have h2 := HB.out.s
      have h3 := HU.size
      refine ⟨HU.os.trans (hm6.os.trans h1.os), HU.tape.trans (hm6.tape.trans h1.tape), HU.output.trans (hm6.output.trans h1.output), by have := h1.size; omega, fun b hb => ?_⟩
      have hbl : b < W.heap.size := by omega
      exact ((HU.block b (by omega) (fun h => by have := (HD.out _ h).1; omega)).trans (hm6.block b hbl (by omega))).trans (h1.block b hb)
    have HOW : Hid ((unmark W6 ds).ownsRow (N + 4) 61 4 (.slice a5 L5 c5) L5 _) := HU.owns (hm6.owns o5 (fun b hb e => by have := (o5.lt b hb).1; omega)) (fun b hb h => (HD.out b h).2.2 hb)
    clear HU
    go_wp2
    refine leaves_marks ds _ (fun D hD => (HD.out D hD).2.1) HB.out.dd ?_
    refine ⟨.tuple #[.agg #[.slice a5 L5 c5, .func (.func 77) #[] #[]], .bool true], by simp [results, Try.results76, go_sem, y0, y1], ?_⟩
    refine ⟨.slice a5 L5 c5, true, rfl, ⟨_, _, _, rfl⟩, by rw [← HN.out]; exact HBL.out, ?_, ?_⟩
    · intro _
      rw [HL5.out]
      exact ⟨owns_base HOW.out (by have := HN.out; omega), by have := HL5.out; omega⟩
    · intro h; cases h
end Go.Proofs.Yteebglgbeijolaa

/-
  As RegC, where an operation may also store (into what another one made), and yield nothing: its slot is one that there is not.
-/
namespace Go.Proofs.Yteebglgbeijolaa
open Go.RowKit

theorem fold_oob : ∀ (ds : List Nat) (T : Array Value) (y : Nat → Value) (d : Nat) (v : Value), T.size ≤ d →
    ds.foldl (fun t s => t.setIfInBounds s (updV y d v s)) T = ds.foldl (fun t s => t.setIfInBounds s (y s)) T
  | [], _, _, _, _, _ => rfl
  | e :: ds, T, y, d, v, h => by
    simp only [List.foldl_cons]
    by_cases hd : e = d
    · subst hd
      rw [Array.setIfInBounds_eq_of_size_le h, Array.setIfInBounds_eq_of_size_le h]
      exact fold_oob ds T y e v h
    · have e1 : updV y d v e = y e := if_neg hd
      rw [e1]
      exact fold_oob ds _ y d v (by simpa using h)
theorem over_putD {a : Act} {ds : List Nat} {y : Nat → Value} {d : Nat} {v : Value} {dst : Option Nat} (hd : dst = some d ∨ (dst = none ∧ a.tmps.size ≤ d)) (h : d ∈ ds) (hn : ds.Nodup) : (over a ds y).put dst v = over a ds (updV y d v) := by
  rcases hd with rfl | ⟨rfl, hd⟩
  · exact over_put h hn
  · simp only [over, Act.put]
    rw [fold_oob ds _ y d v hd]
section
variable {P : Program} {ops : Array Oper} {Q : Exit → Act → World → Prop} {md : Region.Mode} {S : World → Prop} {t : Nat}

def StepD (P : Program) (md : Region.Mode) (ops : Array Oper) (Q : Exit → Act → World → Prop) (S : World → Prop) (L : List (Nat × Nat)) (cons : Nat → List Nat) (G : Nat → (Nat → Value) → (Nat → Prop) → World → Prop) (a0 : Act) (w0 : World) (p : Nat × Nat) : Prop :=
  ∃ o, ops[p.1]? = some o ∧ (o.dst = some p.2 ∨ (o.dst = none ∧ a0.tmps.size ≤ p.2)) ∧ ∀ (y : Nat → Value) (w : World) (Φ : Nat → Nat → Prop), S w → Below w0.heap.size w0 w →
    (∀ q ∈ L, waitsFor md ops p.1 q.1 = true → (q.1 ∈ cons p.1 ∨ ∀ r ∈ L, q.1 ∉ cons r.1) → FIn w0 w (Φ q.1) ∧ G q.1 y (Φ q.1) w) →
    ∀ K : Act → World → Prop, (∀ v w' F', Mod (Taken cons Φ p.1) w w' → (∀ b, F' b → Taken cons Φ p.1 b ∨ (w.heap.size ≤ b ∧ b < w'.heap.size)) → G p.1 (updV y p.2 v) F' w' → K ((over a0 (L.map Prod.snd) y).put o.dst v) w') →
      Shut (if Region.wanted o (yielded ops (over a0 (L.map Prod.snd) y).tmps) = true then Oper.wp P o (over a0 (L.map Prod.snd) y) w K Q else K ((over a0 (L.map Prod.snd) y).put o.dst undef) w)
theorem upto_dons (L : List (Nat × Nat)) (cons : Nat → List Nat) (G : Nat → (Nat → Value) → (Nat → Prop) → World → Prop) {f : Nat} {listed : Array Bool} {a0 : Act} {w0 : World}
    (hrise : risesB md ops = true) (hsz : listed.size = ops.size) (hot : ∃ ot, ops[t]? = some ot)
    (hall : ∀ i, i < ops.size → listed.getD i true = false → i = t ∨ ∃ p ∈ L, p.1 = i)
    (hun : listed.getD t true = false ∧ ∀ p ∈ L, listed.getD p.1 true = false)
    (hno : (L.map Prod.fst).Nodup) (hnd : (L.map Prod.snd).Nodup) (htl : ∀ p ∈ L, p.1 ≠ t ∧ waitsFor md ops t p.1 = true) (hf : f = L.length + 1)
    (hcons : ∀ p ∈ L, ∀ j ∈ cons p.1, waitsFor md ops p.1 j = true ∧ ∃ q ∈ L, q.1 = j) (huniq : ∀ p ∈ L, ∀ r ∈ L, p.1 ≠ r.1 → ∀ j ∈ cons p.1, j ∉ cons r.1)
    (hS : S w0) (hSst : ∀ (F : Nat → Prop) (w w' : World), S w → Mod F w w' → (∀ b, F b → w0.heap.size ≤ b) → S w')
    (hG : ∀ p ∈ L, ∀ (y y' : Nat → Value) (F F' : Nat → Prop) (w w' : World), G p.1 y F w → FIn w0 w F → Mod F' w w' → FApart F' F → (∀ b, F' b → w0.heap.size ≤ b) → y' p.2 = y p.2 → (∀ q ∈ L, waitsFor md ops p.1 q.1 = true → y' q.2 = y q.2) → G p.1 y' F w')
    (hstep : ∀ p ∈ L, StepD P md ops Q S L cons G a0 w0 p)
    (hlast : ∃ o, ops[t]? = some o ∧ ∀ (y : Nat → Value) (w : World) (Φ : Nat → Nat → Prop), S w → Below w0.heap.size w0 w → (∀ q ∈ L, (∀ r ∈ L, q.1 ∉ cons r.1) → FIn w0 w (Φ q.1) ∧ G q.1 y (Φ q.1) w) → (∀ q ∈ L, ∀ r ∈ L, q.1 ≠ r.1 → (∀ p ∈ L, q.1 ∉ cons p.1) → (∀ p ∈ L, r.1 ∉ cons p.1) → FApart (Φ q.1) (Φ r.1)) →
      ∀ K : Act → World → Prop, (∀ a' w', Q .normal a' w' → K a' w') → Shut (if Region.wanted o (yielded ops (over a0 (L.map Prod.snd) y).tmps) = true then Oper.wp P o (over a0 (L.map Prod.snd) y) w K Q else K ((over a0 (L.map Prod.snd) y).put o.dst undef) w)) :
    wpUpto P md ops Q S t f listed a0 w0 := by
  have H : ∀ (n f : Nat) (listed : Array Bool) (y : Nat → Value) (w : World) (Φ : Nat → Nat → Prop),
      f = (L.filter fun p => !listed.getD p.1 true).length + 1 → listed.size = ops.size → listed.getD t true = false →
      (∀ i, i < ops.size → listed.getD i true = false → i = t ∨ ∃ p ∈ L, p.1 = i) →
      (∀ p ∈ L, listed.getD p.1 true = true → ∀ q ∈ L, waitsFor md ops p.1 q.1 = true → listed.getD q.1 true = true) →
      S w → Below w0.heap.size w0 w → (∀ q ∈ L, Alive L cons listed q.1 → FIn w0 w (Φ q.1) ∧ G q.1 y (Φ q.1) w) →
      (∀ q ∈ L, ∀ r ∈ L, q.1 ≠ r.1 → Alive L cons listed q.1 → Alive L cons listed r.1 → FApart (Φ q.1) (Φ r.1)) →
      f ≤ n → wpUpto P md ops Q S t f listed (over a0 (L.map Prod.snd) y) w := by
    intro n
    induction n with
    | zero => intro f listed y w Φ hf _ _ _ _ _ _ _ _ hn; omega
    | succ n ih =>
      intro f listed y w Φ hf hsz htun hall hdown hS hB hGs hAp hn
      obtain ⟨ot, hot⟩ := hot
      have htlt : t < ops.size := by
        rcases Nat.lt_or_ge t ops.size with h | h
        · exact h
        · rw [Array.getElem?_eq_none h] at hot; cases hot
      obtain ⟨g, rfl⟩ : ∃ g, f = g + 1 := ⟨_, hf⟩
      have hg : g = (L.filter fun p => !listed.getD p.1 true).length := by omega
      refine ⟨fun h => ?_, fun i hi' => ?_⟩
      · obtain ⟨j, hj⟩ := ready_some hrise hsz (t + 1) t (by omega) htlt htun
        rw [h] at hj
        cases hj
      obtain ⟨hiun, o, hio, hdeps⟩ := mem_ready.1 hi'
      have hilt : i < ops.size := by
        rcases Nat.lt_or_ge i ops.size with h | h
        · exact h
        · rw [Array.getElem?_eq_none h] at hio; cases hio
      have hdep : ∀ k, k < ops.size → waitsFor md ops i k = true → listed.getD k true = true := by
        intro k hk hw
        unfold waitsFor at hw
        rw [hio] at hw
        obtain ⟨e, he, hb⟩ := Array.any_eq_true'.1 hw
        simp only [Bool.and_eq_true, beq_iff_eq] at hb
        have h1 := hdeps e he hb.1
        rw [hb.2] at h1
        have hk' : k < listed.size := by omega
        simp [hk'] at h1 ⊢
        exact h1
      have hLlt : ∀ p ∈ L, p.1 < ops.size := by
        intro p hp
        obtain ⟨o', ho', _⟩ := hstep p hp
        rcases Nat.lt_or_ge p.1 ops.size with h | h
        · exact h
        · rw [Array.getElem?_eq_none h] at ho'; cases ho'
      have key : ∀ K : Act → World → Prop, (if Region.wanted o (yielded ops (over a0 (L.map Prod.snd) y).tmps) = true then Oper.wp P o (over a0 (L.map Prod.snd) y) w K Q else K ((over a0 (L.map Prod.snd) y).put o.dst undef) w) → wpOp P ops Q i K (over a0 (L.map Prod.snd) y) w := by
        intro K h1
        unfold wpOp
        simp only [hio]
        split
        · rename_i hw
          rw [if_pos hw] at h1
          exact .inl h1
        · rename_i hw
          rw [if_neg hw] at h1
          exact h1
      refine key _ ?_
      by_cases hit : i = t
      · subst hit
        have hl : ∀ p ∈ L, listed.getD p.1 true = true := fun p hp => hdep p.1 (hLlt p hp) (htl p hp).2
        obtain ⟨o2, ho2, hlst⟩ := hlast
        rw [hio] at ho2
        cases ho2
        refine (hlst y w Φ hS hB (fun q hq hc => hGs q hq ⟨hl q hq, fun p hp _ => hc p hp⟩) (fun q hq r hr hne h1 h2 => hAp q hq r hr hne ⟨hl q hq, fun p hp _ => h1 p hp⟩ ⟨hl r hr, fun p hp _ => h2 p hp⟩) _ (fun a' w' hq => ⟨fun h => absurd rfl h, upto_done ?_ hq⟩)).out
        rw [List.eq_nil_iff_forall_not_mem]
        intro j hj
        obtain ⟨hjun, oj, hjo, _⟩ := mem_ready.1 hj
        have hjl : j < ops.size := by
          rcases Nat.lt_or_ge j ops.size with h | h
          · exact h
          · rw [Array.getElem?_eq_none h] at hjo; cases hjo
        by_cases hji : i = j
        · subst hji
          have hk' : i < listed.size := by omega
          simp [hk'] at hjun
        · rw [getD_set_ne true hji] at hjun
          rcases hall j hjl hjun with h | ⟨p, hp, h⟩
          · exact hji h.symm
          · rw [← h, hl p hp] at hjun; cases hjun
      · obtain ⟨p, hp, hpi⟩ := (hall i hilt hiun).resolve_left hit
        subst hpi
        obtain ⟨o', ho', hdst, hst⟩ := hstep p hp
        rw [hio] at ho'
        cases ho'
        -- what p takes over is there
        have hcal : ∀ q ∈ L, q.1 ∈ cons p.1 → Alive L cons listed q.1 := fun q hq hc => ⟨hdep q.1 (hLlt q hq) (hcons p hp _ hc).1, fun r hr hrl hcr => by
          by_cases e : r.1 = p.1
          · rw [e, hiun] at hrl; cases hrl
          · exact huniq p hp r hr (Ne.symm e) q.1 hc hcr⟩
        refine (hst y w Φ hS hB (fun q hq hw hc => ?_) _ (fun v w' F' hm hF' hGp => ⟨fun _ => hSst _ _ _ hS hm ?_, ?_⟩)).out
        · rcases hc with hc | hc
          · exact hGs q hq (hcal q hq hc)
          · exact hGs q hq ⟨hdep q.1 (hLlt q hq) hw, fun r hr _ => hc r hr⟩
        · rintro b ⟨j, hj, hb⟩
          obtain ⟨_, q, hq, rfl⟩ := hcons p hp j hj
          exact ((hGs q hq (hcal q hq hj)).1 b hb).1
        have hTk : ∀ b, Taken cons Φ p.1 b → w0.heap.size ≤ b ∧ b < w.heap.size := by
          rintro b ⟨j, hj, hb⟩
          obtain ⟨_, q, hq, rfl⟩ := hcons p hp j hj
          exact (hGs q hq (hcal q hq hj)).1 b hb
        rw [over_putD hdst (List.mem_map_of_mem hp) hnd]
        have hlt : p.1 < listed.size := by omega
        have hself' : (listed.setIfInBounds p.1 true).getD p.1 true = true := by simp [hlt]
        have hoth : ∀ j, p.1 ≠ j → (listed.setIfInBounds p.1 true).getD j true = listed.getD j true := fun j h => getD_set_ne true h
        have hinj : ∀ q ∈ L, q.1 = p.1 → q = p := fun q hq h => inj_fst L hno q hq p hp h
        have hinj2 : ∀ q ∈ L, q.2 = p.2 → q = p := fun q hq h => inj_snd L hnd q hq p hp h
        -- who is alive behind p, and is not p, was alive ahead of it, and is not taken over
        have hback : ∀ q ∈ L, q.1 ≠ p.1 → Alive L cons (listed.setIfInBounds p.1 true) q.1 → Alive L cons listed q.1 ∧ q.1 ∉ cons p.1 := fun q hq e ha => by
          refine ⟨⟨by rw [← hoth _ (Ne.symm e)]; exact ha.1, fun r hr hrl => ?_⟩, ha.2 p hp hself'⟩
          by_cases e2 : r.1 = p.1
          · rw [e2, hiun] at hrl; cases hrl
          · exact ha.2 r hr (by rw [hoth _ (Ne.symm e2)]; exact hrl)
        have hTq : ∀ q ∈ L, Alive L cons listed q.1 → q.1 ∉ cons p.1 → FApart (Taken cons Φ p.1) (Φ q.1) := by
          rintro q hq ha hn b ⟨j, hj, hb⟩
          obtain ⟨_, r, hr, rfl⟩ := hcons p hp j hj
          exact hAp r hr q hq (fun e => hn (e ▸ hj)) (hcal r hr hj) ha b hb
        refine ih g (listed.setIfInBounds p.1 true) (updV y p.2 v) w' (fun j => if j = p.1 then F' else Φ j) ?_ (by simpa using hsz) ?_ ?_ ?_ (hSst _ _ _ hS hm (fun b hb => (hTk b hb).1)) (hm.below hB hB.size (fun b hb => (hTk b hb).1)) ?_ ?_ (by omega)
        · rw [hg]
          refine filter_less hno hp (by rw [hiun]; rfl) (by rw [hself']; rfl) (fun q hq hne => ?_)
          rw [hoth _ (fun c => hne (hinj q hq c.symm))]
        · rw [hoth _ (fun h => hit h)]; exact htun
        · intro j hj hju
          by_cases e : p.1 = j
          · subst e; rw [hself'] at hju; cases hju
          · rw [hoth _ e] at hju; exact hall j hj hju
        · intro q hq hql r hr hw
          by_cases e : p.1 = r.1
          · rw [← e]; exact hself'
          · rw [hoth _ e]
            by_cases e2 : p.1 = q.1
            · rw [← e2] at hw; exact hdep r.1 (hLlt r hr) hw
            · rw [hoth _ e2] at hql; exact hdown q hq hql r hr hw
        · intro q hq ha
          by_cases e : q.1 = p.1
          · have e2 := hinj q hq e
            subst e2
            simp only [if_true]
            refine ⟨fun b hb => ?_, hGp⟩
            rcases hF' b hb with h | h
            · have := hTk b h; have := hm.size; omega
            · have := hB.size; omega
          · obtain ⟨h1, h2⟩ := hback q hq e ha
            simp only [if_neg e]
            obtain ⟨g1, g2⟩ := hGs q hq h1
            refine ⟨fun b hb => ⟨(g1 b hb).1, Nat.lt_of_lt_of_le (g1 b hb).2 hm.size⟩, hG q hq y (updV y p.2 v) _ _ w w' g2 g1 hm (hTq q hq h1 h2) (fun b hb => (hTk b hb).1) ?_ ?_⟩
            · exact if_neg (fun c => e (by rw [hinj2 q hq c]))
            · intro r hr hw
              refine if_neg (fun c => ?_)
              have e3 := hinj2 r hr c
              subst e3
              rw [hdown q hq h1.1 _ hr hw] at hiun
              cases hiun
        · intro q hq r hr hne hqa hra
          by_cases e : q.1 = p.1
          · have e' : r.1 ≠ p.1 := fun c => hne (e.trans c.symm)
            obtain ⟨h1, h2⟩ := hback r hr e' hra
            simp only [if_pos e, if_neg e']
            intro b hb hb2
            rcases hF' b hb with h | h
            · exact hTq r hr h1 h2 b h hb2
            · have := ((hGs r hr h1).1 b hb2).2; omega
          · obtain ⟨h1, h2⟩ := hback q hq e hqa
            by_cases e' : r.1 = p.1
            · simp only [if_neg e, if_pos e']
              intro b hb hb2
              rcases hF' b hb2 with h | h
              · exact hTq q hq h1 h2 b h hb
              · have := ((hGs q hq h1).1 b hb).2; omega
            · obtain ⟨h3, _⟩ := hback r hr e' hra
              simp only [if_neg e, if_neg e']
              exact hAp q hq r hr hne h1 h3
  have h0 := H f f listed (fun s => a0.tmps.getD s undef) w0 (fun _ _ => False) (by
    rw [hf, List.filter_eq_self.2 (fun p hp => by rw [hun.2 p hp]; rfl)]) hsz hun.1 hall (fun p hp h => by rw [hun.2 p hp] at h; cases h) hS (Below.refl _ _) (fun q hq h => by have h := h.1; rw [hun.2 q hq] at h; cases h) (fun q hq r hr hne h => by have h := h.1; rw [hun.2 q hq] at h; cases h) (Nat.le_refl _)
  rw [over_self] at h0
  exact h0
def checkD (md : Region.Mode) (ops : Array Oper) (listed : Array Bool) (t f : Nat) (L : List (Nat × Nat)) (cons : Nat → List Nat) : Bool :=
  checkS md ops listed t f L && (L.all fun p => (cons p.1).all fun j => waitsFor md ops p.1 j && L.any fun q => decide (q.1 = j)) && (L.all fun p => L.all fun r => decide (p.1 = r.1) || (cons p.1).all fun j => decide (j ∉ cons r.1))
theorem upto_dons' (L : List (Nat × Nat)) (cons : Nat → List Nat) (G : Nat → (Nat → Value) → (Nat → Prop) → World → Prop) {f : Nat} {listed : Array Bool} {a0 : Act} {w0 : World} (hc : checkD md ops listed t f L cons = true)
    (hS : S w0) (hSst : ∀ (F : Nat → Prop) (w w' : World), S w → Mod F w w' → (∀ b, F b → w0.heap.size ≤ b) → S w')
    (hG : ∀ p ∈ L, ∀ (y y' : Nat → Value) (F F' : Nat → Prop) (w w' : World), G p.1 y F w → FIn w0 w F → Mod F' w w' → FApart F' F → (∀ b, F' b → w0.heap.size ≤ b) → y' p.2 = y p.2 → (∀ q ∈ L, waitsFor md ops p.1 q.1 = true → y' q.2 = y q.2) → G p.1 y' F w')
    (hstep : ∀ p ∈ L, StepD P md ops Q S L cons G a0 w0 p)
    (hlast : ∃ o, ops[t]? = some o ∧ ∀ (y : Nat → Value) (w : World) (Φ : Nat → Nat → Prop), S w → Below w0.heap.size w0 w → (∀ q ∈ L, (∀ r ∈ L, q.1 ∉ cons r.1) → FIn w0 w (Φ q.1) ∧ G q.1 y (Φ q.1) w) → (∀ q ∈ L, ∀ r ∈ L, q.1 ≠ r.1 → (∀ p ∈ L, q.1 ∉ cons p.1) → (∀ p ∈ L, r.1 ∉ cons p.1) → FApart (Φ q.1) (Φ r.1)) →
      ∀ K : Act → World → Prop, (∀ a' w', Q .normal a' w' → K a' w') → Shut (if Region.wanted o (yielded ops (over a0 (L.map Prod.snd) y).tmps) = true then Oper.wp P o (over a0 (L.map Prod.snd) y) w K Q else K ((over a0 (L.map Prod.snd) y).put o.dst undef) w)) :
    wpUpto P md ops Q S t f listed a0 w0 := by
  unfold checkD checkS at hc
  simp only [Bool.and_eq_true, decide_eq_true_eq, List.all_eq_true, List.any_eq_true, Bool.or_eq_true, Bool.not_eq_true', List.mem_range] at hc
  obtain ⟨⟨⟨⟨⟨⟨⟨⟨⟨⟨⟨h1, h2⟩, h3⟩, h4⟩, h5⟩, h6⟩, h7⟩, h8⟩, h9⟩, h10⟩, h11⟩, h13⟩ := hc
  refine upto_dons L cons G h1 h2 (Option.isSome_iff_exists.1 h3) (fun i hi hu => ?_) ⟨h5, h6⟩ h7 h8 h9 h10 h11 (fun p hp r hr hne => (h13 p hp r hr).resolve_left hne) hS hSst hG hstep hlast
  rcases h4 i hi with (h | h) | h
  · rw [hu] at h; cases h
  · exact .inl h
  · exact .inr h
end

end Go.Proofs.Yteebglgbeijolaa

/-
  The program's CompactTable.
-/
namespace Go.Proofs.Yteebglgbeijolaa
open Go.RowKit Go.Shelf
set_option linter.unusedSectionVars false
variable [DecidableEq Rw] [Inhabited Rw] [DecidableEq TabR] [Inhabited TabR]
set_option linter.unusedVariables false
set_option linter.unusedSimpArgs false
attribute [local go_sem ↓] Go.wp_at_zero Go.wp_at_succ
attribute [local go_sem] run_store_func

def ItB (f : Nat) (sv : Value) (v : Int) (y : Value) (lo : Nat) (w : World) : Prop :=
  y = .func (.func f) #[] #[.pointer (some ⟨lo, 0, none⟩), .pointer (some ⟨lo + 1, 0, none⟩)] ∧ w.cell? ⟨lo, 0, none⟩ = some sv ∧ w.cell? ⟨lo, 1, none⟩ = some cmpF ∧ w.cell? ⟨lo + 1, 0, none⟩ = some (.int .i64 v)
theorem ItB.mod {f : Nat} {sv : Value} {v : Int} {y : Value} {lo : Nat} {w w' : World} {F : Nat → Prop} (h : ItB f sv v y lo w) (hm : Mod F w w') (h0 : ¬ F lo) (h1 : ¬ F (lo + 1)) : ItB f sv v y lo w' := ⟨h.1, hm.cell h.2.1 h0, hm.cell h.2.2.1 h0, hm.cell h.2.2.2 h1⟩
theorem ItB.lt {f : Nat} {sv : Value} {v : Int} {y : Value} {lo : Nat} {w : World} (h : ItB f sv v y lo w) : lo + 1 < w.heap.size := World.block_lt_of_cell? _ _ h.2.2.2
def cmpC : Nat → List Nat
  | 8 => [4, 7]
  | 14 => [13]
  | _ => []
def cmpG (sv : Value) (v : Int) (ys : List Rw) (L : Nat) (base : Nat) : Nat → (Nat → Value) → (Nat → Prop) → World → Prop
  | 4, y, F, w => ∃ lo, ItB 120 sv v (y 22) lo w ∧ ∀ b, F b ↔ (b = lo ∨ b = lo + 1)
  | 7, y, F, w => ∃ lo, ItB 121 sv v (y 25) lo w ∧ ∀ b, F b ↔ (b = lo ∨ b = lo + 1)
  | 8, y, F, w => ∃ lo p q u1 u2, y 26 = .slice (some ⟨lo, 0, none⟩) 2 2 ∧ w.cell? ⟨lo, 0, none⟩ = some u1 ∧ w.cell? ⟨lo, 1, none⟩ = some u2 ∧ ItB 120 sv v u1 p w ∧ ItB 121 sv v u2 q w ∧ ∀ b, F b ↔ (b = lo ∨ (b = p ∨ b = p + 1) ∨ (b = q ∨ b = q + 1))
  | 9, y, F, w => ∃ a c, y 27 = .tuple #[.agg #[.slice a L c, cmpF], .bool true] ∧ w.ownsRow base 61 4 (.slice a L c) L (rwsC ys) ∧ ∀ b, F b ↔ (Value.slice a L c).ownBlock = some b
  | 10, y, F, _ => (∃ a c, y 17 = .tuple #[.agg #[.slice a L c, cmpF], .bool true]) ∧ y 17 = y 27 ∧ ∀ b, ¬ F b
  | 11, y, F, _ => (∃ a c, y 28 = .agg #[.slice a L c, cmpF]) ∧ y 17 = .tuple #[y 28, .bool true] ∧ ∀ b, ¬ F b
  | 12, y, F, _ => y 29 = .bool true ∧ ∀ b, ¬ F b
  | 13, y, F, w => ∃ lo, y 7 = .pointer (some ⟨lo, 0, none⟩) ∧ w.cell? ⟨lo, 0, none⟩ = some (.slice none 0 0) ∧ w.cell? ⟨lo, 1, none⟩ = some .nilFunc ∧ (∀ o, w.frozen? ⟨lo, o, none⟩ = false) ∧ ∀ b, F b ↔ b = lo
  | 14, y, F, w => ∃ lo a c, y 7 = .pointer (some ⟨lo, 0, none⟩) ∧ y 28 = .agg #[.slice a L c, cmpF] ∧ w.cell? ⟨lo, 0, none⟩ = some (.slice a L c) ∧ w.cell? ⟨lo, 1, none⟩ = some cmpF ∧ ∀ b, F b ↔ b = lo
  | _, _, _, _ => True
set_option maxRecDepth 100000 in
set_option maxHeartbeats 8000000 in
theorem implCompact_u (x : Value) (xs : List Rw) (v : Int) (w : World) (hx : rowsR.V w x xs) :
    Calls Try.prog 31 #[x, .int .i64 v] w fun e w' => ∃ u F, e = .returned u ∧ tabRR.O w' w.heap.size F u (compD xs v) ∧ Below w.heap.size w w' := by
  have hX := hx.1
  have HFIT : Hid (Fit (compL xs v)) := fit_mem.2 (fun y hy => fit_mem.1 hx.2 y ((compL_sub xs v).subset hy))
  obtain ⟨ax, cx, rfl⟩ := rows_form hx
  have hcap : xs.length ≤ cx ∧ cx ≤ 9223372036854775807 := by
    obtain ⟨_, _, e, h1, h2, _⟩ := hX
    simp only [Value.slice.injEq] at e
    unfold maxLen at h2
    omega
  generalize hN : xs.length = n at *
  have HN : Hid (xs.length = n) := hN
  clear hN hx
  go_enter Try.func31, Try.ntmps31
  go_wp2_with fail
  refine (implTableFault_any _ xs _ (RowsV_below hX (by (repeat (first | exact Below.refl _ _ | assumption | refine Below.drew ?_ | refine balloc ?_ _ | refine bset ?_ (by simp; omega) _ | refine bset ?_ (by simp) _ | refine bstep ?_ (by assumption)))))).mono ?_
  rintro e w1 ⟨rfl, hb1⟩
  obtain ⟨g1, g2, gf, gz⟩ := boxNew2 hb1 rfl
  have hB1 : Below w.heap.size w w1 := by (repeat (first | exact Below.refl _ _ | assumption | refine Below.drew ?_ | refine balloc ?_ _ | refine bset ?_ (by simp; omega) _ | refine bset ?_ (by simp) _ | refine bstep ?_ (by assumption)))
  clear hb1
  by_cases h0 : tabF xs = 0
  rotate_left
  · have E : Hid (compD xs v = ⟨tabF xs, []⟩) := by rw [Hid]; unfold compD; rw [if_neg h0]
    have h0' : ((tabF xs : Int) == 0) = false := by rw [beq_eq_false_iff_ne]; exact h0
    generalize tabF xs = c at h0 h0' E ⊢
    go_wp2
    refine bodyPost_ret (v := .agg #[.int .i64 c, .slice none 0 0]) (by simp [results, Try.results31, go_sem, g1, g2]) rfl ?_
    obtain ⟨F, hF⟩ := tabRR_nil ((w1.setCell ⟨w.heap.size, 0, none⟩ (.int .i64 c)).setCell ⟨w.heap.size, 1, none⟩ (.slice none 0 0)) w.heap.size c
    rw [E.out]
    first | exact ⟨_, F, rfl, hF, by (repeat (first | exact Below.refl _ _ | assumption | refine Below.drew ?_ | refine balloc ?_ _ | refine bset ?_ (by simp; omega) _ | refine bset ?_ (by simp) _ | refine bstep ?_ (by assumption)))⟩ | exact ⟨_, rfl, ⟨F, hF⟩, by (repeat (first | exact Below.refl _ _ | assumption | refine Below.drew ?_ | refine balloc ?_ _ | refine bset ?_ (by simp; omega) _ | refine bset ?_ (by simp) _ | refine bstep ?_ (by assumption)))⟩
  have E : Hid (compD xs v = ⟨0, compL xs v⟩) := by rw [Hid]; unfold compD; rw [if_pos h0]
  have HP : Hid (putsL [] (flatTo (fun i => if i = 0 then overV v xs else living (lastL v xs)) 2) = compL xs v) := by
    rw [Hid, ← compL_puts (rises_of h0) (sorted_of h0) v]
    rfl
  have HLE : Hid ((compL xs v).length ≤ xs.length) := (compL_sub xs v).length_le
  have HL2 : Hid ((flatTo (fun i => if i = 0 then overV v xs else living (lastL v xs)) 2).length ≤ 1000000) := by
    have h1 : (overV v xs).length ≤ xs.length := List.length_filter_le ..
    have h2 : (living (lastL v xs)).length ≤ (lastL v xs).length := List.length_filter_le ..
    have h3 : (lastL v xs).length ≤ xs.length := by rw [lastL_eq]; exact lastG_len xs _
    have h4 := (tabF_all h0).1
    have e : flatTo (fun i => if i = 0 then overV v xs else living (lastL v xs)) 2 = overV v xs ++ living (lastL v xs) := rfl
    rw [Hid, e, List.length_append]
    omega
  have hlen := (tabF_all h0).1
  rw [h0]
  have HLN : Hid (xs.length ≤ 200) := hlen
  clear hlen
  generalize compL xs v = ys at *
  go_wp2_with fail
  refine (tableOf_any _ _ _ _).mono ?_
  rintro e w2 ⟨rfl, hb2⟩
  have k1 := cell_keep hb2 g1
  have k2 := cell_keep hb2 g2
  have kf := boxKeep ⟨gf, gz⟩ hb2
  have hB2 := bstep hB1 hb2
  unfold cmpF
  go_wp2
  obtain ⟨w3, hw3⟩ : ∃ w3, w3 = w2.alloc (.cells #[.slice ax n cx, .func (.func 77) #[] #[]] 124) := ⟨_, rfl⟩
  have hb3 : Below w2.heap.size w2 w3 := by rw [hw3]; exact balloc (Below.refl _ _) _
  have c0 : w3.cell? ⟨w2.heap.size, 0, none⟩ = some (.slice ax n cx) := by rw [hw3]; simp [go_sem]
  have c1 : w3.cell? ⟨w2.heap.size, 1, none⟩ = some (.func (.func 77) #[] #[]) := by rw [hw3]; simp [go_sem]
  rw [← hw3]
  have hB3 := bstep hB2 hb3
  have hs23 : w2.heap.size < w3.heap.size := by rw [hw3]; simp
  clear hw3
  refine wp_region_noPanic ?_
  refine region_upto (fun W => Below w3.heap.size w3 W ∧ W.cell? ⟨w2.heap.size, 0, none⟩ = some (.slice ax n cx) ∧ W.cell? ⟨w2.heap.size, 1, none⟩ = some (.func (.func 77) #[] #[])) 15 (by kernel_rfl) ⟨Below.drew (Below.refl _ _), c0, c1⟩ (fun hS => ?_)
  refine upto_take (i := 0) (v := ?_) rfl (by kernel_rfl) (by kernel_rfl) (by kernel_rfl) (by kernel_rfl) (fun _ _ _ h => h) (by rfl) hS ?_ ?_
  rotate_left
  · intro wS hSw
    try dsimp only at hSw
    first | (go_simp; done) | (go_simp; with_reducible rfl)
  try simp only [Act.put, List.getElem_toArray, List.getElem_cons_zero, List.getElem_cons_succ, List.setIfInBounds_toArray, List.set_cons_zero, List.set_cons_succ]
  refine upto_take (i := 1) (v := ?_) rfl (by kernel_rfl) (by kernel_rfl) (by kernel_rfl) (by kernel_rfl) (fun _ _ _ h => h) (by rfl) hS ?_ ?_
  rotate_left
  · intro wS hSw
    try dsimp only at hSw
    first | (go_simp; done) | (go_simp; with_reducible rfl)
  try simp only [Act.put, List.getElem_toArray, List.getElem_cons_zero, List.getElem_cons_succ, List.setIfInBounds_toArray, List.set_cons_zero, List.set_cons_succ]
  refine upto_take (i := 2) (v := ?_) rfl (by kernel_rfl) (by kernel_rfl) (by kernel_rfl) (by kernel_rfl) (fun _ _ _ h => h) (by rfl) hS ?_ ?_
  rotate_left
  · intro wS hSw
    try dsimp only at hSw
    first | (go_simp; done) | (go_simp; with_reducible rfl)
  try simp only [Act.put, List.getElem_toArray, List.getElem_cons_zero, List.getElem_cons_succ, List.setIfInBounds_toArray, List.set_cons_zero, List.set_cons_succ]
  refine upto_take (i := 3) (v := ?_) rfl (by kernel_rfl) (by kernel_rfl) (by kernel_rfl) (by kernel_rfl) (fun _ _ _ h => h) (by rfl) hS ?_ ?_
  rotate_left
  · intro wS hSw
    try dsimp only at hSw
    first | (go_simp; done) | (go_simp; with_reducible rfl)
  try simp only [Act.put, List.getElem_toArray, List.getElem_cons_zero, List.getElem_cons_succ, List.setIfInBounds_toArray, List.set_cons_zero, List.set_cons_succ]
  refine upto_take (i := 5) (v := ?_) rfl (by kernel_rfl) (by kernel_rfl) (by kernel_rfl) (by kernel_rfl) (fun _ _ _ h => h) (by rfl) hS ?_ ?_
  rotate_left
  · intro wS hSw
    try dsimp only at hSw
    first | (go_simp; done) | (go_simp; with_reducible rfl)
  try simp only [Act.put, List.getElem_toArray, List.getElem_cons_zero, List.getElem_cons_succ, List.setIfInBounds_toArray, List.set_cons_zero, List.set_cons_succ]
  refine upto_take (i := 6) (v := ?_) rfl (by kernel_rfl) (by kernel_rfl) (by kernel_rfl) (by kernel_rfl) (fun _ _ _ h => h) (by rfl) hS ?_ ?_
  rotate_left
  · intro wS hSw
    try dsimp only at hSw
    first | (go_simp; done) | (go_simp; with_reducible rfl)
  try simp only [Act.put, List.getElem_toArray, List.getElem_cons_zero, List.getElem_cons_succ, List.setIfInBounds_toArray, List.set_cons_zero, List.set_cons_succ]
  have hb0 : Below w3.heap.size w3 w3.drew := Below.drew (Below.refl _ _)
  have hz0 : w3.drew.heap.size = w3.heap.size := rfl
  generalize w3.drew = W0 at *
  have HBX : Hid (∀ W, Below W0.heap.size W0 W → Below w.heap.size w W) := fun W hW => bstep (bstep hB3 hb0) hW
  refine upto_dons' [(4, 22), (7, 25), (8, 26), (9, 27), (10, 17), (11, 28), (12, 29), (13, 7), (14, 99)] cmpC (cmpG (.slice ax n cx) v ys ys.length W0.heap.size) (by kernel_rfl) hS ?_ ?_ ?_ ?_
  · intro F' W W' h hm hF
    obtain ⟨h1, h3, h4⟩ := h
    refine ⟨hm.below h1 h1.size (fun b hb => by have := hF b hb; omega), hm.cell h3 (fun e => by have := hF _ e; dsimp only at this; omega), hm.cell h4 (fun e => by have := hF _ e; dsimp only at this; omega)⟩
  · intro pp hp
    simp only [List.mem_cons, List.not_mem_nil, or_false] at hp
    rcases hp with rfl | rfl | rfl | rfl | rfl | rfl | rfl | rfl | rfl
    all_goals
      intro y y' F F' W W' h hi hm hap hF e he
      simp only [cmpG] at h ⊢
    · obtain ⟨lo, h1, h2⟩ := h
      rw [e]
      exact ⟨lo, h1.mod hm (fun x => hap _ x ((h2 _).2 (.inl rfl))) (fun x => hap _ x ((h2 _).2 (.inr rfl))), h2⟩
    · obtain ⟨lo, h1, h2⟩ := h
      rw [e]
      exact ⟨lo, h1.mod hm (fun x => hap _ x ((h2 _).2 (.inl rfl))) (fun x => hap _ x ((h2 _).2 (.inr rfl))), h2⟩
    · obtain ⟨lo, p, q, u1, u2, h0, h1, h2, h3, h4, h5⟩ := h
      rw [e]
      exact ⟨lo, p, q, u1, u2, h0, hm.cell h1 (fun x => hap _ x ((h5 _).2 (.inl rfl))), hm.cell h2 (fun x => hap _ x ((h5 _).2 (.inl rfl))), h3.mod hm (fun x => hap _ x ((h5 _).2 (.inr (.inl (.inl rfl))))) (fun x => hap _ x ((h5 _).2 (.inr (.inl (.inr rfl))))),
        h4.mod hm (fun x => hap _ x ((h5 _).2 (.inr (.inr (.inl rfl))))) (fun x => hap _ x ((h5 _).2 (.inr (.inr (.inr rfl))))), h5⟩
    · obtain ⟨a, c, h0, h1, h2⟩ := h
      rw [e]
      exact ⟨a, c, h0, hm.owns h1 (fun b hb x => hap _ x ((h2 b).2 hb)), h2⟩
    · have e9 := he (9, 27) (by simp) (by kernel_rfl)
      rw [e, e9]
      exact h
    · have e9 := he (10, 17) (by simp) (by kernel_rfl)
      rw [e, e9]
      exact h
    · rw [e]
      exact h
    · obtain ⟨lo, h0, h1, h2, h3, h4⟩ := h
      rw [e]
      refine ⟨lo, h0, hm.cell h1 (fun x => hap _ x ((h4 _).2 rfl)), hm.cell h2 (fun x => hap _ x ((h4 _).2 rfl)), fun o => ?_, h4⟩
      exact (hm.frozen (a := ⟨lo, o, none⟩) (by have := World.block_lt_of_cell? _ _ h1; exact this) (fun x => hap _ x ((h4 _).2 rfl))).trans (h3 o)
    · obtain ⟨lo, a, c, h0, h1, h2, h3, h4⟩ := h
      have e13 := he (13, 7) (by simp) (by kernel_rfl)
      have e11 := he (11, 28) (by simp) (by kernel_rfl)
      rw [e13, e11]
      exact ⟨lo, a, c, h0, h1, hm.cell h2 (fun x => hap _ x ((h4 _).2 rfl)), hm.cell h3 (fun x => hap _ x ((h4 _).2 rfl)), h4⟩
  · intro pp hp
    simp only [List.mem_cons, List.not_mem_nil, or_false] at hp
    rcases hp with rfl | rfl | rfl | rfl | rfl | rfl | rfl | rfl | rfl
    · refine ⟨_, rfl, .inl rfl, ?_⟩
      intro y W Φ hSW hBW hd K hK
      clear hd
      refine ⟨?_⟩
      simp only [over, Act.put, List.getElem_toArray, List.getElem_cons_zero, List.getElem_cons_succ, List.map_cons, List.map_nil, List.foldl_cons, List.foldl_nil, List.setIfInBounds_toArray, List.set_cons_zero, List.set_cons_succ, List.set_nil] at hK ⊢
      go_simp
      refine (above_any ax n cx v W).mono ?_
      rintro e w' ⟨rfl, hw'⟩
      have hbw : Below W.heap.size W w' := by rw [hw']; exact balloc (balloc (Below.refl _ _) _) _
      refine hK _ _ (fun b => b = W.heap.size ∨ b = W.heap.size + 1) (Mod.of_below hbw) (fun b hb => .inr ?_) ?_
      · rw [hw']
        simp only [World.size_alloc]
        rcases hb with rfl | rfl <;> omega
      · simp only [cmpG, updV]
        refine ⟨W.heap.size, ⟨by simp, ?_, ?_, ?_⟩, fun b => Iff.rfl⟩
        all_goals (rw [hw']; simp [go_sem])
    · refine ⟨_, rfl, .inl rfl, ?_⟩
      intro y W Φ hSW hBW hd K hK
      clear hd
      refine ⟨?_⟩
      simp only [over, Act.put, List.getElem_toArray, List.getElem_cons_zero, List.getElem_cons_succ, List.map_cons, List.map_nil, List.foldl_cons, List.foldl_nil, List.setIfInBounds_toArray, List.set_cons_zero, List.set_cons_succ, List.set_nil] at hK ⊢
      go_simp
      refine (livingAt_any ax n cx v W).mono ?_
      rintro e w' ⟨rfl, hw'⟩
      have hbw : Below W.heap.size W w' := by rw [hw']; exact balloc (balloc (Below.refl _ _) _) _
      refine hK _ _ (fun b => b = W.heap.size ∨ b = W.heap.size + 1) (Mod.of_below hbw) (fun b hb => .inr ?_) ?_
      · rw [hw']
        simp only [World.size_alloc]
        rcases hb with rfl | rfl <;> omega
      · simp only [cmpG, updV]
        refine ⟨W.heap.size, ⟨by simp, ?_, ?_, ?_⟩, fun b => Iff.rfl⟩
        all_goals (rw [hw']; simp [go_sem])
    · refine ⟨_, rfl, .inl rfl, ?_⟩
      intro y W Φ hSW hBW hd K hK
      have g4 := hd (4, 22) (by simp) (by kernel_rfl) (.inl (by simp [cmpC]))
      have g7 := hd (7, 25) (by simp) (by kernel_rfl) (.inl (by simp [cmpC]))
      clear hd
      simp only [cmpG] at g4 g7
      obtain ⟨_, p, hp, fp⟩ := g4
      obtain ⟨_, q, hq, fq⟩ := g7
      refine ⟨?_⟩
      simp only [over, Act.put, List.getElem_toArray, List.getElem_cons_zero, List.getElem_cons_succ, List.map_cons, List.map_nil, List.foldl_cons, List.foldl_nil, List.setIfInBounds_toArray, List.set_cons_zero, List.set_cons_succ, List.set_nil] at hK ⊢
      simp only [hp.1, hq.1] at hK ⊢
      have zp := hp.lt
      have zq := hq.lt
      go_simp
      refine hK _ _ (fun b => b = W.heap.size ∨ (b = p ∨ b = p + 1) ∨ (b = q ∨ b = q + 1)) (Mod.of_below (by (repeat (first | exact Below.refl _ _ | assumption | refine Below.drew ?_ | refine balloc ?_ _ | refine bset ?_ (by simp; omega) _ | refine bset ?_ (by simp) _ | refine bstep ?_ (by assumption))))) (fun b hb => ?_) ?_
      · rcases hb with rfl | hb | hb
        · exact .inr (by simp)
        · exact .inl ⟨4, by simp [cmpC], (fp b).2 hb⟩
        · exact .inl ⟨7, by simp [cmpC], (fq b).2 hb⟩
      · have hbA : Below W.heap.size W (W.alloc (.cells #[y 22, y 25] 119)) := balloc (Below.refl _ _) _
        simp only [hp.1, hq.1] at hbA
        have hpA := hp.mod (Mod.of_below (F := fun _ => False) hbA) (fun h => h) (fun h => h)
        have hqA := hq.mod (Mod.of_below (F := fun _ => False) hbA) (fun h => h) (fun h => h)
        simp only [cmpG, updV]
        refine ⟨W.heap.size, p, q, y 22, y 25, by simp, ?_, ?_, hpA, hqA, fun b => Iff.rfl⟩
        · rw [hp.1]
          simp [go_sem]
        · rw [hq.1]
          simp [go_sem]
    · refine ⟨_, rfl, .inl rfl, ?_⟩
      intro y W Φ hSW hBW hd K hK
      have g8 := hd (8, 26) (by simp) (by kernel_rfl) (.inr (by simp [cmpC]))
      clear hd
      simp only [cmpG] at g8
      obtain ⟨_, lo, p, q, u1, u2, e0, e1, e2, hp, hq, _⟩ := g8
      have hBw := HBX.out W hBW
      have hC := merged_any (.slice (some ⟨lo, 0, none⟩) 2 2) 2 n (fun i => if i = 0 then 120 else 121) (fun i => if i = 0 then #[.pointer (some ⟨p, 0, none⟩), .pointer (some ⟨p + 1, 0, none⟩)] else #[.pointer (some ⟨q, 0, none⟩), .pointer (some ⟨q + 1, 0, none⟩)]) (fun i => if i = 0 then overV v xs else living (lastL v xs)) W
        ⟨_, 2, rfl, Nat.le_refl _, by unfold maxLen; omega, fun i hi => ⟨lo, 0, rfl, by
          match i, hi with
          | 0, _ => simpa [hp.1] using e1
          | 1, _ => simpa [hq.1] using e2⟩⟩ (by have := HLN.out; have := HN.out; omega) HL2.out (fun i hi => by
          match i, hi with
          | 0, _ => exact enters_of Try.func120 (by kernel_rfl) rfl
          | 1, _ => exact enters_of Try.func121 (by kernel_rfl) rfl) (fun i hi => by
          have hT : TabAt (fun b => b < W.heap.size) W (.slice ax n cx) xs := TabAt.of (RowsV_below hX hBw) (fun b hb => hb)
          have zp := hp.lt
          have zq := hq.lt
          match i, hi with
          | 0, _ => exact above_seq p (p + 1) (.slice ax n cx) xs v _ W (fun b hb => hb) hp.2.1 hp.2.2.1 hp.2.2.2 (by omega) (by omega) hT HLN.out
          | 1, _ => exact livingAt_seq q (q + 1) (.slice ax n cx) xs v _ W (fun b hb => hb) hq.2.1 hq.2.2.1 hq.2.2.2 (by omega) (by omega) hT HLN.out)
      rw [HP.out] at hC
      unfold cmpF at hC
      refine ⟨?_⟩
      simp only [over, Act.put, List.getElem_toArray, List.getElem_cons_zero, List.getElem_cons_succ, List.map_cons, List.map_nil, List.foldl_cons, List.foldl_nil, List.setIfInBounds_toArray, List.set_cons_zero, List.set_cons_succ, List.set_nil] at hK ⊢
      simp only [e0] at hK ⊢
      go_simp
      refine hC.mono ?_
      rintro e w' ⟨u, f, rfl, ⟨a1, n1, c1, rfl⟩, hb1, ht, hf⟩
      have hft : f = true := by
        cases f with
        | true => rfl
        | false =>
          have h1 := hf rfl
          have h2 := HLE.out
          have h3 := HN.out
          omega
      subst hft
      obtain ⟨ho, _⟩ := ht rfl
      have hn1 : n1 = ys.length := by
        obtain ⟨a', c', e⟩ := owns_form ho
        simp only [Value.slice.injEq] at e
        exact e.2.1
      subst hn1
      refine hK _ _ (fun b => (Value.slice a1 ys.length c1).ownBlock = some b) (Mod.of_below hb1) (fun b hb => .inr (ho.lt b hb)) ?_
      simp only [cmpG, updV]
      exact ⟨a1, c1, by simp [cmpF], owns_base ho hBW.size, fun b => Iff.rfl⟩
    · refine ⟨_, rfl, .inl rfl, ?_⟩
      intro y W Φ hSW hBW hd K hK
      have g9 := hd (9, 27) (by simp) (by kernel_rfl) (.inr (by simp [cmpC]))
      clear hd
      simp only [cmpG] at g9
      obtain ⟨-, a, c, e0, -⟩ := g9
      refine ⟨?_⟩
      simp only [over, Act.put, List.getElem_toArray, List.getElem_cons_zero, List.getElem_cons_succ, List.map_cons, List.map_nil, List.foldl_cons, List.foldl_nil, List.setIfInBounds_toArray, List.set_cons_zero, List.set_cons_succ, List.set_nil] at hK ⊢
      simp only [e0] at hK ⊢
      go_simp
      refine hK _ _ (fun _ => False) (Mod.refl _ _) (fun b hb => hb.elim) ?_
      simp only [cmpG, updV]
      exact ⟨⟨a, c, by simp⟩, by simp [e0], fun b hb => hb⟩
    · refine ⟨_, rfl, .inl rfl, ?_⟩
      intro y W Φ hSW hBW hd K hK
      have g9 := hd (10, 17) (by simp) (by kernel_rfl) (.inr (by simp [cmpC]))
      clear hd
      simp only [cmpG] at g9
      obtain ⟨-, ⟨a, c, e0⟩, -⟩ := g9
      refine ⟨?_⟩
      simp only [over, Act.put, List.getElem_toArray, List.getElem_cons_zero, List.getElem_cons_succ, List.map_cons, List.map_nil, List.foldl_cons, List.foldl_nil, List.setIfInBounds_toArray, List.set_cons_zero, List.set_cons_succ, List.set_nil] at hK ⊢
      simp only [e0] at hK ⊢
      go_simp
      refine hK _ _ (fun _ => False) (Mod.refl _ _) (fun b hb => hb.elim) ?_
      simp only [cmpG, updV]
      exact ⟨⟨a, c, by simp⟩, by simp [e0], fun b hb => hb⟩
    · refine ⟨_, rfl, .inl rfl, ?_⟩
      intro y W Φ hSW hBW hd K hK
      have g9 := hd (10, 17) (by simp) (by kernel_rfl) (.inr (by simp [cmpC]))
      clear hd
      simp only [cmpG] at g9
      obtain ⟨-, ⟨a, c, e0⟩, -⟩ := g9
      refine ⟨?_⟩
      simp only [over, Act.put, List.getElem_toArray, List.getElem_cons_zero, List.getElem_cons_succ, List.map_cons, List.map_nil, List.foldl_cons, List.foldl_nil, List.setIfInBounds_toArray, List.set_cons_zero, List.set_cons_succ, List.set_nil] at hK ⊢
      simp only [e0] at hK ⊢
      go_simp
      refine hK _ _ (fun _ => False) (Mod.refl _ _) (fun b hb => hb.elim) ?_
      simp only [cmpG, updV]
      exact ⟨by simp, fun b hb => hb⟩
    · refine ⟨_, rfl, .inl rfl, ?_⟩
      intro y W Φ hSW hBW hd K hK
      clear hd
      refine ⟨?_⟩
      simp only [over, Act.put, List.getElem_toArray, List.getElem_cons_zero, List.getElem_cons_succ, List.map_cons, List.map_nil, List.foldl_cons, List.foldl_nil, List.setIfInBounds_toArray, List.set_cons_zero, List.set_cons_succ, List.set_nil] at hK ⊢
      go_simp
      refine hK _ _ (fun b => b = W.heap.size) (Mod.of_below (by (repeat (first | exact Below.refl _ _ | assumption | refine Below.drew ?_ | refine balloc ?_ _ | refine bset ?_ (by simp; omega) _ | refine bset ?_ (by simp) _ | refine bstep ?_ (by assumption))))) (fun b hb => .inr (by simp; omega)) ?_
      simp only [cmpG, updV]
      exact ⟨W.heap.size, by simp, by simp [go_sem], by simp [go_sem], fun o => by simp [go_sem], fun b => Iff.rfl⟩
    · refine ⟨_, rfl, .inr ⟨rfl, by simp⟩, ?_⟩
      intro y W Φ hSW hBW hd K hK
      have g11 := hd (11, 28) (by simp) (by kernel_rfl) (.inr (by simp [cmpC]))
      have g13 := hd (13, 7) (by simp) (by kernel_rfl) (.inl (by simp [cmpC]))
      clear hd
      simp only [cmpG] at g11 g13
      obtain ⟨-, ⟨a, c, e0⟩, -⟩ := g11
      obtain ⟨_, lo, e1, k0, k1, kf, fl⟩ := g13
      unfold cmpF at e0
      refine ⟨?_⟩
      simp only [over, Act.put, List.getElem_toArray, List.getElem_cons_zero, List.getElem_cons_succ, List.map_cons, List.map_nil, List.foldl_cons, List.foldl_nil, List.setIfInBounds_toArray, List.set_cons_zero, List.set_cons_succ, List.set_nil] at hK ⊢
      simp only [e0, e1] at hK ⊢
      go_simp
      refine hK undef _ (fun b => b = lo) (((Mod.of_set W ⟨lo, 0, none⟩ _).trans (Mod.of_set _ ⟨lo, 1, none⟩ _)).mono (fun b hb => ⟨13, by simp [cmpC], (fl b).2 hb⟩)) (fun b hb => .inl ⟨13, by simp [cmpC], (fl b).2 hb⟩) ?_
      simp only [cmpG, updV]
      exact ⟨lo, a, c, by simp [e1], by simp [e0, cmpF], (set_other (by simp)).trans (set_same k0), set_same ((set_other (by simp)).trans k1), fun b => Iff.rfl⟩
  · refine ⟨_, rfl, ?_⟩
    intro y W Φ hSW hBW hd hap K hK
    have g9 := (hd (9, 27) (by simp) (by simp [cmpC])).2
    have g10 := (hd (10, 17) (by simp) (by simp [cmpC])).2
    have g11 := (hd (11, 28) (by simp) (by simp [cmpC])).2
    have g12 := (hd (12, 29) (by simp) (by simp [cmpC])).2
    have g14 := hd (14, 99) (by simp) (by simp [cmpC])
    have hap' := hap (9, 27) (by simp) (14, 99) (by simp) (by simp) (by simp [cmpC]) (by simp [cmpC])
    clear hd hap
    simp only [cmpG] at g9 g10 g11 g12 g14
    obtain ⟨a, c, e27, ho, f9⟩ := g9
    obtain ⟨-, e17, -⟩ := g10
    obtain ⟨-, e28, -⟩ := g11
    obtain ⟨e29, -⟩ := g12
    obtain ⟨hin, lo, a', c', e7, e28', kk0, kk1, f14⟩ := g14
    rw [e17, e27] at e28
    simp only [Value.tuple.injEq, Array.mk.injEq, List.cons.injEq, and_true] at e28
    rw [← e28] at e28'
    simp only [Value.agg.injEq, Array.mk.injEq, List.cons.injEq, and_true, Value.slice.injEq, true_and] at e28'
    obtain ⟨rfl, rfl⟩ := e28'
    have hne : (Value.slice a ys.length c).ownBlock ≠ some lo := fun h => hap' lo ((f9 lo).2 h) ((f14 lo).2 rfl)
    have hlo := hin lo ((f14 lo).2 rfl)
    have hBw := HBX.out W hBW
    have hW2 : Below w2.heap.size w2 W := bstep (bstep hb3 hb0) hBW
    have q0 := cell_keep hW2 k1
    have q1 := cell_keep hW2 k2
    have qf := (boxKeep kf hW2).1
    have qz := (boxKeep kf hW2).2
    have hzw : w.heap.size < W0.heap.size := by
      have h1 := kf.2
      omega
    have HZW : Hid (w.heap.size < W0.heap.size) := hzw
    refine ⟨?_⟩
    simp only [over, Act.put, List.getElem_toArray, List.getElem_cons_zero, List.getElem_cons_succ, List.map_cons, List.map_nil, List.foldl_cons, List.foldl_nil, List.setIfInBounds_toArray, List.set_cons_zero, List.set_cons_succ, List.set_nil]
    simp only [e29, e7]
    clear e17 e27 e28 e7 e29 hap' f9 f14 hin hS hSW hb0 hb3 c0 c1 k1 k2 kf
    go_simp
    refine hK _ _ ?_
    clear hK K
    refine NoPanic.normal ?_
    obtain ⟨L, hL⟩ : ∃ L, ys.length = L := ⟨_, rfl⟩
    have HL : Hid (ys.length = L) := hL
    rw [hL] at ho kk0 hne
    clear hL
    go_wp2
    refine bodyPost_ret (v := .agg #[.int .i64 0, .slice a L c]) (by simp [results, Try.results31, go_sem, q0, q1]) rfl ?_
    have ho2 : ((W.setCell ⟨w.heap.size, 0, none⟩ (.int .i64 0)).setCell ⟨w.heap.size, 1, none⟩ (.slice a L c)).ownsRow w.heap.size 61 4 (.slice a L c) ys.length (rwsC ys) := by
      rw [HL.out]
      exact owns_base (owns_setCell (owns_setCell ho HZW.out _) HZW.out _) (Nat.le_of_lt HZW.out)
    obtain ⟨F, hF⟩ := tabRR_of (c := 0) ho2 HFIT.out
    rw [E.out]
    first | exact ⟨_, F, rfl, hF, by (repeat (first | exact Below.refl _ _ | assumption | refine Below.drew ?_ | refine balloc ?_ _ | refine bset ?_ (by simp; omega) _ | refine bset ?_ (by simp) _ | refine bstep ?_ (by assumption)))⟩ | exact ⟨_, rfl, ⟨F, hF⟩, by (repeat (first | exact Below.refl _ _ | assumption | refine Below.drew ?_ | refine balloc ?_ _ | refine bset ?_ (by simp; omega) _ | refine bset ?_ (by simp) _ | refine bstep ?_ (by assumption)))⟩
end Go.Proofs.Yteebglgbeijolaa


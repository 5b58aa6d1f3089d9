import Derived.Test.YtecfelacdapdgaaGreatPrnEventFaultLaw1

/-
  Contracts as values: the law's own copy, comparison and count of a contract.
-/
namespace Go.Proofs.YtecfelacdapdgaaGreat
open Go.RowKit
set_option linter.unusedSectionVars false
variable [DecidableEq Leg] [Inhabited Leg]
attribute [local go_sem ↓] Go.wp_at_zero Go.wp_at_succ

theorem LegsV_below {w w' : World} {v : Value} {xs : List Leg} (h : LegsV w v xs) (hb : Below w.heap.size w w') : LegsV w' v xs := by
  obtain ⟨a, cap, rfl, h1, h2, h3⟩ := h
  exact ⟨a, cap, rfl, h1, h2, fun i hi => by
    obtain ⟨b, o, ha, hc⟩ := h3 i hi
    exact ⟨b, o, ha, legCells_below hb hc⟩⟩
def szF (left n : Int) : Int := if left < n then -1 else left - n
set_option maxHeartbeats 400000 in
theorem szLegS_any (x : Value) (xs : List Leg) (left : Int) (w : World) (hx : LegsV w x xs) (h0 : 0 ≤ left) (h1 : left ≤ 1048576) :
    Calls Tryz.prog 63 #[x, .int .i64 left] w fun e w' => e = .returned (.int .i64 (szF left xs.length)) ∧ w' = w := by
  obtain ⟨ax, cx, rfl, hcx, hmx, hx⟩ := hx
  unfold maxLen at hmx
  generalize xs.length = n at *
  clear hx
  by_cases h : left < n
  · have h' : left - (n : Int) < 0 := by omega
    go_enter Tryz.func63, Tryz.ntmps63
    go_wp2
    go_ret
    exact ⟨by simp only [szF, if_pos h]; rfl, rfl⟩
  · have h' : ¬ left - (n : Int) < 0 := by omega
    go_enter Tryz.func63, Tryz.ntmps63
    go_wp2
    go_ret
    exact ⟨by rw [szF, if_neg (by omega)]; rfl, rfl⟩
end Go.Proofs.YtecfelacdapdgaaGreat

/-
  Values that own their memory, however deep: footprints (which blocks), what changes only these, rows of such values.
-/
namespace Go.Proofs.YtecfelacdapdgaaGreat
open Go.RowKit

structure Mod (F : Nat → Prop) (w w' : World) : Prop where
  os : w'.os = w.os
  tape : w'.tape = w.tape
  output : w'.output = w.output
  size : w.heap.size ≤ w'.heap.size
  block : ∀ k, k < w.heap.size → ¬ F k → w'.heap[k]? = w.heap[k]?
theorem Mod.refl (F : Nat → Prop) (w : World) : Mod F w w := ⟨rfl, rfl, rfl, Nat.le_refl _, fun _ _ _ => rfl⟩
theorem Mod.trans {F : Nat → Prop} {w w1 w2 : World} (h : Mod F w w1) (k : Mod F w1 w2) : Mod F w w2 :=
  ⟨k.os.trans h.os, k.tape.trans h.tape, k.output.trans h.output, Nat.le_trans h.size k.size, fun i hi hn => (k.block i (Nat.lt_of_lt_of_le hi h.size) hn).trans (h.block i hi hn)⟩
theorem Mod.mono {F G : Nat → Prop} {w w' : World} (h : Mod F w w') (hs : ∀ b, F b → G b) : Mod G w w' :=
  ⟨h.os, h.tape, h.output, h.size, fun i hi hn => h.block i hi (fun hf => hn (hs i hf))⟩
theorem Mod.of_below {F : Nat → Prop} {w w' : World} (h : Below w.heap.size w w') : Mod F w w' :=
  ⟨h.os, h.tape, h.output, h.size, fun i hi _ => h.block i hi⟩
theorem Mod.alloc {F : Nat → Prop} {w w' : World} (h : Mod F w w') (o : Obj) : Mod F w (w'.alloc o) :=
  h.trans (Mod.of_below ((Below.refl _ _).alloc (Nat.le_refl _) o))
theorem Mod.below {F : Nat → Prop} {w0 w w' : World} {B : Nat} (hb : Below B w0 w) (h : Mod F w w') (hs : B ≤ w.heap.size) (hF : ∀ b, F b → B ≤ b) : Below B w0 w' :=
  ⟨h.os.trans hb.os, h.tape.trans hb.tape, h.output.trans hb.output, Nat.le_trans hb.size h.size, fun k hk => (h.block k (Nat.lt_of_lt_of_le hk hs) (fun hf => by have := hF k hf; omega)).trans (hb.block k hk)⟩
theorem Mod.cell {F : Nat → Prop} {w w' : World} (h : Mod F w w') {a : Addr} {v : Value} (hc : w.cell? a = some v) (hn : ¬ F a.block) : w'.cell? a = some v :=
  (World.cell?_of_block (w := w) (h.block a.block (World.block_lt_of_cell? w a hc) hn)).trans hc
theorem Mod.owns {F : Nat → Prop} {w w' : World} {base e size : Nat} {v : Value} {n : Nat} {xs : List Value} (h : Mod F w w') (ho : w.ownsRow base e size v n xs) (hn : ∀ b, v.ownBlock = some b → ¬ F b) : w'.ownsRow base e size v n xs := by
  refine ⟨ho.1, ?_⟩
  rcases ho.2 with h2 | ⟨g, cap, cur, rfl, hg, hh, r⟩
  · exact .inl h2
  · refine .inr ⟨g, cap, cur, rfl, hg, ?_, r⟩
    have hlt : g < w.heap.size := by
      rcases Nat.lt_or_ge g w.heap.size with h | h
      · exact h
      · rw [Array.getElem?_eq_none h] at hh; cases hh
    exact (h.block g hlt (hn g rfl)).trans hh
structure Rep (α : Type) where
  V : World → Value → α → Prop
  O : World → Nat → (Nat → Prop) → Value → α → Prop
  below : ∀ {w w' v x}, V w v x → Below w.heap.size w w' → V w' v x
  ofO : ∀ {w base F v x}, O w base F v x → V w v x
  mod : ∀ {w w' base F G v x}, O w base F v x → Mod G w w' → (∀ b, F b → ¬ G b) → O w' base F v x
  rng : ∀ {w base F v x}, O w base F v x → ∀ b, F b → base ≤ b ∧ b < w.heap.size
  base : ∀ {w base base' F v x}, O w base F v x → base' ≤ base → O w base' F v x
theorem Rep.keep {α : Type} (R : Rep α) {w w' : World} {base : Nat} {F : Nat → Prop} {v : Value} {x : α} (h : R.O w base F v x) (hb : Below w.heap.size w w') : R.O w' base F v x :=
  R.mod (G := fun _ => False) h (Mod.of_below hb) (fun _ _ h => h)
theorem Rep.keep2 {α : Type} (R : Rep α) {w Y w' : World} {base : Nat} {F : Nat → Prop} {v : Value} {x : α} (h : R.O w base F v x) (h1 : Below w.heap.size w Y) (h2 : Below Y.heap.size Y w') : R.O w' base F v x := R.keep (R.keep h h1) h2
def fRep {α : Type} (e size : Nat) (C : List α → List Value) (V : World → Value → List α → Prop)
    (hb : ∀ {w w' v xs}, V w v xs → Below w.heap.size w w' → V w' v xs) (ho : ∀ {w base v xs}, w.ownsRow base e size v xs.length (C xs) → V w v xs) : Rep (List α) where
  V := V
  O := fun w base F v xs => w.ownsRow base e size v xs.length (C xs) ∧ F = (fun b => v.ownBlock = some b)
  below := hb
  ofO := fun h => ho h.1
  mod := fun h hm hd => ⟨hm.owns h.1 (fun b hb => hd b (by rw [h.2]; exact hb)), h.2⟩
  rng := fun h b hb => by rw [h.2] at hb; exact h.1.lt b hb
  base := fun h hb => ⟨owns_base h.1 hb, h.2⟩
structure PO {α : Type} (R : Rep α) (e size : Nat) (lv : Value → List Value) (w : World) (base : Nat) (v : Value) (n k : Nat) (d : Nat → α) (cs : List Value) (us : Nat → Value) (fs : Nat → Nat → Prop) : Prop where
  row : w.ownsRow base e size v n cs
  el : ∀ i, i < k → R.O w base (fs i) (us i) (d i)
  ln : ∀ i, i < k → (lv (us i)).length = size
  cell : ∀ i, i < k → ∀ j, j < size → cs[i * size + j]? = (lv (us i))[j]?
  out : ∀ i, i < k → ∀ b, fs i b → v.ownBlock ≠ some b
  sep : ∀ i j, i < k → j < k → i ≠ j → ∀ b, fs i b → ¬ fs j b
theorem PO.mod {α : Type} {R : Rep α} {e size : Nat} {lv : Value → List Value} {w w' : World} {base : Nat} {v : Value} {n k : Nat} {d : Nat → α} {cs : List Value} {us : Nat → Value} {fs : Nat → Nat → Prop} {G : Nat → Prop}
    (h : PO R e size lv w base v n k d cs us fs) (hm : Mod G w w') (h1 : ∀ b, v.ownBlock = some b → ¬ G b) (h2 : ∀ i, i < k → ∀ b, fs i b → ¬ G b) : PO R e size lv w' base v n k d cs us fs :=
  ⟨hm.owns h.row h1, fun i hi => R.mod (h.el i hi) hm (h2 i hi), h.ln, h.cell, h.out, h.sep⟩
theorem PO.keep {α : Type} {R : Rep α} {e size : Nat} {lv : Value → List Value} {w w' : World} {base : Nat} {v : Value} {n k : Nat} {d : Nat → α} {cs : List Value} {us : Nat → Value} {fs : Nat → Nat → Prop}
    (h : PO R e size lv w base v n k d cs us fs) (hb : Below w.heap.size w w') : PO R e size lv w' base v n k d cs us fs :=
  h.mod (G := fun _ => False) (Mod.of_below hb) (fun _ _ h => h) (fun _ _ _ _ h => h)
theorem Mod.of_set (w : World) (p : Addr) (u : Value) : Mod (fun b => b = p.block) w (w.setCell p u) :=
  ⟨rfl, rfl, rfl, by simp, fun k _ hn => Below.heap_setCell w p u k hn⟩
theorem Rep.set {α : Type} (R : Rep α) {w : World} {base : Nat} {F : Nat → Prop} {v : Value} {x : α} (h : R.O w base F v x) {p : Addr} (u : Value) (hp : p.block < base) : R.O (w.setCell p u) base F v x :=
  R.mod h (Mod.of_set w p u) (fun b hb e => by have := (R.rng h b hb).1; omega)
theorem Rep.alloc {α : Type} (R : Rep α) {w : World} {base : Nat} {F : Nat → Prop} {v : Value} {x : α} (h : R.O w base F v x) (o : Obj) : R.O (w.alloc o) base F v x :=
  R.keep h (balloc (Below.refl _ _) o)
theorem PO.at {α : Type} {R : Rep α} {e size : Nat} {lv : Value → List Value} {w : World} {base : Nat} {a : Option Addr} {c n k : Nat} {d : Nat → α} {cs : List Value} {us : Nat → Value} {fs : Nat → Nat → Prop}
    (h : PO R e size lv w base (.slice a n c) n k d cs us fs) {j : Nat} (hj : j < k) (hn : j < n) : ∃ g, a = some ⟨g, 0, none⟩ ∧ ∀ o, o < size → w.cell? ⟨g, j * size + o, none⟩ = (lv (us j))[o]? := by
  rcases h.row.2 with ⟨_, h0⟩ | ⟨g, cap, cur, hv, _⟩
  · omega
  · have hv' := hv
    injection hv' with e1 e2 e3
    refine ⟨g, e1, fun o ho => ?_⟩
    have h1 := h.row
    rw [hv] at h1
    have h2 := h1.cellAt (j * size + o) (by
      have : j * size + size ≤ n * size := by rw [← Nat.succ_mul]; exact Nat.mul_le_mul_right _ hn
      omega)
    rw [h2, h.cell j hj o ho]
theorem PO.len {α : Type} {R : Rep α} {e size : Nat} {lv : Value → List Value} {w : World} {base : Nat} {v : Value} {n k : Nat} {d : Nat → α} {cs : List Value} {us : Nat → Value} {fs : Nat → Nat → Prop}
    (h : PO R e size lv w base v n k d cs us fs) : n ≤ 2 ^ 63 - 1 := by
  rcases h.row.2 with ⟨_, h⟩ | ⟨_, cap, _, _, _, _, h1, h2, _⟩
  · omega
  · unfold maxLen at h2; omega
theorem szLen_neg {left : Int} {n : Nat} (h : szLen left n < 0) (m : Nat) (hm : n ≤ m) : szLen left m = -1 := by
  unfold szLen at h ⊢
  split at h <;> split <;> omega
end Go.Proofs.YtecfelacdapdgaaGreat

/-
  Rows of impl.Leg: the uniform forms. (Written by program: nest.py.)
-/
namespace Go.Proofs.YtecfelacdapdgaaGreat
open Go.RowKit
set_option linter.unusedSectionVars false
variable [DecidableEq Leg] [Inhabited Leg]
attribute [local go_sem ↓] Go.wp_at_zero Go.wp_at_succ

def legsR : Rep (List Leg) := fRep 110 4 legsC LegsV LegsV_below LegsV_of_owns
def wtLegs (xs : List Leg) : Nat := xs.length
theorem legs_form {w : World} {v : Value} {xs : List Leg} (h : legsR.V w v xs) : ∃ a c, v = .slice a xs.length c := by
  obtain ⟨a, c, rfl, _⟩ := h
  exact ⟨_, _, rfl⟩
theorem toLegS_u (x : Value) (d : List Leg) (w : World) (hx : legsR.V w x d) (hn : wtLegs d ≤ 1048576) :
    Calls Tryz.prog 65 #[x] w fun e w' => ∃ v F, e = .returned v ∧ legsR.O w' w.heap.size F v d ∧ Below w.heap.size w w' := by
  refine (toLegS_any x d w hx hn).mono ?_
  rintro e w' ⟨v, rfl, ho, hb⟩
  exact ⟨v, _, rfl, ⟨ho, rfl⟩, hb⟩
theorem eqLegS_u (x y : Value) (d d' : List Leg) (w : World) (hx : legsR.V w x d) (hy : legsR.V w y d') :
    Calls Tryz.prog 72 #[x, y] w fun e w' => e = .returned (.bool (decide (d = d'))) ∧ Below w.heap.size w w' := eqLegS_any x y d d' w hx hy
theorem szLegS_u (x : Value) (d : List Leg) (left : Int) (w : World) (hx : legsR.V w x d) (h0 : 0 ≤ left) (h1 : left ≤ 1048576) :
    Calls Tryz.prog 63 #[x, .int .i64 left] w fun e w' => e = .returned (.int .i64 (szLen left (wtLegs d))) ∧ Below w.heap.size w w' := by
  refine (szLegS_any x d left w hx h0 h1).mono ?_
  rintro e w' ⟨rfl, rfl⟩
  exact ⟨rfl, Below.refl _ _⟩
end Go.Proofs.YtecfelacdapdgaaGreat

/-
  Contract. (Written by program: nest.py.)
-/
namespace Go.Proofs.YtecfelacdapdgaaGreat
open Go.RowKit
set_option linter.unusedSectionVars false
variable [DecidableEq Leg] [Inhabited Leg]
attribute [local go_sem ↓] Go.wp_at_zero Go.wp_at_succ

structure Cont where
  id : Int
  legs : List Leg
variable [DecidableEq Cont] [Inhabited Cont]

def contR : Rep Cont where
  V := fun w v x => ∃ u1, v = .agg #[.int .i64 x.id, u1] ∧ legsR.V w u1 x.legs
  O := fun w base F v x => ∃ u1 F1, v = .agg #[.int .i64 x.id, u1] ∧ legsR.O w base F1 u1 x.legs ∧ (∀ b, F b ↔ (F1 b))
  below := fun h hb => by
    obtain ⟨u1, rfl, h1⟩ := h
    exact ⟨u1, rfl, legsR.below h1 hb⟩
  ofO := fun h => by
    obtain ⟨u1, F1, rfl, h1, _⟩ := h
    exact ⟨u1, rfl, legsR.ofO h1⟩
  mod := fun h hm hd => by
    obtain ⟨u1, F1, rfl, h1, hF⟩ := h
    exact ⟨u1, F1, rfl, legsR.mod h1 hm (fun b hb => hd b ((hF b).2 hb)), hF⟩
  rng := fun h b hb => by
    obtain ⟨u1, F1, rfl, h1, hF⟩ := h
    rcases (hF b).1 hb with hb
    · exact legsR.rng h1 b hb
  base := fun h hb => by
    obtain ⟨u1, F1, rfl, h1, hF⟩ := h
    exact ⟨u1, F1, rfl, legsR.base h1 hb, hF⟩
def wtCont (x : Cont) : Nat := wtLegs x.legs
set_option maxHeartbeats 1000000 in
theorem toContract_u (x : Value) (d : Cont) (w : World) (hx : contR.V w x d) (hn : wtCont d ≤ 1048576) :
    Calls Tryz.prog 39 #[x] w fun e w' => ∃ v F, e = .returned v ∧ contR.O w' w.heap.size F v d ∧ Below w.heap.size w w' := by
  obtain ⟨u1, rfl, h1⟩ := hx
  unfold wtCont at hn
  go_enter Tryz.func39, Tryz.ntmps39
  go_wp2_with fail
  refine (toLegS_u _ d.legs _ (legsR.below h1 (by (repeat (first | exact Below.refl _ _ | assumption | refine Below.drew ?_ | refine balloc ?_ _ | refine bset ?_ (by simp; omega) _ | refine bset ?_ (by simp) _ | refine bstep ?_ (by assumption))))) (by omega)).mono ?_
  rintro e w1 ⟨v1, F1, rfl, o1, b1⟩
  obtain ⟨a1, n1, rfl⟩ := legs_form (legsR.ofO o1)
  obtain ⟨c1, f1⟩ := bcell b1
  have z1 := b1.size
  simp at z1
  replace o1 := legsR.base (base' := w.heap.size + 3) o1 (by simp; try omega)
  go_wp2
  refine bodyPost_ret (v := .agg #[.int .i64 d.id, .slice a1 d.legs.length n1]) ?_ rfl ⟨_, fun b => F1 b, rfl, ⟨_, F1, rfl, legsR.base (base := w.heap.size + 3) (by (repeat (first | assumption | refine Rep.set _ ?_ _ (by simp; omega) | refine Rep.set _ ?_ _ (by simp) | refine Rep.alloc _ ?_ _ | refine Rep.keep _ ?_ (by assumption)))) (by omega), fun b => Iff.rfl⟩, by (repeat (first | exact Below.refl _ _ | assumption | refine Below.drew ?_ | refine balloc ?_ _ | refine bset ?_ (by simp; omega) _ | refine bset ?_ (by simp) _ | refine bstep ?_ (by assumption)))⟩
  simp [results, Tryz.results39, go_sem, c1]
set_option maxHeartbeats 1000000 in
theorem szContract_u (x : Value) (d : Cont) (left : Int) (w : World) (hx : contR.V w x d) (h0 : 0 ≤ left) (h1 : left ≤ 1048576) :
    Calls Tryz.prog 35 #[x, .int .i64 left] w fun e w' => e = .returned (.int .i64 (szLen left (wtCont d))) ∧ Below w.heap.size w w' := by
  obtain ⟨u1, rfl, k1⟩ := hx
  go_enter Tryz.func35, Tryz.ntmps35
  go_wp2_with fail
  refine (szLegS_u _ d.legs left _ (legsR.below k1 (by (repeat (first | exact Below.refl _ _ | assumption | refine Below.drew ?_ | refine balloc ?_ _ | refine bset ?_ (by simp; omega) _ | refine bset ?_ (by simp) _ | refine bstep ?_ (by assumption))))) h0 h1).mono ?_
  rintro e w1 ⟨rfl, b1⟩
  go_wp2
  · rename_i h
    go_ret
    refine ⟨?_, by (repeat (first | exact Below.refl _ _ | assumption | refine Below.drew ?_ | refine balloc ?_ _ | refine bset ?_ (by simp; omega) _ | refine bset ?_ (by simp) _ | refine bstep ?_ (by assumption)))⟩
    rw [szLen_neg (n := wtLegs d.legs) (by omega) (wtCont d) (by unfold wtCont; omega)]
    rfl
  rename_i h
  go_ret
  exact ⟨rfl, by (repeat (first | exact Below.refl _ _ | assumption | refine Below.drew ?_ | refine balloc ?_ _ | refine bset ?_ (by simp; omega) _ | refine bset ?_ (by simp) _ | refine bstep ?_ (by assumption)))⟩
set_option maxHeartbeats 1000000 in
theorem eqContract_u (x y : Value) (d d' : Cont) (w : World) (hx : contR.V w x d) (hy : contR.V w y d') :
    Calls Tryz.prog 41 #[x, y] w fun e w' => e = .returned (.bool (decide (d = d'))) ∧ Below w.heap.size w w' := by
  obtain ⟨u1, rfl, h1⟩ := hx
  obtain ⟨v1, rfl, k1⟩ := hy
  obtain ⟨id, legs⟩ := d
  obtain ⟨id', legs'⟩ := d'
  dsimp only at h1 k1
  go_enter Tryz.func41, Tryz.ntmps41
  go_wp2_with fail
  all_goals try (go_ret; exact ⟨by simp_all, by (repeat (first | exact Below.refl _ _ | assumption | refine Below.drew ?_ | refine balloc ?_ _ | refine bset ?_ (by simp; omega) _ | refine bset ?_ (by simp) _ | refine bstep ?_ (by assumption)))⟩)
  refine (eqLegS_u _ _ legs legs' _ (legsR.below h1 (by (repeat (first | exact Below.refl _ _ | assumption | refine Below.drew ?_ | refine balloc ?_ _ | refine bset ?_ (by simp; omega) _ | refine bset ?_ (by simp) _ | refine bstep ?_ (by assumption))))) (legsR.below k1 (by (repeat (first | exact Below.refl _ _ | assumption | refine Below.drew ?_ | refine balloc ?_ _ | refine bset ?_ (by simp; omega) _ | refine bset ?_ (by simp) _ | refine bstep ?_ (by assumption)))))).mono ?_
  rintro e w1 ⟨rfl, b1⟩
  go_wp2
  all_goals
    go_ret
    exact ⟨by simp_all, by (repeat (first | exact Below.refl _ _ | assumption | refine Below.drew ?_ | refine balloc ?_ _ | refine bset ?_ (by simp; omega) _ | refine bset ?_ (by simp) _ | refine bstep ?_ (by assumption)))⟩
end Go.Proofs.YtecfelacdapdgaaGreat


import Derived.Test.YteebglgbeijolaaRows
import Derived.WalkKit
import Derived.WalkSpells
import Derived.WalkLawsBesides
import Derived.ProofKit
import Derived.OpenShut
import Derived.Lib.SmallJoins
import Derived.Deep.RegionHeld3
import Derived.Deep.DrawnRows
import Derived.BigQuiet
import Derived.Deep.QuietTactic

/-
  Tools of my own for every law of this seat: behind a call that turned no old memory and answered true, the row's end is so.
-/
namespace Go.Proofs.Yteebglgbeijolaa
open Go.ChangeShapes Go.WideShapes Go.ChangeAt Go.RowKit Go.Joins

theorem trodAll_below {H : Type} {enc : TypeId × Value → H} {P : Program} (hl : laidOutB P = true) {W W' : World} (hb : Below W.heap.size W W') :
    ∀ {ts : List TypeId} {vs : List Value} {ds : List (DataW H)} {ps : List MemPlace}, (∀ t ∈ ts, P.readableRec t = true ∧ t < P.types.size) →
      DataW.TrodAll enc P W 0 (fun _ => true) true ts vs ds ps → DataW.TrodAll enc P W' 0 (fun b => decide (b < W.heap.size)) true ts vs ds ps
  | [], [], [], _, _, h => h
  | t :: ts, v :: vs, d :: ds, ps, hr, h => by
    have hlt := DataW.TrodAll.lt h
    obtain ⟨p, q, h1, h2, rfl⟩ := h
    refine ⟨p, q, Below.trod hl (hr t (by simp)).1 (hr t (by simp)).2 h1 hb (fun x hx => hlt x (by simp [hx])), trodAll_below hl hb (fun u hu => hr u (by simp [hu])) h2, rfl⟩
  | [], [], _ :: _, _, _, h => h.elim
  | [], _ :: _, _, _, _, h => h.elim
  | _ :: _, [], _, _, _, h => h.elim
  | _ :: _, _ :: _, [], _, _, h => h.elim
theorem law_post {H : Type} {enc : TypeId × Value → H} {P : Program} {f : Func} {s : ChangeSpec} {W W' : World} {args : Array Value} {ds gs : List (DataW H)} {before : List MemPlace} {tb : TypeId}
    (hW : DataW.Whole enc P f.params.toList s.vars false W args.toList ds gs before)
    (hl : laidOutB P = true) (hr : (f.params.toList.all fun t => P.readableRec t && decide (t < P.types.size)) = true)
    (hvars : s.vars = []) (hrt : f.resultTypes = #[tb]) (hb : P.underlying tb = some .bool) (hfn : gs = [] → s.fn H ds = { results := [.lit (.bool true)], args := ds })
    (hB : Below W.heap.size W W') : s.post enc P f false true false false W args (.bool true) W' := by
  have hW0 := hW
  obtain ⟨p, q, hA, hV, rfl, hfz, hnd⟩ := hW
  rw [hvars] at hV
  obtain ⟨rfl, rfl⟩ := trodVars_none hV
  have hr' : ∀ t ∈ f.params.toList, P.readableRec t = true ∧ t < P.types.size := by
    intro t ht
    have := List.all_eq_true.1 hr t ht
    simpa using this
  refine ⟨ds, [], _, [], p, [], hW0, ?_, ?_, ?_, hB.frame _, fun h => by cases h⟩
  · rw [List.append_nil, hfn rfl, hrt]
    exact trodAll_mk1 (shut_bool hb true)
  · rw [List.append_nil, hfn rfl]
    exact trodAll_below hl hB hr' hA
  · rw [List.append_nil, hfn rfl, hvars]
    exact rfl
theorem bcell {W w1 : World} (hb : Below W.heap.size W w1) : (∀ b o, b < W.heap.size → w1.cell? ⟨b, o, none⟩ = W.cell? ⟨b, o, none⟩) ∧ (∀ b o, b < W.heap.size → w1.frozen? ⟨b, o, none⟩ = W.frozen? ⟨b, o, none⟩) :=
  ⟨fun b o h => hb.cell (p := ⟨b, o, none⟩) h, fun b o h => hb.frozen (p := ⟨b, o, none⟩) h⟩
theorem bstep {w Y X : World} (h : Below w.heap.size w Y) (k : Below Y.heap.size Y X) : Below w.heap.size w X := h.trans (k.mono h.size)
theorem balloc {w Y : World} (h : Below w.heap.size w Y) (o : Obj) : Below w.heap.size w (Y.alloc o) := h.alloc h.size o
theorem grown_of_below {w w' : World} (h : Below w.heap.size w w') : w.grownBy w' none := ⟨h.os, h.tape, h.output, h.size, fun k hk _ => h.block k hk⟩
theorem owns_below {w w' : World} {base e size : Nat} {v : Value} {n : Nat} {xs : List Value} (h : w.ownsRow base e size v n xs) (hb : Below w.heap.size w w') : w'.ownsRow base e size v n xs :=
  h.kept (grown_of_below hb) (by cases hv : v.ownBlock <;> simp)
theorem owns_some {w : World} {base e size g n cap : Nat} {xs : List Value} (h : w.ownsRow base e size (.slice (some ⟨g, 0, none⟩) n cap) n xs) (j : Nat) (hj : j < n * size) : ∃ u, w.cell? ⟨g, j, none⟩ = some u := by
  have h1 := h.cellAt j hj
  have h2 := h.1
  exact ⟨xs[j]'(by omega), by rw [h1, List.getElem?_eq_getElem]⟩
theorem owns_form {w : World} {base e size : Nat} {v : Value} {n : Nat} {xs : List Value} (h : w.ownsRow base e size v n xs) : ∃ a c, v = .slice a n c := by
  rcases h.2 with ⟨rfl, rfl⟩ | ⟨g, cap, cur, rfl, _⟩
  · exact ⟨_, _, rfl⟩
  · exact ⟨_, _, rfl⟩
theorem bset {w Y : World} (h : Below w.heap.size w Y) {p : Addr} (hp : w.heap.size ≤ p.block) (u : Value) : Below w.heap.size w (Y.setCell p u) := h.setCell hp u
theorem owns_base {w : World} {base base' e size : Nat} {v : Value} {n : Nat} {xs : List Value} (h : w.ownsRow base e size v n xs) (hb : base' ≤ base) : w.ownsRow base' e size v n xs := by
  refine ⟨h.1, ?_⟩
  rcases h.2 with h2 | ⟨g, cap, cur, hv, hg, r⟩
  · exact .inl h2
  · exact .inr ⟨g, cap, cur, hv, Nat.le_trans hb hg, r⟩
theorem owns_setCell {w : World} {base e size : Nat} {v : Value} {n : Nat} {xs : List Value} (h : w.ownsRow base e size v n xs) {a : Addr} (ha : a.block < base) (u : Value) : (w.setCell a u).ownsRow base e size v n xs :=
  ownsRow_setCell_below h ha u
theorem set_same {w : World} {a : Addr} {v u : Value} (h : w.cell? a = some u) : (w.setCell a v).cell? a = some v := by
  first | exact World.cell?_setCell_same h | exact World.cell?_setCell_same _ h | exact World.cell?_setCell_same _ _ _ h
theorem set_other {w : World} {a b : Addr} {v : Value} (h : a ≠ b) : (w.setCell a v).cell? b = w.cell? b := by
  first | exact World.cell?_setCell_other h | exact World.cell?_setCell_other _ h | exact World.cell?_setCell_other _ _ _ _ h
theorem cell_keep {w w' : World} {a : Addr} {v : Value} (hb : Below w.heap.size w w') (h : w.cell? a = some v) : w'.cell? a = some v :=
  (hb.cell (World.block_lt_of_cell? w a h)).trans h
def Own (lo hi : Nat) (v : Value) : Prop := ∀ b, v.ownBlock = some b → lo ≤ b ∧ b < hi
theorem own_of {w : World} {base e size : Nat} {v : Value} {n : Nat} {xs : List Value} (h : w.ownsRow base e size v n xs) : Own base w.heap.size v := fun b hb => h.lt b hb
theorem own_not {lo hi c : Nat} {v : Value} (h : Own lo hi v) (hh : c < lo ∨ hi ≤ c) : some c ≠ v.ownBlock := fun e => by
  have := h c e.symm
  omega
theorem own : ownKnob Try.prog.godebug = none := by kernel_rfl
theorem laidOut : laidOutB Try.prog = true := by kernel_rfl
end Go.Proofs.Yteebglgbeijolaa

/-
  Values that own their memory, however deep: footprints (which blocks), what changes only these, rows of such values.
-/
namespace Go.Proofs.Yteebglgbeijolaa
open Go.RowKit

structure Mod (F : Nat → Prop) (w w' : World) : Prop where
  os : w'.os = w.os
  tape : w'.tape = w.tape
  output : w'.output = w.output
  size : w.heap.size ≤ w'.heap.size
  block : ∀ k, k < w.heap.size → ¬ F k → w'.heap[k]? = w.heap[k]?
theorem Mod.refl (F : Nat → Prop) (w : World) : Mod F w w := ⟨rfl, rfl, rfl, Nat.le_refl _, fun _ _ _ => rfl⟩
theorem Mod.trans {F : Nat → Prop} {w w1 w2 : World} (h : Mod F w w1) (k : Mod F w1 w2) : Mod F w w2 :=
  ⟨k.os.trans h.os, k.tape.trans h.tape, k.output.trans h.output, Nat.le_trans h.size k.size, fun i hi hn => (k.block i (Nat.lt_of_lt_of_le hi h.size) hn).trans (h.block i hi hn)⟩
theorem Mod.mono {F G : Nat → Prop} {w w' : World} (h : Mod F w w') (hs : ∀ b, F b → G b) : Mod G w w' :=
  ⟨h.os, h.tape, h.output, h.size, fun i hi hn => h.block i hi (fun hf => hn (hs i hf))⟩
theorem Mod.of_grown {w w' : World} {row : Option Nat} (h : w.grownBy w' row) : Mod (fun b => row = some b) w w' :=
  ⟨h.os, h.tape, h.output, h.size, fun i hi hn => h.block i hi (fun e => hn e.symm)⟩
theorem Mod.of_below {F : Nat → Prop} {w w' : World} (h : Below w.heap.size w w') : Mod F w w' :=
  ⟨h.os, h.tape, h.output, h.size, fun i hi _ => h.block i hi⟩
theorem Mod.alloc {F : Nat → Prop} {w w' : World} (h : Mod F w w') (o : Obj) : Mod F w (w'.alloc o) :=
  h.trans (Mod.of_below ((Below.refl _ _).alloc (Nat.le_refl _) o))
theorem Mod.below {F : Nat → Prop} {w0 w w' : World} {B : Nat} (hb : Below B w0 w) (h : Mod F w w') (hs : B ≤ w.heap.size) (hF : ∀ b, F b → B ≤ b) : Below B w0 w' :=
  ⟨h.os.trans hb.os, h.tape.trans hb.tape, h.output.trans hb.output, Nat.le_trans hb.size h.size, fun k hk => (h.block k (Nat.lt_of_lt_of_le hk hs) (fun hf => by have := hF k hf; omega)).trans (hb.block k hk)⟩
theorem Mod.cell {F : Nat → Prop} {w w' : World} (h : Mod F w w') {a : Addr} {v : Value} (hc : w.cell? a = some v) (hn : ¬ F a.block) : w'.cell? a = some v :=
  (World.cell?_of_block (w := w) (h.block a.block (World.block_lt_of_cell? w a hc) hn)).trans hc
theorem Mod.owns {F : Nat → Prop} {w w' : World} {base e size : Nat} {v : Value} {n : Nat} {xs : List Value} (h : Mod F w w') (ho : w.ownsRow base e size v n xs) (hn : ∀ b, v.ownBlock = some b → ¬ F b) : w'.ownsRow base e size v n xs := by
  refine ⟨ho.1, ?_⟩
  rcases ho.2 with h2 | ⟨g, cap, cur, rfl, hg, hh, r⟩
  · exact .inl h2
  · refine .inr ⟨g, cap, cur, rfl, hg, ?_, r⟩
    have hlt : g < w.heap.size := by
      rcases Nat.lt_or_ge g w.heap.size with h | h
      · exact h
      · rw [Array.getElem?_eq_none h] at hh; cases hh
    exact (h.block g hlt (hn g rfl)).trans hh
structure Rep (α : Type) where
  V : World → Value → α → Prop
  O : World → Nat → (Nat → Prop) → Value → α → Prop
  below : ∀ {w w' v x}, V w v x → Below w.heap.size w w' → V w' v x
  ofO : ∀ {w base F v x}, O w base F v x → V w v x
  mod : ∀ {w w' base F G v x}, O w base F v x → Mod G w w' → (∀ b, F b → ¬ G b) → O w' base F v x
  rng : ∀ {w base F v x}, O w base F v x → ∀ b, F b → base ≤ b ∧ b < w.heap.size
  base : ∀ {w base base' F v x}, O w base F v x → base' ≤ base → O w base' F v x
theorem Rep.keep {α : Type} (R : Rep α) {w w' : World} {base : Nat} {F : Nat → Prop} {v : Value} {x : α} (h : R.O w base F v x) (hb : Below w.heap.size w w') : R.O w' base F v x :=
  R.mod (G := fun _ => False) h (Mod.of_below hb) (fun _ _ h => h)
theorem Rep.keep2 {α : Type} (R : Rep α) {w Y w' : World} {base : Nat} {F : Nat → Prop} {v : Value} {x : α} (h : R.O w base F v x) (h1 : Below w.heap.size w Y) (h2 : Below Y.heap.size Y w') : R.O w' base F v x := R.keep (R.keep h h1) h2
def none_ : Nat → Prop := fun _ => False
def fRep {α : Type} (e size : Nat) (C : List α → List Value) (V : World → Value → List α → Prop)
    (hb : ∀ {w w' v xs}, V w v xs → Below w.heap.size w w' → V w' v xs) (ho : ∀ {w base v xs}, w.ownsRow base e size v xs.length (C xs) → V w v xs) : Rep (List α) where
  V := V
  O := fun w base F v xs => w.ownsRow base e size v xs.length (C xs) ∧ F = (fun b => v.ownBlock = some b)
  below := hb
  ofO := fun h => ho h.1
  mod := fun h hm hd => ⟨hm.owns h.1 (fun b hb => hd b (by rw [h.2]; exact hb)), h.2⟩
  rng := fun h b hb => by rw [h.2] at hb; exact h.1.lt b hb
  base := fun h hb => ⟨owns_base h.1 hb, h.2⟩
structure PO {α : Type} (R : Rep α) (e size : Nat) (lv : Value → List Value) (w : World) (base : Nat) (v : Value) (n k : Nat) (d : Nat → α) (cs : List Value) (us : Nat → Value) (fs : Nat → Nat → Prop) : Prop where
  row : w.ownsRow base e size v n cs
  el : ∀ i, i < k → R.O w base (fs i) (us i) (d i)
  ln : ∀ i, i < k → (lv (us i)).length = size
  cell : ∀ i, i < k → ∀ j, j < size → cs[i * size + j]? = (lv (us i))[j]?
  out : ∀ i, i < k → ∀ b, fs i b → v.ownBlock ≠ some b
  sep : ∀ i j, i < k → j < k → i ≠ j → ∀ b, fs i b → ¬ fs j b
theorem PO.mod {α : Type} {R : Rep α} {e size : Nat} {lv : Value → List Value} {w w' : World} {base : Nat} {v : Value} {n k : Nat} {d : Nat → α} {cs : List Value} {us : Nat → Value} {fs : Nat → Nat → Prop} {G : Nat → Prop}
    (h : PO R e size lv w base v n k d cs us fs) (hm : Mod G w w') (h1 : ∀ b, v.ownBlock = some b → ¬ G b) (h2 : ∀ i, i < k → ∀ b, fs i b → ¬ G b) : PO R e size lv w' base v n k d cs us fs :=
  ⟨hm.owns h.row h1, fun i hi => R.mod (h.el i hi) hm (h2 i hi), h.ln, h.cell, h.out, h.sep⟩
theorem PO.keep {α : Type} {R : Rep α} {e size : Nat} {lv : Value → List Value} {w w' : World} {base : Nat} {v : Value} {n k : Nat} {d : Nat → α} {cs : List Value} {us : Nat → Value} {fs : Nat → Nat → Prop}
    (h : PO R e size lv w base v n k d cs us fs) (hb : Below w.heap.size w w') : PO R e size lv w' base v n k d cs us fs :=
  h.mod (G := fun _ => False) (Mod.of_below hb) (fun _ _ h => h) (fun _ _ _ _ h => h)
def upd {β : Type} (f : Nat → β) (k : Nat) (x : β) : Nat → β := fun i => if i = k then x else f i
theorem upd_at {β : Type} (f : Nat → β) (k : Nat) (x : β) : upd f k x k = x := by simp [upd]
theorem upd_ne {β : Type} (f : Nat → β) {k i : Nat} (x : β) (h : i ≠ k) : upd f k x i = f i := by simp [upd, h]
def NV {α : Type} [Inhabited α] (R : Rep α) (size : Nat) (lv : Value → List Value) (w : World) (v : Value) (xs : List α) : Prop :=
  ∃ a cap, v = .slice a xs.length cap ∧ xs.length ≤ cap ∧ cap ≤ maxLen ∧ ∀ i, i < xs.length → ∃ b o u, a = some ⟨b, o, none⟩ ∧ (lv u).length = size ∧ (∀ j, j < size → w.cell? ⟨b, o + i * size + j, none⟩ = (lv u)[j]?) ∧ R.V w u (xs.getD i default)
def NO {α : Type} [Inhabited α] (R : Rep α) (e size : Nat) (lv : Value → List Value) (w : World) (base : Nat) (F : Nat → Prop) (v : Value) (xs : List α) : Prop :=
  ∃ cs us fs, PO R e size lv w base v xs.length xs.length (fun i => xs.getD i default) cs us fs ∧ ∀ b, F b ↔ (v.ownBlock = some b ∨ ∃ i, i < xs.length ∧ fs i b)
theorem NV_below {α : Type} [Inhabited α] {R : Rep α} {size : Nat} {lv : Value → List Value} {w w' : World} {v : Value} {xs : List α} (h : NV R size lv w v xs) (hb : Below w.heap.size w w') : NV R size lv w' v xs := by
  obtain ⟨a, cap, rfl, h1, h2, h3⟩ := h
  refine ⟨a, cap, rfl, h1, h2, fun i hi => ?_⟩
  obtain ⟨b, o, u, ha, hl, hc, hv⟩ := h3 i hi
  refine ⟨b, o, u, ha, hl, fun j hj => ?_, R.below hv hb⟩
  have hs : (lv u)[j]? = some ((lv u)[j]'(by omega)) := List.getElem?_eq_getElem _
  rw [hs]
  exact cell_keep hb ((hc j hj).trans hs)
theorem NV_of {α : Type} [Inhabited α] {R : Rep α} {e size : Nat} {lv : Value → List Value} {w : World} {base : Nat} {F : Nat → Prop} {v : Value} {xs : List α} (h : NO R e size lv w base F v xs) : NV R size lv w v xs := by
  obtain ⟨cs, us, fs, hp, _⟩ := h
  have hr := hp.row
  rcases hr.2 with ⟨rfl, hn⟩ | ⟨g, cap, cur, rfl, hb, hg, hnc, hcm, hcs, htake⟩
  · exact ⟨none, 0, by rw [hn], by omega, by unfold maxLen; omega, fun i hi => by omega⟩
  · refine ⟨some ⟨g, 0, none⟩, cap, rfl, hnc, hcm, fun i hi => ⟨g, 0, us i, rfl, hp.ln i hi, fun j hj => ?_, R.ofO (hp.el i hi)⟩⟩
    rw [Nat.zero_add, ← hp.cell i hi j hj]
    exact hr.cellAt _ (by
      have : i * size + size ≤ xs.length * size := by rw [← Nat.succ_mul]; exact Nat.mul_le_mul_right _ hi
      omega)
def nRep {α : Type} [Inhabited α] (R : Rep α) (e size : Nat) (lv : Value → List Value) : Rep (List α) where
  V := NV R size lv
  O := NO R e size lv
  below := NV_below
  ofO := NV_of
  mod := fun h hm hd => by
    obtain ⟨cs, us, fs, hp, hF⟩ := h
    exact ⟨cs, us, fs, hp.mod hm (fun b hb => hd b ((hF b).2 (.inl hb))) (fun i hi b hb => hd b ((hF b).2 (.inr ⟨i, hi, hb⟩))), hF⟩
  rng := fun h b hb => by
    obtain ⟨cs, us, fs, hp, hF⟩ := h
    rcases (hF b).1 hb with hb | ⟨i, hi, hb⟩
    · exact hp.row.lt b hb
    · exact R.rng (hp.el i hi) b hb
  base := fun h hb => by
    obtain ⟨cs, us, fs, hp, hF⟩ := h
    exact ⟨cs, us, fs, ⟨owns_base hp.row hb, fun i hi => R.base (hp.el i hi) hb, hp.ln, hp.cell, hp.out, hp.sep⟩, hF⟩
def one (v : Value) : List Value := [v]
theorem Mod.of_set (w : World) (p : Addr) (u : Value) : Mod (fun b => b = p.block) w (w.setCell p u) :=
  ⟨rfl, rfl, rfl, by simp, fun k _ hn => Below.heap_setCell w p u k hn⟩
theorem Rep.set {α : Type} (R : Rep α) {w : World} {base : Nat} {F : Nat → Prop} {v : Value} {x : α} (h : R.O w base F v x) {p : Addr} (u : Value) (hp : p.block < base) : R.O (w.setCell p u) base F v x :=
  R.mod h (Mod.of_set w p u) (fun b hb e => by have := (R.rng h b hb).1; omega)
theorem Rep.alloc {α : Type} (R : Rep α) {w : World} {base : Nat} {F : Nat → Prop} {v : Value} {x : α} (h : R.O w base F v x) (o : Obj) : R.O (w.alloc o) base F v x :=
  R.keep h (balloc (Below.refl _ _) o)
theorem PO.at {α : Type} {R : Rep α} {e size : Nat} {lv : Value → List Value} {w : World} {base : Nat} {a : Option Addr} {c n k : Nat} {d : Nat → α} {cs : List Value} {us : Nat → Value} {fs : Nat → Nat → Prop}
    (h : PO R e size lv w base (.slice a n c) n k d cs us fs) {j : Nat} (hj : j < k) (hn : j < n) : ∃ g, a = some ⟨g, 0, none⟩ ∧ ∀ o, o < size → w.cell? ⟨g, j * size + o, none⟩ = (lv (us j))[o]? := by
  rcases h.row.2 with ⟨_, h0⟩ | ⟨g, cap, cur, hv, _⟩
  · omega
  · have hv' := hv
    injection hv' with e1 e2 e3
    refine ⟨g, e1, fun o ho => ?_⟩
    have h1 := h.row
    rw [hv] at h1
    have h2 := h1.cellAt (j * size + o) (by
      have : j * size + size ≤ n * size := by rw [← Nat.succ_mul]; exact Nat.mul_le_mul_right _ hn
      omega)
    rw [h2, h.cell j hj o ho]
theorem PO.len {α : Type} {R : Rep α} {e size : Nat} {lv : Value → List Value} {w : World} {base : Nat} {v : Value} {n k : Nat} {d : Nat → α} {cs : List Value} {us : Nat → Value} {fs : Nat → Nat → Prop}
    (h : PO R e size lv w base v n k d cs us fs) : n ≤ 2 ^ 63 - 1 := by
  rcases h.row.2 with ⟨_, h⟩ | ⟨_, cap, _, _, _, _, h1, h2, _⟩
  · omega
  · unfold maxLen at h2; omega
theorem cells1 {w : World} {b o i : Nat} {u : Value} (h : ∀ j, j < 1 → w.cell? ⟨b, o + i * 1 + j, none⟩ = (one u)[j]?) : w.cell? ⟨b, o + i, none⟩ = some u := by
  simpa [one] using h 0 (by omega)
end Go.Proofs.Yteebglgbeijolaa

/-
  Rows of bytes: copied, compared, counted, marked and read back.
-/
namespace Go.Proofs.Yteebglgbeijolaa
open Go.RowKit
attribute [local go_sem ↓] Go.wp_at_zero Go.wp_at_succ

abbrev Byte := Fin 256
def toB (n : Int) : Byte := ⟨(n % 256).toNat, by omega⟩
theorem toB_val (n : Int) : ((toB n).val : Int) = n % 256 := by simp only [toB]; omega
theorem wrapB (n : Int) : IntKind.u8.wrap n = ((toB n).val : Int) := by rw [toB_val, IntKind.wrap_u8]
theorem byte_lt (b : Byte) : (0 : Int) ≤ (b.val : Int) ∧ (b.val : Int) ≤ 255 := by have := b.isLt; omega
def bytesC (ys : List Byte) : List Value := ys.map (fun b => Value.int .u8 (b.val : Int))
theorem length_bytesC (ys : List Byte) : (bytesC ys).length = ys.length := by simp [bytesC]
theorem bytesC_append (xs ys : List Byte) : bytesC (xs ++ ys) = bytesC xs ++ bytesC ys := by simp [bytesC]
theorem bytesC_one (xs : List Byte) : ∀ u ∈ bytesC xs, u.oneCell' = true := by
  intro u hu
  simp only [bytesC, List.mem_map] at hu
  obtain ⟨b, _, rfl⟩ := hu
  rfl
theorem get_bytesC (ys : List Byte) (i : Nat) (h : i < ys.length) : (bytesC ys)[i]? = some (.int .u8 ((ys.getD i 0).val : Int)) := by
  simp [bytesC, List.getD, h]
theorem infoByte : (Try.prog.info? 5).map (fun i => (i.zero, i.size, i.bytes)) = some (some (.int .u8 0), 1, 1) := by kernel_rfl
def BytesV (w : World) (v : Value) (ys : List Byte) : Prop :=
  ∃ a cap, v = .slice a ys.length cap ∧ ys.length ≤ cap ∧ cap ≤ maxLen ∧ ∀ i, i < ys.length → ∃ b o, a = some ⟨b, o, none⟩ ∧ w.cell? ⟨b, o + i, none⟩ = some (.int .u8 ((ys.getD i 0).val : Int))
theorem BytesV_below {w w' : World} {v : Value} {ys : List Byte} (h : BytesV w v ys) (hb : Below w.heap.size w w') : BytesV w' v ys := by
  obtain ⟨a, cap, rfl, h1, h2, h3⟩ := h
  exact ⟨a, cap, rfl, h1, h2, fun i hi => by
    obtain ⟨b, o, ha, hc⟩ := h3 i hi
    exact ⟨b, o, ha, cell_keep hb hc⟩⟩
theorem BytesV_of_owns {w : World} {base e : Nat} {v : Value} {ys : List Byte} (h : w.ownsRow base e 1 v ys.length (bytesC ys)) : BytesV w v ys := by
  rcases h.2 with ⟨rfl, hn⟩ | ⟨g, cap, cur, rfl, hb, hg, hnc, hcm, hcs, htake⟩
  · exact ⟨none, 0, by rw [hn], by omega, by unfold maxLen; omega, fun i hi => by omega⟩
  · refine ⟨some ⟨g, 0, none⟩, cap, rfl, hnc, hcm, fun i hi => ⟨g, 0, rfl, ?_⟩⟩
    rw [Nat.zero_add]
    exact (h.cellAt i (by omega)).trans (get_bytesC ys i hi)
def uptoB (k : Nat) (cs : List Value) (ys : List Byte) : Prop := ∀ j, j < k → cs[j]? = (bytesC ys)[j]?
theorem uptoB_full {n : Nat} {cs : List Value} {ys : List Byte} (h : uptoB n cs ys) (hl : cs.length = n * 1) (hn : ys.length = n) : cs = bytesC ys := by
  apply List.ext_getElem?
  intro j
  by_cases hj : j < n
  · exact h j hj
  · rw [List.getElem?_eq_none (by omega), List.getElem?_eq_none (by simp [bytesC]; omega)]
theorem uptoB_set {k : Nat} {cs : List Value} {ys : List Byte} {l : Int} (h : uptoB k cs ys) (hk : k < ys.length) (hl : cs.length = ys.length * 1) (he : l = ((ys.getD k 0).val : Int)) : uptoB (k + 1) (cs.set k (.int .u8 l)) ys := by
  intro j hj
  rw [List.getElem?_set]
  by_cases e : k = j
  · subst e
    rw [if_pos rfl, if_pos (by omega), get_bytesC ys k hk, he]
  · rw [if_neg e]
    exact h j (by omega)
end Go.Proofs.Yteebglgbeijolaa

/-
  Rows of uint8: the uniform forms. (Written by program: nest.py.)
-/
namespace Go.Proofs.Yteebglgbeijolaa
open Go.RowKit
attribute [local go_sem ↓] Go.wp_at_zero Go.wp_at_succ

def bytesR : Rep (List Byte) := fRep 5 1 bytesC BytesV BytesV_below BytesV_of_owns
theorem bytes_form {w : World} {v : Value} {xs : List Byte} (h : bytesR.V w v xs) : ∃ a c, v = .slice a xs.length c := by
  obtain ⟨a, c, rfl, _⟩ := h
  exact ⟨_, _, rfl⟩
end Go.Proofs.Yteebglgbeijolaa


import Derived.Test.YtjemciikdijokaaRows
import Derived.WalkKit
import Derived.WalkSpells
import Derived.WalkLawsBesides
import Derived.ProofKit
import Derived.OpenShut
import Derived.Lib.SmallJoins
import Derived.BigQuiet
import Derived.Deep.QuietTactic
import Derived.Deep.RegionHeld3
import Derived.Deep.DrawnRows

/-
  Tools of my own for every law of this seat: behind a call that turned no old memory and answered true, the row's end is so.
-/
namespace Go.Proofs.Ytjemciikdijokaa
open Go.ChangeShapes Go.WideShapes Go.ChangeAt Go.RowKit Go.Joins

theorem trodAll_below {H : Type} {enc : TypeId × Value → H} {P : Program} (hl : laidOutB P = true) {W W' : World} (hb : Below W.heap.size W W') :
    ∀ {ts : List TypeId} {vs : List Value} {ds : List (DataW H)} {ps : List MemPlace}, (∀ t ∈ ts, P.readableRec t = true ∧ t < P.types.size) →
      DataW.TrodAll enc P W 0 (fun _ => true) true ts vs ds ps → DataW.TrodAll enc P W' 0 (fun b => decide (b < W.heap.size)) true ts vs ds ps
  | [], [], [], _, _, h => h
  | t :: ts, v :: vs, d :: ds, ps, hr, h => by
    have hlt := DataW.TrodAll.lt h
    obtain ⟨p, q, h1, h2, rfl⟩ := h
    refine ⟨p, q, Below.trod hl (hr t (by simp)).1 (hr t (by simp)).2 h1 hb (fun x hx => hlt x (by simp [hx])), trodAll_below hl hb (fun u hu => hr u (by simp [hu])) h2, rfl⟩
  | [], [], _ :: _, _, _, h => h.elim
  | [], _ :: _, _, _, _, h => h.elim
  | _ :: _, [], _, _, _, h => h.elim
  | _ :: _, _ :: _, [], _, _, h => h.elim
theorem law_post {H : Type} {enc : TypeId × Value → H} {P : Program} {f : Func} {s : ChangeSpec} {W W' : World} {args : Array Value} {ds gs : List (DataW H)} {before : List MemPlace} {tb : TypeId}
    (hW : DataW.Whole enc P f.params.toList s.vars false W args.toList ds gs before)
    (hl : laidOutB P = true) (hr : (f.params.toList.all fun t => P.readableRec t && decide (t < P.types.size)) = true)
    (hvars : s.vars = []) (hrt : f.resultTypes = #[tb]) (hb : P.underlying tb = some .bool) (hfn : gs = [] → s.fn H ds = { results := [.lit (.bool true)], args := ds })
    (hB : Below W.heap.size W W') : s.post enc P f false true false false W args (.bool true) W' := by
  have hW0 := hW
  obtain ⟨p, q, hA, hV, rfl, hfz, hnd⟩ := hW
  rw [hvars] at hV
  obtain ⟨rfl, rfl⟩ := trodVars_none hV
  have hr' : ∀ t ∈ f.params.toList, P.readableRec t = true ∧ t < P.types.size := by
    intro t ht
    have := List.all_eq_true.1 hr t ht
    simpa using this
  refine ⟨ds, [], _, [], p, [], hW0, ?_, ?_, ?_, hB.frame _, fun h => by cases h⟩
  · rw [List.append_nil, hfn rfl, hrt]
    exact trodAll_mk1 (shut_bool hb true)
  · rw [List.append_nil, hfn rfl]
    exact trodAll_below hl hB hr' hA
  · rw [List.append_nil, hfn rfl, hvars]
    exact rfl
theorem bstep {w Y X : World} (h : Below w.heap.size w Y) (k : Below Y.heap.size Y X) : Below w.heap.size w X := h.trans (k.mono h.size)
theorem balloc {w Y : World} (h : Below w.heap.size w Y) (o : Obj) : Below w.heap.size w (Y.alloc o) := h.alloc h.size o
theorem bset {w Y : World} (h : Below w.heap.size w Y) {p : Addr} (hp : w.heap.size ≤ p.block) (u : Value) : Below w.heap.size w (Y.setCell p u) := h.setCell hp u
theorem cell_keep {w w' : World} {a : Addr} {v : Value} (hb : Below w.heap.size w w') (h : w.cell? a = some v) : w'.cell? a = some v :=
  (hb.cell (World.block_lt_of_cell? w a h)).trans h
theorem own : ownKnob Try.prog.godebug = none := by kernel_rfl
theorem laidOut : laidOutB Try.prog = true := by kernel_rfl
end Go.Proofs.Ytjemciikdijokaa

/-
  A leg as a value: the law's own copy and comparison of one leg.
-/
namespace Go.Proofs.Ytjemciikdijokaa
open Go.RowKit
set_option linter.unusedSectionVars false

structure Leg where
  sh : Int
  ac : Int
  ast : Int
  am : Int
variable [DecidableEq Leg] [Inhabited Leg]

end Go.Proofs.Ytjemciikdijokaa

/-
  Values that own their memory, however deep: footprints (which blocks), what changes only these, rows of such values.
-/
namespace Go.Proofs.Ytjemciikdijokaa
open Go.RowKit

structure Mod (F : Nat → Prop) (w w' : World) : Prop where
  os : w'.os = w.os
  tape : w'.tape = w.tape
  output : w'.output = w.output
  size : w.heap.size ≤ w'.heap.size
  block : ∀ k, k < w.heap.size → ¬ F k → w'.heap[k]? = w.heap[k]?
theorem Mod.refl (F : Nat → Prop) (w : World) : Mod F w w := ⟨rfl, rfl, rfl, Nat.le_refl _, fun _ _ _ => rfl⟩
theorem Mod.trans {F : Nat → Prop} {w w1 w2 : World} (h : Mod F w w1) (k : Mod F w1 w2) : Mod F w w2 :=
  ⟨k.os.trans h.os, k.tape.trans h.tape, k.output.trans h.output, Nat.le_trans h.size k.size, fun i hi hn => (k.block i (Nat.lt_of_lt_of_le hi h.size) hn).trans (h.block i hi hn)⟩
theorem Mod.mono {F G : Nat → Prop} {w w' : World} (h : Mod F w w') (hs : ∀ b, F b → G b) : Mod G w w' :=
  ⟨h.os, h.tape, h.output, h.size, fun i hi hn => h.block i hi (fun hf => hn (hs i hf))⟩
theorem Mod.of_below {F : Nat → Prop} {w w' : World} (h : Below w.heap.size w w') : Mod F w w' :=
  ⟨h.os, h.tape, h.output, h.size, fun i hi _ => h.block i hi⟩
theorem Mod.alloc {F : Nat → Prop} {w w' : World} (h : Mod F w w') (o : Obj) : Mod F w (w'.alloc o) :=
  h.trans (Mod.of_below ((Below.refl _ _).alloc (Nat.le_refl _) o))
theorem Mod.below {F : Nat → Prop} {w0 w w' : World} {B : Nat} (hb : Below B w0 w) (h : Mod F w w') (hs : B ≤ w.heap.size) (hF : ∀ b, F b → B ≤ b) : Below B w0 w' :=
  ⟨h.os.trans hb.os, h.tape.trans hb.tape, h.output.trans hb.output, Nat.le_trans hb.size h.size, fun k hk => (h.block k (Nat.lt_of_lt_of_le hk hs) (fun hf => by have := hF k hf; omega)).trans (hb.block k hk)⟩
theorem Mod.cell {F : Nat → Prop} {w w' : World} (h : Mod F w w') {a : Addr} {v : Value} (hc : w.cell? a = some v) (hn : ¬ F a.block) : w'.cell? a = some v :=
  (World.cell?_of_block (w := w) (h.block a.block (World.block_lt_of_cell? w a hc) hn)).trans hc
theorem Mod.owns {F : Nat → Prop} {w w' : World} {base e size : Nat} {v : Value} {n : Nat} {xs : List Value} (h : Mod F w w') (ho : w.ownsRow base e size v n xs) (hn : ∀ b, v.ownBlock = some b → ¬ F b) : w'.ownsRow base e size v n xs := by
  refine ⟨ho.1, ?_⟩
  rcases ho.2 with h2 | ⟨g, cap, cur, rfl, hg, hh, r⟩
  · exact .inl h2
  · refine .inr ⟨g, cap, cur, rfl, hg, ?_, r⟩
    have hlt : g < w.heap.size := by
      rcases Nat.lt_or_ge g w.heap.size with h | h
      · exact h
      · rw [Array.getElem?_eq_none h] at hh; cases hh
    exact (h.block g hlt (hn g rfl)).trans hh
structure Rep (α : Type) where
  V : World → Value → α → Prop
  O : World → Nat → (Nat → Prop) → Value → α → Prop
  below : ∀ {w w' v x}, V w v x → Below w.heap.size w w' → V w' v x
  ofO : ∀ {w base F v x}, O w base F v x → V w v x
  mod : ∀ {w w' base F G v x}, O w base F v x → Mod G w w' → (∀ b, F b → ¬ G b) → O w' base F v x
  rng : ∀ {w base F v x}, O w base F v x → ∀ b, F b → base ≤ b ∧ b < w.heap.size
  base : ∀ {w base base' F v x}, O w base F v x → base' ≤ base → O w base' F v x
theorem Rep.keep {α : Type} (R : Rep α) {w w' : World} {base : Nat} {F : Nat → Prop} {v : Value} {x : α} (h : R.O w base F v x) (hb : Below w.heap.size w w') : R.O w' base F v x :=
  R.mod (G := fun _ => False) h (Mod.of_below hb) (fun _ _ h => h)
structure PO {α : Type} (R : Rep α) (e size : Nat) (lv : Value → List Value) (w : World) (base : Nat) (v : Value) (n k : Nat) (d : Nat → α) (cs : List Value) (us : Nat → Value) (fs : Nat → Nat → Prop) : Prop where
  row : w.ownsRow base e size v n cs
  el : ∀ i, i < k → R.O w base (fs i) (us i) (d i)
  ln : ∀ i, i < k → (lv (us i)).length = size
  cell : ∀ i, i < k → ∀ j, j < size → cs[i * size + j]? = (lv (us i))[j]?
  out : ∀ i, i < k → ∀ b, fs i b → v.ownBlock ≠ some b
  sep : ∀ i j, i < k → j < k → i ≠ j → ∀ b, fs i b → ¬ fs j b
theorem PO.mod {α : Type} {R : Rep α} {e size : Nat} {lv : Value → List Value} {w w' : World} {base : Nat} {v : Value} {n k : Nat} {d : Nat → α} {cs : List Value} {us : Nat → Value} {fs : Nat → Nat → Prop} {G : Nat → Prop}
    (h : PO R e size lv w base v n k d cs us fs) (hm : Mod G w w') (h1 : ∀ b, v.ownBlock = some b → ¬ G b) (h2 : ∀ i, i < k → ∀ b, fs i b → ¬ G b) : PO R e size lv w' base v n k d cs us fs :=
  ⟨hm.owns h.row h1, fun i hi => R.mod (h.el i hi) hm (h2 i hi), h.ln, h.cell, h.out, h.sep⟩
theorem PO.keep {α : Type} {R : Rep α} {e size : Nat} {lv : Value → List Value} {w w' : World} {base : Nat} {v : Value} {n k : Nat} {d : Nat → α} {cs : List Value} {us : Nat → Value} {fs : Nat → Nat → Prop}
    (h : PO R e size lv w base v n k d cs us fs) (hb : Below w.heap.size w w') : PO R e size lv w' base v n k d cs us fs :=
  h.mod (G := fun _ => False) (Mod.of_below hb) (fun _ _ h => h) (fun _ _ _ _ h => h)
theorem PO.cast {α : Type} {R : Rep α} {e size : Nat} {lv : Value → List Value} {w : World} {base : Nat} {v : Value} {n k : Nat} {d d' : Nat → α} {cs : List Value} {us : Nat → Value} {fs : Nat → Nat → Prop}
    (h : PO R e size lv w base v n k d cs us fs) (hd : ∀ i, i < k → d' i = d i) : PO R e size lv w base v n k d' cs us fs :=
  ⟨h.row, fun i hi => by rw [hd i hi]; exact h.el i hi, h.ln, h.cell, h.out, h.sep⟩
theorem Rep.alloc {α : Type} (R : Rep α) {w : World} {base : Nat} {F : Nat → Prop} {v : Value} {x : α} (h : R.O w base F v x) (o : Obj) : R.O (w.alloc o) base F v x :=
  R.keep h (balloc (Below.refl _ _) o)
theorem PO.at {α : Type} {R : Rep α} {e size : Nat} {lv : Value → List Value} {w : World} {base : Nat} {a : Option Addr} {c n k : Nat} {d : Nat → α} {cs : List Value} {us : Nat → Value} {fs : Nat → Nat → Prop}
    (h : PO R e size lv w base (.slice a n c) n k d cs us fs) {j : Nat} (hj : j < k) (hn : j < n) : ∃ g, a = some ⟨g, 0, none⟩ ∧ ∀ o, o < size → w.cell? ⟨g, j * size + o, none⟩ = (lv (us j))[o]? := by
  rcases h.row.2 with ⟨_, h0⟩ | ⟨g, cap, cur, hv, _⟩
  · omega
  · have hv' := hv
    injection hv' with e1 e2 e3
    refine ⟨g, e1, fun o ho => ?_⟩
    have h1 := h.row
    rw [hv] at h1
    have h2 := h1.cellAt (j * size + o) (by
      have : j * size + size ≤ n * size := by rw [← Nat.succ_mul]; exact Nat.mul_le_mul_right _ hn
      omega)
    rw [h2, h.cell j hj o ho]
end Go.Proofs.Ytjemciikdijokaa

/-
  Session. (Written by program: nest.py.)
-/
namespace Go.Proofs.Ytjemciikdijokaa
open Go.RowKit
set_option linter.unusedSectionVars false
variable [DecidableEq Leg] [Inhabited Leg]
attribute [local go_sem ↓] Go.wp_at_zero Go.wp_at_succ

structure Ses where
  client : Int
  next : Int
  sent : List Int
variable [DecidableEq Ses] [Inhabited Ses]

end Go.Proofs.Ytjemciikdijokaa


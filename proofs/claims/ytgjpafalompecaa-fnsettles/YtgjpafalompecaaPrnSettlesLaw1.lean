import Derived.Test.YtgjpafalompecaaRows
import Derived.WalkKit
import Derived.WalkSpells
import Derived.WalkLawsBesides
import Derived.ProofKit
import Derived.OpenShut
import Derived.Lib.SmallJoins
import Derived.Maps.OwnSet
import Derived.DeepKeys4
import Derived.Deep.RegionHeld3
import Derived.Deep.DrawnRows
import Derived.BigQuiet

/-
  Tools of my own for every law of this seat: behind a call that turned no old memory and answered true, the row's end is so.
-/
namespace Go.Proofs.Ytgjpafalompecaa
open Go.ChangeShapes Go.WideShapes Go.ChangeAt Go.RowKit Go.Joins

theorem trodAll_below {H : Type} {enc : TypeId × Value → H} {P : Program} (hl : laidOutB P = true) {W W' : World} (hb : Below W.heap.size W W') :
    ∀ {ts : List TypeId} {vs : List Value} {ds : List (DataW H)} {ps : List MemPlace}, (∀ t ∈ ts, P.readableRec t = true ∧ t < P.types.size) →
      DataW.TrodAll enc P W 0 (fun _ => true) true ts vs ds ps → DataW.TrodAll enc P W' 0 (fun b => decide (b < W.heap.size)) true ts vs ds ps
  | [], [], [], _, _, h => h
  | t :: ts, v :: vs, d :: ds, ps, hr, h => by
    have hlt := DataW.TrodAll.lt h
    obtain ⟨p, q, h1, h2, rfl⟩ := h
    refine ⟨p, q, Below.trod hl (hr t (by simp)).1 (hr t (by simp)).2 h1 hb (fun x hx => hlt x (by simp [hx])), trodAll_below hl hb (fun u hu => hr u (by simp [hu])) h2, rfl⟩
  | [], [], _ :: _, _, _, h => h.elim
  | [], _ :: _, _, _, _, h => h.elim
  | _ :: _, [], _, _, _, h => h.elim
  | _ :: _, _ :: _, [], _, _, h => h.elim
theorem law_post {H : Type} {enc : TypeId × Value → H} {P : Program} {f : Func} {s : ChangeSpec} {W W' : World} {args : Array Value} {ds gs : List (DataW H)} {before : List MemPlace} {tb : TypeId}
    (hW : DataW.Whole enc P f.params.toList s.vars false W args.toList ds gs before)
    (hl : laidOutB P = true) (hr : (f.params.toList.all fun t => P.readableRec t && decide (t < P.types.size)) = true)
    (hvars : s.vars = []) (hrt : f.resultTypes = #[tb]) (hb : P.underlying tb = some .bool) (hfn : gs = [] → s.fn H ds = { results := [.lit (.bool true)], args := ds })
    (hB : Below W.heap.size W W') : s.post enc P f false true false false W args (.bool true) W' := by
  have hW0 := hW
  obtain ⟨p, q, hA, hV, rfl, hfz, hnd⟩ := hW
  rw [hvars] at hV
  obtain ⟨rfl, rfl⟩ := trodVars_none hV
  have hr' : ∀ t ∈ f.params.toList, P.readableRec t = true ∧ t < P.types.size := by
    intro t ht
    have := List.all_eq_true.1 hr t ht
    simpa using this
  refine ⟨ds, [], _, [], p, [], hW0, ?_, ?_, ?_, hB.frame _, fun h => by cases h⟩
  · rw [List.append_nil, hfn rfl, hrt]
    exact trodAll_mk1 (shut_bool hb true)
  · rw [List.append_nil, hfn rfl]
    exact trodAll_below hl hB hr' hA
  · rw [List.append_nil, hfn rfl, hvars]
    exact rfl
theorem bcell {W w1 : World} (hb : Below W.heap.size W w1) : (∀ b o, b < W.heap.size → w1.cell? ⟨b, o, none⟩ = W.cell? ⟨b, o, none⟩) ∧ (∀ b o, b < W.heap.size → w1.frozen? ⟨b, o, none⟩ = W.frozen? ⟨b, o, none⟩) :=
  ⟨fun b o h => hb.cell (p := ⟨b, o, none⟩) h, fun b o h => hb.frozen (p := ⟨b, o, none⟩) h⟩
theorem bstep {w Y X : World} (h : Below w.heap.size w Y) (k : Below Y.heap.size Y X) : Below w.heap.size w X := h.trans (k.mono h.size)
theorem balloc {w Y : World} (h : Below w.heap.size w Y) (o : Obj) : Below w.heap.size w (Y.alloc o) := h.alloc h.size o
theorem grown_of_below {w w' : World} (h : Below w.heap.size w w') : w.grownBy w' none := ⟨h.os, h.tape, h.output, h.size, fun k hk _ => h.block k hk⟩
theorem owns_below {w w' : World} {base e size : Nat} {v : Value} {n : Nat} {xs : List Value} (h : w.ownsRow base e size v n xs) (hb : Below w.heap.size w w') : w'.ownsRow base e size v n xs :=
  h.kept (grown_of_below hb) (by cases hv : v.ownBlock <;> simp)
theorem owns_some {w : World} {base e size g n cap : Nat} {xs : List Value} (h : w.ownsRow base e size (.slice (some ⟨g, 0, none⟩) n cap) n xs) (j : Nat) (hj : j < n * size) : ∃ u, w.cell? ⟨g, j, none⟩ = some u := by
  have h1 := h.cellAt j hj
  have h2 := h.1
  exact ⟨xs[j]'(by omega), by rw [h1, List.getElem?_eq_getElem]⟩
theorem owns_form {w : World} {base e size : Nat} {v : Value} {n : Nat} {xs : List Value} (h : w.ownsRow base e size v n xs) : ∃ a c, v = .slice a n c := by
  rcases h.2 with ⟨rfl, rfl⟩ | ⟨g, cap, cur, rfl, _⟩
  · exact ⟨_, _, rfl⟩
  · exact ⟨_, _, rfl⟩
theorem bset {w Y : World} (h : Below w.heap.size w Y) {p : Addr} (hp : w.heap.size ≤ p.block) (u : Value) : Below w.heap.size w (Y.setCell p u) := h.setCell hp u
theorem owns_base {w : World} {base base' e size : Nat} {v : Value} {n : Nat} {xs : List Value} (h : w.ownsRow base e size v n xs) (hb : base' ≤ base) : w.ownsRow base' e size v n xs := by
  refine ⟨h.1, ?_⟩
  rcases h.2 with h2 | ⟨g, cap, cur, hv, hg, r⟩
  · exact .inl h2
  · exact .inr ⟨g, cap, cur, hv, Nat.le_trans hb hg, r⟩
theorem owns_setCell {w : World} {base e size : Nat} {v : Value} {n : Nat} {xs : List Value} (h : w.ownsRow base e size v n xs) {a : Addr} (ha : a.block < base) (u : Value) : (w.setCell a u).ownsRow base e size v n xs :=
  ownsRow_setCell_below h ha u
theorem set_same {w : World} {a : Addr} {v u : Value} (h : w.cell? a = some u) : (w.setCell a v).cell? a = some v := by
  first | exact World.cell?_setCell_same h | exact World.cell?_setCell_same _ h | exact World.cell?_setCell_same _ _ _ h
theorem set_other {w : World} {a b : Addr} {v : Value} (h : a ≠ b) : (w.setCell a v).cell? b = w.cell? b := by
  first | exact World.cell?_setCell_other h | exact World.cell?_setCell_other _ h | exact World.cell?_setCell_other _ _ _ _ h
theorem cell_keep {w w' : World} {a : Addr} {v : Value} (hb : Below w.heap.size w w') (h : w.cell? a = some v) : w'.cell? a = some v :=
  (hb.cell (World.block_lt_of_cell? w a h)).trans h
theorem own : ownKnob Try.prog.godebug = none := by kernel_rfl
theorem laidOut : laidOutB Try.prog = true := by kernel_rfl
end Go.Proofs.Ytgjpafalompecaa

/-
  Values that own their memory, however deep: footprints (which blocks), what changes only these, rows of such values.
-/
namespace Go.Proofs.Ytgjpafalompecaa
open Go.RowKit

structure Mod (F : Nat → Prop) (w w' : World) : Prop where
  os : w'.os = w.os
  tape : w'.tape = w.tape
  output : w'.output = w.output
  size : w.heap.size ≤ w'.heap.size
  block : ∀ k, k < w.heap.size → ¬ F k → w'.heap[k]? = w.heap[k]?
theorem Mod.refl (F : Nat → Prop) (w : World) : Mod F w w := ⟨rfl, rfl, rfl, Nat.le_refl _, fun _ _ _ => rfl⟩
theorem Mod.trans {F : Nat → Prop} {w w1 w2 : World} (h : Mod F w w1) (k : Mod F w1 w2) : Mod F w w2 :=
  ⟨k.os.trans h.os, k.tape.trans h.tape, k.output.trans h.output, Nat.le_trans h.size k.size, fun i hi hn => (k.block i (Nat.lt_of_lt_of_le hi h.size) hn).trans (h.block i hi hn)⟩
theorem Mod.mono {F G : Nat → Prop} {w w' : World} (h : Mod F w w') (hs : ∀ b, F b → G b) : Mod G w w' :=
  ⟨h.os, h.tape, h.output, h.size, fun i hi hn => h.block i hi (fun hf => hn (hs i hf))⟩
theorem Mod.of_grown {w w' : World} {row : Option Nat} (h : w.grownBy w' row) : Mod (fun b => row = some b) w w' :=
  ⟨h.os, h.tape, h.output, h.size, fun i hi hn => h.block i hi (fun e => hn e.symm)⟩
theorem Mod.of_below {F : Nat → Prop} {w w' : World} (h : Below w.heap.size w w') : Mod F w w' :=
  ⟨h.os, h.tape, h.output, h.size, fun i hi _ => h.block i hi⟩
theorem Mod.alloc {F : Nat → Prop} {w w' : World} (h : Mod F w w') (o : Obj) : Mod F w (w'.alloc o) :=
  h.trans (Mod.of_below ((Below.refl _ _).alloc (Nat.le_refl _) o))
theorem Mod.below {F : Nat → Prop} {w0 w w' : World} {B : Nat} (hb : Below B w0 w) (h : Mod F w w') (hs : B ≤ w.heap.size) (hF : ∀ b, F b → B ≤ b) : Below B w0 w' :=
  ⟨h.os.trans hb.os, h.tape.trans hb.tape, h.output.trans hb.output, Nat.le_trans hb.size h.size, fun k hk => (h.block k (Nat.lt_of_lt_of_le hk hs) (fun hf => by have := hF k hf; omega)).trans (hb.block k hk)⟩
theorem Mod.cell {F : Nat → Prop} {w w' : World} (h : Mod F w w') {a : Addr} {v : Value} (hc : w.cell? a = some v) (hn : ¬ F a.block) : w'.cell? a = some v :=
  (World.cell?_of_block (w := w) (h.block a.block (World.block_lt_of_cell? w a hc) hn)).trans hc
theorem Mod.owns {F : Nat → Prop} {w w' : World} {base e size : Nat} {v : Value} {n : Nat} {xs : List Value} (h : Mod F w w') (ho : w.ownsRow base e size v n xs) (hn : ∀ b, v.ownBlock = some b → ¬ F b) : w'.ownsRow base e size v n xs := by
  refine ⟨ho.1, ?_⟩
  rcases ho.2 with h2 | ⟨g, cap, cur, rfl, hg, hh, r⟩
  · exact .inl h2
  · refine .inr ⟨g, cap, cur, rfl, hg, ?_, r⟩
    have hlt : g < w.heap.size := by
      rcases Nat.lt_or_ge g w.heap.size with h | h
      · exact h
      · rw [Array.getElem?_eq_none h] at hh; cases hh
    exact (h.block g hlt (hn g rfl)).trans hh
structure Rep (α : Type) where
  V : World → Value → α → Prop
  O : World → Nat → (Nat → Prop) → Value → α → Prop
  below : ∀ {w w' v x}, V w v x → Below w.heap.size w w' → V w' v x
  ofO : ∀ {w base F v x}, O w base F v x → V w v x
  mod : ∀ {w w' base F G v x}, O w base F v x → Mod G w w' → (∀ b, F b → ¬ G b) → O w' base F v x
  rng : ∀ {w base F v x}, O w base F v x → ∀ b, F b → base ≤ b ∧ b < w.heap.size
  base : ∀ {w base base' F v x}, O w base F v x → base' ≤ base → O w base' F v x
theorem Rep.keep {α : Type} (R : Rep α) {w w' : World} {base : Nat} {F : Nat → Prop} {v : Value} {x : α} (h : R.O w base F v x) (hb : Below w.heap.size w w') : R.O w' base F v x :=
  R.mod (G := fun _ => False) h (Mod.of_below hb) (fun _ _ h => h)
theorem Rep.keep2 {α : Type} (R : Rep α) {w Y w' : World} {base : Nat} {F : Nat → Prop} {v : Value} {x : α} (h : R.O w base F v x) (h1 : Below w.heap.size w Y) (h2 : Below Y.heap.size Y w') : R.O w' base F v x := R.keep (R.keep h h1) h2
def none_ : Nat → Prop := fun _ => False
def fRep {α : Type} (e size : Nat) (C : List α → List Value) (V : World → Value → List α → Prop)
    (hb : ∀ {w w' v xs}, V w v xs → Below w.heap.size w w' → V w' v xs) (ho : ∀ {w base v xs}, w.ownsRow base e size v xs.length (C xs) → V w v xs) : Rep (List α) where
  V := V
  O := fun w base F v xs => w.ownsRow base e size v xs.length (C xs) ∧ F = (fun b => v.ownBlock = some b)
  below := hb
  ofO := fun h => ho h.1
  mod := fun h hm hd => ⟨hm.owns h.1 (fun b hb => hd b (by rw [h.2]; exact hb)), h.2⟩
  rng := fun h b hb => by rw [h.2] at hb; exact h.1.lt b hb
  base := fun h hb => ⟨owns_base h.1 hb, h.2⟩
structure PO {α : Type} (R : Rep α) (e size : Nat) (lv : Value → List Value) (w : World) (base : Nat) (v : Value) (n k : Nat) (d : Nat → α) (cs : List Value) (us : Nat → Value) (fs : Nat → Nat → Prop) : Prop where
  row : w.ownsRow base e size v n cs
  el : ∀ i, i < k → R.O w base (fs i) (us i) (d i)
  ln : ∀ i, i < k → (lv (us i)).length = size
  cell : ∀ i, i < k → ∀ j, j < size → cs[i * size + j]? = (lv (us i))[j]?
  out : ∀ i, i < k → ∀ b, fs i b → v.ownBlock ≠ some b
  sep : ∀ i j, i < k → j < k → i ≠ j → ∀ b, fs i b → ¬ fs j b
theorem PO.mod {α : Type} {R : Rep α} {e size : Nat} {lv : Value → List Value} {w w' : World} {base : Nat} {v : Value} {n k : Nat} {d : Nat → α} {cs : List Value} {us : Nat → Value} {fs : Nat → Nat → Prop} {G : Nat → Prop}
    (h : PO R e size lv w base v n k d cs us fs) (hm : Mod G w w') (h1 : ∀ b, v.ownBlock = some b → ¬ G b) (h2 : ∀ i, i < k → ∀ b, fs i b → ¬ G b) : PO R e size lv w' base v n k d cs us fs :=
  ⟨hm.owns h.row h1, fun i hi => R.mod (h.el i hi) hm (h2 i hi), h.ln, h.cell, h.out, h.sep⟩
theorem PO.keep {α : Type} {R : Rep α} {e size : Nat} {lv : Value → List Value} {w w' : World} {base : Nat} {v : Value} {n k : Nat} {d : Nat → α} {cs : List Value} {us : Nat → Value} {fs : Nat → Nat → Prop}
    (h : PO R e size lv w base v n k d cs us fs) (hb : Below w.heap.size w w') : PO R e size lv w' base v n k d cs us fs :=
  h.mod (G := fun _ => False) (Mod.of_below hb) (fun _ _ h => h) (fun _ _ _ _ h => h)
theorem PO.cast {α : Type} {R : Rep α} {e size : Nat} {lv : Value → List Value} {w : World} {base : Nat} {v : Value} {n k : Nat} {d d' : Nat → α} {cs : List Value} {us : Nat → Value} {fs : Nat → Nat → Prop}
    (h : PO R e size lv w base v n k d cs us fs) (hd : ∀ i, i < k → d' i = d i) : PO R e size lv w base v n k d' cs us fs :=
  ⟨h.row, fun i hi => by rw [hd i hi]; exact h.el i hi, h.ln, h.cell, h.out, h.sep⟩
def upd {β : Type} (f : Nat → β) (k : Nat) (x : β) : Nat → β := fun i => if i = k then x else f i
theorem upd_at {β : Type} (f : Nat → β) (k : Nat) (x : β) : upd f k x k = x := by simp [upd]
theorem upd_ne {β : Type} (f : Nat → β) {k i : Nat} (x : β) (h : i ≠ k) : upd f k x i = f i := by simp [upd, h]
theorem PO.push {α : Type} {R : Rep α} {e size : Nat} {lv : Value → List Value} {w w1 w2 : World} {base : Nat} {v : Value} {n k : Nat} {d : Nat → α} {cs cs' : List Value} {us : Nat → Value} {fs : Nat → Nat → Prop} {u : Value} {F : Nat → Prop}
    (h : PO R e size lv w base v n k d cs us fs) (hbs : base ≤ w.heap.size) (hb : Below w.heap.size w w1) (hu : R.O w1 w.heap.size F u (d k)) (hl : (lv u).length = size)
    (hr : w2.ownsRow base e size v n cs') (hm : Mod (fun b => v.ownBlock = some b) w1 w2)
    (hold : ∀ i, i < k → ∀ j, j < size → cs'[i * size + j]? = cs[i * size + j]?) (hnew : ∀ j, j < size → cs'[k * size + j]? = (lv u)[j]?) :
    PO R e size lv w2 base v n (k + 1) d cs' (upd us k u) (upd fs k F) := by
  have hlt : ∀ b, v.ownBlock = some b → b < w.heap.size := fun b hb => (h.row.lt b hb).2
  have hF : ∀ b, F b → w.heap.size ≤ b := fun b hb => (R.rng hu b hb).1
  have hfs : ∀ i, i < k → ∀ b, fs i b → b < w.heap.size := fun i hi b hb => (R.rng (h.el i hi) b hb).2
  refine ⟨hr, ?_, ?_, ?_, ?_, ?_⟩
  · intro i hi
    by_cases hik : i = k
    · subst hik
      rw [upd_at, upd_at]
      exact R.base (R.mod hu hm (fun b hb he => by have := hlt b he; have := hF b hb; omega)) hbs
    · rw [upd_ne _ _ hik, upd_ne _ _ hik]
      exact R.mod (R.keep (h.el i (by omega)) hb) hm (fun b hb => h.out i (by omega) b hb)
  · intro i hi
    by_cases hik : i = k
    · subst hik; rw [upd_at]; exact hl
    · rw [upd_ne _ _ hik]; exact h.ln i (by omega)
  · intro i hi j hj
    by_cases hik : i = k
    · subst hik; rw [upd_at]; exact hnew j hj
    · rw [upd_ne _ _ hik, hold i (by omega) j hj]; exact h.cell i (by omega) j hj
  · intro i hi b hb he
    by_cases hik : i = k
    · subst hik
      rw [upd_at] at hb
      have := hlt b he; have := hF b hb; omega
    · rw [upd_ne _ _ hik] at hb
      exact h.out i (by omega) b hb he
  · intro i j hi hj hij b h1 h2
    by_cases hik : i = k
    · subst hik
      rw [upd_at] at h1
      rw [upd_ne _ _ (Ne.symm hij)] at h2
      have := hF b h1; have := hfs j (by omega) b h2; omega
    · rw [upd_ne _ _ hik] at h1
      by_cases hjk : j = k
      · subst hjk
        rw [upd_at] at h2
        have := hF b h2; have := hfs i (by omega) b h1; omega
      · rw [upd_ne _ _ hjk] at h2
        exact h.sep i j (by omega) (by omega) hij b h1 h2
theorem PO.turn {α : Type} {R : Rep α} {e size : Nat} {lv : Value → List Value} {w w' : World} {base : Nat} {v : Value} {n k j : Nat} {d : Nat → α} {cs cs' : List Value} {us : Nat → Value} {fs : Nat → Nat → Prop} {u : Value} {x : α}
    (h : PO R e size lv w base v n k d cs us fs) (hj : j < k) (hm : Mod (fun b => v.ownBlock = some b ∨ fs j b) w w') (hu : R.O w' base (fs j) u x) (hl : (lv u).length = size)
    (hr : w'.ownsRow base e size v n cs') (hold : ∀ i, i < k → i ≠ j → ∀ o, o < size → cs'[i * size + o]? = cs[i * size + o]?) (hnew : ∀ o, o < size → cs'[j * size + o]? = (lv u)[o]?) :
    PO R e size lv w' base v n k (upd d j x) cs' (upd us j u) fs := by
  refine ⟨hr, ?_, ?_, ?_, h.out, h.sep⟩
  · intro i hi
    by_cases hik : i = j
    · subst hik; rw [upd_at, upd_at]; exact hu
    · rw [upd_ne _ _ hik, upd_ne _ _ hik]
      exact R.mod (h.el i hi) hm (fun b hb => by
        rintro (he | he)
        · exact h.out i hi b hb he
        · exact h.sep i j hi hj hik b hb he)
  · intro i hi
    by_cases hik : i = j
    · subst hik; rw [upd_at]; exact hl
    · rw [upd_ne _ _ hik]; exact h.ln i hi
  · intro i hi o ho
    by_cases hik : i = j
    · subst hik; rw [upd_at]; exact hnew o ho
    · rw [upd_ne _ _ hik, hold i hi hik o ho]; exact h.cell i hi o ho
def NV {α : Type} [Inhabited α] (R : Rep α) (size : Nat) (lv : Value → List Value) (w : World) (v : Value) (xs : List α) : Prop :=
  ∃ a cap, v = .slice a xs.length cap ∧ xs.length ≤ cap ∧ cap ≤ maxLen ∧ ∀ i, i < xs.length → ∃ b o u, a = some ⟨b, o, none⟩ ∧ (lv u).length = size ∧ (∀ j, j < size → w.cell? ⟨b, o + i * size + j, none⟩ = (lv u)[j]?) ∧ R.V w u (xs.getD i default)
def NO {α : Type} [Inhabited α] (R : Rep α) (e size : Nat) (lv : Value → List Value) (w : World) (base : Nat) (F : Nat → Prop) (v : Value) (xs : List α) : Prop :=
  ∃ cs us fs, PO R e size lv w base v xs.length xs.length (fun i => xs.getD i default) cs us fs ∧ ∀ b, F b ↔ (v.ownBlock = some b ∨ ∃ i, i < xs.length ∧ fs i b)
theorem NV_below {α : Type} [Inhabited α] {R : Rep α} {size : Nat} {lv : Value → List Value} {w w' : World} {v : Value} {xs : List α} (h : NV R size lv w v xs) (hb : Below w.heap.size w w') : NV R size lv w' v xs := by
  obtain ⟨a, cap, rfl, h1, h2, h3⟩ := h
  refine ⟨a, cap, rfl, h1, h2, fun i hi => ?_⟩
  obtain ⟨b, o, u, ha, hl, hc, hv⟩ := h3 i hi
  refine ⟨b, o, u, ha, hl, fun j hj => ?_, R.below hv hb⟩
  have hs : (lv u)[j]? = some ((lv u)[j]'(by omega)) := List.getElem?_eq_getElem _
  rw [hs]
  exact cell_keep hb ((hc j hj).trans hs)
theorem NV_of {α : Type} [Inhabited α] {R : Rep α} {e size : Nat} {lv : Value → List Value} {w : World} {base : Nat} {F : Nat → Prop} {v : Value} {xs : List α} (h : NO R e size lv w base F v xs) : NV R size lv w v xs := by
  obtain ⟨cs, us, fs, hp, _⟩ := h
  have hr := hp.row
  rcases hr.2 with ⟨rfl, hn⟩ | ⟨g, cap, cur, rfl, hb, hg, hnc, hcm, hcs, htake⟩
  · exact ⟨none, 0, by rw [hn], by omega, by unfold maxLen; omega, fun i hi => by omega⟩
  · refine ⟨some ⟨g, 0, none⟩, cap, rfl, hnc, hcm, fun i hi => ⟨g, 0, us i, rfl, hp.ln i hi, fun j hj => ?_, R.ofO (hp.el i hi)⟩⟩
    rw [Nat.zero_add, ← hp.cell i hi j hj]
    exact hr.cellAt _ (by
      have : i * size + size ≤ xs.length * size := by rw [← Nat.succ_mul]; exact Nat.mul_le_mul_right _ hi
      omega)
def nRep {α : Type} [Inhabited α] (R : Rep α) (e size : Nat) (lv : Value → List Value) : Rep (List α) where
  V := NV R size lv
  O := NO R e size lv
  below := NV_below
  ofO := NV_of
  mod := fun h hm hd => by
    obtain ⟨cs, us, fs, hp, hF⟩ := h
    exact ⟨cs, us, fs, hp.mod hm (fun b hb => hd b ((hF b).2 (.inl hb))) (fun i hi b hb => hd b ((hF b).2 (.inr ⟨i, hi, hb⟩))), hF⟩
  rng := fun h b hb => by
    obtain ⟨cs, us, fs, hp, hF⟩ := h
    rcases (hF b).1 hb with hb | ⟨i, hi, hb⟩
    · exact hp.row.lt b hb
    · exact R.rng (hp.el i hi) b hb
  base := fun h hb => by
    obtain ⟨cs, us, fs, hp, hF⟩ := h
    exact ⟨cs, us, fs, ⟨owns_base hp.row hb, fun i hi => R.base (hp.el i hi) hb, hp.ln, hp.cell, hp.out, hp.sep⟩, hF⟩
def one (v : Value) : List Value := [v]
theorem Mod.of_set (w : World) (p : Addr) (u : Value) : Mod (fun b => b = p.block) w (w.setCell p u) :=
  ⟨rfl, rfl, rfl, by simp, fun k _ hn => Below.heap_setCell w p u k hn⟩
theorem Rep.set {α : Type} (R : Rep α) {w : World} {base : Nat} {F : Nat → Prop} {v : Value} {x : α} (h : R.O w base F v x) {p : Addr} (u : Value) (hp : p.block < base) : R.O (w.setCell p u) base F v x :=
  R.mod h (Mod.of_set w p u) (fun b hb e => by have := (R.rng h b hb).1; omega)
theorem Rep.alloc {α : Type} (R : Rep α) {w : World} {base : Nat} {F : Nat → Prop} {v : Value} {x : α} (h : R.O w base F v x) (o : Obj) : R.O (w.alloc o) base F v x :=
  R.keep h (balloc (Below.refl _ _) o)
theorem rows_eq_of {α : Type} [Inhabited α] {xs ys : List α} (hl : ys.length = xs.length) (h : ∀ j, j < xs.length → xs.getD j default = ys.getD j default) : xs = ys := by
  apply List.ext_getElem (by omega)
  intro i h1 h2
  have := h i h1
  simpa [List.getD, h1, h2] using this
def setRow : List Value → Nat → List Value → List Value
  | cs, _, [] => cs
  | cs, o, a :: l => setRow (cs.set o a) (o + 1) l
theorem PO.at {α : Type} {R : Rep α} {e size : Nat} {lv : Value → List Value} {w : World} {base : Nat} {a : Option Addr} {c n k : Nat} {d : Nat → α} {cs : List Value} {us : Nat → Value} {fs : Nat → Nat → Prop}
    (h : PO R e size lv w base (.slice a n c) n k d cs us fs) {j : Nat} (hj : j < k) (hn : j < n) : ∃ g, a = some ⟨g, 0, none⟩ ∧ ∀ o, o < size → w.cell? ⟨g, j * size + o, none⟩ = (lv (us j))[o]? := by
  rcases h.row.2 with ⟨_, h0⟩ | ⟨g, cap, cur, hv, _⟩
  · omega
  · have hv' := hv
    injection hv' with e1 e2 e3
    refine ⟨g, e1, fun o ho => ?_⟩
    have h1 := h.row
    rw [hv] at h1
    have h2 := h1.cellAt (j * size + o) (by
      have : j * size + size ≤ n * size := by rw [← Nat.succ_mul]; exact Nat.mul_le_mul_right _ hn
      omega)
    rw [h2, h.cell j hj o ho]
theorem PO.len {α : Type} {R : Rep α} {e size : Nat} {lv : Value → List Value} {w : World} {base : Nat} {v : Value} {n k : Nat} {d : Nat → α} {cs : List Value} {us : Nat → Value} {fs : Nat → Nat → Prop}
    (h : PO R e size lv w base v n k d cs us fs) : n ≤ 2 ^ 63 - 1 := by
  rcases h.row.2 with ⟨_, h⟩ | ⟨_, cap, _, _, _, _, h1, h2, _⟩
  · omega
  · unfold maxLen at h2; omega
theorem cells1 {w : World} {b o i : Nat} {u : Value} (h : ∀ j, j < 1 → w.cell? ⟨b, o + i * 1 + j, none⟩ = (one u)[j]?) : w.cell? ⟨b, o + i, none⟩ = some u := by
  simpa [one] using h 0 (by omega)
end Go.Proofs.Ytgjpafalompecaa

/-
  A map whose keys are three numbers: what it holds, key by key; looked up, written, struck.
-/
namespace Go.Proofs.Ytgjpafalompecaa
open Go.RowKit Go.Maps

def kv (s a t : Int) : Value := .agg #[.int .i64 s, .int .i64 a, .int .i64 t]
def kwf (s a t : Int) : Prop := (Lit.int .i64 s).wf = true ∧ (Lit.int .i64 a).wf = true ∧ (Lit.int .i64 t).wf = true
theorem wf_of {n : Int} (h0 : -9223372036854775808 ≤ n) (h1 : n ≤ 9223372036854775807) : (Lit.int .i64 n).wf = true := by
  simp [Lit.wf, IntKind.min, IntKind.max, IntKind.signed, IntKind.bits]
  omega
set_option maxRecDepth 20000 in
theorem holdWide : (match Try.prog.underlying 64 with | some (.array _ _) | some (.struct _) => true | _ => false) = true := by rw [Try.underlying64]
set_option maxRecDepth 20000 in
theorem holdLaw : Keyed Try.prog 64 := Keyed.of_law (deep_law_laid laidOut (m := 2) (by omega) (of_decide_eq_true (by kernel_rfl)) (by kernel_rfl) holdWide)
theorem holdCells : Try.prog.cellsOf 64 = 3 := by kernel_rfl
theorem holdType : Try.prog.keyType 64 = true := by kernel_rfl
theorem holdDepth : ∃ d, Try.prog.types.size + 1 = d + 1 + 1 := ⟨Try.prog.types.size - 1, by have h : 0 < Try.prog.types.size := of_decide_eq_true (by kernel_rfl); omega⟩
theorem intLits (d : Nat) (n : Int) (h : (Lit.int .i64 n).wf = true) : Try.prog.keyLits (d + 1) 2 [.int .i64 n] = some [.int .i64 n] := by
  unfold Program.keyLits
  rw [Try.underlying2]
  simp [h]
theorem keyOf_kv {s a t : Int} (h : kwf s a t) : ∃ kl, keyOf Try.prog 64 (kv s a t) = some kl := by
  obtain ⟨d, hd⟩ := holdDepth
  obtain ⟨h0, h1, h2⟩ := h
  have hc : Try.prog.cellsOf 2 = 1 := by kernel_rfl
  have hf : (kv s a t).formed Try.prog 64 = true := by simp [kv, Value.formed, Try.underlying64, holdCells]
  have hl : Try.prog.keyLits (Try.prog.types.size + 1) 64 (kv s a t).cells.toList = some [.int .i64 s, .int .i64 a, .int .i64 t] := by
    rw [hd]
    unfold Program.keyLits
    rw [Try.underlying64]
    simp [kv, Value.cells, holdCells, hc, List.range, List.range.loop, intLits d s h0, intLits d a h1, intLits d t h2]
  unfold keyOf
  rw [Try.underlying64]
  dsimp only
  rw [if_pos (by rw [holdType, hf]; rfl), hl]
  exact ⟨_, rfl⟩
set_option maxRecDepth 20000 in
theorem intLits_inv {d : Nat} {c : Value} {l : List Lit} (h : Try.prog.keyLits (d + 1) 2 [c] = some l) : ∃ n, c = .int .i64 n ∧ (Lit.int .i64 n).wf = true := by
  unfold Program.keyLits at h
  rw [Try.underlying2] at h
  cases c <;> simp at h
  obtain ⟨⟨rfl, hw⟩, _⟩ := h
  exact ⟨_, rfl, hw⟩
set_option maxRecDepth 20000 in
theorem kv_of_key {v : Value} {kl : Lit} (h : keyOf Try.prog 64 v = some kl) : ∃ s a t, v = kv s a t ∧ kwf s a t := by
  obtain ⟨xs, L, rfl, hl, _⟩ := keyOf_top holdWide h
  obtain ⟨d, hd⟩ := holdDepth
  have hc : Try.prog.cellsOf 2 = 1 := by kernel_rfl
  rw [hd] at hl
  unfold Program.keyLits at hl
  rw [Try.underlying64] at hl
  simp only [holdCells, hc] at hl
  split at hl
  · rename_i h3
    obtain ⟨l⟩ := xs
    match l, h3 with
    | [c0, c1, c2], _ =>
      simp [List.range, List.range.loop] at hl
      cases e0 : Try.prog.keyLits (d + 1) 2 [c0] with
      | none => simp [e0] at hl
      | some l0 =>
        cases e1 : Try.prog.keyLits (d + 1) 2 [c1] with
        | none => simp [e0, e1] at hl
        | some l1 =>
          cases e2 : Try.prog.keyLits (d + 1) 2 [c2] with
          | none => simp [e0, e1, e2] at hl
          | some l2 =>
            obtain ⟨n0, rfl, w0⟩ := intLits_inv e0
            obtain ⟨n1, rfl, w1⟩ := intLits_inv e1
            obtain ⟨n2, rfl, w2⟩ := intLits_inv e2
            exact ⟨n0, n1, n2, rfl, w0, w1, w2⟩
  · cases hl
theorem kv_inj {s a t s' a' t' : Int} (h : kv s a t = kv s' a' t') : s = s' ∧ a = a' ∧ t = t' := by
  simpa [kv] using h
def Book (w : World) (b n : Nat) (f : Int → Int → Int → Option Int) : Prop :=
  ∃ D : DataW Unit, w.ownsMap Try.prog 64 (plainElem Try.prog 2) b n D ∧
    ∀ s a t kl, keyOf Try.prog 64 (kv s a t) = some kl → Maps.has D kl = (f s a t).isSome ∧ D.atKey kl (.lit (.int .i64 0)) = .lit (.int .i64 ((f s a t).getD 0))
def upd3 (f : Int → Int → Int → Option Int) (s a t : Int) (v : Option Int) : Int → Int → Int → Option Int := fun s' a' t' => if s' = s ∧ a' = a ∧ t' = t then v else f s' a' t'
theorem book_made (w : World) : Book (w.alloc (.map #[] 0)) w.heap.size 0 (fun _ _ _ => none) :=
  ⟨_, World.ownsMap_made w _ _ _, fun _ _ _ _ _ => ⟨rfl, rfl⟩⟩
theorem Book.lt {w : World} {b n : Nat} {f : Int → Int → Int → Option Int} (h : Book w b n f) : b < w.heap.size := by
  obtain ⟨D, hD, _⟩ := h; exact hD.lt
theorem Book.kept {w w' : World} {b n : Nat} {f : Int → Int → Int → Option Int} {row : Option Nat} (h : Book w b n f) (hg : w.grownBy w' row) (hne : some b ≠ row) : Book w' b n f := by
  obtain ⟨D, hD, h1⟩ := h; exact ⟨D, hD.kept hg hne, h1⟩
theorem Book.below {w w' : World} {b n : Nat} {f : Int → Int → Int → Option Int} (h : Book w b n f) (hb : Below w.heap.size w w') : Book w' b n f := h.kept (grown_of_below hb) (by simp)
theorem Book.mono {w : World} {b n n' : Nat} {f : Int → Int → Int → Option Int} (h : Book w b n f) (hn : n ≤ n') : Book w b n' f := by
  obtain ⟨D, hD, h1⟩ := h; exact ⟨D, hD.mono hn, h1⟩
theorem Book.cast {w : World} {b n : Nat} {f g : Int → Int → Int → Option Int} (h : Book w b n f) (hf : ∀ s a t, kwf s a t → g s a t = f s a t) : Book w b n g := by
  obtain ⟨D, hD, h1⟩ := h
  refine ⟨D, hD, fun s a t kl hk => ?_⟩
  obtain ⟨s', a', t', e, hw⟩ := kv_of_key hk
  obtain ⟨rfl, rfl, rfl⟩ := kv_inj e
  rw [hf _ _ _ hw]
  exact h1 _ _ _ _ hk
theorem Book.turned {w w' : World} {b n : Nat} {f : Int → Int → Int → Option Int} (h : Book w b n f) {F : Nat → Prop} (hm : Mod F w w') (hF : ¬ F b) : Book w' b n f := by
  obtain ⟨D, ⟨es, clock, hb, h2⟩, h1⟩ := h
  refine ⟨D, ⟨es, clock, ?_, h2⟩, h1⟩
  have hlt : b < w.heap.size := by
    rcases Nat.lt_or_ge b w.heap.size with h | h
    · exact h
    · rw [Array.getElem?_eq_none h] at hb; cases hb
  rw [hm.block b hlt hF]
  exact hb
theorem zero64 (w : World) : (zeroValue 2).run Try.prog w = .ok (.int .i64 0) w := by kernel_rfl
theorem Book.look {w : World} {b n : Nat} {f : Int → Int → Int → Option Int} (h : Book w b n f) {s a t : Int} (hw : kwf s a t) :
    (Instr.lookup 54 (.map (some b)) (kv s a t) false).run Try.prog w = .ok (.int .i64 ((f s a t).getD 0)) w ∧ (Lit.int .i64 ((f s a t).getD 0)).wf = true := by
  obtain ⟨D, hD, h1⟩ := h
  obtain ⟨kl, hk⟩ := keyOf_kv hw
  obtain ⟨c, hrun, hat, hwc⟩ := hD.lookup_int holdLaw Try.underlying54 Try.underlying2 (zero64 w) hk
  have := (h1 s a t kl hk).2
  rw [hat] at this
  simp at this
  rw [← this]
  exact ⟨hrun, hwc⟩
theorem Book.put {w : World} {b n : Nat} {f : Int → Int → Int → Option Int} (h : Book w b n f) {s a t v : Int} (hw : kwf s a t) (hv : (Lit.int .i64 v).wf = true) (hn : n < maxLen) :
    ∃ w', (Instr.mapUpdate 54 (.map (some b)) (kv s a t) (.int .i64 v)).run Try.prog w = .ok () w' ∧ Book w' b (n + 1) (upd3 f s a t (some v)) ∧ w.grownBy w' (some b) := by
  obtain ⟨D, hD, h1⟩ := h
  obtain ⟨kl, hk⟩ := keyOf_kv hw
  obtain ⟨w', hrun, hD', hg⟩ := hD.update holdLaw Try.underlying54 hn hk (plainElem_int Try.underlying2 hv)
  refine ⟨w', hrun, ⟨_, hD', fun s' a' t' kl' hk' => ?_⟩, hg⟩
  unfold upd3
  by_cases e : kl' = kl
  · subst e
    have := holdLaw.inj hk' hk
    obtain ⟨rfl, rfl, rfl⟩ := kv_inj this
    rw [if_pos ⟨rfl, rfl, rfl⟩]
    exact ⟨has_put_same hD.isMap (holdLaw.key hk) _, atKey_put_same hD.isMap (holdLaw.key hk) _ _⟩
  · rw [if_neg (by
      rintro ⟨rfl, rfl, rfl⟩
      rw [hk] at hk'
      exact e (by simpa using hk'.symm)), has_put_other e, atKey_put_other e]
    exact h1 s' a' t' kl' hk'
theorem Book.del {w : World} {b n : Nat} {f : Int → Int → Int → Option Int} (h : Book w b n f) {s a t : Int} (hw : kwf s a t) (ty : TypeId) :
    ∃ w', (Builtin.delete_ #[54, 64] ty #[.map (some b), kv s a t]).run Try.prog w = .ok (.tuple #[]) w' ∧ Book w' b n (upd3 f s a t none) ∧ w.grownBy w' (some b) := by
  obtain ⟨D, hD, h1⟩ := h
  obtain ⟨kl, hk⟩ := keyOf_kv hw
  obtain ⟨w', hrun, hD', hg⟩ := hD.drop holdLaw Try.underlying54 hk ty
  refine ⟨w', hrun, ⟨_, hD', fun s' a' t' kl' hk' => ?_⟩, hg.grown⟩
  unfold upd3
  by_cases e : kl' = kl
  · subst e
    have := holdLaw.inj hk' hk
    obtain ⟨rfl, rfl, rfl⟩ := kv_inj this
    rw [if_pos ⟨rfl, rfl, rfl⟩]
    exact ⟨has_del_same, atKey_del_same _⟩
  · rw [if_neg (by
      rintro ⟨rfl, rfl, rfl⟩
      rw [hk] at hk'
      exact e (by simpa using hk'.symm)), has_del_other e, atKey_del_other e]
    exact h1 s' a' t' kl' hk'
end Go.Proofs.Ytgjpafalompecaa

/-
  A row of a table: the law's own copy, comparison, count; RowFault on both sides.
-/
namespace Go.Proofs.Ytgjpafalompecaa
open Go.RowKit
set_option linter.unusedSectionVars false
attribute [local go_sem ↓] Go.wp_at_zero Go.wp_at_succ
set_option linter.unusedSimpArgs false

structure Rw where
  key : ByteArray
  ver : Int
  val : ByteArray
  gone : Bool
variable [DecidableEq Rw] [Inhabited Rw]

end Go.Proofs.Ytgjpafalompecaa


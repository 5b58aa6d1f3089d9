/-
  Tools of my own for every law of this seat: behind a call that turned no old memory and answered true, the row's end is so.
-/
import Derived.Test.YtaahmmadcdfcpaaRows
import Derived.WalkKit
import Derived.WalkSpells
import Derived.WalkLawsBesides
import Derived.ProofKit
import Derived.OpenShut
import Derived.Lib.SmallJoins
namespace Go.Proofs.Ytaahmmadcdfcpaa
open Go.ChangeShapes Go.WideShapes Go.ChangeAt Go.RowKit Go.Joins

theorem trodAll_below {H : Type} {enc : TypeId × Value → H} {P : Program} (hl : laidOutB P = true) {W W' : World} (hb : Below W.heap.size W W') :
    ∀ {ts : List TypeId} {vs : List Value} {ds : List (DataW H)} {ps : List MemPlace}, (∀ t ∈ ts, P.readableRec t = true ∧ t < P.types.size) →
      DataW.TrodAll enc P W 0 (fun _ => true) true ts vs ds ps → DataW.TrodAll enc P W' 0 (fun b => decide (b < W.heap.size)) true ts vs ds ps
  | [], [], [], _, _, h => h
  | t :: ts, v :: vs, d :: ds, ps, hr, h => by
    have hlt := DataW.TrodAll.lt h
    obtain ⟨p, q, h1, h2, rfl⟩ := h
    refine ⟨p, q, Below.trod hl (hr t (by simp)).1 (hr t (by simp)).2 h1 hb (fun x hx => hlt x (by simp [hx])), trodAll_below hl hb (fun u hu => hr u (by simp [hu])) h2, rfl⟩
  | [], [], _ :: _, _, _, h => h.elim
  | [], _ :: _, _, _, _, h => h.elim
  | _ :: _, [], _, _, _, h => h.elim
  | _ :: _, _ :: _, [], _, _, h => h.elim

theorem law_post {H : Type} {enc : TypeId × Value → H} {P : Program} {f : Func} {s : ChangeSpec} {W W' : World} {args : Array Value} {ds gs : List (DataW H)} {before : List MemPlace} {tb : TypeId}
    (hW : DataW.Whole enc P f.params.toList s.vars false W args.toList ds gs before)
    (hl : laidOutB P = true) (hr : (f.params.toList.all fun t => P.readableRec t && decide (t < P.types.size)) = true)
    (hvars : s.vars = []) (hrt : f.resultTypes = #[tb]) (hb : P.underlying tb = some .bool) (hfn : gs = [] → s.fn H ds = { results := [.lit (.bool true)], args := ds })
    (hB : Below W.heap.size W W') : s.post enc P f false true false false W args (.bool true) W' := by
  have hW0 := hW
  obtain ⟨p, q, hA, hV, rfl, hfz, hnd⟩ := hW
  rw [hvars] at hV
  obtain ⟨rfl, rfl⟩ := trodVars_none hV
  have hr' : ∀ t ∈ f.params.toList, P.readableRec t = true ∧ t < P.types.size := by
    intro t ht
    have := List.all_eq_true.1 hr t ht
    simpa using this
  refine ⟨ds, [], _, [], p, [], hW0, ?_, ?_, ?_, hB.frame _, fun h => by cases h⟩
  · rw [List.append_nil, hfn rfl, hrt]
    exact trodAll_mk1 (shut_bool hb true)
  · rw [List.append_nil, hfn rfl]
    exact trodAll_below hl hB hr' hA
  · rw [List.append_nil, hfn rfl, hvars]
    exact rfl

theorem bcell {W w1 : World} (hb : Below W.heap.size W w1) : (∀ b o, b < W.heap.size → w1.cell? ⟨b, o, none⟩ = W.cell? ⟨b, o, none⟩) ∧ (∀ b o, b < W.heap.size → w1.frozen? ⟨b, o, none⟩ = W.frozen? ⟨b, o, none⟩) :=
  ⟨fun b o h => hb.cell (p := ⟨b, o, none⟩) h, fun b o h => hb.frozen (p := ⟨b, o, none⟩) h⟩

theorem bstep {w Y X : World} (h : Below w.heap.size w Y) (k : Below Y.heap.size Y X) : Below w.heap.size w X := h.trans (k.mono h.size)
theorem balloc {w Y : World} (h : Below w.heap.size w Y) (o : Obj) : Below w.heap.size w (Y.alloc o) := h.alloc h.size o

theorem grown_of_below {w w' : World} (h : Below w.heap.size w w') : w.grownBy w' none := ⟨h.os, h.tape, h.output, h.size, fun k hk _ => h.block k hk⟩
theorem owns_below {w w' : World} {base e size : Nat} {v : Value} {n : Nat} {xs : List Value} (h : w.ownsRow base e size v n xs) (hb : Below w.heap.size w w') : w'.ownsRow base e size v n xs :=
  h.kept (grown_of_below hb) (by cases hv : v.ownBlock <;> simp)
theorem owns_some {w : World} {base e size g n cap : Nat} {xs : List Value} (h : w.ownsRow base e size (.slice (some ⟨g, 0, none⟩) n cap) n xs) (j : Nat) (hj : j < n * size) : ∃ u, w.cell? ⟨g, j, none⟩ = some u := by
  have h1 := h.cellAt j hj
  have h2 := h.1
  exact ⟨xs[j]'(by omega), by rw [h1, List.getElem?_eq_getElem]⟩

theorem owns_form {w : World} {base e size : Nat} {v : Value} {n : Nat} {xs : List Value} (h : w.ownsRow base e size v n xs) : ∃ a c, v = .slice a n c := by
  rcases h.2 with ⟨rfl, rfl⟩ | ⟨g, cap, cur, rfl, _⟩
  · exact ⟨_, _, rfl⟩
  · exact ⟨_, _, rfl⟩
theorem bset {w Y : World} (h : Below w.heap.size w Y) {p : Addr} (hp : w.heap.size ≤ p.block) (u : Value) : Below w.heap.size w (Y.setCell p u) := h.setCell hp u
theorem owns_base {w : World} {base base' e size : Nat} {v : Value} {n : Nat} {xs : List Value} (h : w.ownsRow base e size v n xs) (hb : base' ≤ base) : w.ownsRow base' e size v n xs := by
  refine ⟨h.1, ?_⟩
  rcases h.2 with h2 | ⟨g, cap, cur, hv, hg, r⟩
  · exact .inl h2
  · exact .inr ⟨g, cap, cur, hv, Nat.le_trans hb hg, r⟩
theorem owns_setCell {w : World} {base e size : Nat} {v : Value} {n : Nat} {xs : List Value} (h : w.ownsRow base e size v n xs) {a : Addr} (ha : a.block < base) (u : Value) : (w.setCell a u).ownsRow base e size v n xs :=
  ownsRow_setCell_below h ha u

theorem set_same {w : World} {a : Addr} {v u : Value} (h : w.cell? a = some u) : (w.setCell a v).cell? a = some v := by
  first | exact World.cell?_setCell_same h | exact World.cell?_setCell_same _ h | exact World.cell?_setCell_same _ _ _ h
theorem set_other {w : World} {a b : Addr} {v : Value} (h : a ≠ b) : (w.setCell a v).cell? b = w.cell? b := by
  first | exact World.cell?_setCell_other h | exact World.cell?_setCell_other _ h | exact World.cell?_setCell_other _ _ _ _ h

theorem cell_keep {w w' : World} {a : Addr} {v : Value} (hb : Below w.heap.size w w') (h : w.cell? a = some v) : w'.cell? a = some v :=
  (hb.cell (World.block_lt_of_cell? w a h)).trans h
theorem keepC2 {w w' : World} {a b : Addr} {u v : Value} (hb : Below w.heap.size w w') (h : w.cell? a = some u) (k : w.cell? b = some v) : Below w.heap.size w w' ∧ w'.cell? a = some u ∧ w'.cell? b = some v :=
  ⟨hb, cell_keep hb h, cell_keep hb k⟩
theorem keepC4 {w w' : World} {a b c d : Addr} {u v x y : Value} (hb : Below w.heap.size w w') (h : w.cell? a = some u) (k : w.cell? b = some v) (l : w.cell? c = some x) (m : w.cell? d = some y) :
    Below w.heap.size w w' ∧ w'.cell? a = some u ∧ w'.cell? b = some v ∧ w'.cell? c = some x ∧ w'.cell? d = some y :=
  ⟨hb, cell_keep hb h, cell_keep hb k, cell_keep hb l, cell_keep hb m⟩

/-- where the row of a value lies: from block lo on, below block hi -/
def Own (lo hi : Nat) (v : Value) : Prop := ∀ b, v.ownBlock = some b → lo ≤ b ∧ b < hi
theorem own_of {w : World} {base e size : Nat} {v : Value} {n : Nat} {xs : List Value} (h : w.ownsRow base e size v n xs) : Own base w.heap.size v := fun b hb => h.lt b hb
theorem own_apart {lo hi lo' hi' : Nat} {v u : Value} (h : Own lo hi v) (k : Own lo' hi' u) (hh : hi ≤ lo' ∨ hi' ≤ lo) : v.ownBlock = none ∨ v.ownBlock ≠ u.ownBlock := by
  cases hv : v.ownBlock with
  | none => exact .inl rfl
  | some b =>
    refine .inr fun e => ?_
    have h1 := h b hv
    have h2 := k b e.symm
    omega
theorem own_not {lo hi c : Nat} {v : Value} (h : Own lo hi v) (hh : c < lo ∨ hi ≤ c) : some c ≠ v.ownBlock := fun e => by
  have := h c e.symm
  omega
theorem cell_grown {w w' : World} {row : Option Nat} {a : Addr} {v : Value} (hg : w.grownBy w' row) (h : w.cell? a = some v) (hne : some a.block ≠ row) : w'.cell? a = some v := hg.cell h hne
theorem below_grown {w Y X : World} {v : Value} {lo hi : Nat} (h : Below w.heap.size w Y) (hg : Y.grownBy X v.ownBlock) (ho : Own lo hi v) (hl : w.heap.size ≤ lo) : Below w.heap.size w X :=
  h.grown hg h.size (fun k hk => Nat.le_trans hl (ho k hk).1)

/-- four boxes of two cells -/
def Boxes (W : World) (b0 b1 b2 b3 : Nat) (u0 v0 u1 v1 u2 v2 u3 v3 : Value) : Prop :=
  (W.cell? ⟨b0, 0, none⟩ = some u0 ∧ W.cell? ⟨b0, 1, none⟩ = some v0) ∧ (W.cell? ⟨b1, 0, none⟩ = some u1 ∧ W.cell? ⟨b1, 1, none⟩ = some v1) ∧
  (W.cell? ⟨b2, 0, none⟩ = some u2 ∧ W.cell? ⟨b2, 1, none⟩ = some v2) ∧ (W.cell? ⟨b3, 0, none⟩ = some u3 ∧ W.cell? ⟨b3, 1, none⟩ = some v3)
theorem boxes_below {w w' : World} {b0 b1 b2 b3 : Nat} {u0 v0 u1 v1 u2 v2 u3 v3 : Value} (hb : Below w.heap.size w w') (h : Boxes w b0 b1 b2 b3 u0 v0 u1 v1 u2 v2 u3 v3) : Boxes w' b0 b1 b2 b3 u0 v0 u1 v1 u2 v2 u3 v3 := by
  obtain ⟨⟨a, b⟩, ⟨c, d⟩, ⟨e, f⟩, ⟨g, i⟩⟩ := h
  exact ⟨⟨cell_keep hb a, cell_keep hb b⟩, ⟨cell_keep hb c, cell_keep hb d⟩, ⟨cell_keep hb e, cell_keep hb f⟩, ⟨cell_keep hb g, cell_keep hb i⟩⟩
theorem boxes_grown {w w' : World} {row : Option Nat} {b0 b1 b2 b3 : Nat} {u0 v0 u1 v1 u2 v2 u3 v3 : Value} (hg : w.grownBy w' row) (n0 : some b0 ≠ row) (n1 : some b1 ≠ row) (n2 : some b2 ≠ row) (n3 : some b3 ≠ row)
    (h : Boxes w b0 b1 b2 b3 u0 v0 u1 v1 u2 v2 u3 v3) : Boxes w' b0 b1 b2 b3 u0 v0 u1 v1 u2 v2 u3 v3 := by
  obtain ⟨⟨a, b⟩, ⟨c, d⟩, ⟨e, f⟩, ⟨g, i⟩⟩ := h
  exact ⟨⟨hg.cell a n0, hg.cell b n0⟩, ⟨hg.cell c n1, hg.cell d n1⟩, ⟨hg.cell e n2, hg.cell f n2⟩, ⟨hg.cell g n3, hg.cell i n3⟩⟩

def szLen (left n : Int) : Int := if left < n then -1 else left - n
theorem grownTrans {w w1 w2 : World} {r : Option Nat} (h : w.grownBy w1 r) (k : w1.grownBy w2 r) : w.grownBy w2 r :=
  ⟨k.os.trans h.os, k.tape.trans h.tape, k.output.trans h.output, Nat.le_trans h.size k.size, fun i hi hr => (k.block i (Nat.lt_of_lt_of_le hi h.size) hr).trans (h.block i hi hr)⟩

theorem own : ownKnob Try.prog.godebug = none := by kernel_rfl
theorem laidOut : laidOutB Try.prog = true := by kernel_rfl

end Go.Proofs.Ytaahmmadcdfcpaa

/-
  A contract handed in, read as data, is a number and legs in memory.
-/
import Derived.Test.YtcngckkcgpkdoaaCon
import Derived.Deep.Slices
namespace Go.Proofs.Ytcngckkcgpkdoaa
open Go.ChangeShapes Go.WideShapes Go.ChangeAt Go.RowKit Go.Joins
set_option linter.unusedSectionVars false
variable [DecidableEq Leg] [Inhabited Leg]

theorem cellsLeg : Try.prog.cellsOf 23 = 4 := by kernel_rfl
theorem cellsInt : Try.prog.cellsOf 2 = 1 := by kernel_rfl
theorem cellsContract : Try.prog.cellsOf 30 = 2 := by kernel_rfl

theorem openLeg {H : Type} {enc : TypeId × Value → H} {W : World} {base : Nat} {sp : Nat → Bool} {held : Bool} {n : Nat} {a : Addr} {cs : List Value} {y : DataW H × List MemPlace}
    (hc : W.cells? base a 4 = some cs) (ht : DataW.trod enc Try.prog W base sp held n 23 cs = some y) : ∃ l : Leg, a.spot = none ∧ legCells W a.block a.off l := by
  obtain ⟨y0, y1, y2, y3, m, hy, hlen, h0, h1, h2, h3⟩ := trod_struct4 Try.underlying23 ht
  obtain ⟨hb, hl, hcell⟩ := World.cells?_some hc
  simp only [cellsInt] at h0 h1 h2 h3
  match cs, hl with
  | [c0, c1, c2, c3], _ =>
    obtain ⟨x0, e0, _⟩ := DataW.trod_int Try.underlying2 h0
    obtain ⟨x1, e1, _⟩ := DataW.trod_int Try.underlying2 h1
    obtain ⟨x2, e2, _⟩ := DataW.trod_int Try.underlying2 h2
    obtain ⟨x3, e3, _⟩ := DataW.trod_int Try.underlying2 h3
    simp at e0 e1 e2 e3
    subst e0 e1 e2 e3
    have q0 := hcell 0 (by omega)
    have q1 := hcell 1 (by omega)
    have q2 := hcell 2 (by omega)
    have q3 := hcell 3 (by omega)
    obtain ⟨b, o, s⟩ := a
    have hs : s = none := by
      cases s with
      | none => rfl
      | some s => simp [Addr.add, World.cell?] at q0; split at q0 <;> simp at q0
    subst hs
    exact ⟨⟨x0, x1, x2, x3⟩, rfl, by simpa [Addr.add] using q0, by simpa [Addr.add] using q1, by simpa [Addr.add] using q2, by simpa [Addr.add] using q3⟩

theorem openLegs {H : Type} {enc : TypeId × Value → H} {W : World} {sp : Nat → Bool} {held : Bool} {n : Nat} {v : Value} {y : DataW H × List MemPlace}
    (ht : DataW.trod enc Try.prog W 0 sp held n 28 [v] = some y) : ∃ xs : List Leg, LegsV W v xs := by
  rcases Go.Deep.open_slice Try.underlying28 ht with ⟨hcs, _⟩ | ⟨a, len, cap, m, n', D, Pl, hcs, hb, hl, hm, hmm, _, hc⟩
  · simp at hcs
    subst hcs
    exact ⟨[], none, 0, rfl, by simp, by unfold maxLen; omega, fun i hi => by simp at hi⟩
  · simp at hcs
    subst hcs
    have hlm : len ≤ m := by rw [hmm]; split <;> omega
    rw [cellsLeg] at hc
    have h1 : ∀ i, i < len → ∃ l : Leg, (a.add (i * 4)).spot = none ∧ legCells W (a.add (i * 4)).block (a.add (i * 4)).off l := by
      intro i hi
      obtain ⟨cs', h1, h2⟩ := hc i (by omega)
      exact openLeg h1 h2
    obtain ⟨f, hf⟩ := Go.Deep.choose_lt h1
    refine ⟨(List.range len).map f, some a, cap, by simp, by simpa using hl, hm, fun i hi => ?_⟩
    simp at hi
    have hsp : a.spot = none := by have := (hf 0 (by omega)).1; simpa [Addr.add] using this
    obtain ⟨b, o, s⟩ := a
    simp at hsp
    subst hsp
    refine ⟨b, o, rfl, ?_⟩
    have := (hf i hi).2
    have e : (List.map f (List.range len)).getD i default = f i := by simp [List.getD, hi]
    rw [e]
    by_cases h0 : i = 0
    · subst h0; simpa [Addr.add] using this
    · simpa [Addr.add, show ¬ i * 4 = 0 by omega] using this

set_option maxRecDepth 20000 in
theorem openContract {H : Type} {enc : TypeId × Value → H} {W : World} {sp : Nat → Bool} {held : Bool} {v : Value} {d : DataW H} {p : List MemPlace} {base : Nat} {r : Reach}
    (hv : Value.okWide Try.prog W r base 30 v) (h : DataW.Trod enc Try.prog W 0 sp held 30 v d p) : ∃ id x xs, v = .agg #[.int .i64 id, x] ∧ LegsV W x xs := by
  obtain ⟨c0, c1, y0, y1, m, rfl, _, _, hy0, hy1⟩ := open_agg2 Try.underlying30 (by kernel_rfl) cellsContract hv h
  obtain ⟨a, e0, _⟩ := DataW.trod_int Try.underlying2 hy0
  simp at e0
  subst e0
  obtain ⟨xs, hx⟩ := openLegs hy1
  exact ⟨a, c1, xs, rfl, hx⟩

end Go.Proofs.Ytcngckkcgpkdoaa

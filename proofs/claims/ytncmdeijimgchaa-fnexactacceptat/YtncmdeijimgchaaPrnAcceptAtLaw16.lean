import Derived.Test.YtncmdeijimgchaaPrnAcceptAtLaw9
import Derived.Test.YtncmdeijimgchaaPrnAcceptAtLaw1
import Derived.Deep.Slices
import Derived.Lib.SmallJoins
import Derived.Test.YtncmdeijimgchaaPrnAcceptAtLaw2
import Derived.Deep.Strs
import Derived.Test.YtncmdeijimgchaaPrnAcceptAtLaw5
import Derived.Deep.RegionHeld3
import Derived.Deep.DrawnRows
import Derived.Carry

/-
  How much an acceptor's answer holds.
-/
set_option linter.unusedVariables false
namespace Go.Proofs.Ytncmdeijimgchaa
open Go.RowKit
set_option linter.unusedSectionVars false
variable [DecidableEq Vot] [Inhabited Vot] [DecidableEq Slt] [Inhabited Slt] [DecidableEq SltR] [Inhabited SltR] [DecidableEq Bal] [Inhabited Bal] [DecidableEq Ledg] [Inhabited Ledg] [DecidableEq Leg] [Inhabited Leg] [DecidableEq Acc] [Inhabited Acc] [DecidableEq AccR] [Inhabited AccR] [DecidableEq AccsR] [Inhabited AccsR] [DecidableEq SltsR] [Inhabited SltsR]

theorem cntTo_all {α : Type} {f : α → Nat} {M : Nat} : ∀ (k : Nat) (xs : List α), (∀ x ∈ xs, f x ≤ M) → cntTo f k xs ≤ k * M
  | 0, _, _ => by simp [cntTo]
  | k + 1, [], _ => by simp [cntTo]
  | k + 1, x :: xs, h => by
    have h1 := cntTo_all k xs (fun y hy => h y (by simp [hy]))
    have h2 := h x (by simp)
    simp only [cntTo]
    rw [Nat.succ_mul]
    omega
theorem wtL_all {α : Type} {f : α → Nat} {M N : Nat} (xs : List α) (h : ∀ x ∈ xs, f x ≤ M) (hn : xs.length ≤ N) : wtL f xs ≤ N + N * M := by
  have h1 := cntTo_all xs.length xs h
  have h2 : xs.length * M ≤ N * M := Nat.mul_le_mul_right _ hn
  unfold wtL
  omega
theorem mem_putS {xs : List Slt} {s x : Slt} (h : x ∈ putS xs s) : x ∈ xs ∨ x = s := by
  unfold putS at h
  split at h
  · rcases List.mem_or_eq_of_mem_set h with h | h
    · exact .inl h
    · exact .inr h
  · simp only [List.mem_append, List.mem_singleton] at h
    rcases h with (h | h) | h
    · exact .inl (List.mem_of_mem_take h)
    · exact .inr h
    · exact .inl (List.mem_of_mem_drop h)
theorem accOk_mem {xs : List Slt} (h : AccOk xs) {x : Slt} (hx : x ∈ xs) : sltFault x = 0 := by
  obtain ⟨i, hi, rfl⟩ := List.getElem_of_mem hx
  have := h.ok i hi
  rw [List.getD_eq_getElem?_getD, List.getElem?_eq_getElem hi] at this
  exact this
theorem accOk_wt {xs : List Slt} (h : AccOk xs) {x : Slt} (hx : x ∈ xs) : wtSlt x ≤ 61 := by
  have := (sltOk_of (accOk_mem h hx)).len
  unfold wtSlt wtVots
  omega
theorem errA_wt (c : Int) : wtAccR (errA c) = 0 := rfl
theorem told_wt {xs : List Slt} {r : SltR} (h : AccOk xs) (hr : wtSltR r ≤ 61) : wtAccR (toldD xs r) ≤ 4000 := by
  unfold toldD
  split
  · split
    · rw [errA_wt]; omega
    · rename_i h1 h2
      have := wtL_all (f := wtSlt) (M := 61) (N := 60) (putS xs r.slot) (fun x hx => by
        rcases mem_putS hx with hx | hx
        · exact accOk_wt h hx
        · rw [hx]; exact hr) (by omega)
      show wtL wtSlt (putS xs r.slot) ≤ 4000
      omega
  · rw [errA_wt]; omega
theorem accAt_wt (xs : List Slt) (c s b v : Int) : wtAccR (accAtD xs c s b v) ≤ 4000 := by
  unfold accAtD
  split
  · rename_i h
    split
    · exact told_wt (accOk_of h) (accD_le _ b v)
    · rw [errA_wt]; omega
  · rw [errA_wt]; omega
end Go.Proofs.Ytncmdeijimgchaa

/-
  What is handed in, read as data, is data in memory: rows and structs of rows.
-/
namespace Go.Proofs.Ytncmdeijimgchaa
open Go.ChangeShapes Go.WideShapes Go.ChangeAt Go.RowKit Go.Joins

theorem spot_none {W : World} {base k : Nat} {a : Addr} {cs : List Value} (hk : 0 < k) (hc : W.cells? base a k = some cs) : a.spot = none := by
  obtain ⟨hb, hl, hcell⟩ := World.cells?_some hc
  have q0 := hcell 0 hk
  obtain ⟨b, o, s⟩ := a
  cases s with
  | none => rfl
  | some s =>
    have : 0 < cs.length := by omega
    simp [Addr.add, World.cell?, this] at q0
    split at q0 <;> simp at q0
theorem add_plain (b o i : Nat) : (Addr.mk b o none).add i = ⟨b, o + i, none⟩ := by
  by_cases h : i = 0
  · subst h; simp [Addr.add]
  · simp [Addr.add, h]
theorem openRow {H : Type} {enc : TypeId × Value → H} {W : World} {sp : Nat → Bool} {held : Bool} {n : Nat} {v : Value} {y : DataW H × List MemPlace} {t e size : Nat} {α : Type} [Inhabited α] {q : List Value → α → Prop}
    (ht : Try.prog.underlying t = some (.slice e)) (hz : Try.prog.cellsOf e = size) (hs : 0 < size)
    (hq : ∀ n cs y, DataW.trod enc Try.prog W 0 sp held n e cs = some y → cs.length = size → ∃ x, q cs x) (h : DataW.trod enc Try.prog W 0 sp held n t [v] = some y) :
    ∃ (a : Option Addr) (cap : Nat) (xs : List α) (cs : Nat → List Value), v = .slice a xs.length cap ∧ xs.length ≤ cap ∧ cap ≤ maxLen ∧ ∀ i, i < xs.length → q (cs i) (xs.getD i default) ∧ (cs i).length = size ∧ ∃ b o, a = some ⟨b, o, none⟩ ∧ ∀ j, j < size → W.cell? ⟨b, o + i * size + j, none⟩ = (cs i)[j]? := by
  rcases Go.Deep.open_slice ht h with ⟨hcs, _⟩ | ⟨a, len, cap, m, n', D, Pl, hcs, hb, hl, hm, hmm, _, hc⟩
  · simp at hcs
    subst hcs
    exact ⟨none, 0, [], fun _ => [], rfl, by simp, by unfold maxLen; omega, fun i hi => by simp at hi⟩
  · simp at hcs
    subst hcs
    have hlm : len ≤ m := by rw [hmm]; split <;> omega
    rw [hz] at hc
    have h1 : ∀ i, i < len → ∃ z : List Value × α, q z.1 z.2 ∧ z.1.length = size ∧ ∃ b o, a = ⟨b, o, none⟩ ∧ ∀ j, j < size → W.cell? ⟨b, o + i * size + j, none⟩ = z.1[j]? := by
      intro i hi
      obtain ⟨cs', h1, h2⟩ := hc i (by omega)
      obtain ⟨_, hl', hcell⟩ := World.cells?_some h1
      obtain ⟨x, hx⟩ := hq _ _ _ h2 hl'
      obtain ⟨cs0, k1, _⟩ := hc 0 (by omega)
      have hsp := spot_none hs k1
      obtain ⟨b, o, s⟩ := a
      have hs0 : s = none := by simpa [Addr.add] using hsp
      subst hs0
      refine ⟨(cs', x), hx, hl', b, o, rfl, fun j hj => ?_⟩
      have := hcell j hj
      rw [add_plain, add_plain] at this
      exact this
    obtain ⟨f, hf⟩ := Go.Deep.choose_lt h1
    refine ⟨some a, cap, (List.range len).map (fun i => (f i).2), fun i => (f i).1, by simp, by simpa using hl, hm, fun i hi => ?_⟩
    simp at hi
    obtain ⟨g1, g2, b, o, rfl, g3⟩ := hf i hi
    have e : (List.map (fun i => (f i).2) (List.range len)).getD i default = (f i).2 := by simp [List.getD, hi]
    rw [e]
    exact ⟨g1, g2, b, o, rfl, g3⟩
theorem openN {H : Type} {enc : TypeId × Value → H} {W : World} {sp : Nat → Bool} {held : Bool} {n : Nat} {v : Value} {y : DataW H × List MemPlace} {t e size : Nat} {α : Type} [Inhabited α] {R : Rep α} {te : Nat} {lv : Value → List Value}
    (ht : Try.prog.underlying t = some (.slice e)) (hz : Try.prog.cellsOf e = size) (hs : 0 < size)
    (hq : ∀ n cs y, DataW.trod enc Try.prog W 0 sp held n e cs = some y → cs.length = size → ∃ x u, lv u = cs ∧ R.V W u x) (h : DataW.trod enc Try.prog W 0 sp held n t [v] = some y) :
    ∃ xs : List α, (nRep R te size lv).V W v xs := by
  obtain ⟨a, cap, xs, cs, rfl, h1, h2, h3⟩ := openRow (q := fun cs x => ∃ u, lv u = cs ∧ R.V W u x) ht hz hs hq h
  refine ⟨xs, a, cap, rfl, h1, h2, fun i hi => ?_⟩
  obtain ⟨⟨u, g1, g2⟩, g3, b, o, g4, g5⟩ := h3 i hi
  exact ⟨b, o, u, g4, by rw [g1]; exact g3, fun j hj => by rw [g1]; exact g5 j hj, g2⟩
end Go.Proofs.Ytncmdeijimgchaa

/-
  Votes and slots handed in.
-/
namespace Go.Proofs.Ytncmdeijimgchaa
open Go.ChangeShapes Go.WideShapes Go.ChangeAt Go.RowKit Go.Joins
set_option linter.unusedSectionVars false
variable [DecidableEq Vot] [Inhabited Vot] [DecidableEq Slt] [Inhabited Slt]

theorem cellsNum : Try.prog.cellsOf 2 = 1 := by kernel_rfl
theorem cellsVot : Try.prog.cellsOf 112 = 2 := by kernel_rfl
theorem cellsVots : Try.prog.cellsOf 41 = 1 := by kernel_rfl
theorem trod_struct5 {H : Type} {enc : TypeId × Value → H} {P : Program} {w : World} {base : Nat} {spare : Nat → Bool} {held : Bool} {t : TypeId} {f0 f1 f2 f3 f4 : Field} {fuel : Nat} {cs : List Value} {x : DataW H × List MemPlace} (ht : P.underlying t = some (.struct #[f0, f1, f2, f3, f4])) (h : DataW.trod enc P w base spare held fuel t cs = some x) :
    ∃ y0 y1 y2 y3 y4 n, cs.length = P.cellsOf t ∧ DataW.trod enc P w base spare held n f0.type ((cs.drop f0.offset).take (P.cellsOf f0.type)) = some y0 ∧
      DataW.trod enc P w base spare held n f1.type ((cs.drop f1.offset).take (P.cellsOf f1.type)) = some y1 ∧ DataW.trod enc P w base spare held n f2.type ((cs.drop f2.offset).take (P.cellsOf f2.type)) = some y2 ∧
      DataW.trod enc P w base spare held n f3.type ((cs.drop f3.offset).take (P.cellsOf f3.type)) = some y3 ∧ DataW.trod enc P w base spare held n f4.type ((cs.drop f4.offset).take (P.cellsOf f4.type)) = some y4 := by
  obtain ⟨xs, n, _, rfl, hl, hlen, hf⟩ := DataW.trod_struct ht h
  match xs, hlen with
  | [y0, y1, y2, y3, y4], _ => exact ⟨y0, y1, y2, y3, y4, n, hl, by simpa using hf 0 f0 rfl, by simpa using hf 1 f1 rfl, by simpa using hf 2 f2 rfl, by simpa using hf 3 f3 rfl, by simpa using hf 4 f4 rfl⟩
theorem openVot {H : Type} {enc : TypeId × Value → H} {W : World} {sp : Nat → Bool} {held : Bool} {n : Nat} {cs : List Value} {y : DataW H × List MemPlace}
    (ht : DataW.trod enc Try.prog W 0 sp held n 112 cs = some y) (hl : cs.length = 2) : ∃ x : Vot, cs = votC x := by
  obtain ⟨y0, y1, m, hy, hlen, h0, h1⟩ := trod_struct2 Try.underlying112 ht
  simp only [cellsNum] at h0 h1
  match cs, hl with
  | [c0, c1], _ =>
    obtain ⟨x0, e0, _⟩ := DataW.trod_int Try.underlying2 h0
    obtain ⟨x1, e1, _⟩ := DataW.trod_int Try.underlying2 h1
    simp at e0 e1
    subst e0 e1
    exact ⟨⟨x0, x1⟩, rfl⟩
theorem openVots {H : Type} {enc : TypeId × Value → H} {W : World} {sp : Nat → Bool} {held : Bool} {n : Nat} {v : Value} {y : DataW H × List MemPlace}
    (ht : DataW.trod enc Try.prog W 0 sp held n 41 [v] = some y) : ∃ xs : List Vot, votsR.V W v xs := by
  obtain ⟨a, cap, xs, cs, rfl, h1, h2, h3⟩ := openRow (q := fun cs x => cs = votC x) Try.underlying41 cellsVot (by omega) (fun n cs y h hl => openVot h hl) ht
  refine ⟨xs, a, cap, rfl, h1, h2, fun i hi => ?_⟩
  obtain ⟨g1, g3, b, o, g4, g5⟩ := h3 i hi
  rw [g1] at g5
  exact ⟨b, o, g4, g5 0 (by omega), g5 1 (by omega)⟩
theorem openSlt {H : Type} {enc : TypeId × Value → H} {W : World} {sp : Nat → Bool} {held : Bool} {n : Nat} {cs : List Value} {y : DataW H × List MemPlace}
    (ht : DataW.trod enc Try.prog W 0 sp held n 153 cs = some y) (hl : cs.length = 6) : ∃ (x : Slt) (u : Value), cs = [.int .i64 x.con, .int .i64 x.sh, .int .i64 x.pr, .int .i64 x.lb, .int .i64 x.lv, u] ∧ votsR.V W u x.cast := by
  obtain ⟨y0, y1, y2, y3, y4, m, hlen, h0, h1, h2, h3, h4⟩ := trod_struct5 Try.underlying153 ht
  simp only [cellsNum, cellsVot, cellsVots] at h0 h1 h2 h3 h4
  match cs, hl with
  | [c0, c1, c2, c3, c4, c5], _ =>
    obtain ⟨x0, e0, _⟩ := DataW.trod_int Try.underlying2 h0
    obtain ⟨x1, e1, _⟩ := DataW.trod_int Try.underlying2 h1
    obtain ⟨x2, e2, _⟩ := DataW.trod_int Try.underlying2 h2
    obtain ⟨l, el⟩ := openVot h3 rfl
    obtain ⟨xs, hx⟩ := openVots h4
    simp at e0 e1 e2
    simp [votC] at el
    obtain ⟨rfl, rfl⟩ := el
    subst e0 e1 e2
    exact ⟨⟨x0, x1, x2, l.bal, l.val, xs⟩, c5, rfl, hx⟩
theorem openSlts {H : Type} {enc : TypeId × Value → H} {W : World} {sp : Nat → Bool} {held : Bool} {n : Nat} {v : Value} {y : DataW H × List MemPlace}
    (ht : DataW.trod enc Try.prog W 0 sp held n 49 [v] = some y) : ∃ xs, sltsR.V W v xs := by
  refine openN Try.underlying49 (by kernel_rfl) (by omega) (fun n cs y h hl => ?_) ht
  obtain ⟨x, u, rfl, hx⟩ := openSlt h hl
  exact ⟨x, .agg #[.int .i64 x.con, .int .i64 x.sh, .int .i64 x.pr, .int .i64 x.lb, .int .i64 x.lv, u], rfl, u, rfl, hx⟩
end Go.Proofs.Ytncmdeijimgchaa

/-
  Acceptors handed in.
-/
namespace Go.Proofs.Ytncmdeijimgchaa
open Go.ChangeShapes Go.WideShapes Go.ChangeAt Go.RowKit Go.Joins
set_option linter.unusedSectionVars false
variable [DecidableEq Vot] [Inhabited Vot] [DecidableEq Slt] [Inhabited Slt] [DecidableEq Acc] [Inhabited Acc]

theorem trodAll_5 {H : Type} {enc : TypeId × Value → H} {P : Program} {w : World} {base : Nat} {spare : Nat → Bool} {held : Bool} {t0 t1 t2 t3 t4 : TypeId} {args : Array Value} {ds : List (DataW H)} {ps : List MemPlace} (h : DataW.TrodAll enc P w base spare held [t0, t1, t2, t3, t4] args.toList ds ps) :
    ∃ v0 v1 v2 v3 v4 d0 d1 d2 d3 d4 p0 p1 p2 p3 p4, args = #[v0, v1, v2, v3, v4] ∧ ds = [d0, d1, d2, d3, d4] ∧ DataW.Trod enc P w base spare held t0 v0 d0 p0 ∧ DataW.Trod enc P w base spare held t1 v1 d1 p1 ∧ DataW.Trod enc P w base spare held t2 v2 d2 p2 ∧ DataW.Trod enc P w base spare held t3 v3 d3 p3 ∧ DataW.Trod enc P w base spare held t4 v4 d4 p4 := by
  obtain ⟨v0, x0, d0, y0, p0, q0, hargs, rfl, rfl, k0, r0⟩ := trodAll_cons h
  obtain ⟨v1, x1, d1, y1, p1, q1, rfl, rfl, rfl, k1, r1⟩ := trodAll_cons r0
  obtain ⟨v2, x2, d2, y2, p2, q2, rfl, rfl, rfl, k2, r2⟩ := trodAll_cons r1
  obtain ⟨v3, x3, d3, y3, p3, q3, rfl, rfl, rfl, k3, r3⟩ := trodAll_cons r2
  obtain ⟨v4, x4, d4, y4, p4, q4, rfl, rfl, rfl, k4, r4⟩ := trodAll_cons r3
  obtain ⟨rfl, rfl, rfl⟩ := trodAll_nil r4
  exact ⟨_, _, _, _, _, _, _, _, _, _, _, _, _, _, _, by cases args; simp_all, rfl, k0, k1, k2, k3, k4⟩
theorem openAcc {H : Type} {enc : TypeId × Value → H} {W : World} {sp : Nat → Bool} {held : Bool} {n : Nat} {cs : List Value} {y : DataW H × List MemPlace}
    (ht : DataW.trod enc Try.prog W 0 sp held n 51 cs = some y) (hl : cs.length = 1) : ∃ (x : Acc) (u : Value), cs = [u] ∧ sltsR.V W u x.slots := by
  match cs, hl with
  | [c], _ =>
    obtain ⟨y0, m, hx, _, h0⟩ := trod_struct1 Try.underlying51 ht
    have hz : Try.prog.cellsOf 49 = 1 := by kernel_rfl
    have h0' : DataW.trod enc Try.prog W 0 sp held m 49 [c] = some y0 := by simpa [Value.cells, hz] using h0
    obtain ⟨xs, hxs⟩ := openSlts h0'
    exact ⟨⟨xs⟩, c, rfl, hxs⟩
set_option maxRecDepth 20000 in
theorem openAccT {H : Type} {enc : TypeId × Value → H} {W : World} {sp : Nat → Bool} {held : Bool} {v : Value} {d : DataW H} {p : List MemPlace} {base : Nat} {r : Reach}
    (hv : Value.okWide Try.prog W r base 51 v) (h : DataW.Trod enc Try.prog W 0 sp held 51 v d p) : ∃ x, accR.V W v x := by
  obtain ⟨cs, rfl, hsz⟩ := okWide_struct Try.underlying51 hv
  have hC : Try.prog.cellsOf 51 = 1 := by kernel_rfl
  obtain ⟨fuel, hf⟩ := h
  obtain ⟨x, u, e, hx⟩ := openAcc hf (by simpa [Value.cells] using hsz.trans hC)
  have e' : cs = #[u] := by
    obtain ⟨l⟩ := cs
    simp [Value.cells] at e
    rw [e]
  subst e'
  exact ⟨x, u, rfl, hx⟩
end Go.Proofs.Ytncmdeijimgchaa


import Derived.Test.YtncmdeijimgchaaGreatPrnRunBallotLaw6
import Derived.Test.YtncmdeijimgchaaGreatPrnRunBallotLaw21
import Derived.Test.YtncmdeijimgchaaGreatPrnRunBallotLaw15
import Derived.Test.YtncmdeijimgchaaGreatPrnRunBallotLaw1
import Derived.Deep.Slices
import Derived.Lib.SmallJoins

/-
  How much an acceptor's answer holds.
-/
set_option linter.unusedVariables false
namespace Go.Proofs.YtncmdeijimgchaaGreat
open Go.RowKit
set_option linter.unusedSectionVars false
variable [DecidableEq Vot] [Inhabited Vot] [DecidableEq Slt] [Inhabited Slt] [DecidableEq SltR] [Inhabited SltR] [DecidableEq Bal] [Inhabited Bal] [DecidableEq Ledg] [Inhabited Ledg] [DecidableEq Leg] [Inhabited Leg] [DecidableEq Acc] [Inhabited Acc] [DecidableEq AccR] [Inhabited AccR] [DecidableEq AccsR] [Inhabited AccsR] [DecidableEq SltsR] [Inhabited SltsR]

theorem cntTo_all {α : Type} {f : α → Nat} {M : Nat} : ∀ (k : Nat) (xs : List α), (∀ x ∈ xs, f x ≤ M) → cntTo f k xs ≤ k * M
  | 0, _, _ => by simp [cntTo]
  | k + 1, [], _ => by simp [cntTo]
  | k + 1, x :: xs, h => by
    have h1 := cntTo_all k xs (fun y hy => h y (by simp [hy]))
    have h2 := h x (by simp)
    simp only [cntTo]
    rw [Nat.succ_mul]
    omega
theorem wtL_all {α : Type} {f : α → Nat} {M N : Nat} (xs : List α) (h : ∀ x ∈ xs, f x ≤ M) (hn : xs.length ≤ N) : wtL f xs ≤ N + N * M := by
  have h1 := cntTo_all xs.length xs h
  have h2 : xs.length * M ≤ N * M := Nat.mul_le_mul_right _ hn
  unfold wtL
  omega
theorem accOk_mem {xs : List Slt} (h : AccOk xs) {x : Slt} (hx : x ∈ xs) : sltFault x = 0 := by
  obtain ⟨i, hi, rfl⟩ := List.getElem_of_mem hx
  have := h.ok i hi
  rw [List.getD_eq_getElem?_getD, List.getElem?_eq_getElem hi] at this
  exact this
theorem accOk_wt {xs : List Slt} (h : AccOk xs) {x : Slt} (hx : x ∈ xs) : wtSlt x ≤ 61 := by
  have := (sltOk_of (accOk_mem h hx)).len
  unfold wtSlt wtVots
  omega
end Go.Proofs.YtncmdeijimgchaaGreat

/-
  What a ballot tells is no greater than its bounds.
-/
namespace Go.Proofs.YtncmdeijimgchaaGreat
open Go.RowKit
set_option linter.unusedSectionVars false
variable [DecidableEq Vot] [Inhabited Vot] [DecidableEq Slt] [Inhabited Slt] [DecidableEq SltR] [Inhabited SltR] [DecidableEq Bal] [Inhabited Bal] [DecidableEq Ledg] [Inhabited Ledg] [DecidableEq Leg] [Inhabited Leg] [DecidableEq Acc] [Inhabited Acc] [DecidableEq AccR] [Inhabited AccR] [DecidableEq AccsR] [Inhabited AccsR] [DecidableEq SltsR] [Inhabited SltsR]

theorem listOk_wt {l : List Acc} (h : ListOk l) : wtAccs l ≤ 20005 := by
  refine wtL_all (M := 4000) (N := 5) l (fun x hx => ?_) h.hi
  obtain ⟨i, hi, rfl⟩ := List.getElem_of_mem hx
  have hk := h.ok i hi
  have e : l.getD i default = l[i] := by simp [List.getD, hi]
  rw [e] at hk
  have ok := accOk_of hk
  unfold wtAcc wtSlts
  have := wtL_all (f := wtSlt) (M := 61) (N := 60) l[i].slots (fun x hx => accOk_wt ok hx) ok.len
  omega
theorem runD_wt (l : List Acc) (R : List Int) (c s b own : Int) : wtAccsR (runD l R c s b own) ≤ 20005 := by
  unfold runD wtAccsR
  by_cases h : freC l c s = 0
  · have hl := listOk_of (freC_ok h).1
    rw [if_pos h]
    by_cases h1 : balF R l.length b own = 0
    · rw [if_pos h1]
      split
      · exact listOk_wt (prN_ok R c s b hl _)
      · exact listOk_wt (acN_ok _ c s b _ (prN_ok R c s b hl _) _)
    · rw [if_neg h1]; exact Nat.zero_le _
  · rw [if_neg h]; exact Nat.zero_le _
end Go.Proofs.YtncmdeijimgchaaGreat

/-
  Rows of int64: the uniform forms. (Written by program: nest.py.)
-/
namespace Go.Proofs.YtncmdeijimgchaaGreat
open Go.RowKit
set_option linter.unusedSectionVars false
variable [DecidableEq Leg] [Inhabited Leg]
attribute [local go_sem ↓] Go.wp_at_zero Go.wp_at_succ

def intsR : Rep (List Int) := fRep 2 1 intsC IntsV IntsV_below IntsV_of_owns
def wtInts (xs : List Int) : Nat := xs.length
def cntInts (xs : List Int) : Nat := xs.length
def mkInts (k : Int) (xs : List Int) : List Int := marksI k xs.length
theorem ints_form {w : World} {v : Value} {xs : List Int} (h : intsR.V w v xs) : ∃ a c, v = .slice a xs.length c := by
  obtain ⟨a, c, rfl, _⟩ := h
  exact ⟨_, _, rfl⟩
theorem ints_cnt (d : List Int) : cntInts d ≤ 1 * wtInts d := by unfold cntInts wtInts; omega
theorem toInt64S_u (x : Value) (d : List Int) (w : World) (hx : intsR.V w x d) (hn : wtInts d ≤ 1048576) :
    Calls Tryz.prog 8 #[x] w fun e w' => ∃ v F, e = .returned v ∧ intsR.O w' w.heap.size F v d ∧ Below w.heap.size w w' := by
  refine (toInt64S_any x d w hx hn).mono ?_
  rintro e w' ⟨v, rfl, ho, hb⟩
  exact ⟨v, _, rfl, ⟨ho, rfl⟩, hb⟩
theorem eqInt64S_u (x y : Value) (d d' : List Int) (w : World) (hx : intsR.V w x d) (hy : intsR.V w y d') :
    Calls Tryz.prog 12 #[x, y] w fun e w' => e = .returned (.bool (decide (d = d'))) ∧ Below w.heap.size w w' := eqInt64S_any x y d d' w hx hy
theorem markInt64S_u (v : Value) (d : List Int) (base : Nat) (F : Nat → Prop) (k : Int) (w : World) (ho : intsR.O w base F v d) (hw : wtInts d ≤ 1048576) (hn : k + cntInts d ≤ 1073741824) (hk0 : 0 ≤ k) :
    Calls Tryz.prog 14 #[v, .int .i64 k] w fun r w' => r = .returned (.int .i64 (k + cntInts d)) ∧ intsR.O w' base F v (mkInts k d) ∧ Mod F w w' := by
  refine (markInt64S_any v d.length _ base _ k w ho.1 hw hk0 (by omega)).mono ?_
  rintro e w' ⟨rfl, h1, h2⟩
  refine ⟨by simp [cntInts], ⟨?_, ho.2⟩, by rw [ho.2]; exact Mod.of_grown h2⟩
  unfold mkInts
  rw [length_marksI]
  exact h1
end Go.Proofs.YtncmdeijimgchaaGreat

/-
  What is handed in, read as data, is data in memory: rows and structs of rows.
-/
namespace Go.Proofs.YtncmdeijimgchaaGreat
open Go.ChangeShapes Go.WideShapes Go.ChangeAt Go.RowKit Go.Joins

theorem spot_none {W : World} {base k : Nat} {a : Addr} {cs : List Value} (hk : 0 < k) (hc : W.cells? base a k = some cs) : a.spot = none := by
  obtain ⟨hb, hl, hcell⟩ := World.cells?_some hc
  have q0 := hcell 0 hk
  obtain ⟨b, o, s⟩ := a
  cases s with
  | none => rfl
  | some s =>
    have : 0 < cs.length := by omega
    simp [Addr.add, World.cell?, this] at q0
    split at q0 <;> simp at q0
theorem add_plain (b o i : Nat) : (Addr.mk b o none).add i = ⟨b, o + i, none⟩ := by
  by_cases h : i = 0
  · subst h; simp [Addr.add]
  · simp [Addr.add, h]
theorem openRow {H : Type} {enc : TypeId × Value → H} {W : World} {sp : Nat → Bool} {held : Bool} {n : Nat} {v : Value} {y : DataW H × List MemPlace} {t e size : Nat} {α : Type} [Inhabited α] {q : List Value → α → Prop}
    (ht : Tryz.prog.underlying t = some (.slice e)) (hz : Tryz.prog.cellsOf e = size) (hs : 0 < size)
    (hq : ∀ n cs y, DataW.trod enc Tryz.prog W 0 sp held n e cs = some y → cs.length = size → ∃ x, q cs x) (h : DataW.trod enc Tryz.prog W 0 sp held n t [v] = some y) :
    ∃ (a : Option Addr) (cap : Nat) (xs : List α) (cs : Nat → List Value), v = .slice a xs.length cap ∧ xs.length ≤ cap ∧ cap ≤ maxLen ∧ ∀ i, i < xs.length → q (cs i) (xs.getD i default) ∧ (cs i).length = size ∧ ∃ b o, a = some ⟨b, o, none⟩ ∧ ∀ j, j < size → W.cell? ⟨b, o + i * size + j, none⟩ = (cs i)[j]? := by
  rcases Go.Deep.open_slice ht h with ⟨hcs, _⟩ | ⟨a, len, cap, m, n', D, Pl, hcs, hb, hl, hm, hmm, _, hc⟩
  · simp at hcs
    subst hcs
    exact ⟨none, 0, [], fun _ => [], rfl, by simp, by unfold maxLen; omega, fun i hi => by simp at hi⟩
  · simp at hcs
    subst hcs
    have hlm : len ≤ m := by rw [hmm]; split <;> omega
    rw [hz] at hc
    have h1 : ∀ i, i < len → ∃ z : List Value × α, q z.1 z.2 ∧ z.1.length = size ∧ ∃ b o, a = ⟨b, o, none⟩ ∧ ∀ j, j < size → W.cell? ⟨b, o + i * size + j, none⟩ = z.1[j]? := by
      intro i hi
      obtain ⟨cs', h1, h2⟩ := hc i (by omega)
      obtain ⟨_, hl', hcell⟩ := World.cells?_some h1
      obtain ⟨x, hx⟩ := hq _ _ _ h2 hl'
      obtain ⟨cs0, k1, _⟩ := hc 0 (by omega)
      have hsp := spot_none hs k1
      obtain ⟨b, o, s⟩ := a
      have hs0 : s = none := by simpa [Addr.add] using hsp
      subst hs0
      refine ⟨(cs', x), hx, hl', b, o, rfl, fun j hj => ?_⟩
      have := hcell j hj
      rw [add_plain, add_plain] at this
      exact this
    obtain ⟨f, hf⟩ := Go.Deep.choose_lt h1
    refine ⟨some a, cap, (List.range len).map (fun i => (f i).2), fun i => (f i).1, by simp, by simpa using hl, hm, fun i hi => ?_⟩
    simp at hi
    obtain ⟨g1, g2, b, o, rfl, g3⟩ := hf i hi
    have e : (List.map (fun i => (f i).2) (List.range len)).getD i default = (f i).2 := by simp [List.getD, hi]
    rw [e]
    exact ⟨g1, g2, b, o, rfl, g3⟩
theorem openN {H : Type} {enc : TypeId × Value → H} {W : World} {sp : Nat → Bool} {held : Bool} {n : Nat} {v : Value} {y : DataW H × List MemPlace} {t e size : Nat} {α : Type} [Inhabited α] {R : Rep α} {te : Nat} {lv : Value → List Value}
    (ht : Tryz.prog.underlying t = some (.slice e)) (hz : Tryz.prog.cellsOf e = size) (hs : 0 < size)
    (hq : ∀ n cs y, DataW.trod enc Tryz.prog W 0 sp held n e cs = some y → cs.length = size → ∃ x u, lv u = cs ∧ R.V W u x) (h : DataW.trod enc Tryz.prog W 0 sp held n t [v] = some y) :
    ∃ xs : List α, (nRep R te size lv).V W v xs := by
  obtain ⟨a, cap, xs, cs, rfl, h1, h2, h3⟩ := openRow (q := fun cs x => ∃ u, lv u = cs ∧ R.V W u x) ht hz hs hq h
  refine ⟨xs, a, cap, rfl, h1, h2, fun i hi => ?_⟩
  obtain ⟨⟨u, g1, g2⟩, g3, b, o, g4, g5⟩ := h3 i hi
  exact ⟨b, o, u, g4, by rw [g1]; exact g3, fun j hj => by rw [g1]; exact g5 j hj, g2⟩
end Go.Proofs.YtncmdeijimgchaaGreat


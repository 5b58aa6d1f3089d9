/-
  slices.SortFunc over keys of a book.
-/
import Derived.Test.YteebglgbeijolaaSrt
namespace Go.Proofs.Yteebglgbeijolaa
open Go.RowKit Go.Sort Go.Shelf
set_option linter.unusedSectionVars false
variable [DecidableEq Rw] [Inhabited Rw] [DecidableEq Bal] [Inhabited Bal] [DecidableEq Ledg] [Inhabited Ledg] [DecidableEq Leg] [Inhabited Leg]
set_option linter.unusedVariables false
set_option linter.unusedSimpArgs false

theorem get_keysC (xs : List K3) : ∀ i c, i < xs.length → c < 3 → (keysC xs)[i * 3 + c]? = (keyC (xs.getD i default))[c]? := by
  induction xs with
  | nil => intro i c h; simp at h
  | cons x xs ih =>
    intro i c hi hc
    have e : keysC (x :: xs) = keyC x ++ keysC xs := by simp [keysC]
    have l3 : (keyC x).length = 3 := rfl
    rw [e]
    cases i with
    | zero =>
      rw [List.getElem?_append_left (by omega)]
      simp
    | succ i =>
      rw [List.getElem?_append_right (by omega), l3, show (i + 1) * 3 + c - 3 = i * 3 + c by omega, ih i c (by simpa using hi) hc]
      simp
theorem holds_keys {w : World} {base g cap : Nat} {xs : List K3} (h : w.ownsRow base 180 3 (.slice (some ⟨g, 0, none⟩) xs.length cap) xs.length (keysC xs)) : HoldsK keyC 3 w g 0 xs.toArray := by
  intro j hj
  simp only [size_flatK, List.size_toArray] at hj
  have hd : j / 3 < xs.length := by omega
  have hm : j % 3 < 3 := by omega
  refine ⟨?_, h.frozenAt _⟩
  rw [Nat.zero_add, h.cellAt j hj, get_flatK keyC 3 xs.toArray j (by simpa using hj)]
  have e := get_keysC xs (j / 3) (j % 3) hd hm
  rw [show j / 3 * 3 + j % 3 = j by omega] at e
  rw [e]
  have e2 : xs.toArray[j / 3]! = xs.getD (j / 3) default := by simp [List.getD, hd]
  rw [e2]
  generalize xs.getD (j / 3) default = x
  have : j % 3 = 0 ∨ j % 3 = 1 ∨ j % 3 = 2 := by omega
  rcases this with h | h | h <;> rw [h] <;> rfl
theorem sortWorld_below (w : World) (base g m : Nat) (d : Array K3) (os : Array Obj) (hg : base ≤ g) (hb : base ≤ w.heap.size) : Go.RowKit.Below base w (sortWorldK keyC 3 w g 0 m d os) := by
  refine ⟨rfl, rfl, rfl, ?_, fun i hi => ?_⟩
  · simp [sortWorldK, grow, putRowK, putRow, mapBlock, Sort.ahead]
  · simp only [sortWorldK, grow, putRowK, putRow, mapBlock, Sort.ahead]
    rw [Array.getElem?_append_left (by simp; omega), Array.getElem?_modify]
    rw [if_neg (by omega)]

set_option maxHeartbeats 1000000 in
theorem sortK_any (ρ : Ren) (L : SlLaysF0.n6 Try.prog ρ) (hf : ρ.f 6 = 159) (ht : ρ.t 24 = 180) (xs : List K3) (g cap base : Nat) (W : World) (ho : W.ownsRow base 180 3 (.slice (some ⟨g, 0, none⟩) xs.length cap) xs.length (keysC xs)) (hbs : base ≤ W.heap.size) (hn : xs.length ≤ 200) :
    Calls Try.prog 159 #[.slice (some ⟨g, 0, none⟩) xs.length cap, .func (.func 136) #[] #[]] W fun e w' => e = .returned (.tuple #[]) ∧ ∃ ys : List K3, ys.Perm xs ∧ ys.Pairwise (fun p q => ltOf cfK q p = false) ∧ (∀ i, i < ys.length → keyCells w' g (i * 3) (ys.getD i default)) ∧ Go.RowKit.Below base W w' := by
  have eg : ∀ args w, (callFunc 136 args).run Try.prog w = .ok (.enter 136 args) w := enters_of Try.func136 (by kernel_rfl) rfl
  have aE : ∀ w, (isAgg (ρ.t 24)).run Try.prog w = .ok true w := fun w => by rw [ht]; exact Try.isAgg180 w
  have zE : ∀ w, (Go.sizeOf (ρ.t 24)).run Try.prog w = .ok 3 w := fun w => by rw [ht]; exact Try.sizeOf180 w
  have hH := holds_keys ho
  have hg := ho.lt g rfl
  have hcon := AnyQ.slices_SortFunc L 3 aE zE keyC (fun _ => rfl) keyC_one cfK swoK 136 #[] g 0 cap xs.toArray W eg (cmpLaysK g 0 _ W) hH hg.2 (by simp; omega)
  rw [hf] at hcon
  simp only [List.size_toArray] at hcon
  refine hcon.mono ?_
  rintro e w' ⟨rfl, d', n, os, hp, hs, rfl⟩
  obtain ⟨hsz, _, hperm⟩ := hp
  simp only [List.size_toArray] at hsz hperm
  have hP : d'.toList.Perm xs := by
    have e1 : d'.extract 0 xs.length = d' := by rw [← hsz]; simp
    have e2 : xs.toArray.extract 0 xs.length = xs.toArray := by simp
    rw [e1, e2] at hperm
    exact hperm
  have hHo : HoldsK keyC 3 (sortWorldK keyC 3 W g 0 n d' os) g 0 d' := holdsK_grow (enc := keyC) (k := 3) _ os g 0 d' (by simp [putRowK, putRow, mapBlock, Sort.ahead]; exact hg.2) (holdsK_putRowK (enc := keyC) (k := 3) (Sort.ahead W n) g 0 xs.toArray d' (holdsK_ahead (enc := keyC) (k := 3) W n g 0 _ hH) (by simp [hsz]))
  refine ⟨rfl, d'.toList, hP, ?_, fun i hi => ?_, sortWorld_below W base g n d' os hg.1 hbs⟩
  · rw [List.pairwise_iff_getElem]
    intro i j hi hj hij
    simp only [Array.length_toList] at hi hj
    have := hs i j (Nat.zero_le _) hij (by omega)
    simpa [hi, hj] using this
  · simp only [Array.length_toList] at hi
    have e : d'.toList.getD i default = d'[i]! := by simp [List.getD, hi]
    rw [e]
    have c0 := (hHo.cell hi (c := 0) (by omega)).1
    have c1 := (hHo.cell hi (c := 1) (by omega)).1
    have c2 := (hHo.cell hi (c := 2) (by omega)).1
    simp only [Nat.zero_add, Nat.add_zero] at c0 c1 c2
    generalize d'[i]! = x at *
    exact ⟨c0, c1, c2⟩

end Go.Proofs.Yteebglgbeijolaa

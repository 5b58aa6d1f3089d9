/-
  slices.Insert of one row, whatever room there is.
-/
import Derived.Test.YtdfapehonegeeaaInsE
import Derived.Test.YtdfapehonegeeaaInsG
namespace Go.Proofs.Ytdfapehonegeeaa
open Go.RowKit Go.Shelf
set_option linter.unusedSectionVars false
variable [DecidableEq Rw] [Inhabited Rw] [DecidableEq TabR] [Inhabited TabR]
set_option linter.unusedVariables false
set_option linter.unusedSimpArgs false

theorem rwsC_take (xs : List Rw) (i : Nat) : rwsC (xs.take i) = (rwsC xs).take (i * 4) := by
  induction xs generalizing i with
  | nil => simp [rwsC]
  | cons x xs ih =>
    cases i with
    | zero => simp [rwsC]
    | succ i =>
      have e : rwsC (x :: xs) = rowC x ++ rwsC xs := by simp [rwsC]
      have e2 : rwsC ((x :: xs).take (i + 1)) = rowC x ++ rwsC (xs.take i) := by simp [rwsC]
      have hl : (rowC x).length = 4 := rfl
      rw [e, e2, ih, List.take_append]
      rw [List.take_of_length_le (l := rowC x) (by omega), hl, show (i + 1) * 4 - 4 = i * 4 by omega]
theorem rwsC_drop (xs : List Rw) (i : Nat) : rwsC (xs.drop i) = (rwsC xs).drop (i * 4) := by
  induction xs generalizing i with
  | nil => simp [rwsC]
  | cons x xs ih =>
    cases i with
    | zero => simp [rwsC]
    | succ i =>
      have e : rwsC (x :: xs) = rowC x ++ rwsC xs := by simp [rwsC]
      have e2 : rwsC ((x :: xs).drop (i + 1)) = rwsC (xs.drop i) := by simp [rwsC]
      have hl : (rowC x).length = 4 := rfl
      rw [e, e2, ih, List.drop_append]
      rw [List.drop_of_length_le (l := rowC x) (by omega), hl, show (i + 1) * 4 - 4 = i * 4 by omega, List.nil_append]

/-- what an answer of slices.Insert is -/
def InsR (base : Nat) (v : Value) (ys : List Rw) (w : World) (e : Ending) (w' : World) : Prop :=
  ∃ v', e = .returned v' ∧ w'.ownsRow base 32 4 v' ys.length (rwsC ys) ∧ Mod (fun b => v.ownBlock = some b) w w' ∧ (∀ b, v'.ownBlock = some b → v.ownBlock = some b ∨ (w.heap.size ≤ b ∧ b < w'.heap.size))

theorem insert_any (base : Nat) (v : Value) (i vb : Nat) (xs : List Rw) (r : Rw) (w : World) (hown : w.ownsRow base 32 4 v xs.length (rwsC xs)) (hi : i ≤ xs.length) (hn : xs.length ≤ 1048000) (hbase : base ≤ w.heap.size)
    (hv : w.heap[vb]? = some (.cells (rowC r).toArray 32 (0, 0))) (hvb : v.ownBlock ≠ some vb) :
    Calls Try.prog 127 #[v, .int .i64 i, .slice (some ⟨vb, 0, none⟩) 1 1] w (InsR base v (xs.take i ++ [r] ++ xs.drop i) w) := by
  have hl : (xs.take i ++ [r] ++ xs.drop i).length = xs.length + 1 := by simp only [List.length_append, List.length_take, List.length_drop, List.length_cons, List.length_nil]; omega
  have hcc : rwsC (xs.take i ++ [r] ++ xs.drop i) = (rwsC xs).take (i * 4) ++ rowC r ++ (rwsC xs).drop (i * 4) := by
    rw [rwsC_app, rwsC_app, rwsC_take, rwsC_drop]
    simp [rwsC]
  have hcl : (rwsC xs).length = xs.length * 4 := length_rwsC xs
  unfold InsR
  rw [hl, hcc]
  by_cases hie : i = xs.length
  · subst hie
    refine (insert_end base v xs.length vb (rwsC xs) (rowC r) w hown (by omega) hbase rfl hv (rowC_one r)).mono ?_
    rintro e w' ⟨v', rfl, h1, h2, h3⟩
    refine ⟨v', rfl, ?_, Mod.of_grown h2, fun b hb => ?_⟩
    · rw [List.take_of_length_le (by omega), List.drop_of_length_le (by omega), List.append_nil]
      exact h1
    · rcases h3 with h3 | h3
      · exact .inl (h3 ▸ hb)
      · rw [h3] at hb
        simp only [Option.some.injEq] at hb
        have := (h1.lt b (by rw [h3, hb])).2
        exact .inr ⟨by omega, this⟩
  · rcases hown.2 with ⟨_, h0⟩ | ⟨g, cap, cur, rfl, hbg, hg, hnc, hcm, hcs, htake⟩
    · omega
    · have hne : vb ≠ g := fun e => hvb (by rw [e]; rfl)
      have hgl : g < w.heap.size := (Array.getElem?_eq_some_iff.1 hg).1
      by_cases hroom : xs.length + 1 ≤ cap
      · refine (insert_shift g xs.length cap i vb (rwsC xs) (rowC r) cur w hg (by omega) hroom (by unfold maxLen at hcm; omega) hne hcs hcl htake rfl hv (rwsC_oneC xs) (rowC_one r)).mono ?_
        rintro e w' ⟨rfl, cur', h1, h2, h3, h4⟩
        refine ⟨_, rfl, ⟨?_, .inr ⟨g, cap, cur', rfl, hbg, h1, hroom, hcm, h2, h3⟩⟩, h4.mono (fun b h => by rw [h]; rfl), fun b hb => .inl hb⟩
        rw [← hcc, length_rwsC, hl]
      · refine (insert_grow g xs.length cap i vb (rwsC xs) (rowC r) w (by omega) hnc (by omega) (by omega) hcl (fun j v hj => ?_) rfl hv (rwsC_oneC xs) (rowC_one r)).mono ?_
        · refine cell_row hg ?_
          rw [← htake, List.getElem?_take] at hj
          split at hj
          · exact hj
          · cases hj
        · rintro e w' ⟨G, rfl, cur', h1, h2, h3, h4, h5, h6⟩
          have hlt := (Array.getElem?_eq_some_iff.1 h1).1
          refine ⟨_, rfl, ⟨?_, .inr ⟨w.heap.size, G, cur', rfl, hbase, h1, h2, h3, h4, h5⟩⟩, h6.mono (fun b h => h.elim), fun b hb => ?_⟩
          · rw [← hcc, length_rwsC, hl]
          · simp only [Value.ownBlock, Option.some.injEq] at hb
            exact .inr ⟨by omega, by omega⟩

end Go.Proofs.Ytdfapehonegeeaa

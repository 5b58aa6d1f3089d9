/-
  TotalOf on both sides.
-/
import Derived.Test.YteebglgbeijolaaTot
namespace Go.Proofs.Yteebglgbeijolaa
open Go.RowKit Go.Maps
set_option linter.unusedSectionVars false
variable [DecidableEq Bal] [Inhabited Bal] [DecidableEq Ledg] [Inhabited Ledg] [DecidableEq Leg] [Inhabited Leg] [DecidableEq Cont] [Inhabited Cont]
attribute [local go_sem ↓] Go.wp_at_zero Go.wp_at_succ

theorem invV64 (v : Value) (y : DataW Unit × List MemPlace) (h : plainElem Try.prog 2 v = some y) : ∃ c : Int, v = (fun c => Value.int .i64 c) c := by
  obtain ⟨c, rfl, _⟩ := plainElem_int_inv Try.underlying2 h
  exact ⟨c, rfl⟩
theorem invKh (key : Value) (kl : Lit) (h : keyOf Try.prog 180 key = some kl) : ∃ x : Int × Int × Int, key = (fun x : Int × Int × Int => Value.agg #[.int .i64 x.1, .int .i64 x.2.1, .int .i64 x.2.2]) x := by
  obtain ⟨s, a, t, rfl, _⟩ := kv_of_key h
  exact ⟨(s, a, t), rfl⟩

theorem domF_of {g : Ledg} (h : ledFault g = 0) : domF (bookF g.shards) := by
  intro s a t hs
  obtain ⟨h1, h3, hok⟩ := ledOk_of h
  unfold bookF at hs
  split at hs
  · rename_i hr
    have hb := hok s.toNat (by omega)
    refine ⟨by omega, ?_⟩
    have key : ∀ (xs : List Bal), (∀ k, k < xs.length → balOk (xs.getD k default) = true) → (getB a t xs).isSome = true → (0 ≤ a ∧ a ≤ 5) ∧ (0 ≤ t ∧ t ≤ 2) := by
      intro xs
      induction xs with
      | nil => intro _ h; simp [getB] at h
      | cons x r ih =>
        intro hk h
        simp only [getB] at h
        split at h
        · rename_i e
          have := (balOk_iff.1 (hk 0 (by simp))).1
          simp only [List.getD_cons_zero] at this
          rw [← e.1, ← e.2]
          exact this
        · exact ih (fun k hk' => by have := hk (k + 1) (by simpa using hk'); simpa only [List.getD_cons_succ] using this) h
    exact key _ hb.ok hs
  · simp at hs

theorem sumB_append (t : Int) : ∀ (l r : List Bal), sumB t (l ++ r) = sumB t l + sumB t r
  | [], r => by simp [sumB]
  | x :: l, r => by simp only [List.cons_append, sumB, sumB_append t l r]; omega
theorem sumB_snoc (t : Int) {xs : List Bal} {k : Nat} (h : k < xs.length) : sumB t (xs.take (k + 1)) = sumB t (xs.take k) + if (xs.getD k default).ast = t then (xs.getD k default).am else 0 := by
  rw [take_bal xs k h, sumB_append]; simp [sumB]
theorem sumG_append (t : Int) : ∀ (l r : List (List Bal)), sumG t (l ++ r) = sumG t l + sumG t r
  | [], r => by simp [sumG]
  | x :: l, r => by simp only [List.cons_append, sumG, sumG_append t l r]; omega
theorem sumG_snoc (t : Int) {xs : List (List Bal)} {k : Nat} (h : k < xs.length) : sumG t (xs.take (k + 1)) = sumG t (xs.take k) + sumB t (xs.getD k default) := by
  rw [List.take_add_one, sumG_append]; simp [sumG, List.getD, h]
theorem sumB_le {t : Int} {xs : List Bal} (h : ∀ k, k < xs.length → balOk (xs.getD k default) = true) : ∀ k, k ≤ xs.length → 0 ≤ sumB t (xs.take k) ∧ sumB t (xs.take k) ≤ 1000000000000 * k
  | 0, _ => by simp [sumB]
  | k + 1, hk => by
    have ih := sumB_le (t := t) h k (by omega)
    have hb := (balOk_iff.1 (h k (by omega))).2
    rw [sumB_snoc t (by omega)]
    split <;> omega
theorem sumG_le {t : Int} {sh : List (List Bal)} (h : ∀ k, k < sh.length → BalsOk (sh.getD k default)) : ∀ k, k ≤ sh.length → 0 ≤ sumG t (sh.take k) ∧ sumG t (sh.take k) ≤ 18000000000000 * k
  | 0, _ => by simp [sumG]
  | k + 1, hk => by
    have ih := sumG_le (t := t) h k (by omega)
    have hb := h k (by omega)
    have h2 := sumB_le (t := t) hb.ok _ (Nat.le_refl _)
    rw [List.take_length] at h2
    have := hb.len
    rw [sumG_snoc t (by omega)]
    omega

end Go.Proofs.Yteebglgbeijolaa

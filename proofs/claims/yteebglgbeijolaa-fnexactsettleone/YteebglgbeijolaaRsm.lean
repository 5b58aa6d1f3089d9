/-
  Balances in order: what a leg does to them, in mathematics.
-/
import Derived.Test.YteebglgbeijolaaStm
import Derived.Test.YteebglgbeijolaaLed2
namespace Go.Proofs.Yteebglgbeijolaa
open Go.RowKit
set_option linter.unusedSectionVars false
variable [DecidableEq Bal] [Inhabited Bal] [DecidableEq Ledg] [Inhabited Ledg] [DecidableEq Leg] [Inhabited Leg] [DecidableEq Cont] [Inhabited Cont] [DecidableEq LedgR] [Inhabited LedgR]
set_option linter.unusedVariables false
set_option linter.unusedSimpArgs false

/-- where a balance stands -/
def plB (x : Bal) : Int := x.ac * 3 + x.ast
/-- balances that rise, of right accounts and assets -/
structure RiseB (xs : List Bal) : Prop where
  rise : xs.Pairwise (fun p q => plB p < plB q)
  key : ∀ x ∈ xs, keyOk x.ac x.ast = true
theorem plB_inj {x y : Bal} (hx : keyOk x.ac x.ast = true) (hy : keyOk y.ac y.ast = true) (h : plB x = plB y) : x.ac = y.ac ∧ x.ast = y.ast := by
  have h1 := keyOk_iff.1 hx
  have h2 := keyOk_iff.1 hy
  unfold plB at h
  omega
theorem RiseB.tail {x : Bal} {xs : List Bal} (h : RiseB (x :: xs)) : RiseB xs := ⟨(List.pairwise_cons.1 h.rise).2, fun y hy => h.key y (List.mem_cons_of_mem _ hy)⟩
theorem getB_mem {a t : Int} : ∀ {xs : List Bal} {v : Int}, getB a t xs = some v → ∃ x ∈ xs, x.ac = a ∧ x.ast = t ∧ x.am = v
  | [], _, h => by simp [getB] at h
  | x :: xs, v, h => by
    simp only [getB] at h
    split at h
    · rename_i hc
      exact ⟨x, List.mem_cons_self .., hc.1, hc.2, by simpa using h⟩
    · obtain ⟨y, hy, e⟩ := getB_mem h
      exact ⟨y, List.mem_cons_of_mem _ hy, e⟩
theorem getB_not {a t : Int} {xs : List Bal} (h : ∀ x ∈ xs, ¬ (x.ac = a ∧ x.ast = t)) : getB a t xs = none := by
  cases hg : getB a t xs with
  | none => rfl
  | some v =>
    obtain ⟨x, hx, e1, e2, _⟩ := getB_mem hg
    exact absurd ⟨e1, e2⟩ (h x hx)
theorem getB_head (x : Bal) (xs : List Bal) : getB x.ac x.ast (x :: xs) = some x.am := by
  simp only [getB]
  rw [if_pos ⟨trivial, trivial⟩]
theorem getB_tail {x : Bal} {xs : List Bal} {a t : Int} (h : ¬ (x.ac = a ∧ x.ast = t)) : getB a t (x :: xs) = getB a t xs := by
  simp only [getB]
  rw [if_neg h]
theorem rise_head_none {x : Bal} {xs : List Bal} (h : RiseB (x :: xs)) : getB x.ac x.ast xs = none := getB_not (fun y hy e => by
  have := (List.pairwise_cons.1 h.rise).1 y hy
  unfold plB at this
  omega)
/-- rising balances that tell the same are the same -/
theorem rise_ext : ∀ {xs ys : List Bal}, RiseB xs → RiseB ys → (∀ a t, getB a t xs = getB a t ys) → xs = ys
  | [], [], _, _, _ => rfl
  | [], y :: ys, _, _, h => by
    have := h y.ac y.ast
    rw [getB_head] at this
    simp [getB] at this
  | x :: xs, [], _, _, h => by
    have := h x.ac x.ast
    rw [getB_head] at this
    simp [getB] at this
  | x :: xs, y :: ys, hx, hy, h => by
    have hxk := hx.key x (List.mem_cons_self ..)
    have hyk := hy.key y (List.mem_cons_self ..)
    have hpl : plB x = plB y := by
      rcases Int.lt_trichotomy (plB x) (plB y) with hl | hl | hl
      · have h1 := h x.ac x.ast
        rw [getB_head] at h1
        obtain ⟨z, hz, e1, e2, _⟩ := getB_mem h1.symm
        have hzp : plB z = plB x := by unfold plB; rw [e1, e2]
        rcases List.mem_cons.1 hz with rfl | hz
        · omega
        · have := (List.pairwise_cons.1 hy.rise).1 z hz
          omega
      · exact hl
      · have h1 := h y.ac y.ast
        rw [getB_head] at h1
        obtain ⟨z, hz, e1, e2, _⟩ := getB_mem h1
        have hzp : plB z = plB y := by unfold plB; rw [e1, e2]
        rcases List.mem_cons.1 hz with rfl | hz
        · omega
        · have := (List.pairwise_cons.1 hx.rise).1 z hz
          omega
    obtain ⟨e1, e2⟩ := plB_inj hxk hyk hpl
    have hxy : x = y := by
      have h1 := h x.ac x.ast
      rw [getB_head, e1, e2, getB_head] at h1
      obtain ⟨a, t, v⟩ := x
      obtain ⟨a', t', v'⟩ := y
      simp only at e1 e2
      simp only [Option.some.injEq] at h1
      rw [e1, e2, h1]
    subst hxy
    congr 1
    refine rise_ext hx.tail hy.tail (fun a t => ?_)
    by_cases hc : x.ac = a ∧ x.ast = t
    · rw [← hc.1, ← hc.2, rise_head_none hx, rise_head_none hy]
    · have := h a t
      rw [getB_tail hc, getB_tail hc] at this
      exact this

/-- setB, row by row -/
def setR (a t v : Int) : List Bal → Bool → List Bal
  | [], d => if d then [] else [⟨a, t, v⟩]
  | b :: r, d => if b.ac = a ∧ b.ast = t then setR a t v r d else if d = false ∧ a * 3 + t < b.ac * 3 + b.ast then ⟨a, t, v⟩ :: b :: setR a t v r true else b :: setR a t v r d
theorem set_fold (a t v : Int) : ∀ (xs acc : List Bal) (d : Bool), (if (xs.foldl (setStep a t v) (acc, d)).2 then (xs.foldl (setStep a t v) (acc, d)).1 else (xs.foldl (setStep a t v) (acc, d)).1 ++ [⟨a, t, v⟩]) = acc ++ setR a t v xs d
  | [], acc, d => by
    cases d <;> simp [setR]
  | b :: r, acc, d => by
    rw [List.foldl_cons]
    unfold setR
    by_cases h1 : b.ac = a ∧ b.ast = t
    · have e : setStep a t v (acc, d) b = (acc, d) := by unfold setStep; rw [if_pos h1]
      rw [e, set_fold a t v r acc d, if_pos h1]
    · by_cases h2 : d = false ∧ a * 3 + t < b.ac * 3 + b.ast
      · have e : setStep a t v (acc, d) b = (acc ++ [⟨a, t, v⟩] ++ [b], true) := by unfold setStep; rw [if_neg h1, if_pos h2]
        rw [e, set_fold a t v r _ true, if_neg h1, if_pos h2]
        simp
      · have e : setStep a t v (acc, d) b = (acc ++ [b], d) := by unfold setStep; rw [if_neg h1, if_neg h2]
        rw [e, set_fold a t v r _ d, if_neg h1, if_neg h2]
        simp
theorem setB_R (a t v : Int) (xs : List Bal) : setB a t v xs = setR a t v xs (decide (v = 0)) := by
  have h := set_fold a t v xs [] (decide (v = 0))
  rw [List.nil_append] at h
  unfold setB setTo
  rw [List.take_length]
  exact h
theorem setR_mem {a t v : Int} : ∀ {xs : List Bal} {d : Bool} {x : Bal}, x ∈ setR a t v xs d → x ∈ xs ∨ x = ⟨a, t, v⟩
  | [], d, x, h => by
    unfold setR at h
    split at h
    · cases h
    · exact .inr (List.mem_singleton.1 h)
  | b :: r, d, x, h => by
    unfold setR at h
    split at h
    · rcases setR_mem h with h | h
      · exact .inl (List.mem_cons_of_mem _ h)
      · exact .inr h
    · split at h
      · rcases List.mem_cons.1 h with h | h
        · exact .inr h
        · rcases List.mem_cons.1 h with h | h
          · exact .inl (by rw [h]; exact List.mem_cons_self ..)
          · rcases setR_mem h with h | h
            · exact .inl (List.mem_cons_of_mem _ h)
            · exact .inr h
      · rcases List.mem_cons.1 h with h | h
        · exact .inl (by rw [h]; exact List.mem_cons_self ..)
        · rcases setR_mem h with h | h
          · exact .inl (List.mem_cons_of_mem _ h)
          · exact .inr h
/-- what was put already is not put again -/
theorem setR_true {a t v : Int} : ∀ (xs : List Bal), setR a t v xs true = xs.filter (fun b => !decide (b.ac = a ∧ b.ast = t))
  | [] => rfl
  | b :: r => by
    unfold setR
    by_cases h1 : b.ac = a ∧ b.ast = t
    · rw [if_pos h1, setR_true r, List.filter_cons_of_neg (by simp [h1])]
    · rw [if_neg h1, if_neg (by simp), setR_true r, List.filter_cons_of_pos (by rw [decide_eq_false h1]; rfl)]
theorem getB_filter {a t a' t' : Int} : ∀ (xs : List Bal), getB a' t' (xs.filter (fun b => !decide (b.ac = a ∧ b.ast = t))) = if a' = a ∧ t' = t then none else getB a' t' xs
  | [] => by simp [getB]
  | b :: r => by
    by_cases h1 : b.ac = a ∧ b.ast = t
    · rw [List.filter_cons_of_neg (by simp [h1]), getB_filter r]
      split
      · rfl
      · rename_i h2
        rw [getB_tail (fun h3 => h2 ⟨h3.1.symm.trans h1.1, h3.2.symm.trans h1.2⟩)]
    · rw [List.filter_cons_of_pos (by rw [decide_eq_false h1]; rfl)]
      by_cases h3 : b.ac = a' ∧ b.ast = t'
      · rw [← h3.1, ← h3.2, getB_head, getB_head, if_neg h1]
      · rw [getB_tail h3, getB_tail h3, getB_filter r]
theorem rise_filter {xs : List Bal} (h : RiseB xs) (p : Bal → Bool) : RiseB (xs.filter p) := ⟨List.Pairwise.sublist List.filter_sublist h.rise, fun x hx => h.key x (List.mem_filter.1 hx).1⟩
theorem setR_false {a t v : Int} (hk : keyOk a t = true) : ∀ {xs : List Bal}, RiseB xs → RiseB (setR a t v xs false) ∧ ∀ a' t', getB a' t' (setR a t v xs false) = if a' = a ∧ t' = t then some v else getB a' t' xs
  | [], _ => by
    unfold setR
    rw [if_neg (by simp)]
    refine ⟨⟨by simp, fun x hx => by rw [List.mem_singleton.1 hx]; exact hk⟩, fun a' t' => ?_⟩
    by_cases e : a' = a ∧ t' = t
    · rw [if_pos e, e.1, e.2]
      exact getB_head ⟨a, t, v⟩ []
    · rw [if_neg e, getB_tail (fun h => e ⟨h.1.symm, h.2.symm⟩)]
  | b :: r, h => by
    have hb := h.key b (List.mem_cons_self ..)
    have ih := setR_false (v := v) hk (xs := r) h.tail
    have hp := (List.pairwise_cons.1 h.rise).1
    unfold setR
    by_cases h1 : b.ac = a ∧ b.ast = t
    · rw [if_pos h1]
      refine ⟨ih.1, fun a' t' => ?_⟩
      rw [ih.2]
      split
      · rfl
      · rename_i h2
        rw [getB_tail (fun h3 => h2 ⟨h3.1.symm.trans h1.1, h3.2.symm.trans h1.2⟩)]
    · rw [if_neg h1]
      by_cases h2 : a * 3 + t < b.ac * 3 + b.ast
      · rw [if_pos ⟨rfl, h2⟩, setR_true r]
        have hnone : ∀ y ∈ r, ¬ (y.ac = a ∧ y.ast = t) := fun y hy e => by
          have := hp y hy
          unfold plB at this
          rw [e.1, e.2] at this
          omega
        have hf : r.filter (fun b => !decide (b.ac = a ∧ b.ast = t)) = r := List.filter_eq_self.2 (fun y hy => by rw [decide_eq_false (hnone y hy)]; rfl)
        rw [hf]
        refine ⟨⟨?_, fun x hx => ?_⟩, fun a' t' => ?_⟩
        · rw [List.pairwise_cons]
          refine ⟨fun y hy => ?_, h.rise⟩
          show a * 3 + t < plB y
          rcases List.mem_cons.1 hy with rfl | hy
          · exact h2
          · have := hp y hy
            unfold plB at this ⊢
            omega
        · rcases List.mem_cons.1 hx with rfl | hx
          · exact hk
          · exact h.key x hx
        · by_cases e : a' = a ∧ t' = t
          · rw [if_pos e, e.1, e.2]
            exact getB_head ⟨a, t, v⟩ _
          · rw [if_neg e, getB_tail (fun h => e ⟨h.1.symm, h.2.symm⟩)]
      · rw [if_neg (fun h3 => h2 h3.2)]
        have hlt : plB b < a * 3 + t := by
          have hne : plB b ≠ a * 3 + t := fun e => h1 (plB_inj (y := ⟨a, t, v⟩) hb hk e)
          unfold plB at hne ⊢
          omega
        refine ⟨⟨?_, fun x hx => ?_⟩, fun a' t' => ?_⟩
        · rw [List.pairwise_cons]
          refine ⟨fun y hy => ?_, ih.1.rise⟩
          rcases setR_mem hy with hy | rfl
          · exact hp y hy
          · exact hlt
        · rcases List.mem_cons.1 hx with rfl | hx
          · exact hb
          · exact ih.1.key x hx
        · by_cases e3 : b.ac = a' ∧ b.ast = t'
          · rw [← e3.1, ← e3.2, getB_head, getB_head, if_neg h1]
          · rw [getB_tail e3, getB_tail e3, ih.2]
/-- what a balance set does -/
theorem setB_does {a t v : Int} (hk : keyOk a t = true) {xs : List Bal} (h : RiseB xs) : RiseB (setB a t v xs) ∧ ∀ a' t', getB a' t' (setB a t v xs) = if a' = a ∧ t' = t then (if v = 0 then none else some v) else getB a' t' xs := by
  rw [setB_R]
  by_cases hv : v = 0
  · rw [decide_eq_true hv, setR_true, if_pos hv]
    exact ⟨rise_filter h _, fun a' t' => getB_filter xs⟩
  · rw [decide_eq_false hv, if_neg hv]
    exact setR_false hk h

end Go.Proofs.Yteebglgbeijolaa

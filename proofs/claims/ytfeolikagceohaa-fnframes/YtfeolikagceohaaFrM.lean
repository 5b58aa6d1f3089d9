/-
  Records that stand one behind the other, and a beginning of their bytes: mathematics.
-/
import Derived.Test.YtfeolikagceohaaRecM
namespace Go.Proofs.Ytfeolikagceohaa
open Go.RowKit
set_option linter.unusedSectionVars false
variable [DecidableEq BytesR] [Inhabited BytesR] [DecidableEq RecsR] [Inhabited RecsR]

def okR (r : List Byte) : Prop := 1 ≤ r.length ∧ r.length ≤ 500
def framesB (rs : List (List Byte)) : List Byte := (rs.map frameB).flatten
theorem framesB_cons (r : List Byte) (rs : List (List Byte)) : framesB (r :: rs) = frameB r ++ framesB rs := by simp [framesB]
theorem framesB_snoc (r : List Byte) (rs : List (List Byte)) : framesB (rs ++ [r]) = framesB rs ++ frameB r := by simp [framesB]

theorem rec_frames : ∀ (rs : List (List Byte)), (∀ r ∈ rs, okR r) → recL (framesB rs) = rs ∧ recU (framesB rs) = (framesB rs).length
  | [], _ => by
    have e : framesB [] = [] := rfl
    rw [e, recL_end (frameSz_nil rfl), recU_end (frameSz_nil rfl)]
    exact ⟨rfl, rfl⟩
  | r :: rs, h => by
    have hr := h r List.mem_cons_self
    obtain ⟨i1, i2⟩ := rec_frames rs (fun q hq => h q (List.mem_cons_of_mem _ hq))
    obtain ⟨f1, f2⟩ := rec_frame r hr.1 hr.2
    obtain ⟨b1, b2⟩ := rec_behind (frameB r).length (frameB r) (framesB rs) (Nat.le_refl _) f2
    rw [framesB_cons, b1, b2, f1, i1, i2, f2, List.length_append]
    exact ⟨rfl, rfl⟩

/-- how many frames lie in the first c bytes -/
def cntf : List (List Byte) → Nat → Nat
  | [], _ => 0
  | r :: rs, c => if r.length + 4 ≤ c then 1 + cntf rs (c - (r.length + 4)) else 0
/-- how many bytes the first i frames are -/
def cumW : List (List Byte) → Nat → Nat
  | _, 0 => 0
  | [], _ => 0
  | r :: rs, i + 1 => r.length + 4 + cumW rs i
theorem cumW_zero (rs : List (List Byte)) : cumW rs 0 = 0 := by cases rs <;> rfl

theorem cumW_succ : ∀ (rs : List (List Byte)) (i : Nat), i < rs.length → cumW rs (i + 1) = cumW rs i + (rs.getD i default).length + 4
  | [], i, h => absurd h (Nat.not_lt_zero _)
  | r :: rs, 0, _ => by
    show r.length + 4 + cumW rs 0 = 0 + r.length + 4
    rw [cumW_zero]
    omega
  | r :: rs, i + 1, h => by
    have ih := cumW_succ rs i (by simpa using h)
    show r.length + 4 + cumW rs (i + 1) = r.length + 4 + cumW rs i + ((r :: rs).getD (i + 1) default).length + 4
    have e : (r :: rs).getD (i + 1) default = rs.getD i default := by simp [List.getD]
    rw [e, ih]
    omega

theorem cumW_le (rs : List (List Byte)) (h : ∀ r ∈ rs, okR r) : ∀ i, cumW rs i ≤ 504 * i := by
  induction rs with
  | nil => intro i; cases i <;> simp [cumW]
  | cons r rs ih =>
    intro i
    cases i with
    | zero => simp [cumW]
    | succ i =>
      have hr := h r List.mem_cons_self
      have := ih (fun q hq => h q (List.mem_cons_of_mem _ hq)) i
      unfold okR at hr
      show r.length + 4 + cumW rs i ≤ _
      omega

theorem framesB_len : ∀ (rs : List (List Byte)), (framesB rs).length = cumW rs rs.length
  | [] => rfl
  | r :: rs => by
    rw [framesB_cons, List.length_append, length_frameB, framesB_len rs, List.length_cons]
    rfl

theorem cnt_iff : ∀ (rs : List (List Byte)) (i c : Nat), i < rs.length → (cumW rs (i + 1) ≤ c ↔ i < cntf rs c)
  | [], i, c, h => absurd h (Nat.not_lt_zero _)
  | r :: rs, 0, c, _ => by
    show r.length + 4 + cumW rs 0 ≤ c ↔ 0 < (if r.length + 4 ≤ c then 1 + cntf rs (c - (r.length + 4)) else 0)
    rw [cumW_zero]
    split <;> omega
  | r :: rs, i + 1, c, h => by
    have ih := cnt_iff rs i (c - (r.length + 4)) (by simpa using h)
    show r.length + 4 + cumW rs (i + 1) ≤ c ↔ i + 1 < (if r.length + 4 ≤ c then 1 + cntf rs (c - (r.length + 4)) else 0)
    split <;> omega
theorem cntf_le : ∀ (rs : List (List Byte)) (c : Nat), cntf rs c ≤ rs.length
  | [], _ => Nat.le_refl _
  | r :: rs, c => by
    have ih := cntf_le rs (c - (r.length + 4))
    show (if r.length + 4 ≤ c then 1 + cntf rs (c - (r.length + 4)) else 0) ≤ _
    rw [List.length_cons]
    split <;> omega

theorem frameSz_cut (r X : List Byte) (c : Nat) (h : okR r) (hc : c < r.length + 4) : frameSz ((frameB r ++ X).take c) = 0 := by
  have hl : ((frameB r ++ X).take c).length ≤ c := by rw [List.length_take]; omega
  by_cases h4 : c ≤ 4
  · exact frameSz_short (by omega)
  have hN : fN ((frameB r ++ X).take c) = r.length := by
    unfold fN
    rw [getD_take _ _ _ (by omega), getD_take _ _ _ (by omega)]
    unfold frameB
    rw [hiB_two, hiB_two]
    have e := hiB2_val r.length (by omega) (by have := h.2; omega)
    simp only [List.cons_append, List.nil_append, List.getD, List.getElem?_cons_zero, List.getElem?_cons_succ, Option.getD_some]
    omega
  unfold frameSz
  rw [hN, if_neg (by omega)]

/-- of a beginning of the bytes the first ones -/
theorem recL_cut : ∀ (rs : List (List Byte)) (c : Nat), (∀ r ∈ rs, okR r) → recL ((framesB rs).take c) = rs.take (cntf rs c)
  | [], c, _ => by
    have e : (framesB []).take c = [] := by simp [framesB]
    rw [e, recL_end (frameSz_nil rfl)]
    rfl
  | r :: rs, c, h => by
    have hr := h r List.mem_cons_self
    rw [framesB_cons]
    show _ = (r :: rs).take (if r.length + 4 ≤ c then 1 + cntf rs (c - (r.length + 4)) else 0)
    by_cases hc : r.length + 4 ≤ c
    · rw [if_pos hc]
      have ih := recL_cut rs (c - (r.length + 4)) (fun q hq => h q (List.mem_cons_of_mem _ hq))
      obtain ⟨f1, f2⟩ := rec_frame r hr.1 hr.2
      have e : (frameB r ++ framesB rs).take c = frameB r ++ (framesB rs).take (c - (r.length + 4)) := by
        rw [List.take_append, List.take_of_length_le (by rw [length_frameB]; omega), length_frameB]
      obtain ⟨b1, _⟩ := rec_behind (frameB r).length (frameB r) ((framesB rs).take (c - (r.length + 4))) (Nat.le_refl _) f2
      rw [e, b1, f1, ih, Nat.add_comm 1]
      rfl
    · rw [if_neg hc, recL_end (frameSz_cut r _ c hr (by omega))]
      rfl

end Go.Proofs.Ytfeolikagceohaa

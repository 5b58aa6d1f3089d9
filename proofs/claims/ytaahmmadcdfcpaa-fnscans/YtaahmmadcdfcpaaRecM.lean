/-
  Records that stand one behind the other: mathematics.
-/
import Derived.Test.YtaahmmadcdfcpaaUnfr2
namespace Go.Proofs.Ytaahmmadcdfcpaa
open Go.RowKit
set_option linter.unusedSectionVars false
variable [DecidableEq BytesR] [Inhabited BytesR] [DecidableEq RecsR] [Inhabited RecsR]

theorem getD_take (xs : List Byte) (m i : Nat) (h : i < m) : (xs.take m).getD i 0 = xs.getD i 0 := by simp [List.getD, h]

/-- a frame is told by its own bytes alone -/
theorem frameSz_agree {p q : List Byte} {m : Nat} (h : frameSz p = m) (hm : m ≠ 0) (hq : q.take m = p.take m) : frameSz q = m := by
  have hp := frameSz_pos (xs := p) (by omega)
  rw [h] at hp
  obtain ⟨h1, h2, h3, h4⟩ := hp
  have hlen : m ≤ q.length := by
    have e := congrArg List.length hq
    rw [List.length_take, List.length_take] at e
    omega
  have g : ∀ i, i < m → q.getD i 0 = p.getD i 0 := fun i hi => by rw [← getD_take q m i hi, ← getD_take p m i hi, hq]
  have eN : fN q = fN p := by unfold fN; rw [g 0 (by omega), g 1 (by omega)]
  have eC : fC q = fC p := by unfold fC; rw [g 2 (by omega), g 3 (by omega)]
  have eD : (q.drop 4).take (fN q) = (p.drop 4).take (fN p) := by
    rw [eN]
    have e := congrArg (List.drop 4) hq
    rw [List.drop_take, List.drop_take] at e
    rw [show m - 4 = fN p by omega] at e
    exact e
  have hc : chk ((p.drop 4).take (fN p)) = fC p := by
    unfold frameSz at h
    split at h
    · rename_i hh; exact hh.2.2.2
    · omega
  unfold frameSz
  rw [if_pos ⟨by omega, by omega, by omega, by rw [eD, eC]; exact hc⟩]
  omega

theorem rec_cons {p q : List Byte} {m : Nat} (h : frameSz p = m) (hm : m ≠ 0) (hq : q.take m = p.take m) :
    recL q = (p.drop 4).take (m - 4) :: recL (q.drop m) ∧ recU q = m + recU (q.drop m) := by
  have hz := frameSz_agree h hm hq
  have hp := frameSz_pos (xs := p) (by omega)
  rw [h] at hp
  have e : (q.drop 4).take (m - 4) = (p.drop 4).take (m - 4) := by
    have e := congrArg (List.drop 4) hq
    rw [List.drop_take, List.drop_take] at e
    exact e
  refine ⟨?_, ?_⟩
  · rw [recL_step (xs := q) (by omega), hz, e]
  · rw [recU_step (xs := q) (by omega), hz]

theorem recL_len (xs : List Byte) : (recL xs).length ≤ recU xs := by
  have H : ∀ n (xs : List Byte), xs.length ≤ n → (recL xs).length ≤ recU xs := by
    intro n
    induction n with
    | zero => intro xs h; rw [recL_end (frameSz_nil (by omega))]; simp
    | succ n ih =>
      intro xs h
      by_cases hz : frameSz xs = 0
      · rw [recL_end hz]; simp
      · have hp := frameSz_pos hz
        have := ih (xs.drop (frameSz xs)) (by rw [List.length_drop]; omega)
        rw [recL_step hz, recU_step hz, List.length_cons]
        omega
  exact H _ xs (Nat.le_refl _)

/-- the records of a beginning are the first ones -/
theorem recL_append : ∀ (n : Nat) (p ys : List Byte), p.length ≤ n → ∃ more, recL (p ++ ys) = recL p ++ more
  | 0, p, ys, h => ⟨recL (p ++ ys), by rw [recL_end (xs := p) (frameSz_nil (by omega))]; rfl⟩
  | n + 1, p, ys, h => by
    by_cases hz : frameSz p = 0
    · exact ⟨recL (p ++ ys), by rw [recL_end hz]; rfl⟩
    · have hp := frameSz_pos hz
      have ha : (p ++ ys).take (frameSz p) = p.take (frameSz p) := List.take_append_of_le_length (by omega)
      obtain ⟨e1, _⟩ := rec_cons (p := p) (q := p ++ ys) rfl hz ha
      have hd : (p ++ ys).drop (frameSz p) = p.drop (frameSz p) ++ ys := List.drop_append_of_le_length (by omega)
      obtain ⟨more, hmo⟩ := recL_append n (p.drop (frameSz p)) ys (by rw [List.length_drop]; omega)
      refine ⟨more, ?_⟩
      rw [e1, hd, hmo, recL_step hz]
      rfl

/-- behind what is read whole -/
theorem rec_behind : ∀ (n : Nat) (p ys : List Byte), p.length ≤ n → recU p = p.length → recL (p ++ ys) = recL p ++ recL ys ∧ recU (p ++ ys) = recU p + recU ys
  | 0, p, ys, h, _ => by
    have e : p = [] := List.eq_nil_of_length_eq_zero (by omega)
    subst e
    rw [recL_end (xs := []) (frameSz_nil rfl), recU_end (xs := []) (frameSz_nil rfl)]
    simp
  | n + 1, p, ys, h, hu => by
    by_cases hz : frameSz p = 0
    · have e : p = [] := List.eq_nil_of_length_eq_zero (by rw [recU_end hz] at hu; omega)
      subst e
      rw [recL_end hz, recU_end hz]
      simp
    · have hp := frameSz_pos hz
      have ha : (p ++ ys).take (frameSz p) = p.take (frameSz p) := List.take_append_of_le_length (by omega)
      obtain ⟨e1, e2⟩ := rec_cons (p := p) (q := p ++ ys) rfl hz ha
      have hd : (p ++ ys).drop (frameSz p) = p.drop (frameSz p) ++ ys := List.drop_append_of_le_length (by omega)
      have hu2 : recU (p.drop (frameSz p)) = (p.drop (frameSz p)).length := by
        rw [recU_step hz] at hu
        rw [List.length_drop]
        omega
      obtain ⟨i1, i2⟩ := rec_behind n (p.drop (frameSz p)) ys (by rw [List.length_drop]; omega) hu2
      refine ⟨?_, ?_⟩
      · rw [e1, hd, i1, recL_step hz]
        rfl
      · rw [e2, hd, i2, recU_step hz]
        omega

/-- what was used is read whole -/
theorem recU_used : ∀ (n : Nat) (p : List Byte), p.length ≤ n → recU (p.take (recU p)) = recU p ∧ recU p ≤ p.length
  | 0, p, h => by
    have hz := frameSz_nil (xs := p) (by omega)
    rw [recU_end hz]
    refine ⟨?_, by omega⟩
    rw [List.take_zero, recU_end (frameSz_nil rfl)]
  | n + 1, p, h => by
    by_cases hz : frameSz p = 0
    · rw [recU_end hz]
      refine ⟨?_, by omega⟩
      rw [List.take_zero, recU_end (frameSz_nil rfl)]
    · have hp := frameSz_pos hz
      obtain ⟨i1, i2⟩ := recU_used n (p.drop (frameSz p)) (by rw [List.length_drop]; omega)
      rw [List.length_drop] at i2
      have hs := recU_step hz
      have ha : (p.take (recU p)).take (frameSz p) = p.take (frameSz p) := by rw [List.take_take]; congr 1; omega
      obtain ⟨_, e2⟩ := rec_cons (p := p) (q := p.take (recU p)) rfl hz ha
      refine ⟨?_, by omega⟩
      rw [e2, List.drop_take, hs, show frameSz p + recU (p.drop (frameSz p)) - frameSz p = recU (p.drop (frameSz p)) by omega, i1]

theorem hiB2_val (n : Int) (h0 : 0 ≤ n) (h1 : n < 65536) : (toB (n / 256)).val * 256 + (toB n).val = n.toNat := by
  have e1 := toB_val (n / 256)
  have e2 := toB_val n
  omega

/-- one record's frame -/
theorem frameSz_frame (xs : List Byte) (h1 : 1 ≤ xs.length) (h5 : xs.length ≤ 500) : frameSz (frameB xs) = 4 + xs.length := by
  obtain ⟨c0, c1⟩ := chk_rng xs
  have hN : fN (frameB xs) = xs.length := by
    unfold fN frameB
    rw [hiB_two, hiB_two]
    have e := hiB2_val xs.length (by omega) (by omega)
    simp only [List.cons_append, List.nil_append, List.getD, List.getElem?_cons_zero, List.getElem?_cons_succ, Option.getD_some]
    omega
  have hC : (fC (frameB xs) : Int) = chk xs := by
    unfold fC frameB
    rw [hiB_two, hiB_two]
    have e := hiB2_val (chk xs) c0 (by omega)
    simp only [List.cons_append, List.nil_append, List.getD, List.getElem?_cons_zero, List.getElem?_cons_succ, Option.getD_some]
    omega
  have hD : (frameB xs).drop 4 = xs := by
    unfold frameB
    rw [hiB_two, hiB_two]
    rfl
  unfold frameSz
  rw [hN, hD, List.take_length, if_pos ⟨h1, h5, by rw [length_frameB]; omega, hC.symm⟩]

theorem rec_frame (xs : List Byte) (h1 : 1 ≤ xs.length) (h5 : xs.length ≤ 500) : recL (frameB xs) = [xs] ∧ recU (frameB xs) = (frameB xs).length := by
  have hz := frameSz_frame xs h1 h5
  have hD : (frameB xs).drop 4 = xs := by
    unfold frameB
    rw [hiB_two, hiB_two]
    rfl
  have hE : (frameB xs).drop (4 + xs.length) = [] := List.drop_of_length_le (by rw [length_frameB]; omega)
  refine ⟨?_, ?_⟩
  · rw [recL_step (by omega), hz, hD, hE, recL_end (frameSz_nil rfl), show 4 + xs.length - 4 = xs.length by omega, List.take_length]
  · rw [recU_step (by omega), hz, hE, recU_end (frameSz_nil rfl), length_frameB]
    omega

end Go.Proofs.Ytaahmmadcdfcpaa

/-
  GetRow, on both sides.
-/
import Derived.Test.YtaahmmadcdfcpaaTabM
import Derived.Test.YtaahmmadcdfcpaaKeeps
namespace Go.Proofs.Ytaahmmadcdfcpaa
open Go.RowKit Go.Shelf
set_option linter.unusedSectionVars false
variable [DecidableEq Rw] [Inhabited Rw]
set_option linter.unusedVariables false
set_option linter.unusedSimpArgs false

def getRow (xs : List Rw) (k : ByteArray) (v : Int) : Option Rw := (getAt xs k v).filter (fun r => !r.gone)
def getCode (xs : List Rw) (k : ByteArray) (v : Int) : Int := if tabF xs = 0 then ((getRow xs k v).map (fun _ => (0 : Int))).getD 4 else tabF xs
def getText (xs : List Rw) (k : ByteArray) (v : Int) : ByteArray := if tabF xs = 0 then ((getRow xs k v).map (fun r => r.val)).getD ⟨#[]⟩ else ⟨#[]⟩

section
attribute [local go_sem ↓] Go.wp_at_zero Go.wp_at_succ

theorem getAt_first {xs : List Rw} {k : ByteArray} {v : Int} {m : Nat} (hm : m < xs.length) (hpre : ∀ j, j < m → ¬ ((xs.getD j default).key = k ∧ (xs.getD j default).ver ≤ v)) (h : (xs.getD m default).key = k ∧ (xs.getD m default).ver ≤ v) : getAt xs k v = some (xs.getD m default) := by
  unfold getAt
  rw [List.find?_eq_some_iff_getElem]
  have hx : xs.getD m default = xs[m] := by simp [List.getD, hm]
  rw [hx] at h ⊢
  refine ⟨by simpa using h, m, hm, rfl, fun j hj => ?_⟩
  have := hpre j hj
  rw [show xs.getD j default = xs[j] by simp [List.getD, show j < xs.length by omega]] at this
  simp only [Bool.not_eq_true', decide_eq_false_iff_not]
  exact this
theorem getAt_none {xs : List Rw} {k : ByteArray} {v : Int} (hpre : ∀ j, j < xs.length → ¬ ((xs.getD j default).key = k ∧ (xs.getD j default).ver ≤ v)) : getAt xs k v = none := by
  unfold getAt
  rw [List.find?_eq_none]
  intro y hy
  obtain ⟨i, hi, rfl⟩ := List.mem_iff_getElem.1 hy
  have := hpre i hi
  rw [show xs.getD i default = xs[i] by simp [List.getD, hi]] at this
  simpa using this

set_option maxHeartbeats 2000000 in
theorem l5Get_any (x : Value) (xs : List Rw) (k : ByteArray) (v : Int) (w : World) (hx : RowsV w x xs) :
    Calls Try.prog 35 #[x, .string k, .int .i64 v] w fun e w' => (∃ i : Int, e = .returned (.int .i64 i) ∧ ((i = -1 ∧ getRow xs k v = none) ∨ ∃ m : Nat, m < xs.length ∧ i = m ∧ getRow xs k v = some (xs.getD m default))) ∧ w' = w := by
  obtain ⟨ax, cx, rfl, hcx, hmx, hx⟩ := hx
  unfold maxLen at hmx
  have HF : Hid (∀ m, m < xs.length → (∀ j, j < m → ¬ ((xs.getD j default).key = k ∧ (xs.getD j default).ver ≤ v)) → ((xs.getD m default).key = k ∧ (xs.getD m default).ver ≤ v) → getAt xs k v = some (xs.getD m default)) := fun m hm h1 h2 => getAt_first hm h1 h2
  have HN : Hid ((∀ j, j < xs.length → ¬ ((xs.getD j default).key = k ∧ (xs.getD j default).ver ≤ v)) → getAt xs k v = none) := getAt_none
  generalize xs.length = n at *
  go_enter Try.func35, Try.ntmps35
  go_wp2
  go_loopw [7] (fun i w' => ∃ j : Nat, j ≤ n ∧ i = .int .i64 j ∧ Hid (∀ i, i < j → ¬ ((xs.getD i default).key = k ∧ (xs.getD i default).ver ≤ v)) ∧ w' = w) (fun i _ => n - (intOf i).toNat)
  case atStart => exact ⟨0, Nat.zero_le _, rfl, fun j h => absurd h (Nat.not_lt_zero _), rfl⟩
  case round =>
    obtain ⟨j, hj, rfl, HP, rfl⟩ := hrel
    by_cases hlt : j < n
    · obtain ⟨b, o, rfl, hc⟩ := hx j hlt
      have HF2 : Hid (((xs.getD j default).key = k ∧ (xs.getD j default).ver ≤ v) → getAt xs k v = some (xs.getD j default)) := fun h => HF.out j hlt HP.out h
      obtain ⟨q, hq⟩ : ∃ q, q = xs.getD j default := ⟨_, rfl⟩
      have HQ : Hid (q = xs.getD j default) := hq
      rw [← hq] at hc HF2
      obtain ⟨c0, c1, c2, c3⟩ := hc
      clear hq hx HF HN
      by_cases hk : q.key = k
      · have hd1 : (q.key.toList == k.toList) = true := by rw [hk]; simp
        have hd1' : q.key.toList = k.toList := by rw [hk]
        by_cases hv : q.ver ≤ v
        · have hd2 : decide (q.ver ≤ v) = true := decide_eq_true hv
          have HE : Hid (getAt xs k v = some q) := HF2.out ⟨hk, hv⟩
          cases hg : q.gone
          · rw [hg] at c3
            go_wp2
            go_ret
            refine ⟨⟨(j : Int), rfl, .inr ⟨j, hlt, rfl, ?_⟩⟩, rfl⟩
            unfold getRow
            rw [HE.out, ← HQ.out]
            simp [Option.filter, hg]
          · rw [hg] at c3
            go_wp2
            go_ret
            refine ⟨⟨-1, rfl, .inl ⟨rfl, ?_⟩⟩, rfl⟩
            unfold getRow
            rw [HE.out]
            simp [Option.filter, hg]
        · have hd2 : decide (q.ver ≤ v) = false := decide_eq_false hv
          go_wp2
          refine ⟨⟨j + 1, by omega, by go_num, fun i hi => ?_, trivial⟩, by simp [intOf]; omega⟩
          by_cases hij : i < j
          · exact HP.out i hij
          · have : i = j := by omega
            subst this
            rw [← HQ.out]
            exact fun h => hv h.2
      · have hd1 : (q.key.toList == k.toList) = false := by rw [beq_eq_false_iff_ne, Ne, tl_inj]; exact hk
        have hd1' : ¬ q.key.toList = k.toList := by rw [tl_inj]; exact hk
        go_wp2
        refine ⟨⟨j + 1, by omega, by go_num, fun i hi => ?_, trivial⟩, by simp [intOf]; omega⟩
        by_cases hij : i < j
        · exact HP.out i hij
        · have : i = j := by omega
          subst this
          rw [← HQ.out]
          exact fun h => hk h.1
    · have hjn : j = n := by omega
      subst hjn
      have HE : Hid (getAt xs k v = none) := HN.out HP.out
      go_wp2
      go_ret
      refine ⟨⟨-1, rfl, .inl ⟨rfl, ?_⟩⟩, rfl⟩
      unfold getRow
      rw [HE.out]
      rfl

end

end Go.Proofs.Ytaahmmadcdfcpaa

/-
  Writes: their rows, their bytes, their faults.
-/
import Derived.Test.YtdfapehonegeeaaWriT
import Derived.Test.YtdfapehonegeeaaText
import Derived.Test.YtdfapehonegeeaaRowA
namespace Go.Proofs.Ytdfapehonegeeaa
open Go.RowKit
set_option linter.unusedSectionVars false
variable [DecidableEq Wri] [Inhabited Wri] [DecidableEq BytesR] [Inhabited BytesR] [DecidableEq Rw] [Inhabited Rw]
set_option linter.unusedVariables false
set_option linter.unusedSimpArgs false

def wrRow (v : Int) (x : Wri) : Rw := ⟨x.key, v, x.val, x.gone⟩
/-- the parts of a write -/
def wrP (x : Wri) : List (List Byte) := if x.gone = true then [[toB 1], (textD x.key).bytes] else [[toB 0], (textD x.key).bytes, (textD x.val).bytes]
def packP (v : Int) (ws : List Wri) : List (List Byte) := [hiB v 8] ++ ws.flatMap wrP
def packB (v : Int) (ws : List Wri) : List Byte := (packP v ws).flatten

theorem wrP_len (x : Wri) : (wrP x).length ≤ 3 := by
  unfold wrP
  split <;> simp
theorem wrP_flat (x : Wri) : (wrP x).flatten.length ≤ 403 := by
  have h1 := textD_le x.key
  have h2 := textD_le x.val
  unfold wrP
  split <;> simp only [List.flatten_cons, List.flatten_nil, List.length_append, List.length_cons, List.length_nil] <;> omega
theorem wri_take_eq (ws : List Wri) (k : Nat) (h : k < ws.length) : ws.take (k + 1) = ws.take k ++ [ws.getD k default] := by
  rw [List.take_add_one]
  congr 1
  simp [List.getD, h]
theorem packP_take (v : Int) (ws : List Wri) (k : Nat) (h : k < ws.length) : packP v (ws.take (k + 1)) = packP v (ws.take k) ++ wrP (ws.getD k default) := by
  rw [wri_take_eq ws k h]
  simp only [packP, List.flatMap_append, List.flatMap_cons, List.flatMap_nil, List.append_assoc, List.append_nil]
theorem packB_take (v : Int) (ws : List Wri) (k : Nat) (h : k < ws.length) : packB v (ws.take (k + 1)) = packB v (ws.take k) ++ (wrP (ws.getD k default)).flatten := by
  unfold packB
  rw [packP_take v ws k h, List.flatten_append]
theorem packP_len (v : Int) (ws : List Wri) : (packP v ws).length ≤ 1 + ws.length * 3 := by
  have h : (ws.flatMap wrP).length ≤ ws.length * 3 := by
    induction ws with
    | nil => simp
    | cons x r ih =>
      have := wrP_len x
      rw [List.flatMap_cons, List.length_append, List.length_cons]
      omega
  unfold packP
  rw [List.length_append, List.length_cons, List.length_nil]
  omega
theorem packB_len (v : Int) (ws : List Wri) : (packB v ws).length ≤ 8 + ws.length * 403 := by
  have h : (ws.flatMap wrP).flatten.length ≤ ws.length * 403 := by
    induction ws with
    | nil => simp
    | cons x r ih =>
      have := wrP_flat x
      rw [List.flatMap_cons, List.flatten_append, List.length_append, List.length_cons]
      omega
  unfold packB packP
  rw [List.flatten_append, List.length_append]
  simp only [List.flatten_cons, List.flatten_nil, List.append_nil, length_hiB]
  omega

/-- does one of the first k have that key? -/
def hasK (ws : List Wri) (k : Nat) (s : ByteArray) : Bool := (List.range k).any fun j => decide ((ws.getD j default).key = s)
theorem hasK_of {ws : List Wri} {k j : Nat} {s : ByteArray} (hj : j < k) (h : (ws.getD j default).key = s) : hasK ws k s = true :=
  List.any_eq_true.2 ⟨j, List.mem_range.2 hj, decide_eq_true h⟩
theorem hasK_none {ws : List Wri} {k : Nat} {s : ByteArray} (h : ∀ j, j < k → (ws.getD j default).key ≠ s) : hasK ws k s = false := by
  rw [← Bool.not_eq_true]
  intro c
  obtain ⟨j, hj, e⟩ := List.any_eq_true.1 c
  exact h j (List.mem_range.1 hj) (of_decide_eq_true e)

/-- the first of n that is not 0 -/
def firstZ (f : Nat → Int) : Nat → Int
  | 0 => 0
  | n + 1 => if firstZ f n = 0 then f n else firstZ f n
theorem firstZ_zero {f : Nat → Int} : ∀ {n : Nat}, (∀ j, j < n → f j = 0) → firstZ f n = 0
  | 0, _ => rfl
  | n + 1, h => by
    unfold firstZ
    rw [firstZ_zero (fun j hj => h j (by omega)), if_pos rfl]
    exact h n (by omega)
theorem firstZ_at {f : Nat → Int} : ∀ {n k : Nat}, k < n → (∀ j, j < k → f j = 0) → f k ≠ 0 → firstZ f n = f k
  | 0, k, hk, _, _ => absurd hk (Nat.not_lt_zero _)
  | n + 1, k, hk, h, hc => by
    unfold firstZ
    by_cases e : k = n
    · subst e
      rw [firstZ_zero h, if_pos rfl]
    · rw [firstZ_at (by omega : k < n) h hc, if_neg hc]
theorem firstZ_inv {f : Nat → Int} : ∀ {n : Nat}, firstZ f n = 0 → ∀ j, j < n → f j = 0
  | 0, _, j, hj => absurd hj (Nat.not_lt_zero _)
  | n + 1, h, j, hj => by
    unfold firstZ at h
    by_cases e : firstZ f n = 0
    · rw [if_pos e] at h
      by_cases e2 : j = n
      · subst e2; exact h
      · exact firstZ_inv e j (by omega)
    · rw [if_neg e] at h; exact absurd h e

def wrAt (ws : List Wri) (k : Nat) : Int :=
  if rowFault (wrRow 1 (ws.getD k default)) ≠ 0 then rowFault (wrRow 1 (ws.getD k default)) else if hasK ws k (ws.getD k default).key = true then 7 else 0
def wrF (ws : List Wri) : Int :=
  if ws.length < 1 ∨ 8 < ws.length then 2 else if firstZ (wrAt ws) ws.length ≠ 0 then firstZ (wrAt ws) ws.length else if 500 < (packB 1 ws).length then 2 else 0
theorem wrF_many {ws : List Wri} (h : ws.length < 1 ∨ 8 < ws.length) : wrF ws = 2 := if_pos h
theorem wrF_at {ws : List Wri} {k : Nat} (h : ¬ (ws.length < 1 ∨ 8 < ws.length)) (hk : k < ws.length) (hz : ∀ j, j < k → wrAt ws j = 0) (hc : wrAt ws k ≠ 0) : wrF ws = wrAt ws k := by
  unfold wrF
  rw [if_neg h, firstZ_at hk hz hc, if_pos hc]
theorem wrF_end {ws : List Wri} (h : ¬ (ws.length < 1 ∨ 8 < ws.length)) (hz : ∀ j, j < ws.length → wrAt ws j = 0) : wrF ws = if 500 < (packB 1 ws).length then 2 else 0 := by
  unfold wrF
  rw [if_neg h, firstZ_zero hz, if_neg (by simp)]
theorem wrF_inv {ws : List Wri} (h : wrF ws = 0) : 1 ≤ ws.length ∧ ws.length ≤ 8 ∧ (∀ j, j < ws.length → wrAt ws j = 0) ∧ (packB 1 ws).length ≤ 500 := by
  unfold wrF at h
  split at h
  · omega
  · rename_i h1
    split at h
    · rename_i h2; exact absurd h h2
    · rename_i h2
      split at h
      · omega
      · exact ⟨by omega, by omega, firstZ_inv (by simpa using h2), by omega⟩
/-- a change of version changes no length -/
theorem packB_ver (v v' : Int) (ws : List Wri) : (packB v ws).length = (packB v' ws).length := by
  unfold packB packP
  simp only [List.flatten_append, List.flatten_cons, List.flatten_nil, List.append_nil, List.length_append, length_hiB]

end Go.Proofs.Ytdfapehonegeeaa

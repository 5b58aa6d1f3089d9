/-
  Parts joined, single bytes, a text's bytes, on both sides.
-/
import Derived.Test.YtaahmmadcdfcpaaNum
import Derived.Test.YtaahmmadcdfcpaaNBytess
import Derived.Lib.ConvBytes
namespace Go.Proofs.Ytaahmmadcdfcpaa
open Go.RowKit
attribute [local go_sem ↓] Go.wp_at_zero Go.wp_at_succ

theorem flat_take (ps : List (List Byte)) (k : Nat) (h : k < ps.length) : (ps.take (k + 1)).flatten = (ps.take k).flatten ++ ps.getD k default := by
  rw [List.take_add_one, List.flatten_append]
  congr 1
  simp [List.getD, h]
theorem flat_le (ps : List (List Byte)) : ∀ k, (ps.take k).flatten.length ≤ ps.flatten.length := by
  intro k
  have h : ps.flatten = (ps.take k).flatten ++ (ps.drop k).flatten := by rw [← List.flatten_append, List.take_append_drop]
  rw [h, List.length_append]
  omega

/-- numbers behind a slice's value -/
def NumsV (w : World) (v : Value) (ys : List Int) : Prop :=
  ∃ a cap, v = .slice a ys.length cap ∧ ys.length ≤ cap ∧ cap ≤ maxLen ∧ ∀ i, i < ys.length → ∃ b o, a = some ⟨b, o, none⟩ ∧ w.cell? ⟨b, o + i, none⟩ = some (.int .i64 (ys.getD i 0))
theorem nums1 {w : World} {g : Nat} {a : Int} (h0 : w.cell? ⟨g, 0, none⟩ = some (.int .i64 a)) : NumsV w (.slice (some ⟨g, 0, none⟩) 1 1) [a] := by
  refine ⟨_, _, rfl, by simp, by unfold maxLen; omega, fun i hi => ⟨g, 0, rfl, ?_⟩⟩
  match i, hi with
  | 0, _ => simpa using h0
theorem nums3 {w : World} {g : Nat} {a b c : Int} (h0 : w.cell? ⟨g, 0, none⟩ = some (.int .i64 a)) (h1 : w.cell? ⟨g, 1, none⟩ = some (.int .i64 b)) (h2 : w.cell? ⟨g, 2, none⟩ = some (.int .i64 c)) : NumsV w (.slice (some ⟨g, 0, none⟩) 3 3) [a, b, c] := by
  refine ⟨_, _, rfl, by simp, by unfold maxLen; omega, fun i hi => ⟨g, 0, rfl, ?_⟩⟩
  match i, hi with
  | 0, _ => simpa using h0
  | 1, _ => simpa using h1
  | 2, _ => simpa using h2

theorem cell1_of {w : World} {g i : Nat} {u : Value} (h : w.cell? ⟨g, i, none⟩ = some u) : ∀ j, j < 1 → w.cell? ⟨g, 0 + i * 1 + j, none⟩ = (one u)[j]? := by
  intro j hj
  have e : j = 0 := by omega
  subst e
  simpa [one] using h
theorem bytess1 {w : World} {g : Nat} {u : Value} {d : List Byte} (h0 : w.cell? ⟨g, 0, none⟩ = some u) (hv : bytesR.V w u d) : bytessR.V w (.slice (some ⟨g, 0, none⟩) 1 1) [d] := by
  refine ⟨_, _, rfl, by simp, by unfold maxLen; omega, fun i hi => ⟨g, 0, u, rfl, rfl, fun j hj => ?_, ?_⟩⟩
  · have e : i = 0 := by simp at hi; omega
    have e2 : j = 0 := by omega
    subst e e2
    simpa [one] using h0
  · have e : i = 0 := by simp at hi; omega
    subst e
    exact hv
theorem bytess2 {w : World} {g : Nat} {u1 u2 : Value} {d1 d2 : List Byte} (h1 : w.cell? ⟨g, 0, none⟩ = some u1) (h2 : w.cell? ⟨g, 1, none⟩ = some u2) (v1 : bytesR.V w u1 d1) (v2 : bytesR.V w u2 d2) : bytessR.V w (.slice (some ⟨g, 0, none⟩) 2 2) [d1, d2] := by
  refine ⟨_, _, rfl, by simp, by unfold maxLen; omega, fun i hi => ?_⟩
  match i, hi with
  | 0, _ => exact ⟨g, 0, u1, rfl, rfl, cell1_of h1, v1⟩
  | 1, _ => exact ⟨g, 0, u2, rfl, rfl, cell1_of h2, v2⟩
theorem bytess3 {w : World} {g : Nat} {u1 u2 u3 : Value} {d1 d2 d3 : List Byte} (h1 : w.cell? ⟨g, 0, none⟩ = some u1) (h2 : w.cell? ⟨g, 1, none⟩ = some u2) (h3 : w.cell? ⟨g, 2, none⟩ = some u3)
    (v1 : bytesR.V w u1 d1) (v2 : bytesR.V w u2 d2) (v3 : bytesR.V w u3 d3) : bytessR.V w (.slice (some ⟨g, 0, none⟩) 3 3) [d1, d2, d3] := by
  refine ⟨_, _, rfl, by simp, by unfold maxLen; omega, fun i hi => ?_⟩
  match i, hi with
  | 0, _ => exact ⟨g, 0, u1, rfl, rfl, cell1_of h1, v1⟩
  | 1, _ => exact ⟨g, 0, u2, rfl, rfl, cell1_of h2, v2⟩
  | 2, _ => exact ⟨g, 0, u3, rfl, rfl, cell1_of h3, v3⟩

/-- the bytes of a text -/
def strB (s : ByteArray) : List Byte := s.data.toList.map (fun b => ⟨b.toNat, b.toNat_lt⟩)
theorem length_strB (s : ByteArray) : (strB s).length = s.size := by simp [strB]
theorem strB_cell (w : World) (e : TypeId) (s : ByteArray) (j : Nat) (hj : j < s.size) : (Lib.bytesWorld w e s).cell? ⟨w.heap.size, j, none⟩ = some (.int .u8 (((strB s).getD j 0).val : Int)) := by
  rw [Lib.bytesWorld_cell w e s j hj]
  have h : j < s.data.toList.length := by simpa using hj
  simp [strB, List.getD, hj]
theorem below_bytesWorld (w : World) (e : TypeId) (s : ByteArray) : Below w.heap.size w (Lib.bytesWorld w e s) :=
  ⟨rfl, rfl, rfl, by rw [Lib.bytesWorld_size]; omega, fun k hk => Lib.bytesWorld_at_old w e s k hk⟩
theorem bytesV_str (w : World) (e : TypeId) (s : ByteArray) (hs : s.size ≤ maxLen) : BytesV (Lib.bytesWorld w e s) (.slice (some ⟨w.heap.size, 0, none⟩) s.size (grownCap w s.size 0 e)) (strB s) := by
  refine ⟨some ⟨w.heap.size, 0, none⟩, grownCap w s.size 0 e, by rw [length_strB], by rw [length_strB]; exact grownCap_ge w s.size 0 e, grownCap_le_maxLen w s.size 0 e hs, fun i hi => ⟨w.heap.size, 0, rfl, ?_⟩⟩
  rw [Nat.zero_add]
  exact strB_cell w e s i (by rw [← length_strB]; exact hi)

end Go.Proofs.Ytaahmmadcdfcpaa

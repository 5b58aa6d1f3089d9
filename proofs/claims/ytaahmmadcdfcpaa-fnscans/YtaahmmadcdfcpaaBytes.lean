/-
  Rows of bytes: copied, compared, counted, marked and read back.
-/
import Derived.Test.YtaahmmadcdfcpaaSep
import Derived.Deep.RegionHeld3
import Derived.Deep.DrawnRows
import Derived.BigQuiet
import Derived.Deep.QuietTactic
namespace Go.Proofs.Ytaahmmadcdfcpaa
open Go.RowKit
attribute [local go_sem ↓] Go.wp_at_zero Go.wp_at_succ

/-- a byte -/
abbrev Byte := Fin 256
/-- the byte of a number -/
def toB (n : Int) : Byte := ⟨(n % 256).toNat, by omega⟩
theorem toB_val (n : Int) : ((toB n).val : Int) = n % 256 := by simp only [toB]; omega
theorem wrapB (n : Int) : IntKind.u8.wrap n = ((toB n).val : Int) := by rw [toB_val, IntKind.wrap_u8]
theorem toB_self (b : Byte) : toB (b.val : Int) = b := by
  apply Fin.ext
  have := b.isLt
  simp only [toB]
  omega
theorem byte_lt (b : Byte) : (0 : Int) ≤ (b.val : Int) ∧ (b.val : Int) ≤ 255 := by have := b.isLt; omega

def bytesC (ys : List Byte) : List Value := ys.map (fun b => Value.int .u8 (b.val : Int))
theorem length_bytesC (ys : List Byte) : (bytesC ys).length = ys.length := by simp [bytesC]
theorem bytesC_append (xs ys : List Byte) : bytesC (xs ++ ys) = bytesC xs ++ bytesC ys := by simp [bytesC]
theorem bytesC_one (xs : List Byte) : ∀ u ∈ bytesC xs, u.oneCell' = true := by
  intro u hu
  simp only [bytesC, List.mem_map] at hu
  obtain ⟨b, _, rfl⟩ := hu
  rfl
theorem get_bytesC (ys : List Byte) (i : Nat) (h : i < ys.length) : (bytesC ys)[i]? = some (.int .u8 ((ys.getD i 0).val : Int)) := by
  simp [bytesC, List.getD, h]
theorem infoByte : (Try.prog.info? 5).map (fun i => (i.zero, i.size, i.bytes)) = some (some (.int .u8 0), 1, 1) := by kernel_rfl

/-- bytes behind a slice's value -/
def BytesV (w : World) (v : Value) (ys : List Byte) : Prop :=
  ∃ a cap, v = .slice a ys.length cap ∧ ys.length ≤ cap ∧ cap ≤ maxLen ∧ ∀ i, i < ys.length → ∃ b o, a = some ⟨b, o, none⟩ ∧ w.cell? ⟨b, o + i, none⟩ = some (.int .u8 ((ys.getD i 0).val : Int))

theorem BytesV_below {w w' : World} {v : Value} {ys : List Byte} (h : BytesV w v ys) (hb : Below w.heap.size w w') : BytesV w' v ys := by
  obtain ⟨a, cap, rfl, h1, h2, h3⟩ := h
  exact ⟨a, cap, rfl, h1, h2, fun i hi => by
    obtain ⟨b, o, ha, hc⟩ := h3 i hi
    exact ⟨b, o, ha, cell_keep hb hc⟩⟩

theorem BytesV_of_owns {w : World} {base e : Nat} {v : Value} {ys : List Byte} (h : w.ownsRow base e 1 v ys.length (bytesC ys)) : BytesV w v ys := by
  rcases h.2 with ⟨rfl, hn⟩ | ⟨g, cap, cur, rfl, hb, hg, hnc, hcm, hcs, htake⟩
  · exact ⟨none, 0, by rw [hn], by omega, by unfold maxLen; omega, fun i hi => by omega⟩
  · refine ⟨some ⟨g, 0, none⟩, cap, rfl, hnc, hcm, fun i hi => ⟨g, 0, rfl, ?_⟩⟩
    rw [Nat.zero_add]
    exact (h.cellAt i (by omega)).trans (get_bytesC ys i hi)

theorem bytes_eq_of {xs ys : List Byte} (hl : ys.length = xs.length) (h : ∀ j, j < xs.length → xs.getD j 0 = ys.getD j 0) : xs = ys := by
  apply List.ext_getElem (by omega)
  intro i h1 h2
  have := h i h1
  simpa [List.getD, h1, h2] using this

theorem byte_beq (a b : Byte) : ((a.val : Int) == (b.val : Int)) = decide (a = b) := by
  by_cases h : a = b
  · subst h; simp
  · have : ¬ a.val = b.val := fun e => h (Fin.ext e)
    simp [h]; omega

def marksB (k : Int) (n : Nat) : List Byte := (List.range n).map (fun i : Nat => toB (k + (i : Int)))
theorem length_marksB (k : Int) (n : Nat) : (marksB k n).length = n := by simp [marksB]
theorem getD_marksB (k : Int) (n i : Nat) (h : i < n) : (marksB k n).getD i 0 = toB (k + i) := by simp [marksB, List.getD, h]

def uptoB (k : Nat) (cs : List Value) (ys : List Byte) : Prop := ∀ j, j < k → cs[j]? = (bytesC ys)[j]?
theorem uptoB_full {n : Nat} {cs : List Value} {ys : List Byte} (h : uptoB n cs ys) (hl : cs.length = n * 1) (hn : ys.length = n) : cs = bytesC ys := by
  apply List.ext_getElem?
  intro j
  by_cases hj : j < n
  · exact h j hj
  · rw [List.getElem?_eq_none (by omega), List.getElem?_eq_none (by simp [bytesC]; omega)]
theorem uptoB_set {k : Nat} {cs : List Value} {ys : List Byte} {l : Int} (h : uptoB k cs ys) (hk : k < ys.length) (hl : cs.length = ys.length * 1) (he : l = ((ys.getD k 0).val : Int)) : uptoB (k + 1) (cs.set k (.int .u8 l)) ys := by
  intro j hj
  rw [List.getElem?_set]
  by_cases e : k = j
  · subst e
    rw [if_pos rfl, if_pos (by omega), get_bytesC ys k hk, he]
  · rw [if_neg e]
    exact h j (by omega)

theorem grownB_refl (w : World) (r : Option Nat) : w.grownBy w r := ⟨rfl, rfl, rfl, Nat.le_refl _, fun _ _ _ => rfl⟩

end Go.Proofs.Ytaahmmadcdfcpaa

/-
  Rows of []byte. (Written by program: nest.py.)
-/
import Derived.Test.YtaahmmadcdfcpaaUBytes
import Derived.Test.YtaahmmadcdfcpaaSep
import Derived.Deep.RegionHeld3
import Derived.Deep.DrawnRows
namespace Go.Proofs.Ytaahmmadcdfcpaa
open Go.RowKit
attribute [local go_sem ↓] Go.wp_at_zero Go.wp_at_succ

def bytessR : Rep (List (List Byte)) := nRep bytesR 22 1 one
def wtBytess (xs : List (List Byte)) : Nat := wtL wtBytes xs
def cntBytess (xs : List (List Byte)) : Nat := cntL cntBytes xs
def mkBytess (k : Int) (xs : List (List Byte)) : List (List Byte) := mkL mkBytes cntBytes k xs
theorem bytess_form {w : World} {v : Value} {xs : List (List Byte)} (h : bytessR.V w v xs) : ∃ a c, v = .slice a xs.length c := by
  obtain ⟨a, c, rfl, _⟩ := h
  exact ⟨_, _, rfl⟩
theorem bytess_cnt (d : List (List Byte)) : cntBytess d ≤ 1 * wtBytess d := cntL_le (fun x => by have := bytes_cnt x; omega) d
theorem infoBytess : (Try.prog.info? 22).map (fun i => (i.zero, i.size, i.bytes)) = some (some (.slice none 0 0), 1, 24) := by kernel_rfl

theorem keepBytess {w w' : World} {a0 a1 : Addr} {x0 x1 : Value} (hb : Below w.heap.size w w') (g0 : w.cell? a0 = some x0) (g1 : w.cell? a1 = some x1) : Below w.heap.size w w' ∧ w'.cell? a0 = some x0 ∧ w'.cell? a1 = some x1 :=
  ⟨hb, cell_keep hb g0, cell_keep hb g1⟩

end Go.Proofs.Ytaahmmadcdfcpaa

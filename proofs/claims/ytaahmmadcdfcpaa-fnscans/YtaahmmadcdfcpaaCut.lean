/-
  A piece of a row of bytes.
-/
import Derived.Test.YtaahmmadcdfcpaaUBytes
namespace Go.Proofs.Ytaahmmadcdfcpaa
open Go.RowKit

theorem addP (b o i : Nat) : (Addr.mk b o none).add i = ⟨b, o + i, none⟩ := by
  by_cases h : i = 0
  · subst h; simp [Addr.add]
  · simp [Addr.add, h]

theorem bytes_cut {w : World} {a : Option Addr} {cap : Nat} {xs : List Byte} (hx : BytesV w (.slice a xs.length cap) xs) (l h : Nat) (h1 : l ≤ h) (h2 : h ≤ xs.length) :
    BytesV w (.slice (if cap = l then a else a.map (·.add (l * 1))) (h - l) (cap - l)) ((xs.drop l).take (h - l)) := by
  obtain ⟨a', cap', e, g1, g2, g3⟩ := hx
  simp only [Value.slice.injEq, true_and] at e
  obtain ⟨rfl, rfl⟩ := e
  have hl : ((xs.drop l).take (h - l)).length = h - l := by rw [List.length_take, List.length_drop]; omega
  refine ⟨_, _, by rw [hl], by omega, by omega, fun i hi => ?_⟩
  rw [hl] at hi
  obtain ⟨b, o, rfl, hc⟩ := g3 (l + i) (by omega)
  refine ⟨b, o + l, ?_, ?_⟩
  · rw [if_neg (by omega)]
    simp only [Option.map_some, Nat.mul_one]
    rw [addP]
  · rw [show o + l + i = o + (l + i) by omega, hc]
    simp [List.getD, hi]

theorem cellsB : (sizeOf (Try.prog.elem 22)).run Try.prog = fun w => .ok 1 w := by
  have he : Try.prog.elem 22 = 5 := by kernel_rfl
  obtain ⟨i0, hi, hz0, hz1, hz2⟩ := info_parts infoByte
  funext w
  simp [sizeOf, typeInfo, he, hi, hz1]
theorem undB : Try.prog.underlying 22 = some (.slice (Try.prog.elem 22)) := by kernel_rfl

theorem cutB {a : Option Addr} {n cap : Nat} (l h : Int) (h0 : 0 ≤ l) (h1 : l ≤ h) (h2 : h ≤ n) (hn : n ≤ cap) :
    ∃ a' c', (∀ w : World, (Instr.sliceAt 22 (.slice a n cap) (some (.int .i64 l)) (some (.int .i64 h)) none).run Try.prog w = .ok (.slice a' (h - l).toNat c') w) ∧
      ∀ (w : World) (xs : List Byte), xs.length = n → BytesV w (.slice a n cap) xs → BytesV w (.slice a' (h - l).toNat c') ((xs.drop l.toNat).take (h - l).toNat) := by
  refine ⟨if cap = l.toNat then a else a.map (·.add (l.toNat * 1)), cap - l.toNat, fun w => ?_, fun w xs e hx => ?_⟩
  · rw [run_sliceAt_slice (h := undB), run_slice_lh (ht := undB) (h0 := h0) (h1 := h1) (h2 := by omega), cellsB]
    simp only [Result.andThen, sliced]
    rw [show h.toNat - l.toNat = (h - l).toNat by omega]
  · subst e
    have := bytes_cut hx l.toNat h.toNat (by omega) (by omega)
    rw [show h.toNat - l.toNat = (h - l).toNat by omega] at this
    exact this
theorem cutH {a : Option Addr} {n cap : Nat} (h : Int) (h0 : 0 ≤ h) (h2 : h ≤ n) (hn : n ≤ cap) :
    ∃ a' c', (∀ w : World, (Instr.sliceAt 22 (.slice a n cap) none (some (.int .i64 h)) none).run Try.prog w = .ok (.slice a' h.toNat c') w) ∧
      ∀ (w : World) (xs : List Byte), xs.length = n → BytesV w (.slice a n cap) xs → BytesV w (.slice a' h.toNat c') (xs.take h.toNat) := by
  refine ⟨if cap = 0 then a else a.map (·.add (0 * 1)), cap - 0, fun w => ?_, fun w xs e hx => ?_⟩
  · rw [run_sliceAt_slice (h := undB), run_slice_h (ht := undB) (h0 := h0) (h2 := by omega), cellsB]
    simp only [Result.andThen, sliced]
    rw [Nat.sub_zero]
  · subst e
    have := bytes_cut hx 0 h.toNat (by omega) (by omega)
    rw [Nat.sub_zero, List.drop_zero] at this
    exact this
theorem cutL {a : Option Addr} {n cap : Nat} (l : Int) (h0 : 0 ≤ l) (h2 : l ≤ n) (hn : n ≤ cap) :
    ∃ a' c', (∀ w : World, (Instr.sliceAt 22 (.slice a n cap) (some (.int .i64 l)) none none).run Try.prog w = .ok (.slice a' (n - l.toNat) c') w) ∧
      ∀ (w : World) (xs : List Byte), xs.length = n → BytesV w (.slice a n cap) xs → BytesV w (.slice a' (n - l.toNat) c') (xs.drop l.toNat) := by
  refine ⟨if cap = l.toNat then a else a.map (·.add (l.toNat * 1)), cap - l.toNat, fun w => ?_, fun w xs e hx => ?_⟩
  · rw [run_sliceAt_slice (h := undB), run_slice_l (ht := undB) (h0 := h0) (h1 := h2), cellsB]
    simp only [Result.andThen, sliced]
  · subst e
    have := bytes_cut hx l.toNat xs.length (by omega) (by omega)
    rw [show (xs.drop l.toNat).take (xs.length - l.toNat) = xs.drop l.toNat from List.take_of_length_le (by rw [List.length_drop]; omega)] at this
    exact this

end Go.Proofs.Ytaahmmadcdfcpaa

/-
  The draws of CompactTable and MergeTables.
-/
import Derived.Test.YtaahmmadcdfcpaaDtd
import Derived.Test.YtaahmmadcdfcpaaNRowss
namespace Go.Proofs.Ytaahmmadcdfcpaa
open Go.RowKit
set_option linter.unusedSectionVars false
variable [DecidableEq Logg] [Inhabited Logg] [DecidableEq LoggR] [Inhabited LoggR] [DecidableEq BytesR] [Inhabited BytesR] [DecidableEq RecsR] [Inhabited RecsR] [DecidableEq Leg] [Inhabited Leg] [DecidableEq Rw] [Inhabited Rw] [DecidableEq TabR] [Inhabited TabR]
set_option linter.unusedVariables false
set_option linter.unusedSimpArgs false
attribute [local go_sem ↓] Go.wp_at_zero Go.wp_at_succ

theorem PO.snoc2 {α : Type} {R : Rep α} {e : Nat} {W W' : World} {base : Nat} {v v' : Value} {n : Nat} {d : Nat → α} {cs : List Value} {us : Nat → Value} {fs : Nat → Nat → Prop} {u : Value} {Fu : Nat → Prop}
    (h : PO R e 1 one W base v n n d cs us fs) (hu : R.O W base Fu u (d n)) (hd : ∀ i, i < n → ∀ b, fs i b → ¬ Fu b) (hvu : ∀ b, Fu b → v.ownBlock ≠ some b)
    (hr : W'.ownsRow base e 1 v' (n + 1) (cs ++ [u])) (hg : W.grownBy W' v.ownBlock) (hv : v'.ownBlock = v.ownBlock ∨ v'.ownBlock = some W.heap.size) :
    PO R e 1 one W' base v' (n + 1) (n + 1) d (cs ++ [u]) (upd us n u) (upd fs n Fu) := by
  have hcl : cs.length = n := by simpa using h.row.1
  have hm := Mod.of_grown hg
  have hold : ∀ b, b < W.heap.size → v.ownBlock ≠ some b → v'.ownBlock ≠ some b := fun b hb hn => by
    rcases hv with hv | hv
    · rw [hv]; exact hn
    · rw [hv]; intro e; simp only [Option.some.injEq] at e; omega
  refine ⟨hr, ?_, fun _ _ => rfl, ?_, ?_, ?_⟩
  · intro i hi
    by_cases hik : i = n
    · subst hik
      rw [upd_at, upd_at]
      exact R.mod hu hm (fun b hb => hvu b hb)
    · rw [upd_ne _ _ hik, upd_ne _ _ hik]
      exact R.mod (h.el i (by omega)) hm (fun b hb => h.out i (by omega) b hb)
  · intro i hi j hj
    obtain rfl : j = 0 := by omega
    rw [Nat.mul_one, Nat.add_zero]
    by_cases hik : i = n
    · subst hik
      rw [upd_at, List.getElem?_append_right (by omega), hcl]
      simp [one]
    · have h1 := h.cell i (by omega) 0 (by omega)
      rw [Nat.mul_one, Nat.add_zero] at h1
      rw [upd_ne _ _ hik, List.getElem?_append_left (by omega), h1]
  · intro i hi b hb
    by_cases hik : i = n
    · subst hik
      rw [upd_at] at hb
      exact hold b (R.rng hu b hb).2 (hvu b hb)
    · rw [upd_ne _ _ hik] at hb
      exact hold b (R.rng (h.el i (by omega)) b hb).2 (h.out i (by omega) b hb)
  · intro i j hi hj hij b h1 h2
    by_cases hik : i = n
    · subst hik
      rw [upd_at] at h1
      rw [upd_ne _ _ (Ne.symm hij)] at h2
      exact hd j (by omega) b h2 h1
    · rw [upd_ne _ _ hik] at h1
      by_cases hjk : j = n
      · subst hjk
        rw [upd_at] at h2
        exact hd i (by omega) b h1 h2
      · rw [upd_ne _ _ hjk] at h2
        exact h.sep i j (by omega) (by omega) hij b h1 h2

/-- tables, each by itself: they were made one behind the other -/
structure TbSt (W : World) (base : Nat) (v : Value) (xss : List (List Rw)) (cs : List Value) (us : Nat → Value) (fs : Nat → Nat → Prop) : Prop where
  po : PO rowsR 24 1 one W base v xss.length xss.length (fun i => xss.getD i default) cs us fs
  sm : ∀ i, i < xss.length → Small (xss.getD i default) ∧ (xss.getD i default).length ≤ 201

end Go.Proofs.Ytaahmmadcdfcpaa

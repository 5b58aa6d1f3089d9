/-
  What a book holds while legs are added: its bounds.
-/
import Derived.Test.YteebglgbeijolaaLdg
import Derived.Test.YteebglgbeijolaaStm
namespace Go.Proofs.Yteebglgbeijolaa
open Go.RowKit
set_option linter.unusedSectionVars false
variable [DecidableEq Rw] [Inhabited Rw] [DecidableEq Bal] [Inhabited Bal] [DecidableEq Ledg] [Inhabited Ledg] [DecidableEq Leg] [Inhabited Leg] [DecidableEq Cont] [Inhabited Cont] [DecidableEq LedgR] [Inhabited LedgR]
set_option linter.unusedVariables false
set_option linter.unusedSimpArgs false

theorem addLs_bound {f : Int → Int → Int → Option Int} {M : Int} (hf : ∀ s a t, -M ≤ (f s a t).getD 0 ∧ (f s a t).getD 0 ≤ M) (ls : List Leg) : (∀ l ∈ ls, -1000000000000 ≤ l.am ∧ l.am ≤ 1000000000000) → ∀ s a t, -(M + ls.length * 1000000000000) ≤ (addLs f ls s a t).getD 0 ∧ (addLs f ls s a t).getD 0 ≤ M + ls.length * 1000000000000 := by
  refine snoc_ind (P := fun ls => (∀ l ∈ ls, -1000000000000 ≤ l.am ∧ l.am ≤ 1000000000000) → ∀ s a t, -(M + ls.length * 1000000000000) ≤ (addLs f ls s a t).getD 0 ∧ (addLs f ls s a t).getD 0 ≤ M + ls.length * 1000000000000) ?_ ?_ ls
  · intro _ s a t
    have := hf s a t
    simpa [addLs] using this
  · intro ls l ih hl s a t
    have h1 := ih (fun x hx => hl x (List.mem_append_left _ hx))
    have h2 := hl l (by simp)
    rw [addLs_snoc, List.length_append, List.length_singleton]
    unfold addL upd3
    have h3 := h1 s a t
    have h4 := h1 l.sh l.ac l.ast
    split
    · split
      · simp only [Option.getD_none]
        omega
      · simp only [Option.getD_some]
        omega
    · omega
theorem bookF_bound {g : Ledg} (h : ledFault g = 0) : ∀ s a t, -1000000000000 ≤ (bookF g.shards s a t).getD 0 ∧ (bookF g.shards s a t).getD 0 ≤ 1000000000000 := by
  intro s a t
  unfold bookF
  split
  · rename_i hr
    have hk := (ledOk_of h).2.2 s.toNat (by omega)
    have h1 := hasB_le (a := a) (t := t) hk.ok
    rw [hasB_get] at h1
    omega
  · simp

theorem settle_facts {g : Ledg} {c : Cont} (h : canG g c = 0) : (1 ≤ g.shards.length ∧ g.shards.length ≤ 3 ∧ c.legs.length ≤ 8 ∧ ledFault g = 0) ∧ (∀ i, i < g.shards.length → RiseB (g.shards.getD i default)) ∧ (∀ l ∈ c.legs, keyOk l.ac l.ast = true) ∧ (∀ l ∈ c.legs, 0 ≤ l.sh ∧ l.sh < (g.shards.length : Int)) ∧
    ∀ k, k < c.legs.length → kwf (c.legs.getD k default).sh (c.legs.getD k default).ac (c.legs.getD k default).ast ∧ -9223372036854775808 ≤ (addLs (bookF g.shards) (c.legs.take k) (c.legs.getD k default).sh (c.legs.getD k default).ac (c.legs.getD k default).ast).getD 0 + (c.legs.getD k default).am ∧ (addLs (bookF g.shards) (c.legs.take k) (c.legs.getD k default).sh (c.legs.getD k default).ac (c.legs.getD k default).ast).getD 0 + (c.legs.getD k default).am ≤ 9223372036854775807 := by
  obtain ⟨h0, h1, h2, _⟩ := canG_inv h
  obtain ⟨_, _, h8, hok, _⟩ := cf_inv h1
  obtain ⟨hn0, hn, hbk⟩ := ledOk_of h0
  have hl : ∀ x ∈ c.legs, legFault x = 0 ∧ x.sh < (g.shards.length : Int) := fun x hx => by
    obtain ⟨j, hj, rfl⟩ := List.mem_iff_getElem.1 hx
    have h3 := (hok j hj).1
    have h4 := h2 j hj
    have e : c.legs.getD j default = c.legs[j] := by simp [List.getD, hj]
    rw [e] at h3 h4
    exact ⟨h3, h4⟩
  refine ⟨⟨hn0, hn, h8, h0⟩, fun i hi => rise_of (hbk i hi), fun l h => ?_, fun l h => ?_, fun k hk => ?_⟩
  · have hz := legFault_zero (hl l h).1
    exact keyOk_iff.2 ⟨hz.2.1, hz.2.2.1⟩
  · exact ⟨(legFault_zero (hl l h).1).1.1, (hl l h).2⟩
  · have e : c.legs.getD k default = c.legs[k] := by simp [List.getD, hk]
    have hz := legFault_zero (hl _ (List.getElem_mem hk)).1
    rw [e]
    have hb := addLs_bound (bookF_bound h0) (c.legs.take k) (fun l hm => (legFault_zero (hl l (List.mem_of_mem_take hm)).1).2.2.2.1) c.legs[k].sh c.legs[k].ac c.legs[k].ast
    rw [List.length_take] at hb
    refine ⟨⟨wf_of (by omega) (by omega), wf_of (by omega) (by omega), wf_of (by omega) (by omega)⟩, ?_, ?_⟩ <;> omega

end Go.Proofs.Yteebglgbeijolaa

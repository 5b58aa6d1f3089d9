/-
  One more record in a log: the specification's side.
-/
import Derived.Test.YtaahmmadcdfcpaaLogD
import Derived.Test.YtaahmmadcdfcpaaRegS
import Derived.Deep.RegionLawGrows
namespace Go.Proofs.Ytaahmmadcdfcpaa
open Go.RowKit
set_option linter.unusedSectionVars false
variable [DecidableEq Logg] [Inhabited Logg] [DecidableEq LoggR] [Inhabited LoggR] [DecidableEq BytesR] [Inhabited BytesR] [DecidableEq RecsR] [Inhabited RecsR] [DecidableEq Leg] [Inhabited Leg]
set_option linter.unusedSimpArgs false
attribute [local go_sem ↓] Go.wp_at_zero Go.wp_at_succ

theorem run_append_zero {P : Program} (w : World) (t ty e : TypeId) (i : TypeInfo) (ht : P.underlying t = some (.slice e)) (hi : P.info? e = some i) (g c : Nat) (ao : Option Addr) :
    (Builtin.append_ #[t, t] ty #[.slice (some ⟨g, 0, none⟩) 0 0, .slice ao 0 c]).run P w = .ok (.slice (some ⟨g, 0, none⟩) 0 0) w := by
  cases ao with
  | none => simp [Builtin.append_, run_underlying ht, sizeOf, typeInfo, hi, Builtin.lenOf, Builtin.firstCells, storeCells]
  | some ad => simp [Builtin.append_, run_underlying ht, sizeOf, typeInfo, hi, Builtin.lenOf, Builtin.firstCells, storeCells, loadCells, loadCellsFrom]

/-- bytes appended to an empty literal -/
theorem step_litB (Y : World) {ops : Array Oper} {o : Oper} {a : Act} {K : Act → World → Prop} {Q : Exit → Act → World → Prop} {E : Prop} (hgd : o.guard = none) (s x : Operand)
    (ho : o.op = .call { callee := .builtin .append, args := #[s, x], argTypes := #[22, 22] })
    (g : Nat) (hs : a.eval s = .slice (some ⟨g, 0, none⟩) 0 0) (u : Value) (ys : List Byte) (hx : a.eval x = u) (hsrc : AppAny Y u ys.length (bytesC ys)) (hlen : ys.length ≤ 1073741824)
    (h : ∀ v' w', Below Y.heap.size Y w' → ((ys = [] ∧ v' = .slice (some ⟨g, 0, none⟩) 0 0) ∨ w'.ownsRow Y.heap.size 5 1 v' ys.length (bytesC ys)) → K (a.put o.dst v') w') :
    if Region.wanted o (yielded ops a.tmps) = true then Oper.wp Try.prog o a Y K Q else E := by
  obtain ⟨i0, hi, hz0, hz1, hz2⟩ := info_parts infoByte
  by_cases hy : ys = []
  · subst hy
    have hu : ∃ ao c, u = .slice ao 0 c := by
      rcases hsrc with ⟨c, rfl, _, _⟩ | ⟨ad, c, rfl, _⟩
      · exact ⟨_, _, rfl⟩
      · exact ⟨_, _, rfl⟩
    obtain ⟨ao, c, rfl⟩ := hu
    have hw : Region.wanted o (yielded ops a.tmps) = true := by simp [Region.wanted, hgd]
    rw [if_pos hw]
    have hr := run_append_zero (P := Try.prog) Y 22 o.type 5 i0 Try.underlying22 hi g c ao
    unfold Oper.wp execOp
    simp only [ho, resolve, invoke, builtin, Sem.run_bind, Sem.run_pure, Result.andThen_ok, List.map_toArray, List.map_cons, List.map_nil, hs, hx, hr]
    exact h _ _ (Below.refl _ _) (.inl ⟨rfl, rfl⟩)
  · rcases hsrc with ⟨c, rfl, hm, _⟩ | ⟨ad, c, rfl, hc⟩
    · exact absurd (List.eq_nil_of_length_eq_zero hm) hy
    · have hpos : 0 < ys.length := List.length_pos_iff.2 hy
      refine step_append_grows hgd s x 22 ho 5 i0 _ 1 1 Try.underlying22 hi hz0 hz1 hz2 rfl (by decide) (some ⟨g, 0, none⟩) 0 0 [] hs (fun e => by cases e) rfl (fun _ _ j v hj => by cases hj) ad ys.length c (bytesC ys) hx (by rw [length_bytesC]; omega) hc (bytesC_one ys) (by omega) (by unfold maxLen; omega) (by omega) ?_
      intro v' w' hown hg
      refine h v' w' ((Below.refl _ _).grown hg (Nat.le_refl _) (fun k e => by cases e)) (.inr ?_)
      simpa using hown

/-- the operations of l4Copy's region, and what each yields -/
def copyG (d : Logg) : Nat → (Nat → Value) → Nat → Nat → World → Prop
  | 0, y, lo, hi, w => y 3 = .slice (some ⟨lo, 0, none⟩) 0 0 ∧ lo < hi ∧ w.ownsRow lo 5 1 (.slice (some ⟨lo, 0, none⟩) 0 0) 0 (bytesC [])
  | 3, y, lo, hi, w => (∃ a c, y 6 = .slice a d.synced.length c) ∧ ((d.synced = [] ∧ y 6 = y 3) ∨ (w.ownsRow lo 5 1 (y 6) d.synced.length (bytesC d.synced) ∧ ∀ b, (y 6).ownBlock = some b → b < hi))
  | 4, y, lo, hi, w => y 7 = .slice (some ⟨lo, 0, none⟩) 0 0 ∧ lo < hi ∧ w.ownsRow lo 5 1 (.slice (some ⟨lo, 0, none⟩) 0 0) 0 (bytesC [])
  | 7, y, lo, hi, w => (∃ a c, y 10 = .slice a d.loose.length c) ∧ ((d.loose = [] ∧ y 10 = y 7) ∨ (w.ownsRow lo 5 1 (y 10) d.loose.length (bytesC d.loose) ∧ ∀ b, (y 10).ownBlock = some b → b < hi))
  | 8, y, _, _, _ => y 11 = .agg #[y 6, y 10]
  | _, _, _, _, _ => True

theorem lit_both {w0 w : World} {xs : List Byte} {v v0 : Value} {l1 h1 l2 h2 : Nat} (b1 : InB w0 w l1 h1) (b2 : InB w0 w l2 h2)
    (g1 : v0 = .slice (some ⟨l1, 0, none⟩) 0 0 ∧ l1 < h1 ∧ w.ownsRow l1 5 1 (.slice (some ⟨l1, 0, none⟩) 0 0) 0 (bytesC []))
    (g2 : (xs = [] ∧ v = v0) ∨ (w.ownsRow l2 5 1 v xs.length (bytesC xs) ∧ ∀ b, v.ownBlock = some b → b < h2)) :
    ∃ F, bytesR.O w w0.heap.size F v xs ∧ ∀ b, F b → (l1 ≤ b ∧ b < h1) ∨ (l2 ≤ b ∧ b < h2) := by
  rcases g2 with ⟨rfl, rfl⟩ | ⟨g2, g3⟩
  · obtain ⟨rfl, g4, g5⟩ := g1
    refine ⟨_, bytesR.base (base := l1) ⟨g5, rfl⟩ b1.1, fun b hb => .inl ?_⟩
    simp [Value.ownBlock] at hb
    omega
  · refine ⟨_, bytesR.base (base := l2) ⟨g2, rfl⟩ b2.1, fun b hb => .inr ⟨?_, g3 b hb⟩⟩
    exact (bytesR.rng (F := fun b => v.ownBlock = some b) (show bytesR.O w l2 _ v xs from ⟨g2, rfl⟩) b hb).1

end Go.Proofs.Ytaahmmadcdfcpaa

/-
  A contract read out of bytes: the mathematics, and legs appended.
-/
import Derived.Test.YthikaieobdhckaaNum
import Derived.Test.YthikaieobdhckaaCut
import Derived.Test.YthikaieobdhckaaSumOf
import Derived.Test.YthikaieobdhckaaSContR
import Derived.Test.YthikaieobdhckaaKeeps
import Derived.Test.YthikaieobdhckaaApp0
namespace Go.Proofs.Ythikaieobdhckaa
open Go.RowKit
set_option linter.unusedSectionVars false
variable [DecidableEq Leg] [Inhabited Leg] [DecidableEq Cont] [Inhabited Cont] [DecidableEq ContR] [Inhabited ContR]
attribute [local go_sem ↓] Go.wp_at_zero Go.wp_at_succ

/-- the leg that eleven bytes tell -/
def unLeg (xs : List Byte) (t : Nat) : Leg := ⟨((xs.getD t 0).val : Int), ((xs.getD (t + 1) 0).val : Int), ((xs.getD (t + 2) 0).val : Int), IntKind.i64.wrap (hiN ((xs.drop (t + 3)).take 8))⟩
def unLegs (xs : List Byte) (k : Nat) : List Leg := (List.range k).map (fun i => unLeg xs (8 + 11 * i))
theorem length_unLegs (xs : List Byte) (k : Nat) : (unLegs xs k).length = k := by simp [unLegs]
theorem unLegs_succ (xs : List Byte) (k : Nat) : unLegs xs (k + 1) = unLegs xs k ++ [unLeg xs (8 + 11 * k)] := by simp [unLegs, List.range_succ]
theorem legsC_snoc' (xs : List Leg) (l : Leg) : legsC (xs ++ [l]) = legsC xs ++ legC l := by simp [legsC]
theorem legC_one' (l : Leg) : ∀ u ∈ legC l, u.oneCell' = true := by
  intro u hu
  simp only [legC, List.mem_cons, List.not_mem_nil, or_false] at hu
  rcases hu with rfl | rfl | rfl | rfl <;> rfl
theorem appAny_leg {w : World} {g c : Nat} {l : Leg} (h0 : w.cell? ⟨g, 0, none⟩ = some (.int .i64 l.sh)) (h1 : w.cell? ⟨g, 1, none⟩ = some (.int .i64 l.ac)) (h2 : w.cell? ⟨g, 2, none⟩ = some (.int .i64 l.ast)) (h3 : w.cell? ⟨g, 3, none⟩ = some (.int .i64 l.am)) :
    AppAny w (.slice (some ⟨g, 0, none⟩) 1 c) 1 (legC l) := by
  refine .inr ⟨_, _, rfl, fun j x hj => ?_⟩
  match j, hj with
  | 0, hj => simp [legC] at hj; subst hj; simpa [Addr.add] using h0
  | 1, hj => simp [legC] at hj; subst hj; simpa [Addr.add] using h1
  | 2, hj => simp [legC] at hj; subst hj; simpa [Addr.add] using h2
  | 3, hj => simp [legC] at hj; subst hj; simpa [Addr.add] using h3
  | j + 4, hj => simp [legC] at hj

/-- one leg more appended at a step of a region that draws its order -/
theorem step_pushLeg (Y : World) {ops : Array Oper} {o : Oper} {a : Act} {K : Act → World → Prop} {Q : Exit → Act → World → Prop} {E : Prop} (hgd : o.guard = none) (s x : Operand)
    (ho : o.op = .call { callee := .builtin .append, args := #[s, x], argTypes := #[40, 40] })
    (base : Nat) (v : Value) (out : List Leg) (hs : a.eval s = v) (l : Leg) (u : Value) (hx : a.eval x = u) (hown : Y.ownsRow base 72 4 v out.length (legsC out)) (hsrc : AppAny Y u 1 (legC l)) (hlen : out.length ≤ 1048576) (hbase : base ≤ Y.heap.size)
    (h : ∀ v' w', w'.ownsRow base 72 4 v' (out ++ [l]).length (legsC (out ++ [l])) → Y.grownBy w' v.ownBlock → (∀ W : World, Below base W Y → Below base W w') → K (a.put o.dst v') w') :
    if Region.wanted o (yielded ops a.tmps) = true then Oper.wp Try.prog o a Y K Q else E := by
  obtain ⟨i0, hi, hz0, hz1, hz2⟩ := info_parts infoLeg
  refine step_appAny Y hgd s x 40 ho base 72 i0 _ 4 32 Try.underlying40 hi hz0 hz1 hz2 rfl (by decide) v out.length (legsC out) hs u 1 (legC l) hx hown hsrc rfl (legC_one' l) (by unfold maxLen; omega) (by omega) hbase ?_
  intro v' w' h1 h2 h3
  refine h v' w' ?_ h2 h3
  rw [List.length_append, legsC_snoc']
  exact h1

def okSize (n : Nat) : Prop := 8 ≤ n ∧ (n - 8) % 11 = 0 ∧ n ≤ 96
def unCont (xs : List Byte) : Cont := ⟨IntKind.i64.wrap (hiN (xs.take 8)), unLegs xs ((xs.length - 8) / 11)⟩

/-- a contract that is being read: its box, the answer's box, the legs -/
def UnSt (w w' : World) (id : Int) (v : Value) (ys : List Leg) : Prop :=
  (w'.cell? ⟨w.heap.size + 1, 0, none⟩ = some (.int .i64 id) ∧ w'.cell? ⟨w.heap.size + 1, 1, none⟩ = some v) ∧ (w'.cell? ⟨w.heap.size, 0, none⟩ = some (.int .i64 0) ∧ w'.cell? ⟨w.heap.size, 1, none⟩ = some (.slice none 0 0)) ∧
  ((∀ o, w'.frozen? ⟨w.heap.size, o, none⟩ = false) ∧ (∀ o, w'.frozen? ⟨w.heap.size + 1, o, none⟩ = false)) ∧ w.heap.size + 2 ≤ w'.heap.size ∧ w'.ownsRow (w.heap.size + 2) 72 4 v ys.length (legsC ys) ∧ Below w.heap.size w w'

theorem unKeep {w w3 : World} {x y : Value} (h : Below w.heap.size w w3 ∧ w3.cell? ⟨w.heap.size + 1, 0, none⟩ = some x ∧ w3.cell? ⟨w.heap.size + 1, 1, none⟩ = some y) (a b : Value) :
    Below w.heap.size w ((w3.setCell ⟨w.heap.size, 0, none⟩ a).setCell ⟨w.heap.size, 1, none⟩ b) ∧ ((w3.setCell ⟨w.heap.size, 0, none⟩ a).setCell ⟨w.heap.size, 1, none⟩ b).cell? ⟨w.heap.size + 1, 0, none⟩ = some x ∧
      ((w3.setCell ⟨w.heap.size, 0, none⟩ a).setCell ⟨w.heap.size, 1, none⟩ b).cell? ⟨w.heap.size + 1, 1, none⟩ = some y := by
  refine ⟨(h.1.setCell (Nat.le_refl _) _).setCell (Nat.le_refl _) _, ?_, ?_⟩
  · rw [set_other (by simp), set_other (by simp)]; exact h.2.1
  · rw [set_other (by simp), set_other (by simp)]; exact h.2.2

end Go.Proofs.Ythikaieobdhckaa

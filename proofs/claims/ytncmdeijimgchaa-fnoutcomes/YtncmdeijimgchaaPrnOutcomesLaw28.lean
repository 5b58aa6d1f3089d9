import Derived.Test.YtncmdeijimgchaaPrnOutcomesLaw26
import Derived.Test.YtncmdeijimgchaaPrnOutcomesLaw27
import Derived.Shelf.SlSortCmp.NoneTotal
import Derived.Test.YtncmdeijimgchaaPrnOutcomesLaw20
import Derived.Test.YtncmdeijimgchaaPrnOutcomesLaw25
import Derived.Test.YtncmdeijimgchaaPrnOutcomesLaw16
import Derived.Test.YtncmdeijimgchaaPrnOutcomesLaw15
import Derived.Test.YtncmdeijimgchaaPrnOutcomesLaw19

/-
  slices.SortFunc over votes: both contracts, at this program.
-/
namespace Go.Proofs.Ytncmdeijimgchaa
open Go.RowKit Go.Sort Go.Shelf
set_option linter.unusedSectionVars false
variable [DecidableEq Vot] [Inhabited Vot] [DecidableEq Slt] [Inhabited Slt] [DecidableEq SltR] [Inhabited SltR] [DecidableEq Bal] [Inhabited Bal] [DecidableEq Ledg] [Inhabited Ledg] [DecidableEq Leg] [Inhabited Leg]
set_option linter.unusedVariables false

theorem sortsV : SortsV where
  some_ := fun xs g cap base W ho hb hn => sortV_any Try.sortV_ren Try.sortV rfl rfl xs g cap base W ho hb hn
  none_ := fun W => AnyF.slices_SortFunc_none Try.sortV none 0 (.func (.func 137) #[] #[]) W
end Go.Proofs.Ytncmdeijimgchaa

/-
  The specification's draws: one of a list, some bytes, bytes with something turned.
-/
namespace Go.Proofs.Ytncmdeijimgchaa
open Go.RowKit
set_option linter.unusedSectionVars false
variable [DecidableEq Logg] [Inhabited Logg] [DecidableEq LoggR] [Inhabited LoggR] [DecidableEq BytesR] [Inhabited BytesR] [DecidableEq RecsR] [Inhabited RecsR] [DecidableEq Leg] [Inhabited Leg]
set_option linter.unusedSimpArgs false
attribute [local go_sem ↓] Go.wp_at_zero Go.wp_at_succ

theorem Mod.trans2 {F G : Nat → Prop} {w w1 w2 : World} (h : Mod F w w1) (k : Mod G w1 w2) (hG : ∀ b, G b → b < w.heap.size → F b) : Mod F w w2 :=
  ⟨k.os.trans h.os, k.tape.trans h.tape, k.output.trans h.output, Nat.le_trans h.size k.size, fun i hi hn => (k.block i (Nat.lt_of_lt_of_le hi h.size) (fun e => hn (hG i e hi))).trans (h.block i hi hn)⟩
theorem Mod.transB {F : Nat → Prop} {w w1 w2 : World} (h : Mod F w w1) (k : Below w1.heap.size w1 w2) : Mod F w w2 := h.trans (Mod.of_below k)
theorem src_new {w : World} {a : Option Addr} {cap : Nat} {xs : List Byte} {T : TypeId} (h : BytesV w (.slice a xs.length cap) xs) (hn : xs.length ≤ 2097152) : Src w.heap.size (w.alloc (.cells #[.slice a xs.length cap, .int .i64 0] T)) w.heap.size a xs.length cap 0 := by
  obtain ⟨a', cap', e, g1, g2, g3⟩ := h
  simp only [Value.slice.injEq, true_and] at e
  obtain ⟨rfl, rfl⟩ := e
  refine ⟨Nat.le_refl _, by simp, by simp [go_sem], by simp [go_sem], fun o => by simp [go_sem], g1, g2, hn, fun i hi => ?_⟩
  obtain ⟨b, o, e, hc⟩ := g3 i hi
  have hl := World.block_lt_of_cell? _ _ hc
  dsimp only at hl
  exact ⟨b, o, _, e, hl, by omega, by have := (xs.getD i 0).isLt; omega, cell_keep (balloc (Below.refl _ _) _) hc⟩
set_option maxHeartbeats 400000 in
theorem l1Source_any (x : Value) (xs : List Byte) (w : World) (hx : BytesV w x xs) (hn : xs.length ≤ 2097152) :
    Calls Try.prog 42 #[x] w fun e w' => ∃ a cap, e = .returned (.pointer (some ⟨w.heap.size, 0, none⟩)) ∧ Src w.heap.size w' w.heap.size a xs.length cap 0 ∧ Below w.heap.size w w' := by
  have hX := hx
  obtain ⟨a, cap, rfl, _⟩ := hx
  go_enter Try.func42, Try.ntmps42
  go_wp2
  go_ret
  exact ⟨a, cap, rfl, src_new hX hn, by (repeat (first | exact Below.refl _ _ | assumption | refine Below.drew ?_ | refine balloc ?_ _ | refine bset ?_ (by simp; omega) _ | refine bset ?_ (by simp) _ | refine bstep ?_ (by assumption)))⟩
end Go.Proofs.Ytncmdeijimgchaa

/-
  The specification's draws: bytes with something turned.
-/
namespace Go.Proofs.Ytncmdeijimgchaa
open Go.RowKit
set_option linter.unusedSectionVars false
variable [DecidableEq Logg] [Inhabited Logg] [DecidableEq LoggR] [Inhabited LoggR] [DecidableEq BytesR] [Inhabited BytesR] [DecidableEq RecsR] [Inhabited RecsR] [DecidableEq Leg] [Inhabited Leg]
set_option linter.unusedSimpArgs false
attribute [local go_sem ↓] Go.wp_at_zero Go.wp_at_succ

theorem one_owns {W : World} {base : Nat} {q : Int} (b : Byte) (hq : q = (b.val : Int)) (h : base ≤ W.heap.size) : (W.alloc (.cells #[.int .u8 q] 5)).ownsRow base 5 1 (.slice (some ⟨W.heap.size, 0, none⟩) 1 1) [b].length (bytesC [b]) := by
  subst hq
  exact World.ownsRow_lit (base := base) (e := 5) (size := 1) W #[.int .u8 (b.val : Int)] 1 h (by unfold maxLen; omega) rfl
end Go.Proofs.Ytncmdeijimgchaa

/-
  The specification's draws: a right contract.
-/
namespace Go.Proofs.Ytncmdeijimgchaa
open Go.RowKit
set_option linter.unusedSectionVars false
variable [DecidableEq Logg] [Inhabited Logg] [DecidableEq LoggR] [Inhabited LoggR] [DecidableEq BytesR] [Inhabited BytesR] [DecidableEq RecsR] [Inhabited RecsR] [DecidableEq Leg] [Inhabited Leg] [DecidableEq Cont] [Inhabited Cont]
set_option linter.unusedSimpArgs false
attribute [local go_sem ↓] Go.wp_at_zero Go.wp_at_succ

theorem appAny_owns {w : World} {base e size : Nat} {v : Value} {n : Nat} {cs : List Value} (h : w.ownsRow base e size v n cs) : AppAny w v n cs := by
  rcases h.2 with ⟨rfl, rfl⟩ | ⟨g, cap, cur, rfl, _, hh, _, _, _, ht⟩
  · refine .inl ⟨0, rfl, rfl, ?_⟩
    have := h.1
    simp at this
    exact this
  · refine .inr ⟨_, _, rfl, fun j x hj => ?_⟩
    have hlt : j < cs.length := by
      rcases Nat.lt_or_ge j cs.length with h | h
      · exact h
      · rw [List.getElem?_eq_none h] at hj; cases hj
    have hc := h.cellAt j (by rw [← h.1]; exact hlt)
    rw [addP]
    simpa [hj] using hc
theorem legC_oneC (l : Leg) : ∀ u ∈ legC l, u.oneCell' = true := by
  intro u hu
  simp only [legC, List.mem_cons, List.not_mem_nil, or_false] at hu
  rcases hu with rfl | rfl | rfl | rfl <;> rfl
theorem legsC_oneC (xs : List Leg) : ∀ u ∈ legsC xs, u.oneCell' = true := by
  intro u hu
  simp only [legsC, List.mem_flatMap] at hu
  obtain ⟨l, _, hu⟩ := hu
  exact legC_oneC l u hu
theorem legsC_app (xs ys : List Leg) : legsC (xs ++ ys) = legsC xs ++ legsC ys := by simp [legsC]
theorem legsC_len (xs : List Leg) : (legsC xs).length = xs.length * 4 := by
  induction xs with
  | nil => rfl
  | cons l xs ih =>
    have e : legsC (l :: xs) = legC l ++ legsC xs := rfl
    rw [e, List.length_append, ih, List.length_cons]
    have : (legC l).length = 4 := rfl
    omega
theorem step_appLegs (Y : World) {ops : Array Oper} {o : Oper} {a : Act} {K : Act → World → Prop} {Q : Exit → Act → World → Prop} {E : Prop} (hgd : o.guard = none) (s x : Operand)
    (ho : o.op = .call { callee := .builtin .append, args := #[s, x], argTypes := #[24, 24] })
    (base : Nat) (v : Value) (F1 : Nat → Prop) (xs : List Leg) (hs : a.eval s = v) (u : Value) (ys : List Leg) (hx : a.eval x = u)
    (hown : legsR.O Y base F1 v xs) (hsrc : AppAny Y u ys.length (legsC ys)) (hlen : xs.length + ys.length ≤ 1048576) (hbase : base ≤ Y.heap.size)
    (h : ∀ v' w', legsR.O w' base (fun b => v'.ownBlock = some b) v' (xs ++ ys) → Mod F1 Y w' → (∀ b, v'.ownBlock = some b → F1 b ∨ (Y.heap.size ≤ b ∧ b < w'.heap.size)) → K (a.put o.dst v') w') :
    if Region.wanted o (yielded ops a.tmps) = true then Oper.wp Try.prog o a Y K Q else E := by
  obtain ⟨i0, hi, hz0, hz1, hz2⟩ := info_parts infoLeg
  have hF1 : F1 = fun b => v.ownBlock = some b := hown.2
  rcases hsrc with ⟨c, rfl, hm, _⟩ | ⟨ad, c, rfl, hc⟩
  · have hy : ys = [] := List.eq_nil_of_length_eq_zero hm
    subst hy
    have hw : Region.wanted o (yielded ops a.tmps) = true := by simp [Region.wanted, hgd]
    rw [if_pos hw]
    have hr := run_append_none_any (P := Try.prog) Y base 24 o.type 138 i0 4 c Try.underlying24 hi v xs.length (legsC xs) hown.1
    unfold Oper.wp execOp
    simp only [ho, resolve, invoke, builtin, Sem.run_bind, Sem.run_pure, Result.andThen_ok, List.map_toArray, List.map_cons, List.map_nil, hs, hx, hr]
    refine h v Y ?_ (Mod.refl _ _) (fun b hb => .inl (by rw [hF1]; exact hb))
    rw [List.append_nil]
    exact ⟨hown.1, rfl⟩
  · refine step_append_at Y hgd s x 24 ho base 138 i0 _ 4 32 Try.underlying24 hi hz0 hz1 hz2 rfl (by decide) v xs.length (legsC xs) hs hown.1 ad ys.length c (legsC ys) hx (legsC_len ys) hc (legsC_oneC ys) (by unfold maxLen; omega) (by omega) hbase ?_
    intro v' w' h1 h2 h3
    refine h v' w' ⟨by rw [List.length_append, legsC_app]; exact h1, rfl⟩ (by rw [hF1]; exact Mod.of_grown h2) (fun b hb => ?_)
    rcases h3 with h3 | h3
    · exact .inl (by rw [hF1]; exact h3 ▸ hb)
    · rw [h3] at hb
      simp only [Option.some.injEq] at hb
      have := (h1.lt b (by rw [h3, hb])).2
      exact .inr ⟨by omega, this⟩
def drawG (base : Nat) (id : Int) (xs : List Leg) (la lb : Leg) : Nat → (Nat → Value) → (Nat → Prop) → World → Prop
  | 1, y, F, w => legsR.O w base F (y 42) []
  | 4, y, F, w => legsR.O w base F (y 45) xs
  | 7, y, F, w => legsR.O w base F (y 48) [la, lb]
  | 8, y, F, w => legsR.O w base F (y 49) (xs ++ [la, lb])
  | 9, y, _, _ => y 50 = .agg #[.int .i64 id, y 49]
  | 10, y, F, w => ∃ g, y 11 = .pointer (some ⟨g, 0, none⟩) ∧ (∀ b, F b ↔ b = g) ∧ w.cell? ⟨g, 0, none⟩ = some (.int .i64 0) ∧ w.cell? ⟨g, 1, none⟩ = some (.slice none 0 0) ∧ ∀ o, w.frozen? ⟨g, o, none⟩ = false
  | _, _, _, _ => True
def drawC : Nat → List Nat
  | 4 => [1]
  | 8 => [4]
  | _ => []
end Go.Proofs.Ytncmdeijimgchaa


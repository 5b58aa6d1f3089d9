import Derived.Test.YtncmdeijimgchaaPrnNewShardLaw2
import Derived.Test.YtncmdeijimgchaaPrnNewShardLaw3
import Derived.Test.YtncmdeijimgchaaPrnNewShardLaw4
import Derived.Test.YtncmdeijimgchaaPrnNewShardLaw1
import Derived.Deep.RegionHeld3

/-
  Appending legs, marks, numbers, balances that lie anywhere.
-/
set_option linter.unusedSimpArgs false
set_option linter.unusedVariables false
namespace Go.Proofs.Ytncmdeijimgchaa
open Go.RowKit
set_option linter.unusedSectionVars false
variable [DecidableEq Leg] [Inhabited Leg] [DecidableEq Mrk] [Inhabited Mrk] [DecidableEq Bal] [Inhabited Bal]
attribute [local go_sem ↓] Go.wp_at_zero Go.wp_at_succ

theorem appAny_legs10 {w : World} {v : Value} {xs : List Leg} (h : legsR.V w v xs) : AppAny w v xs.length (legsC xs) := by
  obtain ⟨a, c, rfl, _, _, hc⟩ := h
  cases a with
  | none =>
    have h0 : xs = [] := by
      cases xs with
      | nil => rfl
      | cons x r => obtain ⟨b, o, e, _⟩ := hc 0 (by simp); cases e
    subst h0
    exact .inl ⟨c, rfl, rfl, rfl⟩
  | some ad =>
    refine .inr ⟨ad, c, rfl, fun j x hj => ?_⟩
    have hjl : j < xs.length * 4 := by
      have := (List.getElem?_eq_some_iff.1 hj).1
      rw [length_legsC] at this
      exact this
    have hi : j / 4 < xs.length := by omega
    obtain ⟨b, o, e, g0, g1, g2, g3⟩ := hc (j / 4) hi
    obtain ⟨q0, q1, q2, q3⟩ := getLegsC xs (j / 4) hi
    simp only [Option.some.injEq] at e
    subst e
    have hadd : (Addr.mk b o none).add j = ⟨b, o + j, none⟩ := by
      by_cases h : j = 0
      · subst h; simp [Addr.add]
      · simp [Addr.add, h]
    rw [hadd]
    have hm : j % 4 = 0 ∨ j % 4 = 1 ∨ j % 4 = 2 ∨ j % 4 = 3 := by omega
    rcases hm with hm | hm | hm | hm
    · have e : j = j / 4 * 4 := by omega
      have e2 : o + j = o + j / 4 * 4 := by omega
      rw [e2, g0]
      rw [e, q0] at hj
      exact hj
    · have e : j = j / 4 * 4 + 1 := by omega
      have e2 : o + j = o + j / 4 * 4 + 1 := by omega
      rw [e2, g1]
      rw [e, q1] at hj
      exact hj
    · have e : j = j / 4 * 4 + 2 := by omega
      have e2 : o + j = o + j / 4 * 4 + 2 := by omega
      rw [e2, g2]
      rw [e, q2] at hj
      exact hj
    · have e : j = j / 4 * 4 + 3 := by omega
      have e2 : o + j = o + j / 4 * 4 + 3 := by omega
      rw [e2, g3]
      rw [e, q3] at hj
      exact hj
theorem appAny_mrks10 {w : World} {v : Value} {xs : List Mrk} (h : mrksR.V w v xs) : AppAny w v xs.length (mrksC xs) := by
  obtain ⟨a, c, rfl, _, _, hc⟩ := h
  cases a with
  | none =>
    have h0 : xs = [] := by
      cases xs with
      | nil => rfl
      | cons x r => obtain ⟨b, o, e, _⟩ := hc 0 (by simp); cases e
    subst h0
    exact .inl ⟨c, rfl, rfl, rfl⟩
  | some ad =>
    refine .inr ⟨ad, c, rfl, fun j x hj => ?_⟩
    have hjl : j < xs.length * 2 := by
      have := (List.getElem?_eq_some_iff.1 hj).1
      rw [length_mrksC] at this
      exact this
    have hi : j / 2 < xs.length := by omega
    obtain ⟨b, o, e, g0, g1⟩ := hc (j / 2) hi
    obtain ⟨q0, q1⟩ := get_mrksC xs (j / 2) hi
    simp only [Option.some.injEq] at e
    subst e
    have hadd : (Addr.mk b o none).add j = ⟨b, o + j, none⟩ := by
      by_cases h : j = 0
      · subst h; simp [Addr.add]
      · simp [Addr.add, h]
    rw [hadd]
    have hm : j % 2 = 0 ∨ j % 2 = 1 := by omega
    rcases hm with hm | hm
    · have e : j = j / 2 * 2 := by omega
      have e2 : o + j = o + j / 2 * 2 := by omega
      rw [e2, g0]
      rw [e, q0] at hj
      exact hj
    · have e : j = j / 2 * 2 + 1 := by omega
      have e2 : o + j = o + j / 2 * 2 + 1 := by omega
      rw [e2, g1]
      rw [e, q1] at hj
      exact hj
theorem length_intsC' (xs : List Int) : (intsC xs).length = xs.length := by simp [intsC]
theorem appAny_ints {w : World} {v : Value} {xs : List Int} (h : IntsV w v xs) : AppAny w v xs.length (intsC xs) := by
  obtain ⟨a, c, rfl, _, _, hc⟩ := h
  cases a with
  | none =>
    have h0 : xs = [] := by
      cases xs with
      | nil => rfl
      | cons x r => obtain ⟨b, o, e, _⟩ := hc 0 (by simp); cases e
    subst h0
    exact .inl ⟨c, rfl, rfl, rfl⟩
  | some ad =>
    refine .inr ⟨ad, c, rfl, fun j x hj => ?_⟩
    have hi : j < xs.length := by
      have := (List.getElem?_eq_some_iff.1 hj).1
      rw [length_intsC'] at this
      exact this
    obtain ⟨b, o, e, g0⟩ := hc j hi
    simp only [Option.some.injEq] at e
    subst e
    have hadd : (Addr.mk b o none).add j = ⟨b, o + j, none⟩ := by
      by_cases h : j = 0
      · subst h; simp [Addr.add]
      · simp [Addr.add, h]
    rw [hadd, g0]
    simp [intsC, hi] at hj
    simp [List.getD, hi, hj]
theorem legs_one10 (xs : List Leg) : ∀ u ∈ legsC xs, u.oneCell' = true := by
  intro u hu
  simp only [legsC, List.mem_flatMap] at hu
  obtain ⟨b, _, hb⟩ := hu
  simp [legC] at hb
  rcases hb with rfl | rfl | rfl | rfl <;> rfl
theorem legs_app10 (xs ys : List Leg) : legsC (xs ++ ys) = legsC xs ++ legsC ys := by simp [legsC]
theorem mrks_one10 (xs : List Mrk) : ∀ u ∈ mrksC xs, u.oneCell' = true := by
  intro u hu
  simp only [mrksC, List.mem_flatMap] at hu
  obtain ⟨b, _, hb⟩ := hu
  simp [mrkC] at hb
  rcases hb with rfl | rfl <;> rfl
theorem mrks_app10 (xs ys : List Mrk) : mrksC (xs ++ ys) = mrksC xs ++ mrksC ys := by simp [mrksC]
theorem bals_one10 (xs : List Bal) : ∀ u ∈ balsC xs, u.oneCell' = true := by
  intro u hu
  simp only [balsC, List.mem_flatMap] at hu
  obtain ⟨b, _, hb⟩ := hu
  simp [balC] at hb
  rcases hb with rfl | rfl | rfl <;> rfl
theorem bals_app10 (xs ys : List Bal) : balsC (xs ++ ys) = balsC xs ++ balsC ys := by simp [balsC]
theorem ints_one10 (xs : List Int) : ∀ u ∈ intsC xs, u.oneCell' = true := by
  intro u hu
  simp only [intsC, List.mem_map] at hu
  obtain ⟨b, _, rfl⟩ := hu
  rfl
theorem ints_app10 (xs ys : List Int) : intsC (xs ++ ys) = intsC xs ++ intsC ys := by simp [intsC]
theorem wpList_app10L (w : World) {ops : Array Oper} {rest : List Oper} {o : Oper} {a : Act} {Q : Exit → Act → World → Prop} (hgd : o.guard = none) (s x : Operand)
    (ho : o.op = .call { callee := .builtin .append, args := #[s, x], argTypes := #[24, 24] })
    (base : Nat) (v : Value) (xs : List Leg) (hs : a.eval s = v) (u : Value) (ys : List Leg) (hx : a.eval x = u)
    (hown : w.ownsRow base 138 4 v xs.length (legsC xs)) (hsrc : AppAny w u ys.length (legsC ys)) (hlen : xs.length + ys.length ≤ 1073741824) (hbase : base ≤ w.heap.size)
    (h : ∀ v' w', w'.ownsRow base 138 4 v' (xs ++ ys).length (legsC (xs ++ ys)) → w.grownBy w' v.ownBlock → (∀ W : World, Below base W w → Below base W w') → wpList Try.prog ops Q rest (a.put o.dst v') w') :
    wpList Try.prog ops Q (o :: rest) a w := by
  obtain ⟨i0, hi, hz0, hz1, hz2⟩ := info_parts infoLeg
  refine wpList_appAny w hgd s x 24 ho base 138 i0 _ 4 32 Try.underlying24 hi hz0 hz1 hz2 rfl (by decide) v xs.length (legsC xs) hs u ys.length (legsC ys) hx hown hsrc (by rw [length_legsC]) (legs_one10 ys) (by unfold maxLen; omega) (by omega) hbase ?_
  intro v' w' h1 h2 h3
  refine h v' w' ?_ h2 h3
  rw [List.length_append, legs_app10]
  exact h1
theorem step_app10M (w : World) {ops : Array Oper} {o : Oper} {a : Act} {K : Act → World → Prop} {Q : Exit → Act → World → Prop} {E : Prop} (hgd : o.guard = none) (s x : Operand)
    (ho : o.op = .call { callee := .builtin .append, args := #[s, x], argTypes := #[72, 72] })
    (base : Nat) (v : Value) (xs : List Mrk) (hs : a.eval s = v) (u : Value) (ys : List Mrk) (hx : a.eval x = u)
    (hown : w.ownsRow base 193 2 v xs.length (mrksC xs)) (hsrc : AppAny w u ys.length (mrksC ys)) (hlen : xs.length + ys.length ≤ 1073741824) (hbase : base ≤ w.heap.size)
    (h : ∀ v' w', w'.ownsRow base 193 2 v' (xs ++ ys).length (mrksC (xs ++ ys)) → w.grownBy w' v.ownBlock → (∀ W : World, Below base W w → Below base W w') → K (a.put o.dst v') w') :
    if Region.wanted o (yielded ops a.tmps) = true then Oper.wp Try.prog o a w K Q else E := by
  obtain ⟨i0, hi, hz0, hz1, hz2⟩ := info_parts infoMrk
  refine step_appAny w hgd s x 72 ho base 193 i0 _ 2 16 Try.underlying72 hi hz0 hz1 hz2 rfl (by decide) v xs.length (mrksC xs) hs u ys.length (mrksC ys) hx hown hsrc (by rw [length_mrksC]) (mrks_one10 ys) (by unfold maxLen; omega) (by omega) hbase ?_
  intro v' w' h1 h2 h3
  refine h v' w' ?_ h2 h3
  rw [List.length_append, mrks_app10]
  exact h1
theorem step_app10B (w : World) {ops : Array Oper} {o : Oper} {a : Act} {K : Act → World → Prop} {Q : Exit → Act → World → Prop} {E : Prop} (hgd : o.guard = none) (s x : Operand)
    (ho : o.op = .call { callee := .builtin .append, args := #[s, x], argTypes := #[71, 71] })
    (base : Nat) (v : Value) (xs : List Bal) (hs : a.eval s = v) (u : Value) (ys : List Bal) (hx : a.eval x = u)
    (hown : w.ownsRow base 129 3 v xs.length (balsC xs)) (hsrc : AppAny w u ys.length (balsC ys)) (hlen : xs.length + ys.length ≤ 1073741824) (hbase : base ≤ w.heap.size)
    (h : ∀ v' w', w'.ownsRow base 129 3 v' (xs ++ ys).length (balsC (xs ++ ys)) → w.grownBy w' v.ownBlock → (∀ W : World, Below base W w → Below base W w') → K (a.put o.dst v') w') :
    if Region.wanted o (yielded ops a.tmps) = true then Oper.wp Try.prog o a w K Q else E := by
  obtain ⟨i0, hi, hz0, hz1, hz2⟩ := info_parts infoBal
  refine step_appAny w hgd s x 71 ho base 129 i0 _ 3 24 Try.underlying71 hi hz0 hz1 hz2 rfl (by decide) v xs.length (balsC xs) hs u ys.length (balsC ys) hx hown hsrc (by rw [length_balsC]) (bals_one10 ys) (by unfold maxLen; omega) (by omega) hbase ?_
  intro v' w' h1 h2 h3
  refine h v' w' ?_ h2 h3
  rw [List.length_append, bals_app10]
  exact h1
theorem wpList_app10B (w : World) {ops : Array Oper} {rest : List Oper} {o : Oper} {a : Act} {Q : Exit → Act → World → Prop} (hgd : o.guard = none) (s x : Operand)
    (ho : o.op = .call { callee := .builtin .append, args := #[s, x], argTypes := #[71, 71] })
    (base : Nat) (v : Value) (xs : List Bal) (hs : a.eval s = v) (u : Value) (ys : List Bal) (hx : a.eval x = u)
    (hown : w.ownsRow base 129 3 v xs.length (balsC xs)) (hsrc : AppAny w u ys.length (balsC ys)) (hlen : xs.length + ys.length ≤ 1073741824) (hbase : base ≤ w.heap.size)
    (h : ∀ v' w', w'.ownsRow base 129 3 v' (xs ++ ys).length (balsC (xs ++ ys)) → w.grownBy w' v.ownBlock → (∀ W : World, Below base W w → Below base W w') → wpList Try.prog ops Q rest (a.put o.dst v') w') :
    wpList Try.prog ops Q (o :: rest) a w := by
  obtain ⟨i0, hi, hz0, hz1, hz2⟩ := info_parts infoBal
  refine wpList_appAny w hgd s x 71 ho base 129 i0 _ 3 24 Try.underlying71 hi hz0 hz1 hz2 rfl (by decide) v xs.length (balsC xs) hs u ys.length (balsC ys) hx hown hsrc (by rw [length_balsC]) (bals_one10 ys) (by unfold maxLen; omega) (by omega) hbase ?_
  intro v' w' h1 h2 h3
  refine h v' w' ?_ h2 h3
  rw [List.length_append, bals_app10]
  exact h1
theorem step_app10I (w : World) {ops : Array Oper} {o : Oper} {a : Act} {K : Act → World → Prop} {Q : Exit → Act → World → Prop} {E : Prop} (hgd : o.guard = none) (s x : Operand)
    (ho : o.op = .call { callee := .builtin .append, args := #[s, x], argTypes := #[28, 28] })
    (base : Nat) (v : Value) (xs : List Int) (hs : a.eval s = v) (u : Value) (ys : List Int) (hx : a.eval x = u)
    (hown : w.ownsRow base 2 1 v xs.length (intsC xs)) (hsrc : AppAny w u ys.length (intsC ys)) (hlen : xs.length + ys.length ≤ 1073741824) (hbase : base ≤ w.heap.size)
    (h : ∀ v' w', w'.ownsRow base 2 1 v' (xs ++ ys).length (intsC (xs ++ ys)) → w.grownBy w' v.ownBlock → (∀ W : World, Below base W w → Below base W w') → K (a.put o.dst v') w') :
    if Region.wanted o (yielded ops a.tmps) = true then Oper.wp Try.prog o a w K Q else E := by
  obtain ⟨i0, hi, hz0, hz1, hz2⟩ := info_parts infoInt
  refine step_appAny w hgd s x 28 ho base 2 i0 _ 1 8 Try.underlying28 hi hz0 hz1 hz2 rfl (by decide) v xs.length (intsC xs) hs u ys.length (intsC ys) hx hown hsrc (by rw [length_intsC', Nat.mul_one]) (ints_one10 ys) (by unfold maxLen; omega) (by omega) hbase ?_
  intro v' w' h1 h2 h3
  refine h v' w' ?_ h2 h3
  rw [List.length_append, ints_app10]
  exact h1
end Go.Proofs.Ytncmdeijimgchaa

/-
  Contract. (Written by program: nest.py.)
-/
namespace Go.Proofs.Ytncmdeijimgchaa
open Go.RowKit
set_option linter.unusedSectionVars false
variable [DecidableEq Leg] [Inhabited Leg]
attribute [local go_sem ↓] Go.wp_at_zero Go.wp_at_succ

structure Cont where
  id : Int
  legs : List Leg
variable [DecidableEq Cont] [Inhabited Cont]

def contR : Rep Cont where
  V := fun w v x => ∃ u1, v = .agg #[.int .i64 x.id, u1] ∧ legsR.V w u1 x.legs
  O := fun w base F v x => ∃ u1 F1, v = .agg #[.int .i64 x.id, u1] ∧ legsR.O w base F1 u1 x.legs ∧ (∀ b, F b ↔ (F1 b))
  below := fun h hb => by
    obtain ⟨u1, rfl, h1⟩ := h
    exact ⟨u1, rfl, legsR.below h1 hb⟩
  ofO := fun h => by
    obtain ⟨u1, F1, rfl, h1, _⟩ := h
    exact ⟨u1, rfl, legsR.ofO h1⟩
  mod := fun h hm hd => by
    obtain ⟨u1, F1, rfl, h1, hF⟩ := h
    exact ⟨u1, F1, rfl, legsR.mod h1 hm (fun b hb => hd b ((hF b).2 hb)), hF⟩
  rng := fun h b hb => by
    obtain ⟨u1, F1, rfl, h1, hF⟩ := h
    rcases (hF b).1 hb with hb
    · exact legsR.rng h1 b hb
  base := fun h hb => by
    obtain ⟨u1, F1, rfl, h1, hF⟩ := h
    exact ⟨u1, F1, rfl, legsR.base h1 hb, hF⟩
def wtCont (x : Cont) : Nat := wtLegs x.legs
def lvCont (v : Value) : List Value := match v with | .agg a => one (a.getD 0 (.int .i64 0)) ++ one (a.getD 1 (.int .i64 0)) | _ => []
def cntElCont (x : Cont) : Nat := 1 + cntLegs x.legs
def mkElCont (k : Int) (x : Cont) : Cont := { id := k, legs := mkLegs (k + 1) x.legs }
theorem cont_cntEl (d : Cont) : cntElCont d ≤ 5 * (1 + wtCont d) := by
  unfold cntElCont wtCont
  have q1 := legs_cnt d.legs
  omega
set_option maxHeartbeats 1000000 in
theorem eqContract_u (x y : Value) (d d' : Cont) (w : World) (hx : contR.V w x d) (hy : contR.V w y d') :
    Calls Try.prog 149 #[x, y] w fun e w' => e = .returned (.bool (decide (d = d'))) ∧ Below w.heap.size w w' := by
  obtain ⟨u1, rfl, h1⟩ := hx
  obtain ⟨v1, rfl, k1⟩ := hy
  obtain ⟨id, legs⟩ := d
  obtain ⟨id', legs'⟩ := d'
  dsimp only at h1 k1
  go_enter Try.func149, Try.ntmps149
  go_wp2_with fail
  all_goals try (go_ret; exact ⟨by simp_all, by (repeat (first | exact Below.refl _ _ | assumption | refine Below.drew ?_ | refine balloc ?_ _ | refine bset ?_ (by simp; omega) _ | refine bset ?_ (by simp) _ | refine bstep ?_ (by assumption)))⟩)
  refine (eqLegS_u _ _ legs legs' _ (legsR.below h1 (by (repeat (first | exact Below.refl _ _ | assumption | refine Below.drew ?_ | refine balloc ?_ _ | refine bset ?_ (by simp; omega) _ | refine bset ?_ (by simp) _ | refine bstep ?_ (by assumption))))) (legsR.below k1 (by (repeat (first | exact Below.refl _ _ | assumption | refine Below.drew ?_ | refine balloc ?_ _ | refine bset ?_ (by simp; omega) _ | refine bset ?_ (by simp) _ | refine bstep ?_ (by assumption)))))).mono ?_
  rintro e w1 ⟨rfl, b1⟩
  go_wp2
  all_goals
    go_ret
    exact ⟨by simp_all, by (repeat (first | exact Below.refl _ _ | assumption | refine Below.drew ?_ | refine balloc ?_ _ | refine bset ?_ (by simp; omega) _ | refine bset ?_ (by simp) _ | refine bstep ?_ (by assumption)))⟩
end Go.Proofs.Ytncmdeijimgchaa

/-
  A region that draws its order and ends in one store (number t): what is asked of the world (S) need not hold behind that store.
-/
namespace Go.Proofs.Ytncmdeijimgchaa
open Go.RowKit

section
variable {P : Program} {ops : Array Oper} {Q : Exit → Act → World → Prop} {md : Region.Mode} {S : World → Prop} {t : Nat}

def wpUpto (P : Program) (md : Region.Mode) (ops : Array Oper) (Q : Exit → Act → World → Prop) (S : World → Prop) (t : Nat) : Nat → Array Bool → Act → World → Prop
  | 0, listed, a, w => Region.ready md ops listed = [] ∧ Q .normal a w
  | f + 1, listed, a, w => (Region.ready md ops listed = [] → Q .normal a w) ∧ ∀ i ∈ Region.ready md ops listed, wpOp P ops Q i (fun a' w' => (i ≠ t → S w') ∧ wpUpto P md ops Q S t f (listed.setIfInBounds i true) a' w') a w
theorem upto_any : ∀ (f : Nat) (listed : Array Bool) (a : Act) (w : World), wpUpto P md ops Q S t f listed a w → wpAny P md ops Q f listed a w
  | 0, _, _, _, h => h
  | f + 1, _, _, _, h => ⟨h.1, fun i hi => wpOp_mono (fun _ _ h' => upto_any f _ _ _ h'.2) (h.2 i hi)⟩
def waitsFor (md : Region.Mode) (ops : Array Oper) (t i : Nat) : Bool :=
  match ops[t]? with
  | some o => o.after.any (fun e => Region.binds md e && e.on == i)
  | none => false
theorem upto_first {i : Nat} {oi : Oper} {v : Value} (hi : ops[i]? = some oi) (hsel : Region.noSelect ops = true) (hw : waitsFor md ops t i = true)
    (hQ : ∀ c a w, Q (.panic c) (a.put oi.dst v) w → Q (.panic c) a w) :
    ∀ (f : Nat) (listed : Array Bool) (a : Act) (w : World),
      (∀ j oj, ops[j]? = some oj → j ≠ i → listed.getD j true = false → (∀ e ∈ oj.after, Region.binds md e = true → e.on ≠ i) → oi.apart ops oj = true) →
      i ∈ Region.ready md ops listed → YieldsIf P ops S oi v a → S w →
      wpUpto P md ops Q S t f (listed.setIfInBounds i true) (a.put oi.dst v) w → wpUpto P md ops Q S t (f + 1) listed a w := by
  intro f
  induction f with
  | zero =>
    intro listed a w _ hr hy hS H
    refine ⟨fun h => (by rw [h] at hr; cases hr), fun j hj => ?_⟩
    by_cases hji : j = i
    · subst hji
      exact hy.wpOp hi hS ⟨fun _ => hS, H⟩
    · have hm := ready_mono hj hji
      rw [H.1] at hm
      cases hm
  | succ f ih =>
    intro listed a w hfree hr hy hS H
    refine ⟨fun h => (by rw [h] at hr; cases hr), fun j hj => ?_⟩
    by_cases hji : j = i
    · subst hji
      exact hy.wpOp hi hS ⟨fun _ => hS, H⟩
    · obtain ⟨hjun, oj, hoj, hall⟩ := mem_ready.1 hj
      have hun := (mem_ready.1 hr).1
      have hnl : ¬ listed.getD i false = true := by
        intro h1
        rcases Nat.lt_or_ge i listed.size with h' | h'
        · simp [h'] at hun h1
          rw [hun] at h1
          cases h1
        · simp [Array.getElem?_eq_none h'] at h1
      have hnot : ∀ e ∈ oj.after, Region.binds md e = true → e.on ≠ i := fun e he hb heq => hnl (by rw [← heq]; exact hall e he hb)
      have hjt : j ≠ t := by
        rintro rfl
        unfold waitsFor at hw
        rw [hoj] at hw
        obtain ⟨e, he, hb⟩ := Array.any_eq_true'.1 hw
        simp only [Bool.and_eq_true, beq_iff_eq] at hb
        exact hnot e he hb.1 hb.2
      have h1 := H.2 j (ready_mono hj hji)
      have h2 := wpOp_putIf hoj (hfree j oj hoj hji hjun hnot) (fun cs b => Region.noSelect_spec hsel i oi cs b hi) (fun cs b => Region.noSelect_spec hsel j oj cs b hoj) hQ hy h1
      refine wpOp_mono (fun a' w' h3 => ⟨h3.2.1, ih (listed.setIfInBounds j true) a' w' ?_ (ready_mono hr (Ne.symm hji)) h3.1 (h3.2.1 hjt) ?_⟩) h2
      · intro k ok hk hki hunk hno
        refine hfree k ok hk hki ?_ hno
        by_cases hjk : j = k
        · subst hjk; exact hjun
        · rw [getD_set_ne true hjk] at hunk; exact hunk
      · rw [Array.setIfInBounds_comm _ _ hji]
        exact h3.2.2
theorem upto_take {i : Nat} {oi : Oper} {v : Value} {f : Nat} {listed : Array Bool} {a : Act} {w : World} (hi : ops[i]? = some oi) (hsel : Region.noSelect ops = true) (hw : waitsFor md ops t i = true)
    (hf : Region.free md ops listed i = true) (hr : (Region.ready md ops listed).contains i = true) (hQ : ∀ c a w, Q (.panic c) (a.put oi.dst v) w → Q (.panic c) a w)
    (hwd : Region.wanted oi (yielded ops a.tmps) = true) (hS : S w) (hy : ∀ w, S w → (execOp a.eval oi).run P w = .ok (.value v) w)
    (h : wpUpto P md ops Q S t f (listed.setIfInBounds i true) (a.put oi.dst v) w) : wpUpto P md ops Q S t (f + 1) listed a w :=
  upto_first hi hsel hw hQ f listed a w (Region.free_spec hi hf) (by simpa using hr) (Or.inl ⟨hwd, hy⟩) hS h
theorem upto_done {listed : Array Bool} {a : Act} {w : World} {f : Nat} (hr : Region.ready md ops listed = []) (h : Q .normal a w) : wpUpto P md ops Q S t f listed a w := by
  cases f with
  | zero => exact ⟨hr, h⟩
  | succ f => exact ⟨fun _ => h, by rw [hr]; simp⟩
theorem region_upto {id : Nat} {a : Act} {w : World} (S : World → Prop) (t : Nat) (hm : P.follows .mixedOrders = true) (hS : S w.drew) (h : S w.drew → wpUpto P .any ops Q S t ops.size (Array.replicate ops.size false) a w.drew) : (Code.region id ops true).wp P Q a w :=
  wp_region_any hm (upto_any _ _ _ _ (h hS))
end

end Go.Proofs.Ytncmdeijimgchaa

/-
  A contract copied.
-/
set_option linter.unusedSimpArgs false
set_option linter.unusedVariables false
namespace Go.Proofs.Ytncmdeijimgchaa
open Go.RowKit
set_option linter.unusedSectionVars false
variable [DecidableEq Leg] [Inhabited Leg] [DecidableEq Mrk] [Inhabited Mrk] [DecidableEq Bal] [Inhabited Bal] [DecidableEq Cont] [Inhabited Cont]
attribute [local go_sem ↓] Go.wp_at_zero Go.wp_at_succ

set_option maxHeartbeats 2000000 in
theorem copiedCon_u (x : Value) (d : Cont) (w : World) (hx : contR.V w x d) (hn : d.legs.length ≤ 1048576) :
    Calls Try.prog 116 #[x] w fun e w' => ∃ v F, e = .returned v ∧ contR.O w' w.heap.size F v d ∧ Below w.heap.size w w' := by
  obtain ⟨u1, rfl, hx⟩ := hx
  obtain ⟨ax, cx, rfl⟩ := legs_form hx
  have hs0 : AppAny ((w.alloc (.cells #[.int .i64 d.id, .slice ax d.legs.length cx] 26)).alloc (.cells #[.int .i64 0, .slice none 0 0] 26)) (.slice ax d.legs.length cx) d.legs.length (legsC d.legs) := appAny_legs10 (legsR.below hx (by (repeat (first | exact Below.refl _ _ | assumption | refine Below.drew ?_ | refine balloc ?_ _ | refine bset ?_ (by simp; omega) _ | refine bset ?_ (by simp) _ | refine bstep ?_ (by assumption)))))
  have ho0 := World.ownsRow_nil ((w.alloc (.cells #[.int .i64 d.id, .slice ax d.legs.length cx] 26)).alloc (.cells #[.int .i64 0, .slice none 0 0] 26)) (w.heap.size + 2) 138 4
  clear hx
  go_enter Try.func116, Try.ntmps116
  go_wp2_with (at_builtin; refine wpList_app10L _ rfl _ _ rfl (w.heap.size + 2) _ [] rfl _ d.legs rfl ho0 hs0 ?c1 ?c2 ?_)
  case c1 => simp; omega
  case c2 => simp
  intro v' w1 ho hg hbel
  clear hs0 ho0 hg
  have hY := hbel _ (Below.refl _ _)
  have hB1 : Below w.heap.size w w1 := Below.trans (by (repeat (first | exact Below.refl _ _ | assumption | refine Below.drew ?_ | refine balloc ?_ _ | refine bset ?_ (by simp; omega) _ | refine bset ?_ (by simp) _ | refine bstep ?_ (by assumption)))) (hY.mono (by omega))
  clear hbel
  have y0 : w1.cell? ⟨w.heap.size, 0, none⟩ = some (.int .i64 d.id) := (hY.cell (p := ⟨w.heap.size, 0, none⟩) (by simp)).trans (by simp [go_sem])
  have y1 : w1.cell? ⟨w.heap.size, 1, none⟩ = some (.slice ax d.legs.length cx) := (hY.cell (p := ⟨w.heap.size, 1, none⟩) (by simp)).trans (by simp [go_sem])
  have yf : ∀ o, w1.frozen? ⟨w.heap.size, o, none⟩ = false := fun o => (hY.frozen (p := ⟨w.heap.size, o, none⟩) (by simp)).trans (by simp [go_sem])
  have q0 : w1.cell? ⟨w.heap.size + 1, 0, none⟩ = some (.int .i64 0) := (hY.cell (p := ⟨w.heap.size + 1, 0, none⟩) (by simp)).trans (by simp [go_sem])
  have q1 : w1.cell? ⟨w.heap.size + 1, 1, none⟩ = some (.slice none 0 0) := (hY.cell (p := ⟨w.heap.size + 1, 1, none⟩) (by simp)).trans (by simp [go_sem])
  have qf : ∀ o, w1.frozen? ⟨w.heap.size + 1, o, none⟩ = false := fun o => (hY.frozen (p := ⟨w.heap.size + 1, o, none⟩) (by simp)).trans (by simp [go_sem])
  have hz := hY.size
  try simp at hz
  clear hY
  try simp only [List.nil_append] at ho
  obtain ⟨av, cv, rfl⟩ := owns_form ho
  have o1 : ∃ F, legsR.O w1 (w.heap.size + 2) F (.slice av d.legs.length cv) d.legs := ⟨_, ho, rfl⟩
  obtain ⟨F1, o1⟩ := o1
  clear ho
  go_wp2
  refine bodyPost_ret (v := .agg #[.int .i64 d.id, .slice av d.legs.length cv]) ?_ rfl ⟨_, fun b => F1 b, rfl, ⟨_, F1, rfl, legsR.base (base := w.heap.size + 2) (by (repeat (first | refine Rep.set _ ?_ _ (by simp; omega) | refine Rep.set _ ?_ _ (by simp) | refine Rep.alloc _ ?_ _ | assumption))) (by omega), fun b => Iff.rfl⟩, by (repeat (first | refine bset ?_ (by simp; omega) _ | refine bset ?_ (by simp) _ | refine balloc ?_ _ | assumption))⟩
  simp [results, Try.results116, go_sem, y0, y1, q0, q1, yf, qf]
end Go.Proofs.Ytncmdeijimgchaa


import Derived.Test.YtndghenlapbaaaaGreatPrnVoteShardLaw9
import Derived.Test.YtndghenlapbaaaaGreatPrnVoteShardLaw13
import Derived.Test.YtndghenlapbaaaaGreatPrnVoteShardLaw12
import Derived.Test.YtndghenlapbaaaaGreatPrnVoteShardLaw3
import Derived.Test.YtndghenlapbaaaaGreatPrnVoteShardLaw10
import Derived.Test.YtndghenlapbaaaaGreatPrnVoteShardLaw2
import Derived.Deep.RegionHeld3
import Derived.Test.YtndghenlapbaaaaGreatPrnVoteShardLaw1
import Derived.Maps.AppendAt
set_option linter.unusedSimpArgs false
set_option linter.unusedVariables false
set_option linter.unusedSectionVars false

/-
 Appending legs, marks, numbers, balances that lie anywhere.
-/
namespace Go.Proofs.YtndghenlapbaaaaGreat
open Go.RowKit
variable [DecidableEq Leg] [Inhabited Leg] [DecidableEq Mrk] [Inhabited Mrk] [DecidableEq Bal] [Inhabited Bal]
attribute [local go_sem ↓] Go.wp_at_zero Go.wp_at_succ

theorem appAny_legs10 {w : World} {v : Value} {xs : List Leg} (h : legsR.V w v xs) : AppAny w v xs.length (legsC xs) := by
 obtain ⟨a, c, rfl, _, _, hc⟩ := h
 cases a with
 | none =>
  have h0 : xs = [] := by
   cases xs with
   | nil => rfl
   | cons x r => obtain ⟨b, o, e, _⟩ := hc 0 (by simp); cases e
  subst h0
  exact .inl ⟨c, rfl, rfl, rfl⟩
 | some ad =>
  refine .inr ⟨ad, c, rfl, fun j x hj => ?_⟩
  have hjl : j < xs.length * 4 := by
   have := (List.getElem?_eq_some_iff.1 hj).1
   rw [length_legsC] at this
   exact this
  have hi : j / 4 < xs.length := by omega
  obtain ⟨b, o, e, g0, g1, g2, g3⟩ := hc (j / 4) hi
  obtain ⟨q0, q1, q2, q3⟩ := getLegsC xs (j / 4) hi
  simp only [Option.some.injEq] at e
  subst e
  have hadd : (Addr.mk b o none).add j = ⟨b, o + j, none⟩ := by
   by_cases h : j = 0
   ·
    subst h; simp [Addr.add]
   ·
    simp [Addr.add, h]
  rw [hadd]
  have hm : j % 4 = 0 ∨ j % 4 = 1 ∨ j % 4 = 2 ∨ j % 4 = 3 := by omega
  rcases hm with hm | hm | hm | hm
  ·
   have e : j = j / 4 * 4 := by omega
   have e2 : o + j = o + j / 4 * 4 := by omega
   rw [e2, g0]
   rw [e, q0] at hj
   exact hj
  ·
   have e : j = j / 4 * 4 + 1 := by omega
   have e2 : o + j = o + j / 4 * 4 + 1 := by omega
   rw [e2, g1]
   rw [e, q1] at hj
   exact hj
  ·
   have e : j = j / 4 * 4 + 2 := by omega
   have e2 : o + j = o + j / 4 * 4 + 2 := by omega
   rw [e2, g2]
   rw [e, q2] at hj
   exact hj
  ·
   have e : j = j / 4 * 4 + 3 := by omega
   have e2 : o + j = o + j / 4 * 4 + 3 := by omega
   rw [e2, g3]
   rw [e, q3] at hj
   exact hj
theorem appAny_mrks10 {w : World} {v : Value} {xs : List Mrk} (h : mrksR.V w v xs) : AppAny w v xs.length (mrksC xs) := by
 obtain ⟨a, c, rfl, _, _, hc⟩ := h
 cases a with
 | none =>
  have h0 : xs = [] := by
   cases xs with
   | nil => rfl
   | cons x r => obtain ⟨b, o, e, _⟩ := hc 0 (by simp); cases e
  subst h0
  exact .inl ⟨c, rfl, rfl, rfl⟩
 | some ad =>
  refine .inr ⟨ad, c, rfl, fun j x hj => ?_⟩
  have hjl : j < xs.length * 2 := by
   have := (List.getElem?_eq_some_iff.1 hj).1
   rw [length_mrksC] at this
   exact this
  have hi : j / 2 < xs.length := by omega
  obtain ⟨b, o, e, g0, g1⟩ := hc (j / 2) hi
  obtain ⟨q0, q1⟩ := get_mrksC xs (j / 2) hi
  simp only [Option.some.injEq] at e
  subst e
  have hadd : (Addr.mk b o none).add j = ⟨b, o + j, none⟩ := by
   by_cases h : j = 0
   ·
    subst h; simp [Addr.add]
   ·
    simp [Addr.add, h]
  rw [hadd]
  have hm : j % 2 = 0 ∨ j % 2 = 1 := by omega
  rcases hm with hm | hm
  ·
   have e : j = j / 2 * 2 := by omega
   have e2 : o + j = o + j / 2 * 2 := by omega
   rw [e2, g0]
   rw [e, q0] at hj
   exact hj
  ·
   have e : j = j / 2 * 2 + 1 := by omega
   have e2 : o + j = o + j / 2 * 2 + 1 := by omega
   rw [e2, g1]
   rw [e, q1] at hj
   exact hj
theorem length_intsC' (xs : List Int) : (intsC xs).length = xs.length := by simp [intsC]
theorem appAny_ints {w : World} {v : Value} {xs : List Int} (h : IntsV w v xs) : AppAny w v xs.length (intsC xs) := by
 obtain ⟨a, c, rfl, _, _, hc⟩ := h
 cases a with
 | none =>
  have h0 : xs = [] := by
   cases xs with
   | nil => rfl
   | cons x r => obtain ⟨b, o, e, _⟩ := hc 0 (by simp); cases e
  subst h0
  exact .inl ⟨c, rfl, rfl, rfl⟩
 | some ad =>
  refine .inr ⟨ad, c, rfl, fun j x hj => ?_⟩
  have hi : j < xs.length := by
   have := (List.getElem?_eq_some_iff.1 hj).1
   rw [length_intsC'] at this
   exact this
  obtain ⟨b, o, e, g0⟩ := hc j hi
  simp only [Option.some.injEq] at e
  subst e
  have hadd : (Addr.mk b o none).add j = ⟨b, o + j, none⟩ := by
   by_cases h : j = 0
   ·
    subst h; simp [Addr.add]
   ·
    simp [Addr.add, h]
  rw [hadd, g0]
  simp [intsC, hi] at hj
  simp [List.getD, hi, hj]
theorem legs_one10 (xs : List Leg) : ∀ u ∈ legsC xs, u.oneCell' = true := by
 intro u hu
 simp only [legsC, List.mem_flatMap] at hu
 obtain ⟨b, _, hb⟩ := hu
 simp [legC] at hb
 rcases hb with rfl | rfl | rfl | rfl <;> rfl
theorem legs_app10 (xs ys : List Leg) : legsC (xs ++ ys) = legsC xs ++ legsC ys := by simp [legsC]
theorem mrks_one10 (xs : List Mrk) : ∀ u ∈ mrksC xs, u.oneCell' = true := by
 intro u hu
 simp only [mrksC, List.mem_flatMap] at hu
 obtain ⟨b, _, hb⟩ := hu
 simp [mrkC] at hb
 rcases hb with rfl | rfl <;> rfl
theorem mrks_app10 (xs ys : List Mrk) : mrksC (xs ++ ys) = mrksC xs ++ mrksC ys := by simp [mrksC]
theorem bals_one10 (xs : List Bal) : ∀ u ∈ balsC xs, u.oneCell' = true := by
 intro u hu
 simp only [balsC, List.mem_flatMap] at hu
 obtain ⟨b, _, hb⟩ := hu
 simp [balC] at hb
 rcases hb with rfl | rfl | rfl <;> rfl
theorem bals_app10 (xs ys : List Bal) : balsC (xs ++ ys) = balsC xs ++ balsC ys := by simp [balsC]
theorem ints_one10 (xs : List Int) : ∀ u ∈ intsC xs, u.oneCell' = true := by
 intro u hu
 simp only [intsC, List.mem_map] at hu
 obtain ⟨b, _, rfl⟩ := hu
 rfl
theorem ints_app10 (xs ys : List Int) : intsC (xs ++ ys) = intsC xs ++ intsC ys := by simp [intsC]
theorem step_app10L (w : World) {ops : Array Oper} {o : Oper} {a : Act} {K : Act → World → Prop} {Q : Exit → Act → World → Prop} {E : Prop} (hgd : o.guard = none) (s x : Operand)
  (ho : o.op = .call { callee := .builtin .append, args := #[s, x], argTypes := #[42, 42] })
  (base : Nat) (v : Value) (xs : List Leg) (hs : a.eval s = v) (u : Value) (ys : List Leg) (hx : a.eval x = u)
  (hown : w.ownsRow base 93 4 v xs.length (legsC xs)) (hsrc : AppAny w u ys.length (legsC ys)) (hlen : xs.length + ys.length ≤ 1073741824) (hbase : base ≤ w.heap.size)
  (h : ∀ v' w', w'.ownsRow base 93 4 v' (xs ++ ys).length (legsC (xs ++ ys)) → w.grownBy w' v.ownBlock → (∀ W : World, Below base W w → Below base W w') → K (a.put o.dst v') w') :
  if Region.wanted o (yielded ops a.tmps) = true then Oper.wp Tryz.prog o a w K Q else E := by
 obtain ⟨i0, hi, hz0, hz1, hz2⟩ := info_parts infoLeg
 refine step_appAny w hgd s x 42 ho base 93 i0 _ 4 32 Tryz.underlying42 hi hz0 hz1 hz2 rfl (by decide) v xs.length (legsC xs) hs u ys.length (legsC ys) hx hown hsrc (by rw [length_legsC]) (legs_one10 ys) (by unfold maxLen; omega) (by omega) hbase ?_
 intro v' w' h1 h2 h3
 refine h v' w' ?_ h2 h3
 rw [List.length_append, legs_app10]
 exact h1
theorem wpList_app10L (w : World) {ops : Array Oper} {rest : List Oper} {o : Oper} {a : Act} {Q : Exit → Act → World → Prop} (hgd : o.guard = none) (s x : Operand)
  (ho : o.op = .call { callee := .builtin .append, args := #[s, x], argTypes := #[42, 42] })
  (base : Nat) (v : Value) (xs : List Leg) (hs : a.eval s = v) (u : Value) (ys : List Leg) (hx : a.eval x = u)
  (hown : w.ownsRow base 93 4 v xs.length (legsC xs)) (hsrc : AppAny w u ys.length (legsC ys)) (hlen : xs.length + ys.length ≤ 1073741824) (hbase : base ≤ w.heap.size)
  (h : ∀ v' w', w'.ownsRow base 93 4 v' (xs ++ ys).length (legsC (xs ++ ys)) → w.grownBy w' v.ownBlock → (∀ W : World, Below base W w → Below base W w') → wpList Tryz.prog ops Q rest (a.put o.dst v') w') :
  wpList Tryz.prog ops Q (o :: rest) a w := by
 obtain ⟨i0, hi, hz0, hz1, hz2⟩ := info_parts infoLeg
 refine wpList_appAny w hgd s x 42 ho base 93 i0 _ 4 32 Tryz.underlying42 hi hz0 hz1 hz2 rfl (by decide) v xs.length (legsC xs) hs u ys.length (legsC ys) hx hown hsrc (by rw [length_legsC]) (legs_one10 ys) (by unfold maxLen; omega) (by omega) hbase ?_
 intro v' w' h1 h2 h3
 refine h v' w' ?_ h2 h3
 rw [List.length_append, legs_app10]
 exact h1
theorem step_app10M (w : World) {ops : Array Oper} {o : Oper} {a : Act} {K : Act → World → Prop} {Q : Exit → Act → World → Prop} {E : Prop} (hgd : o.guard = none) (s x : Operand)
  (ho : o.op = .call { callee := .builtin .append, args := #[s, x], argTypes := #[34, 34] })
  (base : Nat) (v : Value) (xs : List Mrk) (hs : a.eval s = v) (u : Value) (ys : List Mrk) (hx : a.eval x = u)
  (hown : w.ownsRow base 89 2 v xs.length (mrksC xs)) (hsrc : AppAny w u ys.length (mrksC ys)) (hlen : xs.length + ys.length ≤ 1073741824) (hbase : base ≤ w.heap.size)
  (h : ∀ v' w', w'.ownsRow base 89 2 v' (xs ++ ys).length (mrksC (xs ++ ys)) → w.grownBy w' v.ownBlock → (∀ W : World, Below base W w → Below base W w') → K (a.put o.dst v') w') :
  if Region.wanted o (yielded ops a.tmps) = true then Oper.wp Tryz.prog o a w K Q else E := by
 obtain ⟨i0, hi, hz0, hz1, hz2⟩ := info_parts infoMrk
 refine step_appAny w hgd s x 34 ho base 89 i0 _ 2 16 Tryz.underlying34 hi hz0 hz1 hz2 rfl (by decide) v xs.length (mrksC xs) hs u ys.length (mrksC ys) hx hown hsrc (by rw [length_mrksC]) (mrks_one10 ys) (by unfold maxLen; omega) (by omega) hbase ?_
 intro v' w' h1 h2 h3
 refine h v' w' ?_ h2 h3
 rw [List.length_append, mrks_app10]
 exact h1
theorem step_app10B (w : World) {ops : Array Oper} {o : Oper} {a : Act} {K : Act → World → Prop} {Q : Exit → Act → World → Prop} {E : Prop} (hgd : o.guard = none) (s x : Operand)
  (ho : o.op = .call { callee := .builtin .append, args := #[s, x], argTypes := #[33, 33] })
  (base : Nat) (v : Value) (xs : List Bal) (hs : a.eval s = v) (u : Value) (ys : List Bal) (hx : a.eval x = u)
  (hown : w.ownsRow base 99 3 v xs.length (balsC xs)) (hsrc : AppAny w u ys.length (balsC ys)) (hlen : xs.length + ys.length ≤ 1073741824) (hbase : base ≤ w.heap.size)
  (h : ∀ v' w', w'.ownsRow base 99 3 v' (xs ++ ys).length (balsC (xs ++ ys)) → w.grownBy w' v.ownBlock → (∀ W : World, Below base W w → Below base W w') → K (a.put o.dst v') w') :
  if Region.wanted o (yielded ops a.tmps) = true then Oper.wp Tryz.prog o a w K Q else E := by
 obtain ⟨i0, hi, hz0, hz1, hz2⟩ := info_parts infoBal
 refine step_appAny w hgd s x 33 ho base 99 i0 _ 3 24 Tryz.underlying33 hi hz0 hz1 hz2 rfl (by decide) v xs.length (balsC xs) hs u ys.length (balsC ys) hx hown hsrc (by rw [length_balsC]) (bals_one10 ys) (by unfold maxLen; omega) (by omega) hbase ?_
 intro v' w' h1 h2 h3
 refine h v' w' ?_ h2 h3
 rw [List.length_append, bals_app10]
 exact h1
theorem step_app10I (w : World) {ops : Array Oper} {o : Oper} {a : Act} {K : Act → World → Prop} {Q : Exit → Act → World → Prop} {E : Prop} (hgd : o.guard = none) (s x : Operand)
  (ho : o.op = .call { callee := .builtin .append, args := #[s, x], argTypes := #[25, 25] })
  (base : Nat) (v : Value) (xs : List Int) (hs : a.eval s = v) (u : Value) (ys : List Int) (hx : a.eval x = u)
  (hown : w.ownsRow base 2 1 v xs.length (intsC xs)) (hsrc : AppAny w u ys.length (intsC ys)) (hlen : xs.length + ys.length ≤ 1073741824) (hbase : base ≤ w.heap.size)
  (h : ∀ v' w', w'.ownsRow base 2 1 v' (xs ++ ys).length (intsC (xs ++ ys)) → w.grownBy w' v.ownBlock → (∀ W : World, Below base W w → Below base W w') → K (a.put o.dst v') w') :
  if Region.wanted o (yielded ops a.tmps) = true then Oper.wp Tryz.prog o a w K Q else E := by
 obtain ⟨i0, hi, hz0, hz1, hz2⟩ := info_parts infoInt
 refine step_appAny w hgd s x 25 ho base 2 i0 _ 1 8 Tryz.underlying25 hi hz0 hz1 hz2 rfl (by decide) v xs.length (intsC xs) hs u ys.length (intsC ys) hx hown hsrc (by rw [length_intsC', Nat.mul_one]) (ints_one10 ys) (by unfold maxLen; omega) (by omega) hbase ?_
 intro v' w' h1 h2 h3
 refine h v' w' ?_ h2 h3
 rw [List.length_append, ints_app10]
 exact h1
end Go.Proofs.YtndghenlapbaaaaGreat

/-
 A contract copied.
-/
namespace Go.Proofs.YtndghenlapbaaaaGreat
open Go.RowKit
variable [DecidableEq Leg] [Inhabited Leg] [DecidableEq Mrk] [Inhabited Mrk] [DecidableEq Bal] [Inhabited Bal] [DecidableEq Cont] [Inhabited Cont]
attribute [local go_sem ↓] Go.wp_at_zero Go.wp_at_succ

set_option maxHeartbeats 2000000 in
theorem copiedCon_u (x : Value) (d : Cont) (w : World) (hx : contR.V w x d) (hn : d.legs.length ≤ 1048576) :
  Calls Tryz.prog 76 #[x] w fun e w' => ∃ v F, e = .returned v ∧ contR.O w' w.heap.size F v d ∧ Below w.heap.size w w' := by
 obtain ⟨u1, rfl, hx⟩ := hx
 obtain ⟨ax, cx, rfl⟩ := legs_form hx
 have hs0 : AppAny ((w.alloc (.cells #[.int .i64 d.id, .slice ax d.legs.length cx] 44)).alloc (.cells #[.int .i64 0, .slice none 0 0] 44)) (.slice ax d.legs.length cx) d.legs.length (legsC d.legs) := appAny_legs10 (legsR.below hx (qBq))
 have ho0 := World.ownsRow_nil ((w.alloc (.cells #[.int .i64 d.id, .slice ax d.legs.length cx] 44)).alloc (.cells #[.int .i64 0, .slice none 0 0] 44)) (w.heap.size + 2) 93 4
 clear hx
 go_enter Tryz.func76, Tryz.ntmps76
 go_wp2_with (at_builtin; refine wpList_app10L _ rfl _ _ rfl (w.heap.size + 2) _ [] rfl _ d.legs rfl ho0 hs0 ?c1 ?c2 ?_)
 case c1 => simp; omega
 case c2 => simp
 intro v' w1 ho hg hbel
 clear hs0 ho0 hg
 have hY := hbel _ (Below.refl _ _)
 have hB1 : Below w.heap.size w w1 := Below.trans (qBq) (hY.mono (by omega))
 clear hbel
 have y0 : w1.cell? ⟨w.heap.size, 0, none⟩ = some (.int .i64 d.id) := (hY.cell (p := ⟨w.heap.size, 0, none⟩) (by simp)).trans (by simp [go_sem])
 have y1 : w1.cell? ⟨w.heap.size, 1, none⟩ = some (.slice ax d.legs.length cx) := (hY.cell (p := ⟨w.heap.size, 1, none⟩) (by simp)).trans (by simp [go_sem])
 have yf : ∀ o, w1.frozen? ⟨w.heap.size, o, none⟩ = false := fun o => (hY.frozen (p := ⟨w.heap.size, o, none⟩) (by simp)).trans (by simp [go_sem])
 have q0 : w1.cell? ⟨w.heap.size + 1, 0, none⟩ = some (.int .i64 0) := (hY.cell (p := ⟨w.heap.size + 1, 0, none⟩) (by simp)).trans (by simp [go_sem])
 have q1 : w1.cell? ⟨w.heap.size + 1, 1, none⟩ = some (.slice none 0 0) := (hY.cell (p := ⟨w.heap.size + 1, 1, none⟩) (by simp)).trans (by simp [go_sem])
 have qf : ∀ o, w1.frozen? ⟨w.heap.size + 1, o, none⟩ = false := fun o => (hY.frozen (p := ⟨w.heap.size + 1, o, none⟩) (by simp)).trans (by simp [go_sem])
 have hz := hY.size
 try simp at hz
 clear hY
 try simp only [List.nil_append] at ho
 obtain ⟨av, cv, rfl⟩ := owns_form ho
 have o1 : ∃ F, legsR.O w1 (w.heap.size + 2) F (.slice av d.legs.length cv) d.legs := ⟨_, ho, rfl⟩
 obtain ⟨F1, o1⟩ := o1
 clear ho
 go_wp2
 refine bodyPost_ret (v := .agg #[.int .i64 d.id, .slice av d.legs.length cv]) ?_ rfl ⟨_, fun b => F1 b, rfl, ⟨_, F1, rfl, legsR.base (base := w.heap.size + 2) (by (repeat (first | refine Rep.set _ ?_ _ (by simp; omega) | refine Rep.set _ ?_ _ (by simp) | refine Rep.alloc _ ?_ _ | assumption))) (by omega), fun b => Iff.rfl⟩, by (repeat (first | refine bset ?_ (by simp; omega) _ | refine bset ?_ (by simp) _ | refine bA ?_ _ | assumption))⟩
 simp [results, Tryz.results76, go_sem, y0, y1, q0, q1, yf, qf]
set_option maxRecDepth 20000 in
set_option maxHeartbeats 2000000 in
theorem l10Contract_u (x : Value) (d : Cont) (w : World) (hx : contR.V w x d) (hn : d.legs.length ≤ 1048576) :
  Calls Tryz.prog 67 #[x] w fun e w' => ∃ v F, e = .returned v ∧ contR.O w' w.heap.size F v d ∧ Below w.heap.size w w' := by
 obtain ⟨u1, rfl, hx⟩ := hx
 have HV : Hid (∀ W, Below w.heap.size w W → AppAny W u1 d.legs.length (legsC d.legs)) := fun W hW => appAny_legs10 (legsR.below hx hW)
 obtain ⟨ax, cx, rfl⟩ := legs_form hx
 clear hx
 go_enter Tryz.func67, Tryz.ntmps67
 go_wp2
 obtain ⟨wq, hwq⟩ : ∃ wq, wq = (w.alloc (.cells #[.int .i64 d.id, .slice ax d.legs.length cx] 44)).alloc (.cells #[.int .i64 0, .slice none 0 0] 44) := ⟨_, rfl⟩
 have y0 : wq.cell? ⟨w.heap.size, 0, none⟩ = some (.int .i64 d.id) := by rw [hwq]; simp [go_sem]
 have y1 : wq.cell? ⟨w.heap.size, 1, none⟩ = some (.slice ax d.legs.length cx) := by rw [hwq]; simp [go_sem]
 have q0 : wq.cell? ⟨w.heap.size + 1, 0, none⟩ = some (.int .i64 0) := by rw [hwq]; simp [go_sem]
 have q1 : wq.cell? ⟨w.heap.size + 1, 1, none⟩ = some (.slice none 0 0) := by rw [hwq]; simp [go_sem]
 have qf : ∀ o, wq.frozen? ⟨w.heap.size + 1, o, none⟩ = false := fun o => by rw [hwq]; simp [go_sem]
 have hBq : Below w.heap.size w wq := by rw [hwq]; (repeat (first | exact bR _ _ | assumption | refine bD ?_ | refine bA ?_ _ | refine bset ?_ (by simp; omega) _ | refine bset ?_ (by simp) _ | refine bS ?_ (by assumption)))
 have zq : w.heap.size + 1 < wq.heap.size := by rw [hwq]; simp
 rw [← hwq]
 clear hwq
 refine wp_region_noPanic ?_
 refine region_upto (fun W => Below wq.heap.size wq W ∧ W.cell? ⟨w.heap.size, 0, none⟩ = some (.int .i64 d.id) ∧ W.cell? ⟨w.heap.size, 1, none⟩ = some (.slice ax d.legs.length cx)) 7 (by kernel_rfl) ⟨qBq, cK (qBq) y0, cK (qBq) y1⟩ (fun hS => ?_)
 refine tK (i := 0) (v := ?_) rfl (by kernel_rfl) hS ?_ ?_
 rotate_left
 ·
  intro wS hSw; (try dsimp only at hSw); go_simp; try with_reducible rfl
 try simp only [Act.put, jA, jB, jC, jD, jE, jF]
 refine tK (i := 1) (v := ?_) rfl (by kernel_rfl) hS ?_ ?_
 rotate_left
 ·
  intro wS hSw; (try dsimp only at hSw); go_simp; try with_reducible rfl
 try simp only [Act.put, jA, jB, jC, jD, jE, jF]
 refine tK (i := 3) (v := ?_) rfl (by kernel_rfl) hS ?_ ?_
 rotate_left
 ·
  intro wS hSw; (try dsimp only at hSw); go_simp; try with_reducible rfl
 try simp only [Act.put, jA, jB, jC, jD, jE, jF]
 refine tK (i := 4) (v := ?_) rfl (by kernel_rfl) hS ?_ ?_
 rotate_left
 ·
  intro wS hSw; (try dsimp only at hSw); go_simp; try with_reducible rfl
 try simp only [Act.put, jA, jB, jC, jD, jE, jF]
 refine upto_step (i := 2) (by kernel_rfl) rfl ?_
 intro K hK
 go_simp
 refine hK _ _ (fun _ => ⟨qBq, cK (qBq) y0, cK (qBq) y1⟩) ?_
 clear hK K
 try simp only [Act.put, jA, jB, jC, jD, jE, jF]
 refine upto_step (i := 5) (by kernel_rfl) rfl ?_
 intro K hK
 refine step_app10L _ rfl _ _ rfl wq.heap.size _ [] rfl _ d.legs rfl ?o1 ?s1 ?c1 ?c2 ?_
 case o1 => exact World.ownsRow_lit (base := wq.heap.size) (e := 93) (size := 4) wq.drew #[] 0 (by simp) (by decide) rfl
 case s1 => exact HV.out _ (bS hBq (qBq))
 case c1 => simp; omega
 case c2 => simp
 intro v5 w5 o5 _ hB5
 try simp only [List.nil_append] at o5
 obtain ⟨av, cv, rfl⟩ := owns_form o5
 have hY : Below wq.heap.size wq w5 := hB5 wq (qBq)
 have hS5 : (fun W => Below wq.heap.size wq W ∧ W.cell? ⟨w.heap.size, 0, none⟩ = some (.int .i64 d.id) ∧ W.cell? ⟨w.heap.size, 1, none⟩ = some (.slice ax d.legs.length cx)) w5 := ⟨hY, cK hY y0, cK hY y1⟩
 refine hK _ _ (fun _ => hS5) ?_
 clear hK K hB5
 replace q0 := cK hY q0
 replace q1 := cK hY q1
 replace qf : ∀ o, w5.frozen? ⟨w.heap.size + 1, o, none⟩ = false := fun o => by rw [(bcell hY).2 _ _ zq]; exact qf o
 have HO : Hid (legsR.O w5 wq.heap.size (fun b => (Value.slice av d.legs.length cv).ownBlock = some b) (.slice av d.legs.length cv) d.legs) := ⟨o5, rfl⟩
 clear o5
 have hB5 : Below w.heap.size w w5 := bS hBq hY
 try simp only [Act.put, jA, jB, jC, jD, jE, jF]
 refine tK (i := 6) (v := ?_) rfl (by kernel_rfl) hS5 ?_ ?_
 rotate_left
 ·
  intro wS hSw; (try dsimp only at hSw); go_simp; try with_reducible rfl
 try simp only [Act.put, jA, jB, jC, jD, jE, jF]
 refine upto_step (i := 7) (by kernel_rfl) rfl ?_
 intro K hK
 go_simp
 refine hK _ _ (fun h => absurd rfl h) ?_
 clear hK K
 refine upto_done (by kernel_rfl) ?_
 refine NoPanic.normal ?_
 clear hS hS5
 go_wp2
 refine bodyPost_ret (v := .agg #[.int .i64 d.id, .slice av d.legs.length cv]) (by simp [results, Tryz.results67, go_sem, q0, q1, qf]) rfl ⟨_, fun b => (Value.slice av d.legs.length cv).ownBlock = some b, rfl, ?_, by (repeat (first | refine bset ?_ (by simp; omega) _ | refine bset ?_ (by simp) _ | refine bA ?_ _ | assumption))⟩
 exact ⟨_, _, rfl, legsR.base (base := wq.heap.size) (legsR.set (legsR.set HO.out _ (by dsimp only; omega)) _ (by dsimp only; omega)) (by omega), fun _ => Iff.rfl⟩
end Go.Proofs.YtndghenlapbaaaaGreat

/-
 Rows of values that hold memory: one put in between or behind them, one put in another's place.
-/
namespace Go.Proofs.YtndghenlapbaaaaGreat
open Go.RowKit

def insF {β : Type} (f : Nat → β) (i : Nat) (x : β) : Nat → β := fun k => if k < i then f k else if k = i then x else f (k - 1)
theorem insF_lt {β : Type} (f : Nat → β) {i k : Nat} (x : β) (h : k < i) : insF f i x k = f k := by simp [insF, h]
theorem insF_at {β : Type} (f : Nat → β) (i : Nat) (x : β) : insF f i x i = x := by simp [insF]
theorem insF_gt {β : Type} (f : Nat → β) {i k : Nat} (x : β) (h : i < k) : insF f i x k = f (k - 1) := by
 unfold insF
 rw [if_neg (by omega), if_neg (by omega)]
theorem getD_ins {α : Type} [Inhabited α] (xs : List α) (x : α) (i k : Nat) (hi : i ≤ xs.length) : (xs.take i ++ [x] ++ xs.drop i).getD k default = insF (fun k => xs.getD k default) i x k := by
 have hl : (xs.take i).length = i := by rw [List.length_take]; omega
 simp only [List.getD_eq_getElem?_getD]
 rw [List.append_assoc]
 rcases Nat.lt_trichotomy k i with h | h | h
 ·
  rw [insF_lt _ _ h, List.getElem?_append_left (by omega), List.getElem?_take, if_pos h]
 ·
  subst h
  rw [insF_at, List.getElem?_append_right (by omega), hl]
  simp
 ·
  rw [insF_gt _ _ h, List.getElem?_append_right (by omega), hl, List.getElem?_append_right (by simp; omega), List.getElem?_drop]
  congr 2
  simp
  omega
theorem PO.ins {α : Type} {R : Rep α} {e size : Nat} {lv : Value → List Value} {W W' : World} {base : Nat} {v v' : Value} {n i : Nat} {d : Nat → α} {cs : List Value} {us : Nat → Value} {fs : Nat → Nat → Prop} {u : Value} {x : α} {Fu : Nat → Prop}
  (h : PO R e size lv W base v n n d cs us fs) (hi : i ≤ n) (hu : R.O W base Fu u x) (hl : (lv u).length = size) (hd : ∀ j, j < n → ∀ b, fs j b → ¬ Fu b) (hvu : ∀ b, Fu b → v.ownBlock ≠ some b)
  (hr : W'.ownsRow base e size v' (n + 1) (cs.take (i * size) ++ lv u ++ cs.drop (i * size))) (hm : Mod (fun b => v.ownBlock = some b) W W') (hv : ∀ b, v'.ownBlock = some b → v.ownBlock = some b ∨ W.heap.size ≤ b) :
  PO R e size lv W' base v' (n + 1) (n + 1) (insF d i x) (cs.take (i * size) ++ lv u ++ cs.drop (i * size)) (insF us i u) (insF fs i Fu) := by
 have hcl : cs.length = n * size := h.row.1
 have him : i * size ≤ n * size := Nat.mul_le_mul_right _ hi
 have hold : ∀ b, b < W.heap.size → v.ownBlock ≠ some b → v'.ownBlock ≠ some b := fun b hb hn e => by
  rcases hv b e with h1 | h1
  ·
   exact hn h1
  ·
   omega
 have hel : ∀ j, j < n → R.O W' base (fs j) (us j) (d j) := fun j hj => R.mod (h.el j hj) hm (fun b hb => h.out j hj b hb)
 refine ⟨hr, fun j hj => ?_, fun j hj => ?_, fun j hj o ho => ?_, fun j hj b hb => ?_, fun j k hj hk hjk b h1 h2 => ?_⟩
 ·
  rcases Nat.lt_trichotomy j i with h1 | h1 | h1
  ·
   rw [insF_lt _ _ h1, insF_lt _ _ h1, insF_lt _ _ h1]; exact hel j (by omega)
  ·
   subst h1; rw [insF_at, insF_at, insF_at]; exact R.mod hu hm (fun b hb => hvu b hb)
  ·
   rw [insF_gt _ _ h1, insF_gt _ _ h1, insF_gt _ _ h1]; exact hel (j - 1) (by omega)
 ·
  rcases Nat.lt_trichotomy j i with h1 | h1 | h1
  ·
   rw [insF_lt _ _ h1]; exact h.ln j (by omega)
  ·
   subst h1; rw [insF_at]; exact hl
  ·
   rw [insF_gt _ _ h1]; exact h.ln (j - 1) (by omega)
 ·
  have ht : (cs.take (i * size)).length = i * size := by rw [List.length_take]; omega
  rw [List.append_assoc]
  rcases Nat.lt_trichotomy j i with h1 | h1 | h1
  ·
   have hlt : j * size + o < i * size := by
    have : (j + 1) * size ≤ i * size := Nat.mul_le_mul_right _ h1
    rw [Nat.succ_mul] at this
    omega
   rw [insF_lt _ _ h1, List.getElem?_append_left (by omega), List.getElem?_take, if_pos hlt]
   exact h.cell j (by omega) o ho
  ·
   subst h1
   rw [insF_at, List.getElem?_append_right (by omega), ht, show j * size + o - j * size = o by omega, List.getElem?_append_left (by omega)]
  ·
   obtain ⟨q, rfl⟩ : ∃ q, j = q + 1 := ⟨j - 1, by omega⟩
   have hge : i * size ≤ q * size := Nat.mul_le_mul_right _ (by omega)
   have e1 : (q + 1) * size = q * size + size := Nat.succ_mul _ _
   rw [insF_gt _ _ h1, Nat.add_sub_cancel, List.getElem?_append_right (by omega), ht, List.getElem?_append_right (by omega), hl, List.getElem?_drop, e1, show i * size + (q * size + size + o - i * size - size) = q * size + o by omega]
   exact h.cell q (by omega) o ho
 ·
  rcases Nat.lt_trichotomy j i with h1 | h1 | h1
  ·
   rw [insF_lt _ _ h1] at hb; exact hold b (R.rng (h.el j (by omega)) b hb).2 (h.out j (by omega) b hb)
  ·
   subst h1; rw [insF_at] at hb; exact hold b (R.rng hu b hb).2 (hvu b hb)
  ·
   rw [insF_gt _ _ h1] at hb; exact hold b (R.rng (h.el (j - 1) (by omega)) b hb).2 (h.out (j - 1) (by omega) b hb)
 ·
  have key : ∀ j, j < n + 1 → insF fs i Fu j b → (j = i ∧ Fu b) ∨ ∃ q, q < n ∧ fs q b ∧ ((j < i ∧ q = j) ∨ (i < j ∧ q + 1 = j)) := fun j hj hb => by
   rcases Nat.lt_trichotomy j i with h1 | h1 | h1
   ·
    rw [insF_lt _ _ h1] at hb; exact .inr ⟨j, by omega, hb, .inl ⟨h1, rfl⟩⟩
   ·
    subst h1; rw [insF_at] at hb; exact .inl ⟨rfl, hb⟩
   ·
    rw [insF_gt _ _ h1] at hb; exact .inr ⟨j - 1, by omega, hb, .inr ⟨h1, by omega⟩⟩
  rcases key j hj h1 with ⟨e1, f1⟩ | ⟨q, hq, f1, g1⟩
  ·
   rcases key k hk h2 with ⟨e2, f2⟩ | ⟨q2, hq2, f2, g2⟩
   ·
    omega
   ·
    exact hd q2 hq2 b f2 f1
  ·
   rcases key k hk h2 with ⟨e2, f2⟩ | ⟨q2, hq2, f2, g2⟩
   ·
    exact hd q hq b f1 f2
   ·
    exact h.sep q q2 hq hq2 (by omega) b f1 f2
theorem NO.ins {α : Type} [Inhabited α] {R : Rep α} {e size : Nat} {lv : Value → List Value} {W W' : World} {base : Nat} {v v' : Value} {i : Nat} {xs : List α} {cs : List Value} {us : Nat → Value} {fs : Nat → Nat → Prop} {u : Value} {x : α} {F Fu : Nat → Prop}
  (h : PO R e size lv W base v xs.length xs.length (fun i => xs.getD i default) cs us fs) (hF : ∀ b, F b ↔ (v.ownBlock = some b ∨ ∃ i, i < xs.length ∧ fs i b)) (hi : i ≤ xs.length) (hu : R.O W base Fu u x) (hl : (lv u).length = size) (hd : ∀ b, F b → ¬ Fu b)
  (hr : W'.ownsRow base e size v' (xs.length + 1) (cs.take (i * size) ++ lv u ++ cs.drop (i * size))) (hm : Mod (fun b => v.ownBlock = some b) W W') (hv : ∀ b, v'.ownBlock = some b → v.ownBlock = some b ∨ W.heap.size ≤ b) :
  ∃ F', NO R e size lv W' base F' v' (xs.take i ++ [x] ++ xs.drop i) ∧ ∀ b, F' b → F b ∨ Fu b ∨ W.heap.size ≤ b := by
 have hp := h.ins hi hu hl (fun j hj b hb => hd b ((hF b).2 (.inr ⟨j, hj, hb⟩))) (fun b hb e => hd b ((hF b).2 (.inl e)) hb) hr hm hv
 have hlen : (xs.take i ++ [x] ++ xs.drop i).length = xs.length + 1 := by simp only [List.length_append, List.length_take, List.length_drop, List.length_cons, List.length_nil]; omega
 refine ⟨fun b => v'.ownBlock = some b ∨ ∃ k, k < xs.length + 1 ∧ insF fs i Fu k b, ⟨cs.take (i * size) ++ lv u ++ cs.drop (i * size), insF us i u, insF fs i Fu, ?_, fun b => by rw [hlen]⟩, fun b hb => ?_⟩
 ·
  rw [hlen]
  exact hp.cast (fun k hk => getD_ins xs x i k hi)
 ·
  rcases hb with hb | ⟨k, hk, hb⟩
  ·
   rcases hv b hb with h1 | h1
   ·
    exact .inl ((hF b).2 (.inl h1))
   ·
    exact .inr (.inr h1)
  ·
   rcases Nat.lt_trichotomy k i with h1 | h1 | h1
   ·
    rw [insF_lt _ _ h1] at hb; exact .inl ((hF b).2 (.inr ⟨k, by omega, hb⟩))
   ·
    subst h1; rw [insF_at] at hb; exact .inr (.inl hb)
   ·
    rw [insF_gt _ _ h1] at hb; exact .inl ((hF b).2 (.inr ⟨k - 1, by omega, hb⟩))
theorem PO.putN {α : Type} {R : Rep α} {e size : Nat} {lv : Value → List Value} {W W' : World} {base : Nat} {v : Value} {n i : Nat} {d : Nat → α} {cs cs' : List Value} {us : Nat → Value} {fs : Nat → Nat → Prop} {u : Value} {x : α} {Fu : Nat → Prop}
  (h : PO R e size lv W base v n n d cs us fs) (hi : i < n) (hu : R.O W base Fu u x) (hl : (lv u).length = size) (hd : ∀ j, j < n → ∀ b, fs j b → ¬ Fu b) (hvu : ∀ b, Fu b → v.ownBlock ≠ some b)
  (hr : W'.ownsRow base e size v n cs') (hm : Mod (fun b => v.ownBlock = some b) W W') (hold : ∀ j, j < n → j ≠ i → ∀ o, o < size → cs'[j * size + o]? = cs[j * size + o]?) (hnew : ∀ o, o < size → cs'[i * size + o]? = (lv u)[o]?) :
  PO R e size lv W' base v n n (upd d i x) cs' (upd us i u) (upd fs i Fu) := by
 refine ⟨hr, fun j hj => ?_, fun j hj => ?_, fun j hj o ho => ?_, fun j hj b hb => ?_, fun j k hj hk hjk b h1 h2 => ?_⟩
 ·
  by_cases e1 : j = i
  ·
   subst e1; rw [upd_at, upd_at, upd_at]; exact R.mod hu hm (fun b hb => hvu b hb)
  ·
   rw [upd_ne _ _ e1, upd_ne _ _ e1, upd_ne _ _ e1]; exact R.mod (h.el j hj) hm (fun b hb => h.out j hj b hb)
 ·
  by_cases e1 : j = i
  ·
   subst e1; rw [upd_at]; exact hl
  ·
   rw [upd_ne _ _ e1]; exact h.ln j hj
 ·
  by_cases e1 : j = i
  ·
   subst e1; rw [upd_at]; exact hnew o ho
  ·
   rw [upd_ne _ _ e1, hold j hj e1 o ho]; exact h.cell j hj o ho
 ·
  by_cases e1 : j = i
  ·
   subst e1; rw [upd_at] at hb; exact hvu b hb
  ·
   rw [upd_ne _ _ e1] at hb; exact h.out j hj b hb
 ·
  by_cases e1 : j = i
  ·
   subst e1
   rw [upd_at] at h1
   rw [upd_ne _ _ (Ne.symm hjk)] at h2
   exact hd k hk b h2 h1
  ·
   rw [upd_ne _ _ e1] at h1
   by_cases e2 : k = i
   ·
    subst e2; rw [upd_at] at h2; exact hd j hj b h1 h2
   ·
    rw [upd_ne _ _ e2] at h2; exact h.sep j k hj hk hjk b h1 h2
theorem getD_set {α : Type} [Inhabited α] (xs : List α) (x : α) (i k : Nat) (hi : i < xs.length) : (xs.set i x).getD k default = upd (fun k => xs.getD k default) i x k := by
 simp only [List.getD_eq_getElem?_getD, List.getElem?_set]
 by_cases e : i = k
 ·
  subst e
  rw [if_pos rfl, if_pos hi, upd_at]
  rfl
 ·
  rw [if_neg e, upd_ne _ _ (Ne.symm e)]
theorem NO.put {α : Type} [Inhabited α] {R : Rep α} {e size : Nat} {lv : Value → List Value} {W W' : World} {base : Nat} {v : Value} {i : Nat} {xs : List α} {cs cs' : List Value} {us : Nat → Value} {fs : Nat → Nat → Prop} {u : Value} {x : α} {F Fu : Nat → Prop}
  (h : PO R e size lv W base v xs.length xs.length (fun i => xs.getD i default) cs us fs) (hF : ∀ b, F b ↔ (v.ownBlock = some b ∨ ∃ i, i < xs.length ∧ fs i b)) (hi : i < xs.length) (hu : R.O W base Fu u x) (hl : (lv u).length = size) (hd : ∀ b, F b → ¬ Fu b)
  (hr : W'.ownsRow base e size v xs.length cs') (hm : Mod (fun b => v.ownBlock = some b) W W') (hold : ∀ j, j < xs.length → j ≠ i → ∀ o, o < size → cs'[j * size + o]? = cs[j * size + o]?) (hnew : ∀ o, o < size → cs'[i * size + o]? = (lv u)[o]?) :
  ∃ F', NO R e size lv W' base F' v (xs.set i x) ∧ ∀ b, F' b → F b ∨ Fu b := by
 have hp := h.putN hi hu hl (fun j hj b hb => hd b ((hF b).2 (.inr ⟨j, hj, hb⟩))) (fun b hb e => hd b ((hF b).2 (.inl e)) hb) hr hm hold hnew
 have hlen : (xs.set i x).length = xs.length := by simp
 refine ⟨fun b => v.ownBlock = some b ∨ ∃ k, k < xs.length ∧ upd fs i Fu k b, ⟨cs', upd us i u, upd fs i Fu, ?_, fun b => by rw [hlen]⟩, fun b hb => ?_⟩
 ·
  rw [hlen]
  exact hp.cast (fun k hk => getD_set xs x i k hi)
 ·
  rcases hb with hb | ⟨k, hk, hb⟩
  ·
   exact .inl ((hF b).2 (.inl hb))
  ·
   by_cases e1 : k = i
   ·
    subst e1; rw [upd_at] at hb; exact .inr hb
   ·
    rw [upd_ne _ _ e1] at hb; exact .inl ((hF b).2 (.inr ⟨k, hk, hb⟩))
theorem run_appN (w : World) {α : Type} [Inhabited α] {R : Rep α} {lv : Value → List Value} (t ty e : TypeId) (i : TypeInfo) (z : Value) (size bytes : Nat) (ht : Tryz.prog.underlying t = some (.slice e)) (hi : Tryz.prog.info? e = some i) (hz : i.zero = some z)
  (hsize : i.size = size) (hby : i.bytes = bytes) (hzs : z.cells.size = size) (hsz : 0 < size) (hb1 : bytes ≤ 1000)
  (base : Nat) {F Fu : Nat → Prop} (v u : Value) (xs : List α) (x : α) (hown : NO R e size lv w base F v xs) (hu : R.O w base Fu u x) (hl : (lv u).length = size) (h1 : ∀ y ∈ lv u, y.oneCell' = true) (hd : ∀ b, F b → ¬ Fu b)
  (ad : Addr) (c : Nat) (hc : ∀ j y, (lv u)[j]? = some y → w.cell? (ad.add j) = some y) (hn : xs.length ≤ 2000000) (hbase : base ≤ w.heap.size) :
  ∃ v' w' F', (Builtin.append_ #[t, t] ty #[v, .slice (some ad) 1 c]).run Tryz.prog w = .ok v' w' ∧ NO R e size lv w' base F' v' (xs ++ [x]) ∧ w.grownBy w' v.ownBlock ∧ (∀ b, F' b → F b ∨ Fu b ∨ w.heap.size ≤ b) := by
 obtain ⟨cs, us, fs, hp, hF⟩ := hown
 obtain ⟨v', w', hr, h2, h3, h4, h5⟩ := run_append_own_at (P := Tryz.prog) w base t ty e i z size bytes ht hi hz hsize hby hzs hsz v xs.length cs hp.row ad 1 c (lv u) (by omega) hc h1 (by unfold maxLen; omega) (Nat.le_trans (Nat.mul_le_mul_left _ hb1) (by omega)) hbase
 have hcl : cs.length = xs.length * size := hp.row.1
 have e1 : cs.take (xs.length * size) ++ lv u ++ cs.drop (xs.length * size) = cs ++ lv u := by
  rw [List.take_of_length_le (by omega), List.drop_of_length_le (by omega), List.append_nil]
 obtain ⟨F', h6, h7⟩ := NO.ins hp hF (Nat.le_refl _) hu hl hd (by rw [e1]; exact h2) (Mod.of_grown h3) (fun b hb => by
  rcases h5 with h5 | h5
  ·
   exact .inl (h5 ▸ hb)
  ·
   rw [h5] at hb
   simp only [Option.some.injEq] at hb
   exact .inr (by omega))
 rw [List.take_of_length_le (Nat.le_refl _), List.drop_of_length_le (Nat.le_refl _), List.append_nil] at h6
 exact ⟨v', w', F', hr, h6, h3, h7⟩
theorem wpl_appR {w : World} {ops : Array Oper} {rest : List Oper} {o : Oper} {a : Act} {Q : Exit → Act → World → Prop} (hgd : o.guard = none) (s x : Operand) (t t' : TypeId)
  (ho : o.op = .call { callee := .builtin .append, args := #[s, x], argTypes := #[t, t'] }) (v u : Value) (hs : a.eval s = v) (hx : a.eval x = u) {v' : Value} {w' : World}
  (hr : (Builtin.append_ #[t, t'] o.type #[v, u]).run Tryz.prog w = .ok v' w') (h : wpList Tryz.prog ops Q rest (a.put o.dst v') w') : wpList Tryz.prog ops Q (o :: rest) a w := by
 refine wpList_plain hgd fun K hK => ?_
 unfold Oper.wp execOp
 simp only [ho, resolve, invoke, builtin, Sem.run_bind, Sem.run_pure, Result.andThen_ok, List.map_toArray, List.map_cons, List.map_nil, hs, hx, hr]
 exact hK _ _ h
theorem step_appR {ops : Array Oper} {o : Oper} {a : Act} {w : World} {K : Act → World → Prop} {Q : Exit → Act → World → Prop} {E : Prop} (hgd : o.guard = none) (s x : Operand) (t t' : TypeId)
  (ho : o.op = .call { callee := .builtin .append, args := #[s, x], argTypes := #[t, t'] }) (v u : Value) (hs : a.eval s = v) (hx : a.eval x = u) {v' : Value} {w' : World}
  (hr : (Builtin.append_ #[t, t'] o.type #[v, u]).run Tryz.prog w = .ok v' w') (hK : K (a.put o.dst v') w') :
  if Region.wanted o (yielded ops a.tmps) = true then Oper.wp Tryz.prog o a w K Q else E := by
 have hw : Region.wanted o (yielded ops a.tmps) = true := by simp [Region.wanted, hgd]
 rw [if_pos hw]
 unfold Oper.wp execOp
 simp only [ho, resolve, invoke, builtin, Sem.run_bind, Sem.run_pure, Result.andThen_ok, List.map_toArray, List.map_cons, List.map_nil, hs, hx, hr]
 exact hK
theorem wpl_appN (w : World) {α : Type} [Inhabited α] {R : Rep α} {lv : Value → List Value} {ops : Array Oper} {rest : List Oper} {o : Oper} {a : Act} {Q : Exit → Act → World → Prop} (hgd : o.guard = none) (s x : Operand) (t : TypeId)
  (ho : o.op = .call { callee := .builtin .append, args := #[s, x], argTypes := #[t, t] }) (e : TypeId) (i : TypeInfo) (z : Value) (size bytes : Nat) (ht : Tryz.prog.underlying t = some (.slice e)) (hi : Tryz.prog.info? e = some i) (hz : i.zero = some z)
  (hsize : i.size = size) (hby : i.bytes = bytes) (hzs : z.cells.size = size) (hsz : 0 < size) (hb1 : bytes ≤ 1000)
  (base : Nat) (F Fu : Nat → Prop) (v u : Value) (xs : List α) (y : α) (ad : Addr) (c : Nat) (hs : a.eval s = v) (hx : a.eval x = .slice (some ad) 1 c) (hown : NO R e size lv w base F v xs) (hu : R.O w base Fu u y) (hl : (lv u).length = size) (h1 : ∀ y ∈ lv u, y.oneCell' = true) (hd : ∀ b, F b → ¬ Fu b)
  (hc : ∀ j y, (lv u)[j]? = some y → w.cell? (ad.add j) = some y) (hn : xs.length ≤ 2000000) (hbase : base ≤ w.heap.size)
  (h : ∀ v' w' F', NO R e size lv w' base F' v' (xs ++ [y]) → Below base w w' → (∀ b, F' b → F b ∨ Fu b ∨ w.heap.size ≤ b) → wpList Tryz.prog ops Q rest (a.put o.dst v') w') : wpList Tryz.prog ops Q (o :: rest) a w := by
 obtain ⟨v', w', F', hr, h2, h3, h4⟩ := run_appN w t o.type e i z size bytes ht hi hz hsize hby hzs hsz hb1 base v u xs y hown hu hl h1 hd ad c hc hn hbase
 obtain ⟨cs, us, fs, hp, hF⟩ := hown
 exact wpl_appR hgd s x t t ho v _ hs hx hr (h v' w' F' h2 ((Below.refl base w).grown h3 hbase (fun b e => (hp.row.lt b e).1)) h4)
theorem step_appN (w : World) {α : Type} [Inhabited α] {R : Rep α} {lv : Value → List Value} {ops : Array Oper} {o : Oper} {a : Act} {K : Act → World → Prop} {Q : Exit → Act → World → Prop} {E : Prop} (hgd : o.guard = none) (s x : Operand) (t : TypeId)
  (ho : o.op = .call { callee := .builtin .append, args := #[s, x], argTypes := #[t, t] }) (e : TypeId) (i : TypeInfo) (z : Value) (size bytes : Nat) (ht : Tryz.prog.underlying t = some (.slice e)) (hi : Tryz.prog.info? e = some i) (hz : i.zero = some z)
  (hsize : i.size = size) (hby : i.bytes = bytes) (hzs : z.cells.size = size) (hsz : 0 < size) (hb1 : bytes ≤ 1000)
  (base : Nat) (F Fu : Nat → Prop) (v u : Value) (xs : List α) (y : α) (ad : Addr) (c : Nat) (hs : a.eval s = v) (hx : a.eval x = .slice (some ad) 1 c) (hown : NO R e size lv w base F v xs) (hu : R.O w base Fu u y) (hl : (lv u).length = size) (h1 : ∀ y ∈ lv u, y.oneCell' = true) (hd : ∀ b, F b → ¬ Fu b)
  (hc : ∀ j y, (lv u)[j]? = some y → w.cell? (ad.add j) = some y) (hn : xs.length ≤ 2000000) (hbase : base ≤ w.heap.size)
  (h : ∀ v' w' F', NO R e size lv w' base F' v' (xs ++ [y]) → Below base w w' → (∀ b, F' b → F b ∨ Fu b ∨ w.heap.size ≤ b) → K (a.put o.dst v') w') :
  if Region.wanted o (yielded ops a.tmps) = true then Oper.wp Tryz.prog o a w K Q else E := by
 obtain ⟨v', w', F', hr, h2, h3, h4⟩ := run_appN w t o.type e i z size bytes ht hi hz hsize hby hzs hsz hb1 base v u xs y hown hu hl h1 hd ad c hc hn hbase
 obtain ⟨cs, us, fs, hp, hF⟩ := hown
 exact step_appR hgd s x t t ho v _ hs hx hr (h v' w' F' h2 ((Below.refl base w).grown h3 hbase (fun b e => (hp.row.lt b e).1)) h4)
end Go.Proofs.YtndghenlapbaaaaGreat

/-
 A region that draws its order, whose operations only make memory (and one last, number t, that may write): whatever the order, what each of them yields stays as it is, and lies in blocks of its own.
-/
namespace Go.Proofs.YtndghenlapbaaaaGreat
open Go.RowKit

def over (a : Act) (ds : List Nat) (y : Nat → Value) : Act := { a with tmps := ds.foldl (fun t s => t.setIfInBounds s (y s)) a.tmps }
theorem fold_put : ∀ (ds : List Nat) (T : Array Value) (y : Nat → Value) (d : Nat) (v : Value), d ∉ ds →
  (ds.foldl (fun t s => t.setIfInBounds s (y s)) T).setIfInBounds d v = ds.foldl (fun t s => t.setIfInBounds s (y s)) (T.setIfInBounds d v)
 | [], _, _, _, _, _ => rfl
 | e :: ds, T, y, d, v, h => by
  have h1 : d ≠ e := fun c => h (by rw [c]; exact List.mem_cons_self)
  have h2 : d ∉ ds := fun c => h (List.mem_cons_of_mem _ c)
  simp only [List.foldl_cons]
  rw [fold_put ds _ y d v h2, Array.setIfInBounds_comm _ _ (Ne.symm h1)]
theorem fold_congr : ∀ (ds : List Nat) (T : Array Value) (y y' : Nat → Value), (∀ s ∈ ds, y s = y' s) →
  ds.foldl (fun t s => t.setIfInBounds s (y s)) T = ds.foldl (fun t s => t.setIfInBounds s (y' s)) T
 | [], _, _, _, _ => rfl
 | e :: ds, T, y, y', h => by
  simp only [List.foldl_cons]
  rw [h e List.mem_cons_self]
  exact fold_congr ds _ y y' (fun s hs => h s (List.mem_cons_of_mem _ hs))
def updV (y : Nat → Value) (d : Nat) (v : Value) : Nat → Value := fun s => if s = d then v else y s
theorem fold_upd : ∀ (ds : List Nat) (T : Array Value) (y : Nat → Value) (d : Nat) (v : Value), d ∈ ds → ds.Nodup →
  (ds.foldl (fun t s => t.setIfInBounds s (y s)) T).setIfInBounds d v = ds.foldl (fun t s => t.setIfInBounds s (updV y d v s)) T
 | [], _, _, _, _, h, _ => absurd h List.not_mem_nil
 | e :: ds, T, y, d, v, h, hn => by
  obtain ⟨h1, h2⟩ := List.nodup_cons.1 hn
  simp only [List.foldl_cons]
  by_cases hd : d = e
  ·
   subst hd
   rw [fold_put ds _ y d v h1, Array.setIfInBounds_setIfInBounds]
   have e1 : updV y d v d = v := if_pos rfl
   rw [e1]
   exact fold_congr ds _ _ _ (fun s hs => (if_neg (fun c : s = d => h1 (c ▸ hs))).symm)
  ·
   have hm : d ∈ ds := (List.mem_cons.1 h).resolve_left hd
   have e1 : updV y d v e = y e := if_neg (fun c => hd c.symm)
   rw [e1]
   exact fold_upd ds _ y d v hm h2
theorem over_put {a : Act} {ds : List Nat} {y : Nat → Value} {d : Nat} {v : Value} (h : d ∈ ds) (hn : ds.Nodup) : (over a ds y).put (some d) v = over a ds (updV y d v) := by
 simp only [over, Act.put]
 rw [fold_upd ds _ y d v h hn]
theorem over_self (a : Act) : ∀ ds : List Nat, over a ds (fun s => a.tmps.getD s undef) = a := by
 intro ds
 have H : ∀ ds : List Nat, ds.foldl (fun t s => t.setIfInBounds s (a.tmps.getD s undef)) a.tmps = a.tmps := by
  intro ds
  induction ds with
  | nil => rfl
  | cons d ds ih =>
   simp only [List.foldl_cons]
   have e : a.tmps.setIfInBounds d (a.tmps.getD d undef) = a.tmps := by
    apply Array.ext_getElem?
    intro i
    rw [Array.getElem?_setIfInBounds]
    split
    ·
     rename_i h
     subst h
     split
     ·
      rename_i h; simp [h]
     ·
      rename_i h; simp [Array.getElem?_eq_none (Nat.le_of_not_lt h)]
    ·
     rfl
   rw [e]
   exact ih
 simp only [over]
 rw [H ds]
theorem inj_fst : ∀ (L : List (Nat × Nat)), (L.map Prod.fst).Nodup → ∀ p ∈ L, ∀ q ∈ L, p.1 = q.1 → p = q
 | [], _, p, hp, _, _, _ => absurd hp List.not_mem_nil
 | a :: L, hn, p, hp, q, hq, h => by
  obtain ⟨h1, h2⟩ := List.nodup_cons.1 hn
  rcases List.mem_cons.1 hp with hp1 | hp1
  ·
   rcases List.mem_cons.1 hq with hq1 | hq1
   ·
    rw [hp1, hq1]
   ·
    exact absurd (by rw [← hp1, h]; exact List.mem_map_of_mem hq1) h1
  ·
   rcases List.mem_cons.1 hq with hq1 | hq1
   ·
    exact absurd (by rw [← hq1, ← h]; exact List.mem_map_of_mem hp1) h1
   ·
    exact inj_fst L h2 p hp1 q hq1 h
theorem inj_snd : ∀ (L : List (Nat × Nat)), (L.map Prod.snd).Nodup → ∀ p ∈ L, ∀ q ∈ L, p.2 = q.2 → p = q
 | [], _, p, hp, _, _, _ => absurd hp List.not_mem_nil
 | a :: L, hn, p, hp, q, hq, h => by
  obtain ⟨h1, h2⟩ := List.nodup_cons.1 hn
  rcases List.mem_cons.1 hp with hp1 | hp1
  ·
   rcases List.mem_cons.1 hq with hq1 | hq1
   ·
    rw [hp1, hq1]
   ·
    exact absurd (by rw [← hp1, h]; exact List.mem_map_of_mem hq1) h1
  ·
   rcases List.mem_cons.1 hq with hq1 | hq1
   ·
    exact absurd (by rw [← hq1, ← h]; exact List.mem_map_of_mem hp1) h1
   ·
    exact inj_snd L h2 p hp1 q hq1 h
theorem filter_less {F F' : Nat × Nat → Bool} : ∀ {L : List (Nat × Nat)}, (L.map Prod.fst).Nodup → ∀ {p : Nat × Nat}, p ∈ L → F p = true → F' p = false → (∀ q ∈ L, q ≠ p → F' q = F q) → (L.filter F).length = (L.filter F').length + 1
 | [], _, _, hp, _, _, _ => absurd hp List.not_mem_nil
 | a :: L, hn, p, hp, h1, h2, h3 => by
  obtain ⟨g1, g2⟩ := List.nodup_cons.1 hn
  by_cases e : a = p
  ·
   subst e
   rw [List.filter_cons_of_pos h1, List.filter_cons_of_neg (by rw [h2]; exact Bool.false_ne_true)]
   have h4 : L.filter F = L.filter F' := List.filter_congr (fun q hq => (h3 q (List.mem_cons_of_mem _ hq) (fun c => g1 (c ▸ List.mem_map_of_mem hq))).symm)
   rw [h4, List.length_cons]
  ·
   have hm : p ∈ L := (List.mem_cons.1 hp).resolve_left (fun c => e c.symm)
   have ih := filter_less g2 hm h1 h2 (fun q hq hne => h3 q (List.mem_cons_of_mem _ hq) hne)
   have ha := h3 a List.mem_cons_self e
   cases hF : F a with
   | true => rw [List.filter_cons_of_pos hF, List.filter_cons_of_pos (by rw [ha, hF]), List.length_cons, List.length_cons, ih]
   | false => rw [List.filter_cons_of_neg (by rw [hF]; exact Bool.false_ne_true), List.filter_cons_of_neg (by rw [ha, hF]; exact Bool.false_ne_true), ih]
section
variable {P : Program} {ops : Array Oper} {Q : Exit → Act → World → Prop} {md : Region.Mode} {S : World → Prop} {t : Nat}

def risesB (md : Region.Mode) (ops : Array Oper) : Bool := (List.range ops.size).all fun i => match ops[i]? with | some o => o.after.all fun e => !Region.binds md e || decide (e.on < i) | none => true
theorem ready_some {listed : Array Bool} (hr : risesB md ops = true) (hs : listed.size = ops.size) : ∀ n i, i < n → i < ops.size → listed.getD i true = false → ∃ j, j ∈ Region.ready md ops listed := by
 intro n
 induction n with
 | zero => intro i h; omega
 | succ n ih =>
  intro i hi hlt hun
  by_cases hex : ∃ k, k < i ∧ listed.getD k true = false
  ·
   obtain ⟨k, hk, hku⟩ := hex
   exact ih k (by omega) (by omega) hku
  ·
   refine ⟨i, mem_ready.2 ⟨hun, ops[i], by simp [hlt], fun e he hb => ?_⟩⟩
   have h1 := List.all_eq_true.1 hr i (List.mem_range.2 hlt)
   simp only [Array.getElem?_eq_getElem hlt] at h1
   have h2 := Array.all_eq_true'.1 h1 e he
   simp only [hb, Bool.not_true, Bool.false_or, decide_eq_true_eq] at h2
   have h3 : ¬ listed.getD e.on true = false := fun c => hex ⟨e.on, h2, c⟩
   have h4 : e.on < listed.size := by omega
   simp [h4] at h3 ⊢
   exact h3
def InB (w0 w : World) (lo hi : Nat) : Prop := w0.heap.size ≤ lo ∧ lo ≤ hi ∧ hi ≤ w.heap.size
def ApartB (lo hi : Nat → Nat) (j k : Nat) : Prop := hi j ≤ lo k ∨ hi k ≤ lo j
structure Shut (p : Prop) : Prop where
 out : p
def StepS (P : Program) (md : Region.Mode) (ops : Array Oper) (Q : Exit → Act → World → Prop) (S : World → Prop) (L : List (Nat × Nat)) (G : Nat → (Nat → Value) → Nat → Nat → World → Prop) (a0 : Act) (w0 : World) (p : Nat × Nat) : Prop :=
 ∃ o, ops[p.1]? = some o ∧ o.dst = some p.2 ∧ ∀ (y : Nat → Value) (w : World) (lo hi : Nat → Nat), S w → Below w0.heap.size w0 w →
  (∀ q ∈ L, waitsFor md ops p.1 q.1 = true → InB w0 w (lo q.1) (hi q.1) ∧ G q.1 y (lo q.1) (hi q.1) w) →
  (∀ q ∈ L, ∀ r ∈ L, q.1 ≠ r.1 → waitsFor md ops p.1 q.1 = true → waitsFor md ops p.1 r.1 = true → ApartB lo hi q.1 r.1) →
  ∀ K : Act → World → Prop, (∀ v w', Below w.heap.size w w' → G p.1 (updV y p.2 v) w.heap.size w'.heap.size w' → K ((over a0 (L.map Prod.snd) y).put (some p.2) v) w') →
   Shut (if Region.wanted o (yielded ops (over a0 (L.map Prod.snd) y).tmps) = true then Oper.wp P o (over a0 (L.map Prod.snd) y) w K Q else K ((over a0 (L.map Prod.snd) y).put o.dst undef) w)
theorem upto_stable (L : List (Nat × Nat)) (G : Nat → (Nat → Value) → Nat → Nat → World → Prop) {f : Nat} {listed : Array Bool} {a0 : Act} {w0 : World}
  (hrise : risesB md ops = true) (hsz : listed.size = ops.size) (hot : ∃ ot, ops[t]? = some ot)
  (hall : ∀ i, i < ops.size → listed.getD i true = false → i = t ∨ ∃ p ∈ L, p.1 = i)
  (hun : listed.getD t true = false ∧ ∀ p ∈ L, listed.getD p.1 true = false)
  (hno : (L.map Prod.fst).Nodup) (hnd : (L.map Prod.snd).Nodup) (htl : ∀ p ∈ L, p.1 ≠ t ∧ waitsFor md ops t p.1 = true) (hf : f = L.length + 1)
  (hS : S w0) (hSst : ∀ w w', S w → Below w.heap.size w w' → S w')
  (hG : ∀ p ∈ L, ∀ (y y' : Nat → Value) (lo hi : Nat) (w w' : World), G p.1 y lo hi w → InB w0 w lo hi → Below w.heap.size w w' → y' p.2 = y p.2 → (∀ q ∈ L, waitsFor md ops p.1 q.1 = true → y' q.2 = y q.2) → G p.1 y' lo hi w')
  (hstep : ∀ p ∈ L, StepS P md ops Q S L G a0 w0 p)
  (hlast : ∃ o, ops[t]? = some o ∧ ∀ (y : Nat → Value) (w : World) (lo hi : Nat → Nat), S w → Below w0.heap.size w0 w → (∀ q ∈ L, InB w0 w (lo q.1) (hi q.1) ∧ G q.1 y (lo q.1) (hi q.1) w) → (∀ q ∈ L, ∀ r ∈ L, q.1 ≠ r.1 → ApartB lo hi q.1 r.1) →
   ∀ K : Act → World → Prop, (∀ a' w', Q .normal a' w' → K a' w') → Shut (if Region.wanted o (yielded ops (over a0 (L.map Prod.snd) y).tmps) = true then Oper.wp P o (over a0 (L.map Prod.snd) y) w K Q else K ((over a0 (L.map Prod.snd) y).put o.dst undef) w)) :
  wpUpto P md ops Q S t f listed a0 w0 := by
 -- the same from any state on the way
 have H : ∀ (n f : Nat) (listed : Array Bool) (y : Nat → Value) (w : World) (lo hi : Nat → Nat),
   f = (L.filter fun p => !listed.getD p.1 true).length + 1 → listed.size = ops.size → listed.getD t true = false →
   (∀ i, i < ops.size → listed.getD i true = false → i = t ∨ ∃ p ∈ L, p.1 = i) →
   (∀ p ∈ L, listed.getD p.1 true = true → ∀ q ∈ L, waitsFor md ops p.1 q.1 = true → listed.getD q.1 true = true) →
   S w → Below w0.heap.size w0 w → (∀ q ∈ L, listed.getD q.1 true = true → InB w0 w (lo q.1) (hi q.1) ∧ G q.1 y (lo q.1) (hi q.1) w) →
   (∀ q ∈ L, ∀ r ∈ L, q.1 ≠ r.1 → listed.getD q.1 true = true → listed.getD r.1 true = true → ApartB lo hi q.1 r.1) →
   f ≤ n → wpUpto P md ops Q S t f listed (over a0 (L.map Prod.snd) y) w := by
  intro n
  induction n with
  | zero => intro f listed y w lo hi hf _ _ _ _ _ _ _ _ hn; omega
  | succ n ih =>
   intro f listed y w lo hi hf hsz htun hall hdown hS hB hGs hAp hn
   obtain ⟨ot, hot⟩ := hot
   have htlt : t < ops.size := by
    rcases Nat.lt_or_ge t ops.size with h | h
    ·
     exact h
    ·
     rw [Array.getElem?_eq_none h] at hot; cases hot
   obtain ⟨g, rfl⟩ : ∃ g, f = g + 1 := ⟨_, hf⟩
   have hg : g = (L.filter fun p => !listed.getD p.1 true).length := by omega
   refine ⟨fun h => ?_, fun i hi' => ?_⟩
   ·
    obtain ⟨j, hj⟩ := ready_some hrise hsz (t + 1) t (by omega) htlt htun
    rw [h] at hj
    cases hj
   obtain ⟨hiun, o, hio, hdeps⟩ := mem_ready.1 hi'
   have hilt : i < ops.size := by
    rcases Nat.lt_or_ge i ops.size with h | h
    ·
     exact h
    ·
     rw [Array.getElem?_eq_none h] at hio; cases hio
   have hdep : ∀ k, k < ops.size → waitsFor md ops i k = true → listed.getD k true = true := by
    intro k hk hw
    unfold waitsFor at hw
    rw [hio] at hw
    obtain ⟨e, he, hb⟩ := Array.any_eq_true'.1 hw
    simp only [Bool.and_eq_true, beq_iff_eq] at hb
    have h1 := hdeps e he hb.1
    rw [hb.2] at h1
    have hk' : k < listed.size := by omega
    simp [hk'] at h1 ⊢
    exact h1
   have hLlt : ∀ p ∈ L, p.1 < ops.size := by
    intro p hp
    obtain ⟨o', ho', _⟩ := hstep p hp
    rcases Nat.lt_or_ge p.1 ops.size with h | h
    ·
     exact h
    ·
     rw [Array.getElem?_eq_none h] at ho'; cases ho'
   have key : ∀ K : Act → World → Prop, (if Region.wanted o (yielded ops (over a0 (L.map Prod.snd) y).tmps) = true then Oper.wp P o (over a0 (L.map Prod.snd) y) w K Q else K ((over a0 (L.map Prod.snd) y).put o.dst undef) w) → wpOp P ops Q i K (over a0 (L.map Prod.snd) y) w := by
    intro K h1
    unfold wpOp
    simp only [hio]
    split
    ·
     rename_i hw
     rw [if_pos hw] at h1
     exact .inl h1
    ·
     rename_i hw
     rw [if_neg hw] at h1
     exact h1
   refine key _ ?_
   by_cases hit : i = t
   ·
    subst hit
    have hl : ∀ p ∈ L, listed.getD p.1 true = true := fun p hp => hdep p.1 (hLlt p hp) (htl p hp).2
    obtain ⟨o2, ho2, hlst⟩ := hlast
    rw [hio] at ho2
    cases ho2
    refine (hlst y w lo hi hS hB (fun q hq => hGs q hq (hl q hq)) (fun q hq r hr hne => hAp q hq r hr hne (hl q hq) (hl r hr)) _ (fun a' w' hq => ⟨fun h => absurd rfl h, upto_done ?_ hq⟩)).out
    rw [List.eq_nil_iff_forall_not_mem]
    intro j hj
    obtain ⟨hjun, oj, hjo, _⟩ := mem_ready.1 hj
    have hjl : j < ops.size := by
     rcases Nat.lt_or_ge j ops.size with h | h
     ·
      exact h
     ·
      rw [Array.getElem?_eq_none h] at hjo; cases hjo
    by_cases hji : i = j
    ·
     subst hji
     have hk' : i < listed.size := by omega
     simp [hk'] at hjun
    ·
     rw [getD_set_ne true hji] at hjun
     rcases hall j hjl hjun with h | ⟨p, hp, h⟩
     ·
      exact hji h.symm
     ·
      rw [← h, hl p hp] at hjun; cases hjun
   ·
    obtain ⟨p, hp, hpi⟩ := (hall i hilt hiun).resolve_left hit
    subst hpi
    obtain ⟨o', ho', hdst, hst⟩ := hstep p hp
    rw [hio] at ho'
    cases ho'
    refine (hst y w lo hi hS hB (fun q hq hw => hGs q hq (hdep q.1 (hLlt q hq) hw)) (fun q hq r hr hne h1 h2 => hAp q hq r hr hne (hdep q.1 (hLlt q hq) h1) (hdep r.1 (hLlt r hr) h2)) _ (fun v w' hb hGp => ⟨fun _ => hSst _ _ hS hb, ?_⟩)).out
    rw [over_put (List.mem_map_of_mem hp) hnd]
    have hlt : p.1 < listed.size := by omega
    have hself : (listed.setIfInBounds p.1 true).getD p.1 true = true := by simp [hlt]
    have hoth : ∀ j, p.1 ≠ j → (listed.setIfInBounds p.1 true).getD j true = listed.getD j true := fun j h => getD_set_ne true h
    have hinj : ∀ q ∈ L, q.1 = p.1 → q = p := fun q hq h => inj_fst L hno q hq p hp h
    have hinj2 : ∀ q ∈ L, q.2 = p.2 → q = p := fun q hq h => inj_snd L hnd q hq p hp h
    refine ih g (listed.setIfInBounds p.1 true) (updV y p.2 v) w' (fun j => if j = p.1 then w.heap.size else lo j) (fun j => if j = p.1 then w'.heap.size else hi j) ?_ (by simpa using hsz) ?_ ?_ ?_ (hSst _ _ hS hb) (hB.trans (hb.mono hB.size)) ?_ ?_ (by omega)
    ·
     rw [hg]
     refine filter_less hno hp (by rw [hiun]; rfl) (by rw [hself]; rfl) (fun q hq hne => ?_)
     rw [hoth _ (fun c => hne (hinj q hq c.symm))]
    ·
     rw [hoth _ (fun h => hit h)]; exact htun
    ·
     intro j hj hju
     by_cases e : p.1 = j
     ·
      subst e; rw [hself] at hju; cases hju
     ·
      rw [hoth _ e] at hju; exact hall j hj hju
    ·
     intro q hq hql r hr hw
     by_cases e : p.1 = r.1
     ·
      rw [← e]; exact hself
     ·
      rw [hoth _ e]
      by_cases e2 : p.1 = q.1
      ·
       rw [← e2] at hw; exact hdep r.1 (hLlt r hr) hw
      ·
       rw [hoth _ e2] at hql; exact hdown q hq hql r hr hw
    ·
     intro q hq hql
     by_cases e : q.1 = p.1
     ·
      have e2 := hinj q hq e
      subst e2
      simp only [if_true]
      exact ⟨⟨hB.size, hb.size, Nat.le_refl _⟩, hGp⟩
     ·
      rw [hoth _ (Ne.symm e)] at hql
      simp only [if_neg e]
      obtain ⟨h1, h2⟩ := hGs q hq hql
      refine ⟨⟨h1.1, h1.2.1, Nat.le_trans h1.2.2 hb.size⟩, hG q hq y (updV y p.2 v) _ _ w w' h2 h1 hb ?_ ?_⟩
      ·
       exact if_neg (fun c => e (by rw [hinj2 q hq c]))
      ·
       intro r hr hw
       refine if_neg (fun c => ?_)
       have e3 := hinj2 r hr c
       subst e3
       rw [hdown q hq hql _ hr hw] at hiun
       cases hiun
    ·
     intro q hq r hr hne hql hrl
     unfold ApartB
     by_cases e : q.1 = p.1
     ·
      have e' : r.1 ≠ p.1 := fun c => hne (e.trans c.symm)
      rw [hoth _ (Ne.symm e')] at hrl
      simp only [if_pos e, if_neg e']
      exact .inr (hGs r hr hrl).1.2.2
     ·
      rw [hoth _ (Ne.symm e)] at hql
      by_cases e' : r.1 = p.1
      ·
       simp only [if_neg e, if_pos e']
       exact .inl (hGs q hq hql).1.2.2
      ·
       rw [hoth _ (Ne.symm e')] at hrl
       simp only [if_neg e, if_neg e']
       exact hAp q hq r hr hne hql hrl
 have h0 := H f f listed (fun s => a0.tmps.getD s undef) w0 (fun _ => 0) (fun _ => 0) (by
  rw [hf, List.filter_eq_self.2 (fun p hp => by rw [hun.2 p hp]; rfl)]) hsz hun.1 hall (fun p hp h => by rw [hun.2 p hp] at h; cases h) hS (Below.refl _ _) (fun q hq h => by rw [hun.2 q hq] at h; cases h) (fun q hq r hr hne h => by rw [hun.2 q hq] at h; cases h) (Nat.le_refl _)
 rw [over_self] at h0
 exact h0
def checkS (md : Region.Mode) (ops : Array Oper) (listed : Array Bool) (t f : Nat) (L : List (Nat × Nat)) : Bool :=
 risesB md ops && decide (listed.size = ops.size) && (ops[t]?).isSome && ((List.range ops.size).all fun i => listed.getD i true || decide (i = t) || L.any fun p => decide (p.1 = i)) &&
  !listed.getD t true && (L.all fun p => !listed.getD p.1 true) && decide (L.map Prod.fst).Nodup && decide (L.map Prod.snd).Nodup && (L.all fun p => decide (p.1 ≠ t) && waitsFor md ops t p.1) && decide (f = L.length + 1)
theorem upto_stable' (L : List (Nat × Nat)) (G : Nat → (Nat → Value) → Nat → Nat → World → Prop) {f : Nat} {listed : Array Bool} {a0 : Act} {w0 : World} (hc : checkS md ops listed t f L = true)
  (hS : S w0) (hSst : ∀ w w', S w → Below w.heap.size w w' → S w')
  (hG : ∀ p ∈ L, ∀ (y y' : Nat → Value) (lo hi : Nat) (w w' : World), G p.1 y lo hi w → InB w0 w lo hi → Below w.heap.size w w' → y' p.2 = y p.2 → (∀ q ∈ L, waitsFor md ops p.1 q.1 = true → y' q.2 = y q.2) → G p.1 y' lo hi w')
  (hstep : ∀ p ∈ L, StepS P md ops Q S L G a0 w0 p)
  (hlast : ∃ o, ops[t]? = some o ∧ ∀ (y : Nat → Value) (w : World) (lo hi : Nat → Nat), S w → Below w0.heap.size w0 w → (∀ q ∈ L, InB w0 w (lo q.1) (hi q.1) ∧ G q.1 y (lo q.1) (hi q.1) w) → (∀ q ∈ L, ∀ r ∈ L, q.1 ≠ r.1 → ApartB lo hi q.1 r.1) →
   ∀ K : Act → World → Prop, (∀ a' w', Q .normal a' w' → K a' w') → Shut (if Region.wanted o (yielded ops (over a0 (L.map Prod.snd) y).tmps) = true then Oper.wp P o (over a0 (L.map Prod.snd) y) w K Q else K ((over a0 (L.map Prod.snd) y).put o.dst undef) w)) :
  wpUpto P md ops Q S t f listed a0 w0 := by
 unfold checkS at hc
 simp only [Bool.and_eq_true, decide_eq_true_eq, List.all_eq_true, List.any_eq_true, Bool.or_eq_true, Bool.not_eq_true', List.mem_range] at hc
 obtain ⟨⟨⟨⟨⟨⟨⟨⟨⟨h1, h2⟩, h3⟩, h4⟩, h5⟩, h6⟩, h7⟩, h8⟩, h9⟩, h10⟩ := hc
 refine upto_stable L G h1 h2 (Option.isSome_iff_exists.1 h3) (fun i hi hu => ?_) ⟨h5, h6⟩ h7 h8 h9 h10 hS hSst hG hstep hlast
 rcases h4 i hi with (h | h) | h
 ·
  rw [hu] at h; cases h
 ·
  exact .inl h
 ·
  exact .inr h
end

end Go.Proofs.YtndghenlapbaaaaGreat


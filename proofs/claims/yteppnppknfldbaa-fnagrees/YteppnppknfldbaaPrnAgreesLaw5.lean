import Derived.Test.YteppnppknfldbaaPrnAgreesLaw1
import Derived.Deep.DeepAppendRoom
import Derived.Test.YteppnppknfldbaaPrnAgreesLaw4

/-
  Appending what lies anywhere, or nothing.
-/
namespace Go.Proofs.Yteppnppknfldbaa
open Go.RowKit

def AppAny (w : World) (u : Value) (m : Nat) (news : List Value) : Prop :=
  (∃ c, u = .slice none 0 c ∧ m = 0 ∧ news = []) ∨ ∃ ad c, u = .slice (some ad) m c ∧ ∀ j x, news[j]? = some x → w.cell? (ad.add j) = some x
section
variable {P : Program} (w : World)
theorem run_append_none_any (base : Nat) (t ty e : TypeId) (i : TypeInfo) (size c : Nat) (ht : P.underlying t = some (.slice e)) (hi : P.info? e = some i)
    (v : Value) (n : Nat) (xs : List Value) (hown : w.ownsRow base e size v n xs) :
    (Builtin.append_ #[t, t] ty #[v, .slice none 0 c]).run P w = .ok v w := by
  rcases hown.2 with ⟨rfl, rfl⟩ | ⟨g, cap, cur, rfl, _, _, hnc, _⟩
  · simp [Builtin.append_, run_underlying ht, sizeOf, typeInfo, hi, Builtin.lenOf, Builtin.firstCells]
  · simp [Builtin.append_, run_underlying ht, sizeOf, typeInfo, hi, Builtin.lenOf, Builtin.firstCells, hnc, storeCells]
theorem wp_appAny {o : Oper} {a : Act} {K : Act → World → Prop} {Q : Exit → Act → World → Prop} (s x : Operand) (t : TypeId)
    (ho : o.op = .call { callee := .builtin .append, args := #[s, x], argTypes := #[t, t] })
    (base : Nat) (e : TypeId) (i : TypeInfo) (z : Value) (size bytes : Nat) (ht : P.underlying t = some (.slice e)) (hi : P.info? e = some i) (hz : i.zero = some z)
    (hsize : i.size = size) (hby : i.bytes = bytes) (hzs : z.cells.size = size) (hsz : 0 < size)
    (v : Value) (n : Nat) (xs : List Value) (hs : a.eval s = v) (u : Value) (m : Nat) (news : List Value) (hx : a.eval x = u)
    (hown : w.ownsRow base e size v n xs) (hsrc : AppAny w u m news) (hl : news.length = m * size) (h1 : ∀ u ∈ news, u.oneCell' = true)
    (h63 : n + m ≤ maxLen) (hbytes : (n + m) * bytes ≤ 140737488355328) (hbase : base ≤ w.heap.size)
    (h : ∀ v' w', w'.ownsRow base e size v' (n + m) (xs ++ news) → w.grownBy w' v.ownBlock → (∀ W : World, Below base W w → Below base W w') → K (a.put o.dst v') w') : o.wp P a w K Q := by
  rcases hsrc with ⟨c, rfl, rfl, rfl⟩ | ⟨ad, c, rfl, hnews⟩
  · have hr := run_append_none_any (P := P) w base t o.type e i size c ht hi v n xs hown
    unfold Oper.wp execOp
    simp only [ho, resolve, invoke, builtin, Sem.run_bind, Sem.run_pure, Result.andThen_ok, List.map_toArray, List.map_cons, List.map_nil, hs, hx, hr]
    exact h v w (by simpa using hown) ⟨rfl, rfl, rfl, Nat.le_refl _, fun _ _ _ => rfl⟩ (fun _ hW => hW)
  · exact wp_append_own w s x t ho base e i z size bytes ht hi hz hsize hby hzs hsz v n xs hs hown ad m c news hx hl hnews h1 h63 hbytes hbase (fun v' w' q1 q2 _ => h v' w' q1 q2 (fun W hW => hW.grown q2 hbase (fun k hk => (hown.lt k hk).1)))
theorem step_appAny {ops : Array Oper} {o : Oper} {a : Act} {K : Act → World → Prop} {Q : Exit → Act → World → Prop} {E : Prop} (hgd : o.guard = none) (s x : Operand) (t : TypeId)
    (ho : o.op = .call { callee := .builtin .append, args := #[s, x], argTypes := #[t, t] })
    (base : Nat) (e : TypeId) (i : TypeInfo) (z : Value) (size bytes : Nat) (ht : P.underlying t = some (.slice e)) (hi : P.info? e = some i) (hz : i.zero = some z)
    (hsize : i.size = size) (hby : i.bytes = bytes) (hzs : z.cells.size = size) (hsz : 0 < size)
    (v : Value) (n : Nat) (xs : List Value) (hs : a.eval s = v) (u : Value) (m : Nat) (news : List Value) (hx : a.eval x = u)
    (hown : w.ownsRow base e size v n xs) (hsrc : AppAny w u m news) (hl : news.length = m * size) (h1 : ∀ u ∈ news, u.oneCell' = true)
    (h63 : n + m ≤ maxLen) (hbytes : (n + m) * bytes ≤ 140737488355328) (hbase : base ≤ w.heap.size)
    (h : ∀ v' w', w'.ownsRow base e size v' (n + m) (xs ++ news) → w.grownBy w' v.ownBlock → (∀ W : World, Below base W w → Below base W w') → K (a.put o.dst v') w') :
    if Region.wanted o (yielded ops a.tmps) = true then Oper.wp P o a w K Q else E := by
  have hw : Region.wanted o (yielded ops a.tmps) = true := by simp [Region.wanted, hgd]
  rw [if_pos hw]
  exact wp_appAny w s x t ho base e i z size bytes ht hi hz hsize hby hzs hsz v n xs hs u m news hx hown hsrc hl h1 h63 hbytes hbase h
theorem wpList_appAny {ops : Array Oper} {rest : List Oper} {o : Oper} {a : Act} {Q : Exit → Act → World → Prop} (hgd : o.guard = none) (s x : Operand) (t : TypeId)
    (ho : o.op = .call { callee := .builtin .append, args := #[s, x], argTypes := #[t, t] })
    (base : Nat) (e : TypeId) (i : TypeInfo) (z : Value) (size bytes : Nat) (ht : P.underlying t = some (.slice e)) (hi : P.info? e = some i) (hz : i.zero = some z)
    (hsize : i.size = size) (hby : i.bytes = bytes) (hzs : z.cells.size = size) (hsz : 0 < size)
    (v : Value) (n : Nat) (xs : List Value) (hs : a.eval s = v) (u : Value) (m : Nat) (news : List Value) (hx : a.eval x = u)
    (hown : w.ownsRow base e size v n xs) (hsrc : AppAny w u m news) (hl : news.length = m * size) (h1 : ∀ u ∈ news, u.oneCell' = true)
    (h63 : n + m ≤ maxLen) (hbytes : (n + m) * bytes ≤ 140737488355328) (hbase : base ≤ w.heap.size)
    (h : ∀ v' w', w'.ownsRow base e size v' (n + m) (xs ++ news) → w.grownBy w' v.ownBlock → (∀ W : World, Below base W w → Below base W w') → wpList P ops Q rest (a.put o.dst v') w') :
    wpList P ops Q (o :: rest) a w := by
  refine wpList_plain hgd fun K' hK' => ?_
  exact wp_appAny w s x t ho base e i z size bytes ht hi hz hsize hby hzs hsz v n xs hs u m news hx hown hsrc hl h1 h63 hbytes hbase (fun v' w' q1 q2 q3 => hK' _ _ (h v' w' q1 q2 q3))
end

end Go.Proofs.Yteppnppknfldbaa

/-
  Appending votes; a slot's copy, on both sides.
-/
set_option linter.unusedSimpArgs false
namespace Go.Proofs.Yteppnppknfldbaa
open Go.RowKit
set_option linter.unusedSectionVars false
variable [DecidableEq Vot] [Inhabited Vot] [DecidableEq Slt] [Inhabited Slt] [DecidableEq SltR] [Inhabited SltR] [DecidableEq Bal] [Inhabited Bal] [DecidableEq Ledg] [Inhabited Ledg] [DecidableEq Leg] [Inhabited Leg]
attribute [local go_sem ↓] Go.wp_at_zero Go.wp_at_succ

theorem appAny_vots {w : World} {v : Value} {xs : List Vot} (h : votsR.V w v xs) : AppAny w v xs.length (votsC xs) := by
  obtain ⟨a, c, rfl, _, _, hc⟩ := h
  cases a with
  | none =>
    have h0 : xs = [] := by
      cases xs with
      | nil => rfl
      | cons x r => obtain ⟨b, o, e, _⟩ := hc 0 (by simp); cases e
    subst h0
    exact .inl ⟨c, rfl, rfl, rfl⟩
  | some ad =>
    refine .inr ⟨ad, c, rfl, fun j x hj => ?_⟩
    have hjl : j < xs.length * 2 := by
      have := (List.getElem?_eq_some_iff.1 hj).1
      rw [length_votsC] at this
      exact this
    have hi : j / 2 < xs.length := by omega
    obtain ⟨b, o, e, g0, g1⟩ := hc (j / 2) hi
    obtain ⟨q0, q1⟩ := get_votsC xs (j / 2) hi
    simp only [Option.some.injEq] at e
    subst e
    have hadd : (Addr.mk b o none).add j = ⟨b, o + j, none⟩ := by
      by_cases h : j = 0
      · subst h; simp [Addr.add]
      · simp [Addr.add, h]
    rw [hadd]
    have hm : j % 2 = 0 ∨ j % 2 = 1 := by omega
    rcases hm with hm | hm
    · have e : j = j / 2 * 2 := by omega
      have e2 : o + j = o + j / 2 * 2 := by omega
      rw [e2, g0]
      rw [e, q0] at hj
      exact hj
    · have e : j = j / 2 * 2 + 1 := by omega
      have e2 : o + j = o + j / 2 * 2 + 1 := by omega
      rw [e2, g1]
      rw [e, q1] at hj
      exact hj
theorem appAny_vot {w : World} {g c : Nat} {l : Vot} (h0 : w.cell? ⟨g, 0, none⟩ = some (.int .i64 l.bal)) (h1 : w.cell? ⟨g, 1, none⟩ = some (.int .i64 l.val)) : AppAny w (.slice (some ⟨g, 0, none⟩) 1 c) 1 (votsC [l]) := by
  refine .inr ⟨_, _, rfl, fun j x hj => ?_⟩
  match j, hj with
  | 0, hj => simp [votsC, votC] at hj; subst hj; simpa [Addr.add] using h0
  | 1, hj => simp [votsC, votC] at hj; subst hj; simpa [Addr.add] using h1
  | j + 2, hj => simp [votsC, votC] at hj
theorem votsC_app (xs ys : List Vot) : votsC (xs ++ ys) = votsC xs ++ votsC ys := by simp [votsC]
theorem votsC_one (xs : List Vot) : ∀ u ∈ votsC xs, u.oneCell' = true := by
  intro u hu
  simp only [votsC, List.mem_flatMap] at hu
  obtain ⟨b, _, hb⟩ := hu
  simp [votC] at hb
  rcases hb with rfl | rfl <;> rfl
theorem step_appV (w : World) {ops : Array Oper} {o : Oper} {a : Act} {K : Act → World → Prop} {Q : Exit → Act → World → Prop} {E : Prop} (hgd : o.guard = none) (s x : Operand)
    (ho : o.op = .call { callee := .builtin .append, args := #[s, x], argTypes := #[41, 41] })
    (base : Nat) (v : Value) (xs : List Vot) (hs : a.eval s = v) (u : Value) (ys : List Vot) (hx : a.eval x = u)
    (hown : w.ownsRow base 40 2 v xs.length (votsC xs)) (hsrc : AppAny w u ys.length (votsC ys)) (hlen : xs.length + ys.length ≤ 1073741824) (hbase : base ≤ w.heap.size)
    (h : ∀ v' w', w'.ownsRow base 40 2 v' (xs ++ ys).length (votsC (xs ++ ys)) → w.grownBy w' v.ownBlock → (∀ W : World, Below base W w → Below base W w') → K (a.put o.dst v') w') :
    if Region.wanted o (yielded ops a.tmps) = true then Oper.wp Try.prog o a w K Q else E := by
  obtain ⟨i0, hi, hz0, hz1, hz2⟩ := info_parts infoVot
  refine step_appAny w hgd s x 41 ho base 40 i0 _ 2 16 Try.underlying41 hi hz0 hz1 hz2 rfl (by decide) v xs.length (votsC xs) hs u ys.length (votsC ys) hx hown hsrc (by rw [length_votsC]) (votsC_one ys) (by unfold maxLen; omega) (by omega) hbase ?_
  intro v' w' h1 h2 h3
  refine h v' w' ?_ h2 h3
  rw [List.length_append, votsC_app]
  exact h1
theorem wpList_appV (w : World) {ops : Array Oper} {rest : List Oper} {o : Oper} {a : Act} {Q : Exit → Act → World → Prop} (hgd : o.guard = none) (s x : Operand)
    (ho : o.op = .call { callee := .builtin .append, args := #[s, x], argTypes := #[41, 41] })
    (base : Nat) (v : Value) (xs : List Vot) (hs : a.eval s = v) (u : Value) (ys : List Vot) (hx : a.eval x = u)
    (hown : w.ownsRow base 40 2 v xs.length (votsC xs)) (hsrc : AppAny w u ys.length (votsC ys)) (hlen : xs.length + ys.length ≤ 1073741824) (hbase : base ≤ w.heap.size)
    (h : ∀ v' w', w'.ownsRow base 40 2 v' (xs ++ ys).length (votsC (xs ++ ys)) → w.grownBy w' v.ownBlock → (∀ W : World, Below base W w → Below base W w') → wpList Try.prog ops Q rest (a.put o.dst v') w') :
    wpList Try.prog ops Q (o :: rest) a w := by
  obtain ⟨i0, hi, hz0, hz1, hz2⟩ := info_parts infoVot
  refine wpList_appAny w hgd s x 41 ho base 40 i0 _ 2 16 Try.underlying41 hi hz0 hz1 hz2 rfl (by decide) v xs.length (votsC xs) hs u ys.length (votsC ys) hx hown hsrc (by rw [length_votsC]) (votsC_one ys) (by unfold maxLen; omega) (by omega) hbase ?_
  intro v' w' h1 h2 h3
  refine h v' w' ?_ h2 h3
  rw [List.length_append, votsC_app]
  exact h1
set_option maxHeartbeats 2000000 in
theorem copied8_u (x : Value) (d : Slt) (w : World) (hx : sltR.V w x d) (hn : d.cast.length ≤ 1048576) :
    Calls Try.prog 19 #[x] w fun e w' => ∃ v F, e = .returned v ∧ sltR.O w' w.heap.size F v d ∧ Below w.heap.size w w' := by
  obtain ⟨u1, rfl, hx⟩ := hx
  obtain ⟨ax, cx, rfl⟩ := vots_form hx
  have hs0 : AppAny ((w.alloc (.cells #[.int .i64 d.con, .int .i64 d.sh, .int .i64 d.pr, .int .i64 d.lb, .int .i64 d.lv, .slice ax d.cast.length cx] 43)).alloc (.cells #[.int .i64 0, .int .i64 0, .int .i64 0, .int .i64 0, .int .i64 0, .slice none 0 0] 43)) (.slice ax d.cast.length cx) d.cast.length (votsC d.cast) := appAny_vots (votsR.below hx (by (repeat (first | exact Below.refl _ _ | assumption | refine Below.drew ?_ | refine balloc ?_ _ | refine bset ?_ (by simp; omega) _ | refine bset ?_ (by simp) _ | refine bstep ?_ (by assumption)))))
  have ho0 := World.ownsRow_nil ((w.alloc (.cells #[.int .i64 d.con, .int .i64 d.sh, .int .i64 d.pr, .int .i64 d.lb, .int .i64 d.lv, .slice ax d.cast.length cx] 43)).alloc (.cells #[.int .i64 0, .int .i64 0, .int .i64 0, .int .i64 0, .int .i64 0, .slice none 0 0] 43)) (w.heap.size + 2) 40 2
  clear hx
  go_enter Try.func19, Try.ntmps19
  go_wp2_with (at_builtin; refine wpList_appV _ rfl _ _ rfl (w.heap.size + 2) _ [] rfl _ d.cast rfl ho0 hs0 ?c1 ?c2 ?_)
  case c1 => simp; omega
  case c2 => simp
  intro v' w1 ho hg hbel
  clear hs0 ho0 hg
  have hY := hbel _ (Below.refl _ _)
  have hB1 : Below w.heap.size w w1 := Below.trans (by (repeat (first | exact Below.refl _ _ | assumption | refine Below.drew ?_ | refine balloc ?_ _ | refine bset ?_ (by simp; omega) _ | refine bset ?_ (by simp) _ | refine bstep ?_ (by assumption)))) (hY.mono (by omega))
  clear hbel
  have y0 : w1.cell? ⟨w.heap.size, 0, none⟩ = some (.int .i64 d.con) := (hY.cell (p := ⟨w.heap.size, 0, none⟩) (by simp)).trans (by simp [go_sem])
  have y1 : w1.cell? ⟨w.heap.size, 1, none⟩ = some (.int .i64 d.sh) := (hY.cell (p := ⟨w.heap.size, 1, none⟩) (by simp)).trans (by simp [go_sem])
  have y2 : w1.cell? ⟨w.heap.size, 2, none⟩ = some (.int .i64 d.pr) := (hY.cell (p := ⟨w.heap.size, 2, none⟩) (by simp)).trans (by simp [go_sem])
  have y3 : w1.cell? ⟨w.heap.size, 3, none⟩ = some (.int .i64 d.lb) := (hY.cell (p := ⟨w.heap.size, 3, none⟩) (by simp)).trans (by simp [go_sem])
  have y4 : w1.cell? ⟨w.heap.size, 4, none⟩ = some (.int .i64 d.lv) := (hY.cell (p := ⟨w.heap.size, 4, none⟩) (by simp)).trans (by simp [go_sem])
  have y5 : w1.cell? ⟨w.heap.size, 5, none⟩ = some (.slice ax d.cast.length cx) := (hY.cell (p := ⟨w.heap.size, 5, none⟩) (by simp)).trans (by simp [go_sem])
  have yf : ∀ o, w1.frozen? ⟨w.heap.size, o, none⟩ = false := fun o => (hY.frozen (p := ⟨w.heap.size, o, none⟩) (by simp)).trans (by simp [go_sem])
  have q0 : w1.cell? ⟨w.heap.size + 1, 0, none⟩ = some (.int .i64 0) := (hY.cell (p := ⟨w.heap.size + 1, 0, none⟩) (by simp)).trans (by simp [go_sem])
  have q1 : w1.cell? ⟨w.heap.size + 1, 1, none⟩ = some (.int .i64 0) := (hY.cell (p := ⟨w.heap.size + 1, 1, none⟩) (by simp)).trans (by simp [go_sem])
  have q2 : w1.cell? ⟨w.heap.size + 1, 2, none⟩ = some (.int .i64 0) := (hY.cell (p := ⟨w.heap.size + 1, 2, none⟩) (by simp)).trans (by simp [go_sem])
  have q3 : w1.cell? ⟨w.heap.size + 1, 3, none⟩ = some (.int .i64 0) := (hY.cell (p := ⟨w.heap.size + 1, 3, none⟩) (by simp)).trans (by simp [go_sem])
  have q4 : w1.cell? ⟨w.heap.size + 1, 4, none⟩ = some (.int .i64 0) := (hY.cell (p := ⟨w.heap.size + 1, 4, none⟩) (by simp)).trans (by simp [go_sem])
  have q5 : w1.cell? ⟨w.heap.size + 1, 5, none⟩ = some (.slice none 0 0) := (hY.cell (p := ⟨w.heap.size + 1, 5, none⟩) (by simp)).trans (by simp [go_sem])
  have qf : ∀ o, w1.frozen? ⟨w.heap.size + 1, o, none⟩ = false := fun o => (hY.frozen (p := ⟨w.heap.size + 1, o, none⟩) (by simp)).trans (by simp [go_sem])
  have hz := hY.size
  try simp at hz
  clear hY
  try simp only [List.nil_append] at ho
  obtain ⟨av, cv, rfl⟩ := owns_form ho
  have o1 : ∃ F, votsR.O w1 (w.heap.size + 2) F (.slice av d.cast.length cv) d.cast := ⟨_, ho, rfl⟩
  obtain ⟨F1, o1⟩ := o1
  clear ho
  go_wp2
  refine bodyPost_ret (v := .agg #[.int .i64 d.con, .int .i64 d.sh, .int .i64 d.pr, .int .i64 d.lb, .int .i64 d.lv, .slice av d.cast.length cv]) ?_ rfl ⟨_, fun b => F1 b, rfl, ⟨_, F1, rfl, votsR.base (base := w.heap.size + 2) (by (repeat (first | refine Rep.set _ ?_ _ (by simp; omega) | refine Rep.set _ ?_ _ (by simp) | refine Rep.alloc _ ?_ _ | assumption))) (by omega), fun b => Iff.rfl⟩, by (repeat (first | refine bset ?_ (by simp; omega) _ | refine bset ?_ (by simp) _ | refine balloc ?_ _ | assumption))⟩
  simp [results, Try.results19, go_sem, y0, y1, y2, y3, y4, y5, q0, q1, q2, q3, q4, q5, yf, qf]
end Go.Proofs.Yteppnppknfldbaa

/-
  PromiseSlot, AcceptSlot in plain mathematics.
-/
namespace Go.Proofs.Yteppnppknfldbaa
open Go.RowKit
set_option linter.unusedSectionVars false
variable [DecidableEq Vot] [Inhabited Vot] [DecidableEq Slt] [Inhabited Slt] [DecidableEq SltR] [Inhabited SltR] [DecidableEq Bal] [Inhabited Bal] [DecidableEq Ledg] [Inhabited Ledg] [DecidableEq Leg] [Inhabited Leg]

def errS (c : Int) : SltR := ⟨c, 0, 0, ⟨0, 0, 0, 0, 0, []⟩⟩
def promD (d : Slt) (b : Int) : SltR := if sltFault d = 0 then (if inB b 0 1000 then (if b < d.pr then errS 8 else ⟨0, d.lb, d.lv, ⟨d.con, d.sh, b, d.lb, d.lv, d.cast⟩⟩) else errS 3) else errS (sltFault d)
def accC (d : Slt) (v : Vot) : Int := if v.bal < d.pr then 8 else if v.bal = d.lb ∧ ¬ v.val = d.lv then 7 else if v.bal = d.lb ∧ v.val = d.lv then 0 else if 60 ≤ d.cast.length then 2 else 0
def accS (d : Slt) (v : Vot) : Slt := if v.bal = d.lb ∧ v.val = d.lv then ⟨d.con, d.sh, v.bal, v.bal, v.val, d.cast⟩ else ⟨d.con, d.sh, v.bal, v.bal, v.val, d.cast ++ [v]⟩
def accD (d : Slt) (b v : Int) : SltR := if sltFault d = 0 then (if inB b 0 1000 && inB v 1 2 then (if accC d ⟨b, v⟩ = 0 then ⟨0, d.lb, d.lv, accS d ⟨b, v⟩⟩ else errS (accC d ⟨b, v⟩)) else errS 3) else errS (sltFault d)
theorem promD_fault {d : Slt} {b : Int} (h : ¬ sltFault d = 0) : promD d b = errS (sltFault d) := by unfold promD; rw [if_neg h]
theorem promD_range {d : Slt} {b : Int} (h : sltFault d = 0) (h1 : inB b 0 1000 = false) : promD d b = errS 3 := by unfold promD; rw [if_pos h, h1]; rfl
theorem promD_busy {d : Slt} {b : Int} (h : sltFault d = 0) (h1 : inB b 0 1000 = true) (h2 : b < d.pr) : promD d b = errS 8 := by unfold promD; rw [if_pos h, h1, if_pos rfl, if_pos h2]
theorem promD_ok {d : Slt} {b : Int} (h : sltFault d = 0) (h1 : inB b 0 1000 = true) (h2 : ¬ b < d.pr) : promD d b = ⟨0, d.lb, d.lv, ⟨d.con, d.sh, b, d.lb, d.lv, d.cast⟩⟩ := by unfold promD; rw [if_pos h, h1, if_pos rfl, if_neg h2]
theorem accD_fault {d : Slt} {b v : Int} (h : ¬ sltFault d = 0) : accD d b v = errS (sltFault d) := by unfold accD; rw [if_neg h]
theorem accD_range {d : Slt} {b v : Int} (h : sltFault d = 0) (h1 : (inB b 0 1000 && inB v 1 2) = false) : accD d b v = errS 3 := by unfold accD; rw [if_pos h, h1]; rfl
theorem accD_code {d : Slt} {b v : Int} (h : sltFault d = 0) (h1 : (inB b 0 1000 && inB v 1 2) = true) (h2 : ¬ accC d ⟨b, v⟩ = 0) : accD d b v = errS (accC d ⟨b, v⟩) := by unfold accD; rw [if_pos h, h1, if_pos rfl, if_neg h2]
theorem accD_ok {d : Slt} {b v : Int} (h : sltFault d = 0) (h1 : (inB b 0 1000 && inB v 1 2) = true) (h2 : accC d ⟨b, v⟩ = 0) : accD d b v = ⟨0, d.lb, d.lv, accS d ⟨b, v⟩⟩ := by unfold accD; rw [if_pos h, h1, if_pos rfl, if_pos h2]
theorem accC_busy {d : Slt} {v : Vot} (h : v.bal < d.pr) : accC d v = 8 := by unfold accC; rw [if_pos h]
theorem accC_taken {d : Slt} {v : Vot} (h : ¬ v.bal < d.pr) (h1 : v.bal = d.lb) (h2 : ¬ v.val = d.lv) : accC d v = 7 := by unfold accC; rw [if_neg h, if_pos ⟨h1, h2⟩]
theorem accC_same {d : Slt} {v : Vot} (h : ¬ v.bal < d.pr) (h1 : v.bal = d.lb) (h2 : v.val = d.lv) : accC d v = 0 := by unfold accC; rw [if_neg h, if_neg (fun q => q.2 h2), if_pos ⟨h1, h2⟩]
theorem accC_many {d : Slt} {v : Vot} (h : ¬ v.bal < d.pr) (h1 : ¬ v.bal = d.lb) (h2 : 60 ≤ d.cast.length) : accC d v = 2 := by unfold accC; rw [if_neg h, if_neg (fun q => h1 q.1), if_neg (fun q => h1 q.1), if_pos h2]
theorem accC_new {d : Slt} {v : Vot} (h : ¬ v.bal < d.pr) (h1 : ¬ v.bal = d.lb) (h2 : ¬ 60 ≤ d.cast.length) : accC d v = 0 := by unfold accC; rw [if_neg h, if_neg (fun q => h1 q.1), if_neg (fun q => h1 q.1), if_neg h2]
theorem accS_same {d : Slt} {v : Vot} (h1 : v.bal = d.lb) (h2 : v.val = d.lv) : accS d v = ⟨d.con, d.sh, v.bal, v.bal, v.val, d.cast⟩ := by unfold accS; rw [if_pos ⟨h1, h2⟩]
theorem accS_new {d : Slt} {v : Vot} (h1 : ¬ v.bal = d.lb) : accS d v = ⟨d.con, d.sh, v.bal, v.bal, v.val, d.cast ++ [v]⟩ := by unfold accS; rw [if_neg (fun q => h1 q.1)]
end Go.Proofs.Yteppnppknfldbaa

/-
  Acceptor. (Written by program: nest.py.)
-/
namespace Go.Proofs.Yteppnppknfldbaa
open Go.RowKit
set_option linter.unusedSectionVars false
variable [DecidableEq Vot] [Inhabited Vot] [DecidableEq Slt] [Inhabited Slt]
attribute [local go_sem ↓] Go.wp_at_zero Go.wp_at_succ

structure Acc where
  slots : List Slt
variable [DecidableEq Acc] [Inhabited Acc]

def accR : Rep Acc where
  V := fun w v x => ∃ u1, v = .agg #[u1] ∧ sltsR.V w u1 x.slots
  O := fun w base F v x => ∃ u1 F1, v = .agg #[u1] ∧ sltsR.O w base F1 u1 x.slots ∧ (∀ b, F b ↔ (F1 b))
  below := fun h hb => by
    obtain ⟨u1, rfl, h1⟩ := h
    exact ⟨u1, rfl, sltsR.below h1 hb⟩
  ofO := fun h => by
    obtain ⟨u1, F1, rfl, h1, _⟩ := h
    exact ⟨u1, rfl, sltsR.ofO h1⟩
  mod := fun h hm hd => by
    obtain ⟨u1, F1, rfl, h1, hF⟩ := h
    exact ⟨u1, F1, rfl, sltsR.mod h1 hm (fun b hb => hd b ((hF b).2 hb)), hF⟩
  rng := fun h b hb => by
    obtain ⟨u1, F1, rfl, h1, hF⟩ := h
    rcases (hF b).1 hb with hb
    · exact sltsR.rng h1 b hb
  base := fun h hb => by
    obtain ⟨u1, F1, rfl, h1, hF⟩ := h
    exact ⟨u1, F1, rfl, sltsR.base h1 hb, hF⟩
def lvAcc (v : Value) : List Value := match v with | .agg a => one (a.getD 0 (.int .i64 0)) | _ => []
end Go.Proofs.Yteppnppknfldbaa


import Derived.Test.YteebglgbeijolaaPrnBytes9Law1
import Derived.Deep.DeepAppendRoom

/-
  Log. (Written by program: nest.py.)
-/
namespace Go.Proofs.Yteebglgbeijolaa
open Go.RowKit
set_option linter.unusedSectionVars false
attribute [local go_sem ↓] Go.wp_at_zero Go.wp_at_succ

set_option linter.unusedSimpArgs false

structure Logg where
  synced : List Byte
  loose : List Byte
variable [DecidableEq Logg] [Inhabited Logg]

end Go.Proofs.Yteebglgbeijolaa

/-
  LogResult. (Written by program: nest.py.)
-/
namespace Go.Proofs.Yteebglgbeijolaa
open Go.RowKit
set_option linter.unusedSectionVars false
variable [DecidableEq Logg] [Inhabited Logg]
attribute [local go_sem ↓] Go.wp_at_zero Go.wp_at_succ

set_option linter.unusedSimpArgs false

structure LoggR where
  code : Int
  log : Logg
variable [DecidableEq LoggR] [Inhabited LoggR]

end Go.Proofs.Yteebglgbeijolaa

/-
  Appending what lies anywhere, or nothing.
-/
namespace Go.Proofs.Yteebglgbeijolaa
open Go.RowKit

def AppAny (w : World) (u : Value) (m : Nat) (news : List Value) : Prop :=
  (∃ c, u = .slice none 0 c ∧ m = 0 ∧ news = []) ∨ ∃ ad c, u = .slice (some ad) m c ∧ ∀ j x, news[j]? = some x → w.cell? (ad.add j) = some x
section
variable {P : Program} (w : World)
theorem run_append_none_any (base : Nat) (t ty e : TypeId) (i : TypeInfo) (size c : Nat) (ht : P.underlying t = some (.slice e)) (hi : P.info? e = some i)
    (v : Value) (n : Nat) (xs : List Value) (hown : w.ownsRow base e size v n xs) :
    (Builtin.append_ #[t, t] ty #[v, .slice none 0 c]).run P w = .ok v w := by
  rcases hown.2 with ⟨rfl, rfl⟩ | ⟨g, cap, cur, rfl, _, _, hnc, _⟩
  · simp [Builtin.append_, run_underlying ht, sizeOf, typeInfo, hi, Builtin.lenOf, Builtin.firstCells]
  · simp [Builtin.append_, run_underlying ht, sizeOf, typeInfo, hi, Builtin.lenOf, Builtin.firstCells, hnc, storeCells]
theorem wp_appAny {o : Oper} {a : Act} {K : Act → World → Prop} {Q : Exit → Act → World → Prop} (s x : Operand) (t : TypeId)
    (ho : o.op = .call { callee := .builtin .append, args := #[s, x], argTypes := #[t, t] })
    (base : Nat) (e : TypeId) (i : TypeInfo) (z : Value) (size bytes : Nat) (ht : P.underlying t = some (.slice e)) (hi : P.info? e = some i) (hz : i.zero = some z)
    (hsize : i.size = size) (hby : i.bytes = bytes) (hzs : z.cells.size = size) (hsz : 0 < size)
    (v : Value) (n : Nat) (xs : List Value) (hs : a.eval s = v) (u : Value) (m : Nat) (news : List Value) (hx : a.eval x = u)
    (hown : w.ownsRow base e size v n xs) (hsrc : AppAny w u m news) (hl : news.length = m * size) (h1 : ∀ u ∈ news, u.oneCell' = true)
    (h63 : n + m ≤ maxLen) (hbytes : (n + m) * bytes ≤ 140737488355328) (hbase : base ≤ w.heap.size)
    (h : ∀ v' w', w'.ownsRow base e size v' (n + m) (xs ++ news) → w.grownBy w' v.ownBlock → (∀ W : World, Below base W w → Below base W w') → K (a.put o.dst v') w') : o.wp P a w K Q := by
  rcases hsrc with ⟨c, rfl, rfl, rfl⟩ | ⟨ad, c, rfl, hnews⟩
  · have hr := run_append_none_any (P := P) w base t o.type e i size c ht hi v n xs hown
    unfold Oper.wp execOp
    simp only [ho, resolve, invoke, builtin, Sem.run_bind, Sem.run_pure, Result.andThen_ok, List.map_toArray, List.map_cons, List.map_nil, hs, hx, hr]
    exact h v w (by simpa using hown) ⟨rfl, rfl, rfl, Nat.le_refl _, fun _ _ _ => rfl⟩ (fun _ hW => hW)
  · exact wp_append_own w s x t ho base e i z size bytes ht hi hz hsize hby hzs hsz v n xs hs hown ad m c news hx hl hnews h1 h63 hbytes hbase (fun v' w' q1 q2 _ => h v' w' q1 q2 (fun W hW => hW.grown q2 hbase (fun k hk => (hown.lt k hk).1)))
theorem step_appAny {ops : Array Oper} {o : Oper} {a : Act} {K : Act → World → Prop} {Q : Exit → Act → World → Prop} {E : Prop} (hgd : o.guard = none) (s x : Operand) (t : TypeId)
    (ho : o.op = .call { callee := .builtin .append, args := #[s, x], argTypes := #[t, t] })
    (base : Nat) (e : TypeId) (i : TypeInfo) (z : Value) (size bytes : Nat) (ht : P.underlying t = some (.slice e)) (hi : P.info? e = some i) (hz : i.zero = some z)
    (hsize : i.size = size) (hby : i.bytes = bytes) (hzs : z.cells.size = size) (hsz : 0 < size)
    (v : Value) (n : Nat) (xs : List Value) (hs : a.eval s = v) (u : Value) (m : Nat) (news : List Value) (hx : a.eval x = u)
    (hown : w.ownsRow base e size v n xs) (hsrc : AppAny w u m news) (hl : news.length = m * size) (h1 : ∀ u ∈ news, u.oneCell' = true)
    (h63 : n + m ≤ maxLen) (hbytes : (n + m) * bytes ≤ 140737488355328) (hbase : base ≤ w.heap.size)
    (h : ∀ v' w', w'.ownsRow base e size v' (n + m) (xs ++ news) → w.grownBy w' v.ownBlock → (∀ W : World, Below base W w → Below base W w') → K (a.put o.dst v') w') :
    if Region.wanted o (yielded ops a.tmps) = true then Oper.wp P o a w K Q else E := by
  have hw : Region.wanted o (yielded ops a.tmps) = true := by simp [Region.wanted, hgd]
  rw [if_pos hw]
  exact wp_appAny w s x t ho base e i z size bytes ht hi hz hsize hby hzs hsz v n xs hs u m news hx hown hsrc hl h1 h63 hbytes hbase h
theorem wpList_appAny {ops : Array Oper} {rest : List Oper} {o : Oper} {a : Act} {Q : Exit → Act → World → Prop} (hgd : o.guard = none) (s x : Operand) (t : TypeId)
    (ho : o.op = .call { callee := .builtin .append, args := #[s, x], argTypes := #[t, t] })
    (base : Nat) (e : TypeId) (i : TypeInfo) (z : Value) (size bytes : Nat) (ht : P.underlying t = some (.slice e)) (hi : P.info? e = some i) (hz : i.zero = some z)
    (hsize : i.size = size) (hby : i.bytes = bytes) (hzs : z.cells.size = size) (hsz : 0 < size)
    (v : Value) (n : Nat) (xs : List Value) (hs : a.eval s = v) (u : Value) (m : Nat) (news : List Value) (hx : a.eval x = u)
    (hown : w.ownsRow base e size v n xs) (hsrc : AppAny w u m news) (hl : news.length = m * size) (h1 : ∀ u ∈ news, u.oneCell' = true)
    (h63 : n + m ≤ maxLen) (hbytes : (n + m) * bytes ≤ 140737488355328) (hbase : base ≤ w.heap.size)
    (h : ∀ v' w', w'.ownsRow base e size v' (n + m) (xs ++ news) → w.grownBy w' v.ownBlock → (∀ W : World, Below base W w → Below base W w') → wpList P ops Q rest (a.put o.dst v') w') :
    wpList P ops Q (o :: rest) a w := by
  refine wpList_plain hgd fun K' hK' => ?_
  exact wp_appAny w s x t ho base e i z size bytes ht hi hz hsize hby hzs hsz v n xs hs u m news hx hown hsrc hl h1 h63 hbytes hbase (fun v' w' q1 q2 q3 => hK' _ _ (h v' w' q1 q2 q3))
end

end Go.Proofs.Yteebglgbeijolaa

/-
  Appending bytes.
-/
namespace Go.Proofs.Yteebglgbeijolaa
open Go.RowKit

theorem appAny_bytes {w : World} {v : Value} {xs : List Byte} (h : BytesV w v xs) : AppAny w v xs.length (bytesC xs) := by
  obtain ⟨a, c, rfl, _, _, hc⟩ := h
  cases a with
  | none =>
    have h0 : xs = [] := by
      cases xs with
      | nil => rfl
      | cons x r => obtain ⟨b, o, e, _⟩ := hc 0 (by simp); cases e
    subst h0
    exact .inl ⟨c, rfl, rfl, rfl⟩
  | some ad =>
    refine .inr ⟨ad, c, rfl, fun j x hj => ?_⟩
    have hjl : j < xs.length := by
      have := (List.getElem?_eq_some_iff.1 hj).1
      rw [length_bytesC] at this
      exact this
    obtain ⟨b, o, e, g0⟩ := hc j hjl
    simp only [Option.some.injEq] at e
    subst e
    have hadd : (Addr.mk b o none).add j = ⟨b, o + j, none⟩ := by
      by_cases h : j = 0
      · subst h; simp [Addr.add]
      · simp [Addr.add, h]
    rw [hadd, g0, ← get_bytesC xs j hjl]
    exact hj
theorem appAny_one {w : World} {g : Nat} {c : Nat} {b : Byte} {q : Int} (h : w.cell? ⟨g, 0, none⟩ = some (.int .u8 q)) (hq : q = (b.val : Int)) : AppAny w (.slice (some ⟨g, 0, none⟩) 1 c) 1 (bytesC [b]) := by
  subst hq
  refine .inr ⟨_, _, rfl, fun j x hj => ?_⟩
  match j, hj with
  | 0, hj => simp [bytesC] at hj; subst hj; simpa [Addr.add] using h
  | j + 1, hj => simp [bytesC] at hj
theorem appAny_three {w : World} {g : Nat} {c : Nat} {b0 b1 b2 : Byte} {q0 q1 q2 : Int} (h0 : w.cell? ⟨g, 0, none⟩ = some (.int .u8 q0)) (h1 : w.cell? ⟨g, 1, none⟩ = some (.int .u8 q1)) (h2 : w.cell? ⟨g, 2, none⟩ = some (.int .u8 q2))
    (e0 : q0 = (b0.val : Int)) (e1 : q1 = (b1.val : Int)) (e2 : q2 = (b2.val : Int)) : AppAny w (.slice (some ⟨g, 0, none⟩) 3 c) 3 (bytesC [b0, b1, b2]) := by
  subst e0 e1 e2
  refine .inr ⟨_, _, rfl, fun j x hj => ?_⟩
  match j, hj with
  | 0, hj => simp [bytesC] at hj; subst hj; simpa [Addr.add] using h0
  | 1, hj => simp [bytesC] at hj; subst hj; simpa [Addr.add] using h1
  | 2, hj => simp [bytesC] at hj; subst hj; simpa [Addr.add] using h2
  | j + 3, hj => simp [bytesC] at hj
theorem wpList_appB (w : World) {ops : Array Oper} {rest : List Oper} {o : Oper} {a : Act} {Q : Exit → Act → World → Prop} (hgd : o.guard = none) (s x : Operand)
    (ho : o.op = .call { callee := .builtin .append, args := #[s, x], argTypes := #[22, 22] })
    (base : Nat) (v : Value) (xs : List Byte) (hs : a.eval s = v) (u : Value) (ys : List Byte) (hx : a.eval x = u)
    (hown : w.ownsRow base 5 1 v xs.length (bytesC xs)) (hsrc : AppAny w u ys.length (bytesC ys)) (hlen : xs.length + ys.length ≤ 1073741824) (hbase : base ≤ w.heap.size)
    (h : ∀ v' w', w'.ownsRow base 5 1 v' (xs ++ ys).length (bytesC (xs ++ ys)) → w.grownBy w' v.ownBlock → (∀ W : World, Below base W w → Below base W w') → wpList Try.prog ops Q rest (a.put o.dst v') w') :
    wpList Try.prog ops Q (o :: rest) a w := by
  obtain ⟨i0, hi, hz0, hz1, hz2⟩ := info_parts infoByte
  refine wpList_appAny w hgd s x 22 ho base 5 i0 _ 1 1 Try.underlying22 hi hz0 hz1 hz2 rfl (by decide) v xs.length (bytesC xs) hs u ys.length (bytesC ys) hx hown hsrc (by rw [length_bytesC]; omega) (bytesC_one ys) (by unfold maxLen; omega) (by omega) hbase ?_
  intro v' w' h1 h2 h3
  refine h v' w' ?_ h2 h3
  rw [List.length_append, bytesC_append]
  exact h1
end Go.Proofs.Yteebglgbeijolaa


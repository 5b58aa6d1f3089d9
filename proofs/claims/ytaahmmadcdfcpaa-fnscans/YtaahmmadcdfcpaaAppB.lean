/-
  Appending bytes.
-/
import Derived.Test.YtaahmmadcdfcpaaBytes
import Derived.Test.YtaahmmadcdfcpaaApp0
namespace Go.Proofs.Ytaahmmadcdfcpaa
open Go.RowKit

theorem appAny_bytes {w : World} {v : Value} {xs : List Byte} (h : BytesV w v xs) : AppAny w v xs.length (bytesC xs) := by
  obtain ⟨a, c, rfl, _, _, hc⟩ := h
  cases a with
  | none =>
    have h0 : xs = [] := by
      cases xs with
      | nil => rfl
      | cons x r => obtain ⟨b, o, e, _⟩ := hc 0 (by simp); cases e
    subst h0
    exact .inl ⟨c, rfl, rfl, rfl⟩
  | some ad =>
    refine .inr ⟨ad, c, rfl, fun j x hj => ?_⟩
    have hjl : j < xs.length := by
      have := (List.getElem?_eq_some_iff.1 hj).1
      rw [length_bytesC] at this
      exact this
    obtain ⟨b, o, e, g0⟩ := hc j hjl
    simp only [Option.some.injEq] at e
    subst e
    have hadd : (Addr.mk b o none).add j = ⟨b, o + j, none⟩ := by
      by_cases h : j = 0
      · subst h; simp [Addr.add]
      · simp [Addr.add, h]
    rw [hadd, g0, ← get_bytesC xs j hjl]
    exact hj

theorem appAny_one {w : World} {g : Nat} {c : Nat} {b : Byte} {q : Int} (h : w.cell? ⟨g, 0, none⟩ = some (.int .u8 q)) (hq : q = (b.val : Int)) : AppAny w (.slice (some ⟨g, 0, none⟩) 1 c) 1 (bytesC [b]) := by
  subst hq
  refine .inr ⟨_, _, rfl, fun j x hj => ?_⟩
  match j, hj with
  | 0, hj => simp [bytesC] at hj; subst hj; simpa [Addr.add] using h
  | j + 1, hj => simp [bytesC] at hj

theorem appAny_three {w : World} {g : Nat} {c : Nat} {b0 b1 b2 : Byte} {q0 q1 q2 : Int} (h0 : w.cell? ⟨g, 0, none⟩ = some (.int .u8 q0)) (h1 : w.cell? ⟨g, 1, none⟩ = some (.int .u8 q1)) (h2 : w.cell? ⟨g, 2, none⟩ = some (.int .u8 q2))
    (e0 : q0 = (b0.val : Int)) (e1 : q1 = (b1.val : Int)) (e2 : q2 = (b2.val : Int)) : AppAny w (.slice (some ⟨g, 0, none⟩) 3 c) 3 (bytesC [b0, b1, b2]) := by
  subst e0 e1 e2
  refine .inr ⟨_, _, rfl, fun j x hj => ?_⟩
  match j, hj with
  | 0, hj => simp [bytesC] at hj; subst hj; simpa [Addr.add] using h0
  | 1, hj => simp [bytesC] at hj; subst hj; simpa [Addr.add] using h1
  | 2, hj => simp [bytesC] at hj; subst hj; simpa [Addr.add] using h2
  | j + 3, hj => simp [bytesC] at hj

theorem wpList_appB (w : World) {ops : Array Oper} {rest : List Oper} {o : Oper} {a : Act} {Q : Exit → Act → World → Prop} (hgd : o.guard = none) (s x : Operand)
    (ho : o.op = .call { callee := .builtin .append, args := #[s, x], argTypes := #[22, 22] })
    (base : Nat) (v : Value) (xs : List Byte) (hs : a.eval s = v) (u : Value) (ys : List Byte) (hx : a.eval x = u)
    (hown : w.ownsRow base 5 1 v xs.length (bytesC xs)) (hsrc : AppAny w u ys.length (bytesC ys)) (hlen : xs.length + ys.length ≤ 1073741824) (hbase : base ≤ w.heap.size)
    (h : ∀ v' w', w'.ownsRow base 5 1 v' (xs ++ ys).length (bytesC (xs ++ ys)) → w.grownBy w' v.ownBlock → (∀ W : World, Below base W w → Below base W w') → wpList Try.prog ops Q rest (a.put o.dst v') w') :
    wpList Try.prog ops Q (o :: rest) a w := by
  obtain ⟨i0, hi, hz0, hz1, hz2⟩ := info_parts infoByte
  refine wpList_appAny w hgd s x 22 ho base 5 i0 _ 1 1 Try.underlying22 hi hz0 hz1 hz2 rfl (by decide) v xs.length (bytesC xs) hs u ys.length (bytesC ys) hx hown hsrc (by rw [length_bytesC]; omega) (bytesC_one ys) (by unfold maxLen; omega) (by omega) hbase ?_
  intro v' w' h1 h2 h3
  refine h v' w' ?_ h2 h3
  rw [List.length_append, bytesC_append]
  exact h1

end Go.Proofs.Ytaahmmadcdfcpaa

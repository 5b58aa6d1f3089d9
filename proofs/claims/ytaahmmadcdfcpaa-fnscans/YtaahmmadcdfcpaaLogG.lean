/-
  One more record in a log: the specification's side, and what is told.
-/
import Derived.Test.YtaahmmadcdfcpaaLogE
import Derived.Test.YtaahmmadcdfcpaaSep2
namespace Go.Proofs.Ytaahmmadcdfcpaa
open Go.RowKit
set_option linter.unusedSectionVars false
variable [DecidableEq Logg] [Inhabited Logg] [DecidableEq LoggR] [Inhabited LoggR] [DecidableEq BytesR] [Inhabited BytesR] [DecidableEq RecsR] [Inhabited RecsR] [DecidableEq Leg] [Inhabited Leg]
set_option linter.unusedSimpArgs false
attribute [local go_sem ↓] Go.wp_at_zero Go.wp_at_succ

theorem Mod.frozenAt {F : Nat → Prop} {w w' : World} (h : Mod F w w') {a : Addr} (hl : a.block < w.heap.size) (hn : ¬ F a.block) : w'.frozen? a = w.frozen? a := World.frozen?_of_block (h.block a.block hl hn)

theorem step_appAt (Y : World) {ops : Array Oper} {o : Oper} {a : Act} {K : Act → World → Prop} {Q : Exit → Act → World → Prop} {E : Prop} (hgd : o.guard = none) (s x : Operand)
    (ho : o.op = .call { callee := .builtin .append, args := #[s, x], argTypes := #[22, 22] })
    (base : Nat) (v : Value) (xs : List Byte) (hs : a.eval s = v) (u : Value) (ys : List Byte) (hx : a.eval x = u)
    (hown : Y.ownsRow base 5 1 v xs.length (bytesC xs)) (hsrc : AppAny Y u ys.length (bytesC ys)) (hpos : 0 < ys.length) (hlen : xs.length + ys.length ≤ 1073741824) (hbase : base ≤ Y.heap.size)
    (h : ∀ v' w', w'.ownsRow base 5 1 v' (xs ++ ys).length (bytesC (xs ++ ys)) → Y.grownBy w' v.ownBlock → (v'.ownBlock = v.ownBlock ∨ v'.ownBlock = some Y.heap.size) → K (a.put o.dst v') w') :
    if Region.wanted o (yielded ops a.tmps) = true then Oper.wp Try.prog o a Y K Q else E := by
  obtain ⟨i0, hi, hz0, hz1, hz2⟩ := info_parts infoByte
  rcases hsrc with ⟨c, rfl, hm, _⟩ | ⟨ad, c, rfl, hc⟩
  · omega
  refine step_append_at Y hgd s x 22 ho base 5 i0 _ 1 1 Try.underlying22 hi hz0 hz1 hz2 rfl (by decide) v xs.length (bytesC xs) hs hown ad ys.length c (bytesC ys) hx (by rw [length_bytesC]; omega) hc (bytesC_one ys) (by unfold maxLen; omega) (by omega) hbase ?_
  intro v' w' h1 h2 h3
  refine h v' w' ?_ h2 h3
  rw [List.length_append, bytesC_append]
  exact h1

end Go.Proofs.Ytaahmmadcdfcpaa

/-
  Appending bytes, and where they come to lie.
-/
import Derived.Test.YtdfapehonegeeaaAppB
import Derived.Test.YtdfapehonegeeaaSep2
namespace Go.Proofs.Ytdfapehonegeeaa
open Go.RowKit

theorem wpList_appB3 (w : World) {ops : Array Oper} {rest : List Oper} {o : Oper} {a : Act} {Q : Exit → Act → World → Prop} (hgd : o.guard = none) (s x : Operand)
    (ho : o.op = .call { callee := .builtin .append, args := #[s, x], argTypes := #[22, 22] })
    (base : Nat) (v : Value) (xs : List Byte) (hs : a.eval s = v) (u : Value) (ys : List Byte) (hx : a.eval x = u)
    (hown : w.ownsRow base 5 1 v xs.length (bytesC xs)) (hsrc : AppAny w u ys.length (bytesC ys)) (hlen : xs.length + ys.length ≤ 1073741824) (hbase : base ≤ w.heap.size)
    (h : ∀ v' w', w'.ownsRow base 5 1 v' (xs ++ ys).length (bytesC (xs ++ ys)) → w.grownBy w' v.ownBlock → (v'.ownBlock = v.ownBlock ∨ v'.ownBlock = some w.heap.size) → (∀ W : World, Below base W w → Below base W w') → wpList Try.prog ops Q rest (a.put o.dst v') w') :
    wpList Try.prog ops Q (o :: rest) a w := by
  obtain ⟨i0, hi, hz0, hz1, hz2⟩ := info_parts infoByte
  refine wpList_plain hgd fun K' hK' => ?_
  rcases hsrc with ⟨c, rfl, hm, hnil⟩ | ⟨ad, c, rfl, hnews⟩
  · have hr := run_append_none_any (P := Try.prog) w base 22 o.type 5 i0 1 c Try.underlying22 hi v xs.length (bytesC xs) hown
    unfold Oper.wp execOp
    simp only [ho, resolve, invoke, builtin, Sem.run_bind, Sem.run_pure, Result.andThen_ok, List.map_toArray, List.map_cons, List.map_nil, hs, hx, hr]
    refine hK' _ _ (h v w ?_ ⟨rfl, rfl, rfl, Nat.le_refl _, fun _ _ _ => rfl⟩ (.inl rfl) (fun _ hW => hW))
    rw [List.length_append, bytesC_append, hm, hnil, List.append_nil]
    exact hown
  · obtain ⟨v', w', hr, h2, h3, _, h5⟩ := run_append_own_at (P := Try.prog) w base 22 o.type 5 i0 _ 1 1 Try.underlying22 hi hz0 hz1 hz2 rfl (by decide) v xs.length (bytesC xs) hown ad ys.length c (bytesC ys) (by rw [length_bytesC]; omega) hnews (bytesC_one ys) (by unfold maxLen; omega) (by omega) hbase
    unfold Oper.wp execOp
    simp only [ho, resolve, invoke, builtin, Sem.run_bind, Sem.run_pure, Result.andThen_ok, List.map_toArray, List.map_cons, List.map_nil, hs, hx, hr]
    refine hK' _ _ (h v' w' ?_ h3 h5 (fun W hW => hW.grown h3 hbase (fun k hk => (hown.lt k hk).1)))
    rw [List.length_append, bytesC_append]
    exact h2

end Go.Proofs.Ytdfapehonegeeaa

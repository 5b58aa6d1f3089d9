/-
  One more row of bytes appended to a row of such.
-/
import Derived.Test.YtaahmmadcdfcpaaNBytess
import Derived.Test.YtaahmmadcdfcpaaSep2
namespace Go.Proofs.Ytaahmmadcdfcpaa
open Go.RowKit

theorem wpList_append_at {P : Program} (w : World) {ops : Array Oper} {rest : List Oper} {o : Oper} {a : Act} {Q : Exit → Act → World → Prop} (hgd : o.guard = none) (s x : Operand) (t : TypeId)
    (ho : o.op = .call { callee := .builtin .append, args := #[s, x], argTypes := #[t, t] })
    (base : Nat) (e : TypeId) (i : TypeInfo) (z : Value) (size bytes : Nat) (ht : P.underlying t = some (.slice e)) (hi : P.info? e = some i) (hz : i.zero = some z)
    (hsize : i.size = size) (hby : i.bytes = bytes) (hzs : z.cells.size = size) (hsz : 0 < size)
    (v : Value) (n : Nat) (xs : List Value) (hs : a.eval s = v) (hown : w.ownsRow base e size v n xs)
    (ad : Addr) (m c : Nat) (news : List Value) (hx : a.eval x = .slice (some ad) m c) (hl : news.length = m * size) (hnews : ∀ j u, news[j]? = some u → w.cell? (ad.add j) = some u) (h1 : ∀ u ∈ news, u.oneCell' = true)
    (h63 : n + m ≤ maxLen) (hbytes : (n + m) * bytes ≤ 140737488355328) (hbase : base ≤ w.heap.size)
    (h : ∀ v' w', w'.ownsRow base e size v' (n + m) (xs ++ news) → w.grownBy w' v.ownBlock → (v'.ownBlock = v.ownBlock ∨ v'.ownBlock = some w.heap.size) → wpList P ops Q rest (a.put o.dst v') w') :
    wpList P ops Q (o :: rest) a w := by
  refine wpList_plain hgd fun K' hK' => ?_
  obtain ⟨v', w', hr, h2, h3, _, h5⟩ := run_append_own_at (P := P) w base t o.type e i z size bytes ht hi hz hsize hby hzs hsz v n xs hown ad m c news hl hnews h1 h63 hbytes hbase
  unfold Oper.wp execOp
  simp only [ho, resolve, invoke, builtin, Sem.run_bind, Sem.run_pure, Result.andThen_ok, List.map_toArray, List.map_cons, List.map_nil, hs, hx, hr]
  exact hK' _ _ (h v' w' h2 h3 h5)

/-- a row of rows of bytes that is being built -/
def RowsB (w : World) (base : Nat) (v : Value) (out : List (List Byte)) : Prop :=
  ∃ cs us fs, PO bytesR 22 1 one w base v out.length out.length (fun i => out.getD i default) cs us fs

theorem rowsB_below {w w' : World} {base : Nat} {v : Value} {out : List (List Byte)} (h : RowsB w base v out) (hb : Below w.heap.size w w') : RowsB w' base v out := by
  obtain ⟨cs, us, fs, hp⟩ := h
  exact ⟨cs, us, fs, hp.keep hb⟩
theorem rowsB_O {w : World} {base : Nat} {v : Value} {out : List (List Byte)} (h : RowsB w base v out) : ∃ F, bytessR.O w base F v out := by
  obtain ⟨cs, us, fs, hp⟩ := h
  exact ⟨_, cs, us, fs, hp, fun b => Iff.rfl⟩
theorem rowsB_form {w : World} {base : Nat} {v : Value} {out : List (List Byte)} (h : RowsB w base v out) : ∃ a c, v = .slice a out.length c := by
  obtain ⟨cs, us, fs, hp⟩ := h
  exact owns_form hp.row
theorem rowsB_nil {w : World} {base : Nat} {v : Value} (h : w.ownsRow base 22 1 v 0 []) : RowsB w base v [] :=
  ⟨[], fun _ => .int .i64 0, fun _ _ => False, h, fun _ h => absurd h (Nat.not_lt_zero _), fun _ h => absurd h (Nat.not_lt_zero _), fun _ h => absurd h (Nat.not_lt_zero _), fun _ h => absurd h (Nat.not_lt_zero _), fun _ _ h => absurd h (Nat.not_lt_zero _)⟩

theorem rowsB_own {w : World} {base : Nat} {v : Value} {out : List (List Byte)} (h : RowsB w base v out) : Own base w.heap.size v := by
  obtain ⟨cs, us, fs, hp⟩ := h
  exact own_of hp.row

end Go.Proofs.Ytaahmmadcdfcpaa

/-
  A log: its parts on both sides.
-/
import Derived.Test.YtaahmmadcdfcpaaSLoggR
import Derived.Test.YtaahmmadcdfcpaaUnfr2
import Derived.Test.YtaahmmadcdfcpaaRegT
import Derived.Test.YtaahmmadcdfcpaaKeeps
import Derived.Test.YtaahmmadcdfcpaaLeaf
import Derived.Test.YtaahmmadcdfcpaaCut
namespace Go.Proofs.Ytaahmmadcdfcpaa
open Go.RowKit
set_option linter.unusedSectionVars false
variable [DecidableEq Logg] [Inhabited Logg] [DecidableEq LoggR] [Inhabited LoggR] [DecidableEq BytesR] [Inhabited BytesR] [DecidableEq RecsR] [Inhabited RecsR] [DecidableEq Leg] [Inhabited Leg]
set_option linter.unusedSimpArgs false
attribute [local go_sem ↓] Go.wp_at_zero Go.wp_at_succ

theorem step_appB (Y : World) {ops : Array Oper} {o : Oper} {a : Act} {K : Act → World → Prop} {Q : Exit → Act → World → Prop} {E : Prop} (hgd : o.guard = none) (s x : Operand)
    (ho : o.op = .call { callee := .builtin .append, args := #[s, x], argTypes := #[22, 22] })
    (base : Nat) (v : Value) (xs : List Byte) (hs : a.eval s = v) (u : Value) (ys : List Byte) (hx : a.eval x = u)
    (hown : Y.ownsRow base 5 1 v xs.length (bytesC xs)) (hsrc : AppAny Y u ys.length (bytesC ys)) (hlen : xs.length + ys.length ≤ 1073741824) (hbase : base ≤ Y.heap.size)
    (h : ∀ v' w', w'.ownsRow base 5 1 v' (xs ++ ys).length (bytesC (xs ++ ys)) → Y.grownBy w' v.ownBlock → (∀ W : World, Below base W Y → Below base W w') → K (a.put o.dst v') w') :
    if Region.wanted o (yielded ops a.tmps) = true then Oper.wp Try.prog o a Y K Q else E := by
  obtain ⟨i0, hi, hz0, hz1, hz2⟩ := info_parts infoByte
  refine step_appAny Y hgd s x 22 ho base 5 i0 _ 1 1 Try.underlying22 hi hz0 hz1 hz2 rfl (by decide) v xs.length (bytesC xs) hs u ys.length (bytesC ys) hx hown hsrc (by rw [length_bytesC]; omega) (bytesC_one ys) (by unfold maxLen; omega) (by omega) hbase ?_
  intro v' w' h1 h2 h3
  refine h v' w' ?_ h2 h3
  rw [List.length_append, bytesC_append]
  exact h1

theorem nil_owns {W Y : World} {base : Nat} (hb : Below (W.alloc (.cells #[] 5)).heap.size (W.alloc (.cells #[] 5)) Y) (g : Nat) (hg : g = W.heap.size) (h : base ≤ g) : Y.ownsRow base 5 1 (.slice (some ⟨g, 0, none⟩) 0 0) ([] : List Byte).length (bytesC []) := by
  subst hg
  exact owns_below (World.ownsRow_lit (base := base) (e := 5) (size := 1) W #[] 0 h (by unfold maxLen; omega) rfl) hb
theorem bytes_nil (w : World) (base : Nat) : bytesR.O w base none_ (.slice none 0 0) [] :=
  ⟨by simpa [bytesC] using World.ownsRow_nil w base 5 1, by funext b; simp [none_, Value.ownBlock]⟩
theorem logg_one {w : World} {base : Nat} {F : Nat → Prop} {v : Value} {xs : List Byte} (h : bytesR.O w base F v xs) : loggR.O w base F (.agg #[v, .slice none 0 0]) ⟨xs, []⟩ :=
  ⟨_, _, F, none_, rfl, h, bytes_nil w base, fun _ _ h => h.elim, fun b => by simp [none_]⟩
theorem loggR_of {w : World} {base : Nat} {F : Nat → Prop} {u1 u2 : Value} {x : Logg} (h : loggR.O w base F (.agg #[u1, u2]) x) : loggRR.O w base F (.agg #[.int .i64 0, u1, u2]) ⟨0, x⟩ :=
  ⟨_, _, F, rfl, h, fun _ => Iff.rfl⟩
theorem loggR_code (w : World) (base : Nat) (c : Int) : loggRR.O w base none_ (.agg #[.int .i64 c, .slice none 0 0, .slice none 0 0]) ⟨c, ⟨[], []⟩⟩ :=
  ⟨_, _, none_, rfl, logg_one (bytes_nil w base), fun _ => Iff.rfl⟩

theorem recU_le (xs : List Byte) : recU xs ≤ xs.length := by
  have H : ∀ n (xs : List Byte), xs.length ≤ n → recU xs ≤ xs.length := by
    intro n
    induction n with
    | zero => intro xs h; rw [recU_end (frameSz_nil (by omega))]; omega
    | succ n ih =>
      intro xs h
      by_cases hz : frameSz xs = 0
      · rw [recU_end hz]; omega
      · have hp := frameSz_pos hz
        have := ih (xs.drop (frameSz xs)) (by rw [List.length_drop]; omega)
        rw [recU_step hz]
        rw [List.length_drop] at this
        omega
  exact H _ xs (Nat.le_refl _)

def logF (d : Logg) : Int := if 6000 < d.synced.length + d.loose.length then 2 else 0

end Go.Proofs.Ytaahmmadcdfcpaa

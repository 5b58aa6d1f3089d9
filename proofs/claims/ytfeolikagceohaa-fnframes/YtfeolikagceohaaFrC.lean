/-
  Records that stand one behind the other are told: the walk.
-/
import Derived.Test.YtfeolikagceohaaFrB
import Derived.Test.YtfeolikagceohaaRegN
namespace Go.Proofs.Ytfeolikagceohaa
open Go.RowKit
set_option linter.unusedSectionVars false
variable [DecidableEq Logg] [Inhabited Logg] [DecidableEq LoggR] [Inhabited LoggR] [DecidableEq BytesR] [Inhabited BytesR] [DecidableEq RecsR] [Inhabited RecsR] [DecidableEq Leg] [Inhabited Leg]
set_option linter.unusedSimpArgs false
attribute [local go_sem ↓] Go.wp_at_zero Go.wp_at_succ

/-- all bytes, and the list of the records, so far -/
structure FrSt (w w' : World) (va vl : Value) (rs : List (List Byte)) (cs : List Value) (us : Nat → Value) (fs : Nat → Nat → Prop) : Prop where
  oa : w'.ownsRow w.heap.size 5 1 va (framesB rs).length (bytesC (framesB rs))
  pl : PO bytesR 22 1 one w' w.heap.size vl rs.length rs.length (fun i => rs.getD i default) cs us fs
  d1 : ∀ b, va.ownBlock = some b → vl.ownBlock ≠ some b
  d2 : ∀ i, i < rs.length → ∀ b, fs i b → va.ownBlock ≠ some b
  bl : Below w.heap.size w w'
theorem FrSt.below {w w' w'' : World} {va vl : Value} {rs : List (List Byte)} {cs : List Value} {us : Nat → Value} {fs : Nat → Nat → Prop} (h : FrSt w w' va vl rs cs us fs) (hb : Below w'.heap.size w' w'') : FrSt w w'' va vl rs cs us fs :=
  ⟨owns_below h.oa hb, h.pl.keep hb, h.d1, h.d2, bstep h.bl hb⟩

/-- one more record -/
theorem FrSt.push {w wr Y w5 w7 : World} {va vl v5 v7 : Value} {rs : List (List Byte)} {cs : List Value} {us : Nat → Value} {fs : Nat → Nat → Prop} {xs : List Byte} {u : Value} {F2 : Nat → Prop} {lo : Nat}
    (h : FrSt w wr va vl rs cs us fs) (hb : Below wr.heap.size wr Y) (hlo : wr.heap.size ≤ lo) (ho : bytesR.O Y lo F2 u xs) (hlu : (one u).length = 1)
    (o5 : w5.ownsRow w.heap.size 5 1 v5 (framesB rs ++ frameB xs).length (bytesC (framesB rs ++ frameB xs))) (hg5 : Y.grownBy w5 va.ownBlock) (hl5 : v5.ownBlock = va.ownBlock ∨ v5.ownBlock = some Y.heap.size)
    (o7 : w7.ownsRow w.heap.size 22 1 v7 (rs.length + 1) (cs ++ one u)) (hg7 : (w5.alloc (.cells #[u] 22)).grownBy w7 vl.ownBlock) (hl7 : v7.ownBlock = vl.ownBlock ∨ v7.ownBlock = some (w5.alloc (.cells #[u] 22)).heap.size) :
    FrSt w w7 v5 v7 (rs ++ [xs]) (cs ++ one u) (upd us rs.length u) (upd fs rs.length F2) := by
  have st := h.below hb
  have hbs := h.bl.size
  have hz := hb.size
  have z5 := hg5.size
  have ba : ∀ b, va.ownBlock = some b → b < wr.heap.size := fun b hb => (h.oa.lt b hb).2
  have bv : ∀ b, vl.ownBlock = some b → b < wr.heap.size := fun b hb => (h.pl.row.lt b hb).2
  have bf : ∀ i, i < rs.length → ∀ b, fs i b → b < wr.heap.size := fun i hi b hb => (bytesR.rng (h.pl.el i hi) b hb).2
  have b2 : ∀ b, F2 b → lo ≤ b ∧ b < Y.heap.size := fun b hb => bytesR.rng ho b hb
  have hm5 : Mod (fun b => va.ownBlock = some b) Y w5 := Mod.of_grown hg5
  have p5 := st.pl.mod hm5 (fun b hb e => h.d1 b e hb) (fun i hi b hb => h.d2 i hi b hb)
  have r5 := bytesR.mod ho hm5 (fun b hb e => by have := ba b e; have := (b2 b hb).1; omega)
  have p6 := p5.keep (w' := w5.alloc (.cells #[u] 22)) (balloc (Below.refl _ _) _)
  have r6 := bytesR.alloc r5 (.cells #[u] 22)
  have hd : (rs ++ [xs]).getD rs.length default = xs := by simp [List.getD]
  have p6' : PO bytesR 22 1 one (w5.alloc (.cells #[u] 22)) w.heap.size vl rs.length rs.length (fun i => (rs ++ [xs]).getD i default) cs us fs := p6.cast (fun i hi => by simp [List.getD, List.getElem?_append_left hi])
  have p7 := p6'.append2 (w' := w7) (v' := v7) (u := u) (F' := F2) (by rw [hd]; exact bytesR.base r6 (by omega)) (fun b hb e => by have := bv b e; have := (b2 b hb).1; omega) (fun i hi b hb e => by have := bf i hi b hb; have := (b2 b e).1; omega) hlu o7 hg7 hl7
  have hm7 : Mod (fun b => vl.ownBlock = some b) (w5.alloc (.cells #[u] 22)) w7 := Mod.of_grown hg7
  have a7 := hm7.owns (o5.alloc (.cells #[u] 22)) (fun b hb e => by
    rcases hl5 with hl | hl
    · rw [hl] at hb; exact h.d1 b hb e
    · rw [hl] at hb; simp only [Option.some.injEq] at hb; have := bv b e; omega)
  have hb5 : Below w.heap.size w w5 := hm5.below (bstep h.bl hb) (by omega) (fun b hb => (h.oa.lt b hb).1)
  refine ⟨by rw [framesB_snoc]; exact a7, by rw [List.length_append]; exact p7, fun b hb e => ?_, fun i hi b hb e => ?_, hm7.below (balloc hb5 _) (by rw [World.size_alloc]; omega) (fun b hb => (h.pl.row.lt b hb).1)⟩
  · rcases hl7 with hl | hl
    · rw [hl] at e
      rcases hl5 with hl' | hl'
      · rw [hl'] at hb; exact h.d1 b hb e
      · rw [hl'] at hb; simp only [Option.some.injEq] at hb; have := bv b e; omega
    · rw [hl] at e
      simp only [Option.some.injEq, World.size_alloc] at e
      rcases hl5 with hl' | hl'
      · rw [hl'] at hb; have := ba b hb; omega
      · rw [hl'] at hb; simp only [Option.some.injEq] at hb; omega
  · by_cases hik : i = rs.length
    · subst hik
      rw [upd_at] at hb
      rcases hl5 with hl' | hl'
      · rw [hl'] at e; have := ba b e; have := (b2 b hb).1; omega
      · rw [hl'] at e; simp only [Option.some.injEq] at e; have := (b2 b hb).2; omega
    · rw [upd_ne _ _ hik] at hb
      have hi' : i < rs.length := by rw [List.length_append] at hi; simp at hi; omega
      rcases hl5 with hl' | hl'
      · rw [hl'] at e; exact h.d2 i hi' b hb e
      · rw [hl'] at e; simp only [Option.some.injEq] at e; have := bf i hi' b hb; omega

end Go.Proofs.Ytfeolikagceohaa

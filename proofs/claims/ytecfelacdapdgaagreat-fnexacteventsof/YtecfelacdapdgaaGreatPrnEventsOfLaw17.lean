import Derived.Test.YtecfelacdapdgaaGreatPrnEventsOfLaw15
import Derived.Test.YtecfelacdapdgaaGreatPrnEventsOfLaw7
import Derived.RegionTactic
import Derived.ChangeAlike
import Derived.BigRegion
import Derived.Test.YtecfelacdapdgaaGreatPrnEventsOfLaw14
import Derived.Test.YtecfelacdapdgaaGreatPrnEventsOfLaw4
import Derived.Test.YtecfelacdapdgaaGreatPrnEventsOfLaw16
import Derived.BigQuiet
import Derived.Deep.QuietTactic
import Derived.Test.YtecfelacdapdgaaGreatPrnEventsOfLaw3
import Derived.Test.YtecfelacdapdgaaGreatPrnEventsOfLaw9
import Derived.Test.YtecfelacdapdgaaGreatPrnEventsOfLaw8
import Derived.Test.YtecfelacdapdgaaGreatPrnEventsOfLaw2
import Derived.Lib.Bytealg
import Derived.Lib.Walk
import Derived.Shelf.SlSortCmp.WholeK
import Derived.WideKeyEntry
import Derived.Test.YtecfelacdapdgaaGreatPrnEventsOfLaw1
import Derived.Deep.RegionHeld3
import Derived.Deep.DrawnRows

/-
  The specification's l2Settle: legs added, shard by shard.
-/
namespace Go.Proofs.YtecfelacdapdgaaGreat
open Go.RowKit
set_option linter.unusedSectionVars false
variable [DecidableEq Bal] [Inhabited Bal] [DecidableEq Ledg] [Inhabited Ledg] [DecidableEq Leg] [Inhabited Leg] [DecidableEq Cont] [Inhabited Cont] [DecidableEq LedgR] [Inhabited LedgR]
set_option linter.unusedVariables false
set_option linter.unusedSimpArgs false
attribute [local go_sem ↓] Go.wp_at_zero Go.wp_at_succ

theorem mod_frozen {F : Nat → Prop} {w w' : World} (h : Mod F w w') {a : Addr} (hl : a.block < w.heap.size) (hn : ¬ F a.block) : w'.frozen? a = w.frozen? a := World.frozen?_of_block (h.block a.block hl hn)
structure StSt (w W : World) (n : Nat) (ag : Option Addr) (cg : Nat) (id : Int) (ac : Option Addr) (m cc : Nat) (v : Value) : Prop where
  g0 : W.cell? ⟨w.heap.size, 0, none⟩ = some (.slice ag n cg)
  y0 : W.cell? ⟨w.heap.size + 1, 0, none⟩ = some (.int .i64 id)
  y1 : W.cell? ⟨w.heap.size + 1, 1, none⟩ = some (.slice ac m cc)
  r0 : W.cell? ⟨w.heap.size + 1 + 1, 0, none⟩ = some (.slice none 0 0)
  o0 : W.cell? ⟨w.heap.size + 1 + 1 + 1, 0, none⟩ = some v
  rf : ∀ o, W.frozen? ⟨w.heap.size + 1 + 1, o, none⟩ = false
  of : ∀ o, W.frozen? ⟨w.heap.size + 1 + 1 + 1, o, none⟩ = false
  sz : w.heap.size + 4 ≤ W.heap.size
  blw : Below w.heap.size w W
theorem StSt.mod {w W W' : World} {n : Nat} {ag : Option Addr} {cg : Nat} {id : Int} {ac : Option Addr} {m cc : Nat} {v : Value} {F : Nat → Prop} (h : StSt w W n ag cg id ac m cc v) (hm : Mod F W W') (hF : ∀ b, F b → w.heap.size + 4 ≤ b) : StSt w W' n ag cg id ac m cc v := by
  have hsz := h.sz
  have hn : ∀ b, b < w.heap.size + 4 → ¬ F b := fun b hb e => by have := hF b e; omega
  exact ⟨hm.cell h.g0 (hn _ (by dsimp only; omega)), hm.cell h.y0 (hn _ (by dsimp only; omega)), hm.cell h.y1 (hn _ (by dsimp only; omega)), hm.cell h.r0 (hn _ (by dsimp only; omega)), hm.cell h.o0 (hn _ (by dsimp only; omega)),
    fun o => (mod_frozen hm (a := ⟨w.heap.size + 1 + 1, o, none⟩) (by dsimp only; omega) (hn _ (by dsimp only; omega))).trans (h.rf o), fun o => (mod_frozen hm (a := ⟨w.heap.size + 1 + 1 + 1, o, none⟩) (by dsimp only; omega) (hn _ (by dsimp only; omega))).trans (h.of o), Nat.le_trans hsz hm.size, hm.below h.blw (by omega) (fun b hb => by have := hF b hb; omega)⟩
theorem StSt.below {w W W' : World} {n : Nat} {ag : Option Addr} {cg : Nat} {id : Int} {ac : Option Addr} {m cc : Nat} {v : Value} (h : StSt w W n ag cg id ac m cc v) (hb : Below W.heap.size W W') : StSt w W' n ag cg id ac m cc v :=
  h.mod (F := fun _ => False) (Mod.of_below hb) (fun _ e => e.elim)
theorem StSt.put {w W : World} {n : Nat} {ag : Option Addr} {cg : Nat} {id : Int} {ac : Option Addr} {m cc : Nat} {v : Value} (h : StSt w W n ag cg id ac m cc v) (v' : Value) : StSt w (W.setCell ⟨w.heap.size + 1 + 1 + 1, 0, none⟩ v') n ag cg id ac m cc v' :=
  ⟨by rw [set_other (by simp)]; exact h.g0, by rw [set_other (by simp)]; exact h.y0, by rw [set_other (by simp)]; exact h.y1, by rw [set_other (by simp)]; exact h.r0, set_same h.o0, fun o => by rw [World.frozen?_setCell]; exact h.rf o, fun o => by rw [World.frozen?_setCell]; exact h.of o, by simpa using h.sz, h.blw.setCell (by dsimp only; omega) _⟩
theorem StSt.all {w W : World} {n : Nat} {ag : Option Addr} {cg : Nat} {id : Int} {ac : Option Addr} {m cc : Nat} {v : Value} {b o k : Nat} {u : Value} (h : StSt w W n ag cg id ac m cc v) (hc : W.cell? ⟨b, o + k, none⟩ = some u) :
    StSt w W n ag cg id ac m cc v ∧ W.cell? ⟨w.heap.size + 1 + 1 + 1, 0, none⟩ = some v ∧ W.cell? ⟨w.heap.size, 0, none⟩ = some (.slice ag n cg) ∧ W.cell? ⟨w.heap.size + 1, 0, none⟩ = some (.int .i64 id) ∧ W.cell? ⟨w.heap.size + 1, 1, none⟩ = some (.slice ac m cc) ∧ W.cell? ⟨b, o + k, none⟩ = some u :=
  ⟨h, h.o0, h.g0, h.y0, h.y1, hc⟩
end Go.Proofs.YtecfelacdapdgaaGreat

/-
  The keys of a book, sorted and laid shard by shard: what lies there rises and tells the book.
-/
namespace Go.Proofs.YtecfelacdapdgaaGreat
open Go.RowKit Go.Sort Go.Shelf
set_option linter.unusedSectionVars false
variable [DecidableEq Rw] [Inhabited Rw] [DecidableEq Bal] [Inhabited Bal] [DecidableEq Ledg] [Inhabited Ledg] [DecidableEq Leg] [Inhabited Leg] [DecidableEq Cont] [Inhabited Cont] [DecidableEq LedgR] [Inhabited LedgR]
set_option linter.unusedVariables false
set_option linter.unusedSimpArgs false

theorem nodup_lt : ∀ (N : Nat) (l : List Nat), l.Nodup → (∀ x ∈ l, x < N) → l.length ≤ N
  | 0, l, _, h => by
    cases l with
    | nil => simp
    | cons x r => exact absurd (h x (by simp)) (Nat.not_lt_zero _)
  | N + 1, l, hn, h => by
    have h1 := nodup_lt N (l.erase N) (hn.erase N) (fun x hx => by
      obtain ⟨h2, h3⟩ := (hn.mem_erase_iff).1 hx
      have := h x h3
      omega)
    rw [List.length_erase] at h1
    split at h1 <;> omega
def KDom (n : Nat) (f : Int → Int → Int → Option Int) : Prop := ∀ s a t, (f s a t).isSome = true → (0 ≤ s ∧ s < (n : Int)) ∧ keyOk a t = true
theorem KDom.len {n : Nat} {f : Int → Int → Int → Option Int} (h : KDom n f) {ys : List K3} (hy : KOk f ys) : ys.length ≤ n * 18 := by
  have h1 := nodup_lt (n * 18) (ys.map (fun k : K3 => k.1.toNat * 18 + k.2.1.toNat * 3 + k.2.2.toNat)) ?_ ?_
  · simpa using h1
  · rw [List.Nodup, List.pairwise_map]
    refine List.Pairwise.imp_of_mem ?_ hy.1
    rintro ⟨s, a, t⟩ ⟨s', a', t'⟩ hx hx' hne e
    obtain ⟨⟨_, _⟩, hk⟩ := h s a t (hy.2 _ hx)
    obtain ⟨⟨_, _⟩, hk'⟩ := h s' a' t' (hy.2 _ hx')
    obtain ⟨⟨_, _⟩, _, _⟩ := keyOk_iff.1 hk
    obtain ⟨⟨_, _⟩, _, _⟩ := keyOk_iff.1 hk'
    apply hne
    dsimp only at e
    have e1 : s = s' := by omega
    have e2 : a = a' := by omega
    have e3 : t = t' := by omega
    rw [e1, e2, e3]
  · intro x hx
    obtain ⟨⟨s, a, t⟩, hm, rfl⟩ := List.mem_map.1 hx
    obtain ⟨⟨_, _⟩, hk⟩ := h s a t (hy.2 _ hm)
    obtain ⟨⟨_, _⟩, _, _⟩ := keyOk_iff.1 hk
    dsimp only
    omega
end Go.Proofs.YtecfelacdapdgaaGreat

/-
  OutcomesResult. (Written by program: nest.py.)
-/
namespace Go.Proofs.YtecfelacdapdgaaGreat
open Go.RowKit
set_option linter.unusedSectionVars false
variable [DecidableEq Leg] [Inhabited Leg] [DecidableEq Bal] [Inhabited Bal] [DecidableEq Ledg] [Inhabited Ledg]
attribute [local go_sem ↓] Go.wp_at_zero Go.wp_at_succ

set_option linter.unusedSimpArgs false

structure OutcR where
  code : Int
  outcomes : List Int
  ledger : Ledg
variable [DecidableEq OutcR] [Inhabited OutcR]

end Go.Proofs.YtecfelacdapdgaaGreat

/-
  Slices of Mark: the law's own copy, comparison, count, marks. (Written by program after my texts on legs.)
-/
namespace Go.Proofs.YtecfelacdapdgaaGreat
open Go.RowKit
set_option linter.unusedSectionVars false
attribute [local go_sem ↓] Go.wp_at_zero Go.wp_at_succ

structure Mrk where
  con : Int
  val : Int
variable [DecidableEq Mrk] [Inhabited Mrk]

end Go.Proofs.YtecfelacdapdgaaGreat


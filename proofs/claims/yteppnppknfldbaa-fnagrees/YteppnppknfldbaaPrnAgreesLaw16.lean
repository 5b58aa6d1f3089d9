import Derived.Test.YteppnppknfldbaaPrnAgreesLaw1
import Derived.Maps.AppendAt
import Derived.Test.YteppnppknfldbaaPrnAgreesLaw15
import Derived.Deep.RegionHeld3
import Derived.Deep.DrawnRows
import Derived.Test.YteppnppknfldbaaPrnAgreesLaw14
import Derived.Test.YteppnppknfldbaaPrnAgreesLaw5
import Derived.PlainAid
import Derived.Laws.BitsAllLaws
import Derived.Lib.ConvBytes
import Derived.Deep.QuietTactic
import Derived.Test.YteppnppknfldbaaPrnAgreesLaw7
import Derived.Test.YteppnppknfldbaaPrnAgreesLaw3
import Derived.Deep.RegionLawGrows

/-
  A row of values that own memory, and one more appended.
-/
namespace Go.Proofs.Yteppnppknfldbaa
open Go.RowKit

theorem PO.append {α : Type} {R : Rep α} {e size : Nat} {lv : Value → List Value} {w Y w' : World} {base : Nat} {v v' : Value} {n : Nat} {d : Nat → α} {cs : List Value} {us : Nat → Value} {fs : Nat → Nat → Prop} {u : Value} {F' : Nat → Prop}
    (h : PO R e size lv w base v n n d cs us fs) (hbs : base ≤ w.heap.size) (hb : Below w.heap.size w Y) (hu : R.O Y w.heap.size F' u (d n)) (hl : (lv u).length = size)
    (hr : w'.ownsRow base e size v' (n + 1) (cs ++ lv u)) (hg : Y.grownBy w' v.ownBlock) (hloc : v'.ownBlock = v.ownBlock ∨ ∃ g, v'.ownBlock = some g ∧ Y.heap.size ≤ g) :
    PO R e size lv w' base v' (n + 1) (n + 1) d (cs ++ lv u) (upd us n u) (upd fs n F') := by
  have hlt : ∀ b, v.ownBlock = some b → b < w.heap.size := fun b hb => (h.row.lt b hb).2
  have hF : ∀ b, F' b → w.heap.size ≤ b ∧ b < Y.heap.size := fun b hb => R.rng hu b hb
  have hfs : ∀ i, i < n → ∀ b, fs i b → b < w.heap.size := fun i hi b hb => (R.rng (h.el i hi) b hb).2
  have hcl : cs.length = n * size := h.row.1
  refine ⟨hr, ?_, ?_, ?_, ?_, ?_⟩
  · intro i hi
    by_cases hik : i = n
    · subst hik
      rw [upd_at, upd_at]
      exact R.base (R.mod hu (Mod.of_grown hg) (fun b hb he => by have := hlt b he; have := (hF b hb).1; omega)) hbs
    · rw [upd_ne _ _ hik, upd_ne _ _ hik]
      exact R.mod (R.keep (h.el i (by omega)) hb) (Mod.of_grown hg) (fun b hb => h.out i (by omega) b hb)
  · intro i hi
    by_cases hik : i = n
    · subst hik; rw [upd_at]; exact hl
    · rw [upd_ne _ _ hik]; exact h.ln i (by omega)
  · intro i hi j hj
    by_cases hik : i = n
    · subst hik
      rw [upd_at, List.getElem?_append_right (by omega), hcl]
      congr 1
      omega
    · rw [upd_ne _ _ hik, ← h.cell i (by omega) j hj, List.getElem?_append_left]
      rw [hcl]
      have : i * size + size ≤ n * size := by rw [← Nat.succ_mul]; exact Nat.mul_le_mul_right _ (by omega)
      omega
  · intro i hi b hb he
    by_cases hik : i = n
    · subst hik
      rw [upd_at] at hb
      rcases hloc with hloc | ⟨g, hg', hge⟩
      · rw [hloc] at he
        have := hlt b he; have := (hF b hb).1; omega
      · rw [hg'] at he
        simp only [Option.some.injEq] at he
        have := (hF b hb).2; omega
    · rw [upd_ne _ _ hik] at hb
      rcases hloc with hloc | ⟨g, hg', hge⟩
      · rw [hloc] at he
        exact h.out i (by omega) b hb he
      · rw [hg'] at he
        simp only [Option.some.injEq] at he
        have := hfs i (by omega) b hb
        have := hb
        have := h.row
        have := hlt
        have hYw : w.heap.size ≤ Y.heap.size := by
          have := ‹Below w.heap.size w Y›
          exact this.size
        omega
  · intro i j hi hj hij b h1 h2
    by_cases hik : i = n
    · subst hik
      rw [upd_at] at h1
      rw [upd_ne _ _ (Ne.symm hij)] at h2
      have := (hF b h1).1; have := hfs j (by omega) b h2; omega
    · rw [upd_ne _ _ hik] at h1
      by_cases hjk : j = n
      · subst hjk
        rw [upd_at] at h2
        have := (hF b h2).1; have := hfs i (by omega) b h1; omega
      · rw [upd_ne _ _ hjk] at h2
        exact h.sep i j (by omega) (by omega) hij b h1 h2
section
variable {P : Program} (w : World)
end

end Go.Proofs.Yteppnppknfldbaa

/-
  RecordsResult. (Written by program: nest.py.)
-/
namespace Go.Proofs.Yteppnppknfldbaa
open Go.RowKit
set_option linter.unusedSectionVars false
attribute [local go_sem ↓] Go.wp_at_zero Go.wp_at_succ

structure RecsR where
  code : Int
  used : Int
  records : List (List Byte)
variable [DecidableEq RecsR] [Inhabited RecsR]

end Go.Proofs.Yteppnppknfldbaa

/-
  One more record in a log: the specification's side, and what is told.
-/
namespace Go.Proofs.Yteppnppknfldbaa
open Go.RowKit
set_option linter.unusedSectionVars false
variable [DecidableEq Logg] [Inhabited Logg] [DecidableEq LoggR] [Inhabited LoggR] [DecidableEq BytesR] [Inhabited BytesR] [DecidableEq RecsR] [Inhabited RecsR] [DecidableEq Leg] [Inhabited Leg]
set_option linter.unusedSimpArgs false
attribute [local go_sem ↓] Go.wp_at_zero Go.wp_at_succ

theorem Mod.frozenAt {F : Nat → Prop} {w w' : World} (h : Mod F w w') {a : Addr} (hl : a.block < w.heap.size) (hn : ¬ F a.block) : w'.frozen? a = w.frozen? a := World.frozen?_of_block (h.block a.block hl hn)
end Go.Proofs.Yteppnppknfldbaa

/-
  The specification's draws: a number read off the bytes.
-/
namespace Go.Proofs.Yteppnppknfldbaa
open Go.RowKit
set_option linter.unusedSectionVars false
variable [DecidableEq Logg] [Inhabited Logg] [DecidableEq LoggR] [Inhabited LoggR] [DecidableEq BytesR] [Inhabited BytesR] [DecidableEq RecsR] [Inhabited RecsR] [DecidableEq Leg] [Inhabited Leg]
set_option linter.unusedSimpArgs false
attribute [local go_sem ↓] Go.wp_at_zero Go.wp_at_succ

structure Src (B : Nat) (w : World) (bs : Nat) (a : Option Addr) (k cap : Nat) (t : Nat) : Prop where
  le : B ≤ bs
  lt : bs < w.heap.size
  code : w.cell? ⟨bs, 0, none⟩ = some (.slice a k cap)
  at_ : w.cell? ⟨bs, 1, none⟩ = some (.int .i64 t)
  free : ∀ o, w.frozen? ⟨bs, o, none⟩ = false
  kc : k ≤ cap
  cm : cap ≤ maxLen
  kb : k ≤ 2097152
  byte : ∀ i, i < k → ∃ b o c, a = some ⟨b, o, none⟩ ∧ b < B ∧ (0 : Int) ≤ c ∧ c ≤ 255 ∧ w.cell? ⟨b, o + i, none⟩ = some (.int .u8 c)
theorem Src.mod {B : Nat} {w w' : World} {bs : Nat} {a : Option Addr} {k cap t : Nat} {F : Nat → Prop} (h : Src B w bs a k cap t) (hm : Mod F w w') (hF : ∀ b, F b → bs < b) : Src B w' bs a k cap t := by
  have hb : ¬ F bs := fun e => by have := hF bs e; omega
  refine ⟨h.le, Nat.lt_of_lt_of_le h.lt hm.size, hm.cell h.code hb, hm.cell h.at_ hb, fun o => ?_, h.kc, h.cm, h.kb, fun i hi => ?_⟩
  · rw [hm.frozenAt (a := ⟨bs, o, none⟩) h.lt hb]; exact h.free o
  · obtain ⟨b, o, c, h1, h2, h3, h4, h5⟩ := h.byte i hi
    exact ⟨b, o, c, h1, h2, h3, h4, hm.cell h5 (fun e => by have := hF b e; have := h.le; omega)⟩
theorem Src.below {B : Nat} {w w' : World} {bs : Nat} {a : Option Addr} {k cap t : Nat} (h : Src B w bs a k cap t) (hb : Below w.heap.size w w') : Src B w' bs a k cap t :=
  h.mod (F := fun _ => False) (Mod.of_below hb) (fun _ e => e.elim)
theorem wrapI (x : Int) (h0 : -9223372036854775808 ≤ x) (h1 : x ≤ 9223372036854775807) : IntKind.i64.wrap x = x := by rw [IntKind.wrap_i64]; omega
end Go.Proofs.Yteppnppknfldbaa


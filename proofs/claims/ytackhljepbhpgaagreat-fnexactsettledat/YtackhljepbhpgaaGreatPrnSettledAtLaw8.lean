import Derived.Test.YtackhljepbhpgaaGreatPrnSettledAtLaw7
import Derived.Maps.OwnSet
import Derived.DeepKeys4
import Derived.Deep.RegionHeld3
import Derived.Deep.DrawnRows
import Derived.BigQuiet
import Derived.Lib.Bytealg
import Derived.Lib.Walk
import Derived.RangeFuncNested
import Derived.RangeFuncBound
import Derived.RangeFuncCalls
import Derived.RangeFuncLeaves
import Derived.Shelf.Abstract
set_option linter.unusedSectionVars false
set_option linter.unusedVariables false
set_option linter.unusedSimpArgs false

namespace Go.Proofs.YtackhljepbhpgaaGreat
open Go.RowKit
variable [DecidableEq Vot] [Inhabited Vot] [DecidableEq Slt] [Inhabited Slt] [DecidableEq Acc] [Inhabited Acc]
attribute [local go_sem ↓] Go.wp_at_zero Go.wp_at_succ

structure AccsR where
 code : Int
 value : Int
 accs : List Acc
variable [DecidableEq AccsR] [Inhabited AccsR]

end Go.Proofs.YtackhljepbhpgaaGreat

namespace Go.Proofs.YtackhljepbhpgaaGreat
open Go.RowKit
variable [DecidableEq Vot] [Inhabited Vot] [DecidableEq Slt] [Inhabited Slt]
attribute [local go_sem ↓] Go.wp_at_zero Go.wp_at_succ

structure SltsR where
 code : Int
 slots : List Slt
variable [DecidableEq SltsR] [Inhabited SltsR]

end Go.Proofs.YtackhljepbhpgaaGreat

namespace Go.Proofs.YtackhljepbhpgaaGreat
open Go.RowKit
variable [DecidableEq Vot] [Inhabited Vot] [DecidableEq Slt] [Inhabited Slt] [DecidableEq SltR] [Inhabited SltR] [DecidableEq Bal] [Inhabited Bal] [DecidableEq Ledg] [Inhabited Ledg] [DecidableEq Leg] [Inhabited Leg] [DecidableEq Acc] [Inhabited Acc] [DecidableEq AccR] [Inhabited AccR] [DecidableEq AccsR] [Inhabited AccsR] [DecidableEq SltsR] [Inhabited SltsR]

def cmpZ (x y : Int) : Int := if x < y then -1 else if y < x then 1 else 0
def orZ (x y : Int) : Int := if x = 0 then y else x
def cmpS (x y : Slt) : Int := orZ (cmpZ x.con y.con) (cmpZ x.sh y.sh)
def aheadS (x y : Slt) : Bool := decide (cmpS x y < 0)
theorem cmpZ_lt {x y : Int} : cmpZ x y < 0 ↔ x < y := by unfold cmpZ; (repeat' split) <;> omega
theorem cmpZ_eq {x y : Int} : cmpZ x y = 0 ↔ x = y := by unfold cmpZ; (repeat' split) <;> omega
theorem cmpS_lt {x y : Slt} : cmpS x y < 0 ↔ x.con < y.con ∨ (x.con = y.con ∧ x.sh < y.sh) := by
 have h1 := cmpZ_lt (x := x.con) (y := y.con)
 have h2 := cmpZ_lt (x := x.sh) (y := y.sh)
 have h3 := cmpZ_eq (x := x.con) (y := y.con)
 unfold cmpS orZ
 split <;> omega
theorem aheadS_iff {x y : Slt} : aheadS x y = true ↔ x.con < y.con ∨ (x.con = y.con ∧ x.sh < y.sh) := by unfold aheadS; rw [decide_eq_true_eq]; exact cmpS_lt
def accAt (xs : List Slt) (k : Nat) : Int := if sltFault (xs.getD k default) = 0 then (if k = 0 then 0 else if aheadS (xs.getD (k - 1) default) (xs.getD k default) = true then 0 else 1) else sltFault (xs.getD k default)
def accF (xs : List Slt) : Int := if 60 < xs.length then 2 else scanI (accAt xs) xs.length
theorem accF_many {xs : List Slt} (h : 60 < xs.length) : accF xs = 2 := by unfold accF; rw [if_pos h]
theorem accF_hit {xs : List Slt} {k : Nat} {c : Int} (h : ¬ 60 < xs.length) (hk : k < xs.length) (hs : scanI (accAt xs) k = 0) (hc : accAt xs k = c) (h0 : ¬ c = 0) : accF xs = c := by
 have e := scanI_hit hs (by rw [hc]; exact h0) _ hk
 unfold accF
 rw [if_neg h, e, hc]
theorem accF_end {xs : List Slt} (h : ¬ 60 < xs.length) (hs : scanI (accAt xs) xs.length = 0) : accF xs = 0 := by unfold accF; rw [if_neg h, hs]
end Go.Proofs.YtackhljepbhpgaaGreat

namespace Go.Proofs.YtackhljepbhpgaaGreat
open Go.RowKit Go.Maps

def kv (s a t : Int) : Value := .agg #[.int .i64 s, .int .i64 a, .int .i64 t]
def kwf (s a t : Int) : Prop := (Lit.int .i64 s).wf = true ∧ (Lit.int .i64 a).wf = true ∧ (Lit.int .i64 t).wf = true
theorem wf_of {n : Int} (h0 : -9223372036854775808 ≤ n) (h1 : n ≤ 9223372036854775807) : (Lit.int .i64 n).wf = true := by
 simp [Lit.wf, IntKind.min, IntKind.max, IntKind.signed, IntKind.bits]
 omega
set_option maxRecDepth 20000 in
theorem holdWide : (match Tryz.prog.underlying 275 with | some (.array _ _) | some (.struct _) => true | _ => false) = true := by rw [Tryz.underlying275]
set_option maxRecDepth 20000 in
theorem holdLaw : Keyed Tryz.prog 275 := Keyed.of_law (deep_law_laid laidOut (m := 2) (by omega) (of_decide_eq_true (by kernel_rfl)) (by kernel_rfl) holdWide)
theorem holdCells : Tryz.prog.cellsOf 275 = 3 := by kernel_rfl
theorem holdType : Tryz.prog.keyType 275 = true := by kernel_rfl
theorem holdDepth : ∃ d, Tryz.prog.types.size + 1 = d + 1 + 1 := ⟨Tryz.prog.types.size - 1, by have h : 0 < Tryz.prog.types.size := of_decide_eq_true (by kernel_rfl); omega⟩
theorem intLits (d : Nat) (n : Int) (h : (Lit.int .i64 n).wf = true) : Tryz.prog.keyLits (d + 1) 2 [.int .i64 n] = some [.int .i64 n] := by
 unfold Program.keyLits
 rw [Tryz.underlying2]
 simp [h]
theorem keyOf_kv {s a t : Int} (h : kwf s a t) : ∃ kl, keyOf Tryz.prog 275 (kv s a t) = some kl := by
 obtain ⟨d, hd⟩ := holdDepth
 obtain ⟨h0, h1, h2⟩ := h
 have hc : Tryz.prog.cellsOf 2 = 1 := by kernel_rfl
 have hf : (kv s a t).formed Tryz.prog 275 = true := by simp [kv, Value.formed, Tryz.underlying275, holdCells]
 have hl : Tryz.prog.keyLits (Tryz.prog.types.size + 1) 275 (kv s a t).cells.toList = some [.int .i64 s, .int .i64 a, .int .i64 t] := by
  rw [hd]
  unfold Program.keyLits
  rw [Tryz.underlying275]
  simp [kv, Value.cells, holdCells, hc, List.range, List.range.loop, intLits d s h0, intLits d a h1, intLits d t h2]
 unfold keyOf
 rw [Tryz.underlying275]
 dsimp only
 rw [if_pos (by rw [holdType, hf]; rfl), hl]
 exact ⟨_, rfl⟩
set_option maxRecDepth 20000 in
theorem intLits_inv {d : Nat} {c : Value} {l : List Lit} (h : Tryz.prog.keyLits (d + 1) 2 [c] = some l) : ∃ n, c = .int .i64 n ∧ (Lit.int .i64 n).wf = true := by
 unfold Program.keyLits at h
 rw [Tryz.underlying2] at h
 cases c <;> simp at h
 obtain ⟨⟨rfl, hw⟩, _⟩ := h
 exact ⟨_, rfl, hw⟩
set_option maxRecDepth 20000 in
theorem kv_of_key {v : Value} {kl : Lit} (h : keyOf Tryz.prog 275 v = some kl) : ∃ s a t, v = kv s a t ∧ kwf s a t := by
 obtain ⟨xs, L, rfl, hl, _⟩ := keyOf_top holdWide h
 obtain ⟨d, hd⟩ := holdDepth
 have hc : Tryz.prog.cellsOf 2 = 1 := by kernel_rfl
 rw [hd] at hl
 unfold Program.keyLits at hl
 rw [Tryz.underlying275] at hl
 simp only [holdCells, hc] at hl
 split at hl
 ·
  rename_i h3
  obtain ⟨l⟩ := xs
  match l, h3 with
  | [c0, c1, c2], _ =>
   simp [List.range, List.range.loop] at hl
   cases e0 : Tryz.prog.keyLits (d + 1) 2 [c0] with
   | none => simp [e0] at hl
   | some l0 =>
    cases e1 : Tryz.prog.keyLits (d + 1) 2 [c1] with
    | none => simp [e0, e1] at hl
    | some l1 =>
     cases e2 : Tryz.prog.keyLits (d + 1) 2 [c2] with
     | none => simp [e0, e1, e2] at hl
     | some l2 =>
      obtain ⟨n0, rfl, w0⟩ := intLits_inv e0
      obtain ⟨n1, rfl, w1⟩ := intLits_inv e1
      obtain ⟨n2, rfl, w2⟩ := intLits_inv e2
      exact ⟨n0, n1, n2, rfl, w0, w1, w2⟩
 ·
  cases hl
theorem kv_inj {s a t s' a' t' : Int} (h : kv s a t = kv s' a' t') : s = s' ∧ a = a' ∧ t = t' := by
 simpa [kv] using h
def Book (w : World) (b n : Nat) (f : Int → Int → Int → Option Int) : Prop :=
 ∃ D : DataW Unit, w.ownsMap Tryz.prog 275 (plainElem Tryz.prog 2) b n D ∧
  ∀ s a t kl, keyOf Tryz.prog 275 (kv s a t) = some kl → Maps.has D kl = (f s a t).isSome ∧ D.atKey kl (.lit (.int .i64 0)) = .lit (.int .i64 ((f s a t).getD 0))
def upd3 (f : Int → Int → Int → Option Int) (s a t : Int) (v : Option Int) : Int → Int → Int → Option Int := fun s' a' t' => if s' = s ∧ a' = a ∧ t' = t then v else f s' a' t'
theorem book_made (w : World) : Book (w.alloc (.map #[] 0)) w.heap.size 0 (fun _ _ _ => none) :=
 ⟨_, World.ownsMap_made w _ _ _, fun _ _ _ _ _ => ⟨rfl, rfl⟩⟩
theorem Book.lt {w : World} {b n : Nat} {f : Int → Int → Int → Option Int} (h : Book w b n f) : b < w.heap.size := by
 obtain ⟨D, hD, _⟩ := h; exact hD.lt
theorem Book.kept {w w' : World} {b n : Nat} {f : Int → Int → Int → Option Int} {row : Option Nat} (h : Book w b n f) (hg : w.grownBy w' row) (hne : some b ≠ row) : Book w' b n f := by
 obtain ⟨D, hD, h1⟩ := h; exact ⟨D, hD.kept hg hne, h1⟩
theorem Book.below {w w' : World} {b n : Nat} {f : Int → Int → Int → Option Int} (h : Book w b n f) (hb : Below w.heap.size w w') : Book w' b n f := h.kept (grown_of_below hb) (by simp)
theorem Book.mono {w : World} {b n n' : Nat} {f : Int → Int → Int → Option Int} (h : Book w b n f) (hn : n ≤ n') : Book w b n' f := by
 obtain ⟨D, hD, h1⟩ := h; exact ⟨D, hD.mono hn, h1⟩
theorem Book.cast {w : World} {b n : Nat} {f g : Int → Int → Int → Option Int} (h : Book w b n f) (hf : ∀ s a t, kwf s a t → g s a t = f s a t) : Book w b n g := by
 obtain ⟨D, hD, h1⟩ := h
 refine ⟨D, hD, fun s a t kl hk => ?_⟩
 obtain ⟨s', a', t', e, hw⟩ := kv_of_key hk
 obtain ⟨rfl, rfl, rfl⟩ := kv_inj e
 rw [hf _ _ _ hw]
 exact h1 _ _ _ _ hk
theorem Book.turned {w w' : World} {b n : Nat} {f : Int → Int → Int → Option Int} (h : Book w b n f) {F : Nat → Prop} (hm : Mod F w w') (hF : ¬ F b) : Book w' b n f := by
 obtain ⟨D, ⟨es, clock, hb, h2⟩, h1⟩ := h
 refine ⟨D, ⟨es, clock, ?_, h2⟩, h1⟩
 have hlt : b < w.heap.size := by
  rcases Nat.lt_or_ge b w.heap.size with h | h
  ·
   exact h
  ·
   rw [Array.getElem?_eq_none h] at hb; cases hb
 rw [hm.block b hlt hF]
 exact hb
theorem zero64 (w : World) : (zeroValue 2).run Tryz.prog w = .ok (.int .i64 0) w := by kernel_rfl
theorem Book.look {w : World} {b n : Nat} {f : Int → Int → Int → Option Int} (h : Book w b n f) {s a t : Int} (hw : kwf s a t) :
  (Instr.lookup 215 (.map (some b)) (kv s a t) false).run Tryz.prog w = .ok (.int .i64 ((f s a t).getD 0)) w ∧ (Lit.int .i64 ((f s a t).getD 0)).wf = true := by
 obtain ⟨D, hD, h1⟩ := h
 obtain ⟨kl, hk⟩ := keyOf_kv hw
 obtain ⟨c, hrun, hat, hwc⟩ := hD.lookup_int holdLaw Tryz.underlying215 Tryz.underlying2 (zero64 w) hk
 have := (h1 s a t kl hk).2
 rw [hat] at this
 simp at this
 rw [← this]
 exact ⟨hrun, hwc⟩
theorem Book.put {w : World} {b n : Nat} {f : Int → Int → Int → Option Int} (h : Book w b n f) {s a t v : Int} (hw : kwf s a t) (hv : (Lit.int .i64 v).wf = true) (hn : n < maxLen) :
  ∃ w', (Instr.mapUpdate 215 (.map (some b)) (kv s a t) (.int .i64 v)).run Tryz.prog w = .ok () w' ∧ Book w' b (n + 1) (upd3 f s a t (some v)) ∧ w.grownBy w' (some b) := by
 obtain ⟨D, hD, h1⟩ := h
 obtain ⟨kl, hk⟩ := keyOf_kv hw
 obtain ⟨w', hrun, hD', hg⟩ := hD.update holdLaw Tryz.underlying215 hn hk (plainElem_int Tryz.underlying2 hv)
 refine ⟨w', hrun, ⟨_, hD', fun s' a' t' kl' hk' => ?_⟩, hg⟩
 unfold upd3
 by_cases e : kl' = kl
 ·
  subst e
  have := holdLaw.inj hk' hk
  obtain ⟨rfl, rfl, rfl⟩ := kv_inj this
  rw [if_pos ⟨rfl, rfl, rfl⟩]
  exact ⟨has_put_same hD.isMap (holdLaw.key hk) _, atKey_put_same hD.isMap (holdLaw.key hk) _ _⟩
 ·
  rw [if_neg (by
   rintro ⟨rfl, rfl, rfl⟩
   rw [hk] at hk'
   exact e (by simpa using hk'.symm)), has_put_other e, atKey_put_other e]
  exact h1 s' a' t' kl' hk'
end Go.Proofs.YtackhljepbhpgaaGreat

namespace Go.Proofs.YtackhljepbhpgaaGreat
open Go.RowKit
attribute [local go_sem ↓] Go.wp_at_zero Go.wp_at_succ

structure Rw where
 key : ByteArray
 ver : Int
 val : ByteArray
 gone : Bool
variable [DecidableEq Rw] [Inhabited Rw]

variable [DecidableEq Rw] [Inhabited Rw]
def cmpB (a b : ByteArray) : Int := Lib.compareBytes a.data.toList b.data.toList
def cmpI (x y : Int) : Int := if x < y then -1 else if y < x then 1 else 0
def orI (x y : Int) : Int := if x = 0 then y else x
def cmpR (a b : Rw) : Int := orI (cmpB a.key b.key) (cmpI b.ver a.ver)
def ahead (a b : Rw) : Bool := decide (cmpR a b < 0)
variable [DecidableEq Bal] [Inhabited Bal] [DecidableEq Ledg] [Inhabited Ledg] [DecidableEq Leg] [Inhabited Leg]
def k3 (s a t : Int) (i : Nat) : Int := if i = 0 then s else if i = 1 then a else t
end Go.Proofs.YtackhljepbhpgaaGreat

namespace Go.Proofs.YtackhljepbhpgaaGreat
open Go.RowKit

def Stb {β : Type} (J : β → World → (Nat → Prop) → Prop) : Prop :=
 ∀ s W W' X X', J s W X → Mod X W W' → (∀ b, X b → X' b) → (∀ b, X' b → (X b ∨ W.heap.size ≤ b) ∧ b < W'.heap.size) → J s W' X'
abbrev Kp (R X : Nat → Prop) (W W' : World) : Prop := Mod (fun k => ¬ (R k ∨ X k)) W W'
def postX {α : Type} (R X : Nat → Prop) (I : List α → World → (Nat → Prop) → Prop) (Ix : Code → List α → World → (Nat → Prop) → Prop) (ys : List α) (W : World) : Exit → Act → World → Prop
 | .normal, _, W' => Kp R X W W' ∧ I ys W' X
 | .ret, _, W' => Kp R X W W' ∧ Ix .ret ys W' X
 | .exit id, _, W' => Kp R X W W' ∧ Ix (.exit id) ys W' X
 | .goto t, _, W' => Kp R X W W' ∧ Ix (.goto t) ys W' X
 | .panic _, _, _ => False
 | .outgrown, _, _ => False
theorem mod_put (W : World) (l : Nat) (o : Obj) : Mod (fun b => b = l) W (W.putObj l o) :=
 ⟨rfl, rfl, rfl, by simp [World.putObj], fun _ _ hn => World.putObj_heap_other hn⟩
theorem mod_alloc (F : Nat → Prop) (W : World) (o : Obj) : Mod F W (W.alloc o) := (Mod.refl F W).alloc o
end Go.Proofs.YtackhljepbhpgaaGreat


import Derived.Test.YtjhmdnlkpkagiaaPrnPromisesLaw10
import Derived.Test.YtjhmdnlkpkagiaaPrnPromisesLaw7
import Derived.Test.YtjhmdnlkpkagiaaPrnPromisesLaw8
import Derived.Test.YtjhmdnlkpkagiaaPrnPromisesLaw6
import Derived.BigQuiet
import Derived.Deep.QuietTactic
import Derived.Deep.RegionHeld3
import Derived.Test.YtjhmdnlkpkagiaaPrnPromisesLaw5
import Derived.Deep.AppendLies

/-
  The specification's draws: one of a list, some bytes, bytes with something turned.
-/
namespace Go.Proofs.Ytjhmdnlkpkagiaa
open Go.RowKit
set_option linter.unusedSectionVars false
variable [DecidableEq Logg] [Inhabited Logg] [DecidableEq LoggR] [Inhabited LoggR] [DecidableEq BytesR] [Inhabited BytesR] [DecidableEq RecsR] [Inhabited RecsR] [DecidableEq Leg] [Inhabited Leg]
set_option linter.unusedSimpArgs false
attribute [local go_sem ↓] Go.wp_at_zero Go.wp_at_succ

theorem Mod.trans2 {F G : Nat → Prop} {w w1 w2 : World} (h : Mod F w w1) (k : Mod G w1 w2) (hG : ∀ b, G b → b < w.heap.size → F b) : Mod F w w2 :=
  ⟨k.os.trans h.os, k.tape.trans h.tape, k.output.trans h.output, Nat.le_trans h.size k.size, fun i hi hn => (k.block i (Nat.lt_of_lt_of_le hi h.size) (fun e => hn (hG i e hi))).trans (h.block i hi hn)⟩
theorem Mod.transB {F : Nat → Prop} {w w1 w2 : World} (h : Mod F w w1) (k : Below w1.heap.size w1 w2) : Mod F w w2 := h.trans (Mod.of_below k)
theorem src_new {w : World} {a : Option Addr} {cap : Nat} {xs : List Byte} {T : TypeId} (h : BytesV w (.slice a xs.length cap) xs) (hn : xs.length ≤ 2097152) : Src w.heap.size (w.alloc (.cells #[.slice a xs.length cap, .int .i64 0] T)) w.heap.size a xs.length cap 0 := by
  obtain ⟨a', cap', e, g1, g2, g3⟩ := h
  simp only [Value.slice.injEq, true_and] at e
  obtain ⟨rfl, rfl⟩ := e
  refine ⟨Nat.le_refl _, by simp, by simp [go_sem], by simp [go_sem], fun o => by simp [go_sem], g1, g2, hn, fun i hi => ?_⟩
  obtain ⟨b, o, e, hc⟩ := g3 i hi
  have hl := World.block_lt_of_cell? _ _ hc
  dsimp only at hl
  exact ⟨b, o, _, e, hl, by omega, by have := (xs.getD i 0).isLt; omega, cell_keep (balloc (Below.refl _ _) _) hc⟩
set_option maxHeartbeats 400000 in
theorem l1Source_any (x : Value) (xs : List Byte) (w : World) (hx : BytesV w x xs) (hn : xs.length ≤ 2097152) :
    Calls Try.prog 11 #[x] w fun e w' => ∃ a cap, e = .returned (.pointer (some ⟨w.heap.size, 0, none⟩)) ∧ Src w.heap.size w' w.heap.size a xs.length cap 0 ∧ Below w.heap.size w w' := by
  have hX := hx
  obtain ⟨a, cap, rfl, _⟩ := hx
  go_enter Try.func11, Try.ntmps11
  go_wp2
  go_ret
  exact ⟨a, cap, rfl, src_new hX hn, by (repeat (first | exact Below.refl _ _ | assumption | refine Below.drew ?_ | refine balloc ?_ _ | refine bset ?_ (by simp; omega) _ | refine bset ?_ (by simp) _ | refine bstep ?_ (by assumption)))⟩
set_option maxHeartbeats 1000000 in
theorem l1Pick_any (B : Nat) (w : World) (bs : Nat) (a : Option Addr) (k cap t : Nat) (g c : Nat) (ys : List Int) (h : Src B w bs a k cap t) (ht : t ≤ 100000) (hg : g ≠ bs) (hn1 : 1 ≤ ys.length) (hn2 : ys.length ≤ 200)
    (hy : ∀ i, i < ys.length → w.cell? ⟨g, i, none⟩ = some (.int .i64 (ys.getD i 0))) :
    Calls Try.prog 13 #[.pointer (some ⟨bs, 0, none⟩), .slice (some ⟨g, 0, none⟩) ys.length c] w fun e w' => ∃ r : Int, e = .returned (.int .i64 r) ∧ r ∈ ys ∧ Src B w' bs a k cap (t + 1) ∧ Mod (fun b => b = bs) w w' := by
  have HY : Hid (∀ i, i < ys.length → w.cell? ⟨g, i, none⟩ = some (.int .i64 (ys.getD i 0))) := hy
  clear hy
  go_enter Try.func13, Try.ntmps13
  go_wp2_with fail
  refine (l1Next_any B w bs a k cap t ys.length h ht (by omega) (by omega)).mono ?_
  rintro e w1 ⟨m, rfl, r1, hs1, hm1⟩
  have hm : m < ys.length := by omega
  have hcell := hm1.cell (HY.out m hm) (by simpa using hg)
  obtain ⟨y, hye⟩ : ∃ y, y = ys.getD m 0 := ⟨_, rfl⟩
  rw [← hye] at hcell
  have HE : Hid (y = ys.getD m 0) := hye
  clear hye
  go_wp2
  go_ret
  refine ⟨y, rfl, ?_, hs1, hm1⟩
  rw [HE.out]
  have e : ys.getD m 0 = ys[m] := by simp [List.getD, hm]
  rw [e]
  exact List.getElem_mem hm
set_option maxHeartbeats 400000 in
theorem l1Chance_any (B : Nat) (w : World) (bs : Nat) (a : Option Addr) (k cap t : Nat) (n : Int) (h : Src B w bs a k cap t) (ht : t ≤ 100000) (hn1 : 1 ≤ n) (hn2 : n ≤ 100000) :
    Calls Try.prog 28 #[.pointer (some ⟨bs, 0, none⟩), .int .i64 n] w fun e w' => ∃ r : Bool, e = .returned (.bool r) ∧ Src B w' bs a k cap (t + 1) ∧ Mod (fun b => b = bs) w w' := by
  go_enter Try.func28, Try.ntmps28
  go_wp2_with fail
  refine (l1Next_any B w bs a k cap t n h ht hn1 hn2).mono ?_
  rintro e w1 ⟨m, rfl, r1, hs1, hm1⟩
  go_wp2
  go_ret
  exact ⟨_, rfl, hs1, hm1⟩
end Go.Proofs.Ytjhmdnlkpkagiaa

/-
  Boxes of slots and of their answers, written into.
-/
set_option linter.unusedVariables false
set_option linter.unusedSimpArgs false
namespace Go.Proofs.Ytjhmdnlkpkagiaa
open Go.RowKit
set_option linter.unusedSectionVars false
variable [DecidableEq Vot] [Inhabited Vot] [DecidableEq Slt] [Inhabited Slt] [DecidableEq SltR] [Inhabited SltR] [DecidableEq Bal] [Inhabited Bal] [DecidableEq Ledg] [Inhabited Ledg] [DecidableEq Leg] [Inhabited Leg] [DecidableEq Acc] [Inhabited Acc] [DecidableEq AccR] [Inhabited AccR] [DecidableEq AccsR] [Inhabited AccsR] [DecidableEq SltsR] [Inhabited SltsR] [DecidableEq Logg] [Inhabited Logg] [DecidableEq LoggR] [Inhabited LoggR] [DecidableEq BytesR] [Inhabited BytesR] [DecidableEq RecsR] [Inhabited RecsR]
attribute [local go_sem ↓] Go.wp_at_zero Go.wp_at_succ

theorem msetZ {F : Nat → Prop} {w w' : World} (h : Mod F w w') (a : Addr) (v : Value) (ha : F a.block) : Mod F w (w'.setCell a v) := h.trans ((Mod.of_set w' a v).mono (fun b e => by rw [e]; exact ha))
structure Sl6 (W : World) (P : Nat) (d : Slt) (u : Value) : Prop where
  c0 : W.cell? ⟨P, 0, none⟩ = some (.int .i64 d.con)
  c1 : W.cell? ⟨P, 1, none⟩ = some (.int .i64 d.sh)
  c2 : W.cell? ⟨P, 2, none⟩ = some (.int .i64 d.pr)
  c3 : W.cell? ⟨P, 3, none⟩ = some (.int .i64 d.lb)
  c4 : W.cell? ⟨P, 4, none⟩ = some (.int .i64 d.lv)
  c5 : W.cell? ⟨P, 5, none⟩ = some (u)
  fr : ∀ o, W.frozen? ⟨P, o, none⟩ = false
  lt : P < W.heap.size
theorem Sl6.mod {F : Nat → Prop} {W W' : World} {P : Nat} {d : Slt} {u : Value} (h : Sl6 W P d u) (hm : Mod F W W') (hp : ¬ F P) : Sl6 W' P d u :=
  ⟨hm.cell h.c0 hp, hm.cell h.c1 hp, hm.cell h.c2 hp, hm.cell h.c3 hp, hm.cell h.c4 hp, hm.cell h.c5 hp, fun o => (hm.frozenAt (a := ⟨P, o, none⟩) h.lt hp).trans (h.fr o), Nat.lt_of_lt_of_le h.lt hm.size⟩
theorem Sl6.below {W W' : World} {P : Nat} {d : Slt} {u : Value} (h : Sl6 W P d u) (hb : Below W.heap.size W W') : Sl6 W' P d u :=
  h.mod (F := fun _ => False) (Mod.of_below hb) (fun e => e)
theorem set6_mod (W : World) (P : Nat) (v0 v1 v2 v3 v4 v5 : Value) : Mod (fun b => b = P) W (((((((W).setCell ⟨P, 0, none⟩ (v0)).setCell ⟨P, 1, none⟩ (v1)).setCell ⟨P, 2, none⟩ (v2)).setCell ⟨P, 3, none⟩ (v3)).setCell ⟨P, 4, none⟩ (v4)).setCell ⟨P, 5, none⟩ (v5)) := by
  refine msetZ (F := fun b => b = P) ?_ _ _ rfl
  refine msetZ (F := fun b => b = P) ?_ _ _ rfl
  refine msetZ (F := fun b => b = P) ?_ _ _ rfl
  refine msetZ (F := fun b => b = P) ?_ _ _ rfl
  refine msetZ (F := fun b => b = P) ?_ _ _ rfl
  refine msetZ (F := fun b => b = P) ?_ _ _ rfl
  exact Mod.refl _ _
theorem Sl6.set {W : World} {P : Nat} {d : Slt} {u : Value} (h : Sl6 W P d u) (x : Slt) (y : Value) : Sl6 (((((((W).setCell ⟨P, 0, none⟩ (.int .i64 x.con)).setCell ⟨P, 1, none⟩ (.int .i64 x.sh)).setCell ⟨P, 2, none⟩ (.int .i64 x.pr)).setCell ⟨P, 3, none⟩ (.int .i64 x.lb)).setCell ⟨P, 4, none⟩ (.int .i64 x.lv)).setCell ⟨P, 5, none⟩ (y)) P x y := by
  obtain ⟨c0, c1, c2, c3, c4, c5, fr, lt⟩ := h
  refine ⟨?_, ?_, ?_, ?_, ?_, ?_, fun o => ?_, ?_⟩
  · simp [go_sem, c0, c1, c2, c3, c4, c5]
  · simp [go_sem, c0, c1, c2, c3, c4, c5]
  · simp [go_sem, c0, c1, c2, c3, c4, c5]
  · simp [go_sem, c0, c1, c2, c3, c4, c5]
  · simp [go_sem, c0, c1, c2, c3, c4, c5]
  · simp [go_sem, c0, c1, c2, c3, c4, c5]
  · simp [go_sem, fr]
  · simp; exact lt
theorem Sl6.new {W w' : World} {F : Nat → Prop} (d : Slt) (u : Value) (T : TypeId) (hm : Mod F (W.alloc (.cells #[.int .i64 d.con, .int .i64 d.sh, .int .i64 d.pr, .int .i64 d.lb, .int .i64 d.lv, u] T)) w') (hp : ¬ F W.heap.size) : Sl6 w' W.heap.size d u :=
  Sl6.mod (W := W.alloc (.cells #[.int .i64 d.con, .int .i64 d.sh, .int .i64 d.pr, .int .i64 d.lb, .int .i64 d.lv, u] T)) ⟨by simp [go_sem], by simp [go_sem], by simp [go_sem], by simp [go_sem], by simp [go_sem], by simp [go_sem], fun o => by simp [go_sem], by simp⟩ hm hp
structure Sl9 (W : World) (P : Nat) (d : SltR) (u : Value) : Prop where
  c0 : W.cell? ⟨P, 0, none⟩ = some (.int .i64 d.code)
  c1 : W.cell? ⟨P, 1, none⟩ = some (.int .i64 d.ob)
  c2 : W.cell? ⟨P, 2, none⟩ = some (.int .i64 d.ov)
  c3 : W.cell? ⟨P, 3, none⟩ = some (.int .i64 d.slot.con)
  c4 : W.cell? ⟨P, 4, none⟩ = some (.int .i64 d.slot.sh)
  c5 : W.cell? ⟨P, 5, none⟩ = some (.int .i64 d.slot.pr)
  c6 : W.cell? ⟨P, 6, none⟩ = some (.int .i64 d.slot.lb)
  c7 : W.cell? ⟨P, 7, none⟩ = some (.int .i64 d.slot.lv)
  c8 : W.cell? ⟨P, 8, none⟩ = some (u)
  fr : ∀ o, W.frozen? ⟨P, o, none⟩ = false
  lt : P < W.heap.size
theorem Sl9.mod {F : Nat → Prop} {W W' : World} {P : Nat} {d : SltR} {u : Value} (h : Sl9 W P d u) (hm : Mod F W W') (hp : ¬ F P) : Sl9 W' P d u :=
  ⟨hm.cell h.c0 hp, hm.cell h.c1 hp, hm.cell h.c2 hp, hm.cell h.c3 hp, hm.cell h.c4 hp, hm.cell h.c5 hp, hm.cell h.c6 hp, hm.cell h.c7 hp, hm.cell h.c8 hp, fun o => (hm.frozenAt (a := ⟨P, o, none⟩) h.lt hp).trans (h.fr o), Nat.lt_of_lt_of_le h.lt hm.size⟩
theorem Sl9.below {W W' : World} {P : Nat} {d : SltR} {u : Value} (h : Sl9 W P d u) (hb : Below W.heap.size W W') : Sl9 W' P d u :=
  h.mod (F := fun _ => False) (Mod.of_below hb) (fun e => e)
theorem set9_mod (W : World) (P : Nat) (v0 v1 v2 v3 v4 v5 v6 v7 v8 : Value) : Mod (fun b => b = P) W ((((((((((W).setCell ⟨P, 0, none⟩ (v0)).setCell ⟨P, 1, none⟩ (v1)).setCell ⟨P, 2, none⟩ (v2)).setCell ⟨P, 3, none⟩ (v3)).setCell ⟨P, 4, none⟩ (v4)).setCell ⟨P, 5, none⟩ (v5)).setCell ⟨P, 6, none⟩ (v6)).setCell ⟨P, 7, none⟩ (v7)).setCell ⟨P, 8, none⟩ (v8)) := by
  refine msetZ (F := fun b => b = P) ?_ _ _ rfl
  refine msetZ (F := fun b => b = P) ?_ _ _ rfl
  refine msetZ (F := fun b => b = P) ?_ _ _ rfl
  refine msetZ (F := fun b => b = P) ?_ _ _ rfl
  refine msetZ (F := fun b => b = P) ?_ _ _ rfl
  refine msetZ (F := fun b => b = P) ?_ _ _ rfl
  refine msetZ (F := fun b => b = P) ?_ _ _ rfl
  refine msetZ (F := fun b => b = P) ?_ _ _ rfl
  refine msetZ (F := fun b => b = P) ?_ _ _ rfl
  exact Mod.refl _ _
theorem Sl9.set {W : World} {P : Nat} {d : SltR} {u : Value} (h : Sl9 W P d u) (x : SltR) (y : Value) : Sl9 ((((((((((W).setCell ⟨P, 0, none⟩ (.int .i64 x.code)).setCell ⟨P, 1, none⟩ (.int .i64 x.ob)).setCell ⟨P, 2, none⟩ (.int .i64 x.ov)).setCell ⟨P, 3, none⟩ (.int .i64 x.slot.con)).setCell ⟨P, 4, none⟩ (.int .i64 x.slot.sh)).setCell ⟨P, 5, none⟩ (.int .i64 x.slot.pr)).setCell ⟨P, 6, none⟩ (.int .i64 x.slot.lb)).setCell ⟨P, 7, none⟩ (.int .i64 x.slot.lv)).setCell ⟨P, 8, none⟩ (y)) P x y := by
  obtain ⟨c0, c1, c2, c3, c4, c5, c6, c7, c8, fr, lt⟩ := h
  refine ⟨?_, ?_, ?_, ?_, ?_, ?_, ?_, ?_, ?_, fun o => ?_, ?_⟩
  · simp [go_sem, c0, c1, c2, c3, c4, c5, c6, c7, c8]
  · simp [go_sem, c0, c1, c2, c3, c4, c5, c6, c7, c8]
  · simp [go_sem, c0, c1, c2, c3, c4, c5, c6, c7, c8]
  · simp [go_sem, c0, c1, c2, c3, c4, c5, c6, c7, c8]
  · simp [go_sem, c0, c1, c2, c3, c4, c5, c6, c7, c8]
  · simp [go_sem, c0, c1, c2, c3, c4, c5, c6, c7, c8]
  · simp [go_sem, c0, c1, c2, c3, c4, c5, c6, c7, c8]
  · simp [go_sem, c0, c1, c2, c3, c4, c5, c6, c7, c8]
  · simp [go_sem, c0, c1, c2, c3, c4, c5, c6, c7, c8]
  · simp [go_sem, fr]
  · simp; exact lt
theorem Sl9.new {W w' : World} {F : Nat → Prop} (d : SltR) (u : Value) (T : TypeId) (hm : Mod F (W.alloc (.cells #[.int .i64 d.code, .int .i64 d.ob, .int .i64 d.ov, .int .i64 d.slot.con, .int .i64 d.slot.sh, .int .i64 d.slot.pr, .int .i64 d.slot.lb, .int .i64 d.slot.lv, u] T)) w') (hp : ¬ F W.heap.size) : Sl9 w' W.heap.size d u :=
  Sl9.mod (W := W.alloc (.cells #[.int .i64 d.code, .int .i64 d.ob, .int .i64 d.ov, .int .i64 d.slot.con, .int .i64 d.slot.sh, .int .i64 d.slot.pr, .int .i64 d.slot.lb, .int .i64 d.slot.lv, u] T)) ⟨by simp [go_sem], by simp [go_sem], by simp [go_sem], by simp [go_sem], by simp [go_sem], by simp [go_sem], by simp [go_sem], by simp [go_sem], by simp [go_sem], fun o => by simp [go_sem], by simp⟩ hm hp
theorem sltRR_open {w : World} {base : Nat} {F : Nat → Prop} {v : Value} {r : SltR} (h : sltRR.O w base F v r) : ∃ p q F', v = .agg #[.int .i64 r.code, .int .i64 r.ob, .int .i64 r.ov, .int .i64 r.slot.con, .int .i64 r.slot.sh, .int .i64 r.slot.pr, .int .i64 r.slot.lb, .int .i64 r.slot.lv, .slice p r.slot.cast.length q] ∧ votsR.O w base F' (.slice p r.slot.cast.length q) r.slot.cast := by
  obtain ⟨u, F1, rfl, h1, _⟩ := h
  obtain ⟨p, q, e, _⟩ := slt_cells h1
  simp only [Value.agg.injEq, Array.mk.injEq, List.cons.injEq, and_true, true_and] at e
  subst e
  obtain ⟨u, F2, e, h2, _⟩ := h1
  simp only [Value.agg.injEq, Array.mk.injEq, List.cons.injEq, and_true, true_and] at e
  subst e
  exact ⟨p, q, F2, rfl, h2⟩
structure SlW (w W : World) (N B bs : Nat) (a : Option Addr) (k cap t P R : Nat) (d : Slt) (p : Option Addr) (n q : Nat) (F : Nat → Prop) : Prop where
  X : Sl6 W P d (.slice p n q)
  R : Sl6 W R ⟨0, 0, 0, 0, 0, []⟩ (.slice none 0 0)
  O : votsR.O W N F (.slice p n q) d.cast
  S : Src B W bs a k cap t
  M : Mod (fun b => b = bs) w W
theorem SlW.below {w W W' : World} {N B bs : Nat} {a : Option Addr} {k cap t P R : Nat} {d : Slt} {p : Option Addr} {n q : Nat} {F : Nat → Prop} (h : SlW w W N B bs a k cap t P R d p n q F) (hb : Below W.heap.size W W') : SlW w W' N B bs a k cap t P R d p n q F :=
  ⟨h.X.below hb, h.R.below hb, votsR.keep h.O hb, h.S.below hb, h.M.transB hb⟩
theorem SlW.next {w W W' : World} {N B bs : Nat} {a : Option Addr} {k cap t t' P R : Nat} {d : Slt} {p : Option Addr} {n q : Nat} {F : Nat → Prop} (h : SlW w W N B bs a k cap t P R d p n q F) (hS : Src B W' bs a k cap t') (hm : Mod (fun b => b = bs) W W') (hP : P ≠ bs) (hR : R ≠ bs) (hF : ∀ c, F c → ¬ c = bs) : SlW w W' N B bs a k cap t' P R d p n q F :=
  ⟨h.X.mod hm hP, h.R.mod hm hR, votsR.mod h.O hm hF, hS, h.M.trans hm⟩
def SlE (B bs : Nat) (a : Option Addr) (k cap t : Nat) (w : World) (e : Ending) (w' : World) : Prop :=
  ∃ v F d t', e = .returned v ∧ sltR.O w' w.heap.size F v d ∧ d.cast.length ≤ 62 ∧ Src B w' bs a k cap t' ∧ t' ≤ t + 40 ∧ Mod (fun b => b = bs) w w'
def zeroS : Slt := ⟨0, 0, 0, 0, 0, []⟩
def zeroVots : List Vot := List.replicate 61 ⟨0, 0⟩
theorem zeroVots_made : (madeCells (Value.agg #[.int .i64 0, .int .i64 0]).cells (61 * 2)).toList = votsC zeroVots := by kernel_rfl
theorem zeroVots_len : zeroVots.length = 61 := List.length_replicate
theorem getInts {W : World} {g : Nat} {ys : List Int} (h : ∀ i, i < ys.length → W.cell? ⟨g, i, none⟩ = some (.int .i64 (ys.getD i 0))) {W' : World} (hb : Below W.heap.size W W') : ∀ i, i < ys.length → W'.cell? ⟨g, i, none⟩ = some (.int .i64 (ys.getD i 0)) := fun i hi => cell_keep hb (h i hi)
end Go.Proofs.Ytjhmdnlkpkagiaa

/-
  PromiseSlot, the specification's.
-/
set_option linter.unusedSimpArgs false
set_option linter.unusedVariables false
namespace Go.Proofs.Ytjhmdnlkpkagiaa
open Go.RowKit
set_option linter.unusedSectionVars false
variable [DecidableEq Vot] [Inhabited Vot] [DecidableEq Slt] [Inhabited Slt] [DecidableEq SltR] [Inhabited SltR] [DecidableEq Bal] [Inhabited Bal] [DecidableEq Ledg] [Inhabited Ledg] [DecidableEq Leg] [Inhabited Leg]
attribute [local go_sem ↓] Go.wp_at_zero Go.wp_at_succ

set_option maxHeartbeats 4000000 in
theorem specProm_u (x : Value) (d : Slt) (b : Int) (w : World) (hx : sltR.V w x d) (hn : wtSlt d ≤ 1048576) :
    Calls Try.prog 7 #[x, .int .i64 b] w fun e w' => ∃ v F, e = .returned v ∧ sltRR.O w' w.heap.size F v (promD d b) ∧ Below w.heap.size w w' := by
  have hX := hx
  obtain ⟨u1, rfl, hx⟩ := hx
  obtain ⟨ax, cx, rfl⟩ := vots_form hx
  clear hx
  have hl : d.cast.length ≤ 1048576 := hn
  clear hn
  go_enter Try.func7, Try.ntmps7
  go_wp2_with fail
  refine (specSlotF_any _ d _ (sltR.below hX (by (repeat (first | exact Below.refl _ _ | assumption | refine Below.drew ?_ | refine balloc ?_ _ | refine bset ?_ (by simp; omega) _ | refine bset ?_ (by simp) _ | refine bstep ?_ (by assumption)))))).mono ?_
  rintro e w1 ⟨rfl, hb1⟩
  have hB1 : Below w.heap.size w w1 := bstep (by (repeat (first | exact Below.refl _ _ | assumption | refine Below.drew ?_ | refine balloc ?_ _ | refine bset ?_ (by simp; omega) _ | refine bset ?_ (by simp) _ | refine bstep ?_ (by assumption)))) hb1
  have y0 : w1.cell? ⟨w.heap.size, 0, none⟩ = some (.int .i64 d.con) := cell_keep hb1 (by simp [go_sem])
  have y1 : w1.cell? ⟨w.heap.size, 1, none⟩ = some (.int .i64 d.sh) := cell_keep hb1 (by simp [go_sem])
  have y2 : w1.cell? ⟨w.heap.size, 2, none⟩ = some (.int .i64 d.pr) := cell_keep hb1 (by simp [go_sem])
  have y3 : w1.cell? ⟨w.heap.size, 3, none⟩ = some (.int .i64 d.lb) := cell_keep hb1 (by simp [go_sem])
  have y4 : w1.cell? ⟨w.heap.size, 4, none⟩ = some (.int .i64 d.lv) := cell_keep hb1 (by simp [go_sem])
  have y5 : w1.cell? ⟨w.heap.size, 5, none⟩ = some (.slice ax d.cast.length cx) := cell_keep hb1 (by simp [go_sem])
  have yf : ∀ o, w1.frozen? ⟨w.heap.size, o, none⟩ = false := fun o => by rw [(bcell hb1).2 _ _ (by simp; try omega)]; simp [go_sem]
  have q0 : w1.cell? ⟨w.heap.size + 1, 0, none⟩ = some (.int .i64 0) := cell_keep hb1 (by simp [go_sem])
  have q1 : w1.cell? ⟨w.heap.size + 1, 1, none⟩ = some (.int .i64 0) := cell_keep hb1 (by simp [go_sem])
  have q2 : w1.cell? ⟨w.heap.size + 1, 2, none⟩ = some (.int .i64 0) := cell_keep hb1 (by simp [go_sem])
  have q3 : w1.cell? ⟨w.heap.size + 1, 3, none⟩ = some (.int .i64 0) := cell_keep hb1 (by simp [go_sem])
  have q4 : w1.cell? ⟨w.heap.size + 1, 4, none⟩ = some (.int .i64 0) := cell_keep hb1 (by simp [go_sem])
  have q5 : w1.cell? ⟨w.heap.size + 1, 5, none⟩ = some (.int .i64 0) := cell_keep hb1 (by simp [go_sem])
  have q6 : w1.cell? ⟨w.heap.size + 1, 6, none⟩ = some (.int .i64 0) := cell_keep hb1 (by simp [go_sem])
  have q7 : w1.cell? ⟨w.heap.size + 1, 7, none⟩ = some (.int .i64 0) := cell_keep hb1 (by simp [go_sem])
  have q8 : w1.cell? ⟨w.heap.size + 1, 8, none⟩ = some (.slice none 0 0) := cell_keep hb1 (by simp [go_sem])
  have qf : ∀ o, w1.frozen? ⟨w.heap.size + 1, o, none⟩ = false := fun o => by rw [(bcell hb1).2 _ _ (by simp; try omega)]; simp [go_sem]
  have z1 := hb1.size
  simp at z1
  have hs1 := hB1.size
  clear hb1
  by_cases hf : sltFault d = 0
  · have HF : Hid (sltFault d = 0) := hf
    rw [hf]
    clear hf
    cases h1 : inB b 0 1000
    · have HD : Hid (promD d b = errS 3) := promD_range HF.out h1
      go_wp2_with (go_at_call 17; refine (l8Ballot_any _ _).mono ?_; rintro e w' ⟨rfl, hw'⟩; obtain rfl := hw'.symm; rw [h1])
      refine bodyPost_ret (v := .agg #[.int .i64 3, .int .i64 0, .int .i64 0, .int .i64 0, .int .i64 0, .int .i64 0, .int .i64 0, .int .i64 0, .slice none 0 0]) (by simp [results, Try.results7, go_sem, q0, q1, q2, q3, q4, q5, q6, q7, q8, qf]) rfl ?_
      rw [HD.out]
      first | exact ⟨_, rfl, ⟨_, sltR_nil _ _ 3 0 0 0 0 0 0 0⟩, by (repeat (first | refine bset ?_ (by simp; omega) _ | refine bset ?_ (by simp) _ | refine balloc ?_ _ | assumption))⟩ | exact ⟨_, _, rfl, sltR_nil _ _ 3 0 0 0 0 0 0 0, by (repeat (first | refine bset ?_ (by simp; omega) _ | refine bset ?_ (by simp) _ | refine balloc ?_ _ | assumption))⟩
    by_cases h2 : b < d.pr
    · have HD : Hid (promD d b = errS 8) := promD_busy HF.out h1 h2
      go_wp2_with (go_at_call 17; refine (l8Ballot_any _ _).mono ?_; rintro e w' ⟨rfl, hw'⟩; obtain rfl := hw'.symm; rw [h1])
      refine bodyPost_ret (v := .agg #[.int .i64 8, .int .i64 0, .int .i64 0, .int .i64 0, .int .i64 0, .int .i64 0, .int .i64 0, .int .i64 0, .slice none 0 0]) (by simp [results, Try.results7, go_sem, q0, q1, q2, q3, q4, q5, q6, q7, q8, qf]) rfl ?_
      rw [HD.out]
      first | exact ⟨_, rfl, ⟨_, sltR_nil _ _ 8 0 0 0 0 0 0 0⟩, by (repeat (first | refine bset ?_ (by simp; omega) _ | refine bset ?_ (by simp) _ | refine balloc ?_ _ | assumption))⟩ | exact ⟨_, _, rfl, sltR_nil _ _ 8 0 0 0 0 0 0 0, by (repeat (first | refine bset ?_ (by simp; omega) _ | refine bset ?_ (by simp) _ | refine balloc ?_ _ | assumption))⟩
    · have HD : Hid (promD d b = ⟨0, d.lb, d.lv, ⟨d.con, d.sh, b, d.lb, d.lv, d.cast⟩⟩) := promD_ok HF.out h1 h2
      go_wp2_with (first | (go_at_call 17; refine (l8Ballot_any _ _).mono ?_; rintro e w' ⟨rfl, hw'⟩; obtain rfl := hw'.symm; rw [h1]) | fail)
      refine (l8Copy_u _ d _ (sltR.below hX hB1) hl).mono ?_
      rintro e w2 ⟨v2, F2, rfl, o2, hb2⟩
      obtain ⟨u2, F1, rfl, ov, hF⟩ := o2
      obtain ⟨a2, c2, rfl⟩ := vots_form (votsR.ofO ov)
      clear hF hX
      have hB2 : Below w.heap.size w w2 := bstep hB1 hb2
      replace y0 := cell_keep hb2 y0
      replace y1 := cell_keep hb2 y1
      replace y2 := cell_keep hb2 y2
      replace y3 := cell_keep hb2 y3
      replace y4 := cell_keep hb2 y4
      replace y5 := cell_keep hb2 y5
      replace yf : ∀ o, w2.frozen? ⟨w.heap.size, o, none⟩ = false := fun o => by rw [(bcell hb2).2 _ _ (by omega)]; exact yf o
      replace q0 := cell_keep hb2 q0
      replace q1 := cell_keep hb2 q1
      replace q2 := cell_keep hb2 q2
      replace q3 := cell_keep hb2 q3
      replace q4 := cell_keep hb2 q4
      replace q5 := cell_keep hb2 q5
      replace q6 := cell_keep hb2 q6
      replace q7 := cell_keep hb2 q7
      replace q8 := cell_keep hb2 q8
      replace qf : ∀ o, w2.frozen? ⟨w.heap.size + 1, o, none⟩ = false := fun o => by rw [(bcell hb2).2 _ _ (by omega)]; exact qf o
      have hs2 := hb2.size
      have zz0 : w.heap.size < w2.heap.size := World.block_lt_of_cell? w2 _ y0
      have zz1 : w.heap.size + 1 < w2.heap.size := World.block_lt_of_cell? w2 _ q0
      clear hb2 hB1
      go_wp2
      refine bodyPost_ret (v := .agg #[.int .i64 0, .int .i64 d.lb, .int .i64 d.lv, .int .i64 d.con, .int .i64 d.sh, .int .i64 b, .int .i64 d.lb, .int .i64 d.lv, .slice a2 d.cast.length c2]) (by simp [results, Try.results7, go_sem, q0, q1, q2, q3, q4, q5, q6, q7, q8, qf, zz0, zz1]) rfl ?_
      rw [HD.out]
      refine ⟨_, fun b => F1 b, rfl, ?_, ?_⟩
      · refine ⟨.slice a2 d.cast.length c2, fun b => F1 b, rfl, ?_, fun b => Iff.rfl⟩
        refine ⟨.slice a2 d.cast.length c2, F1, rfl, ?_, fun b => Iff.rfl⟩
        refine votsR.base (base := w1.heap.size) ?_ (by omega)
        refine Rep.alloc _ ?_ _
        iterate 9 (refine Rep.set _ ?_ _ (by simp; omega))
        exact ov
      · skip
        refine balloc ?_ _
        iterate 9 (refine bset ?_ (by simp) _)
        exact hB2
  · have HD : Hid (promD d b = errS (sltFault d)) := promD_fault hf
    generalize sltFault d = c at *
    go_wp2
    refine bodyPost_ret (v := .agg #[.int .i64 c, .int .i64 0, .int .i64 0, .int .i64 0, .int .i64 0, .int .i64 0, .int .i64 0, .int .i64 0, .slice none 0 0]) (by simp [results, Try.results7, go_sem, q0, q1, q2, q3, q4, q5, q6, q7, q8, qf]) rfl ?_
    rw [HD.out]
    first | exact ⟨_, rfl, ⟨_, sltR_nil _ _ c 0 0 0 0 0 0 0⟩, by (repeat (first | refine bset ?_ (by simp; omega) _ | refine bset ?_ (by simp) _ | refine balloc ?_ _ | assumption))⟩ | exact ⟨_, _, rfl, sltR_nil _ _ c 0 0 0 0 0 0 0, by (repeat (first | refine bset ?_ (by simp; omega) _ | refine bset ?_ (by simp) _ | refine balloc ?_ _ | assumption))⟩
end Go.Proofs.Ytjhmdnlkpkagiaa

/-
  AcceptSlot, the program's: what is asked of a slot's box.
-/
set_option linter.unusedSimpArgs false
set_option linter.unusedVariables false
namespace Go.Proofs.Ytjhmdnlkpkagiaa
open Go.RowKit
set_option linter.unusedSectionVars false
variable [DecidableEq Vot] [Inhabited Vot] [DecidableEq Slt] [Inhabited Slt] [DecidableEq SltR] [Inhabited SltR] [DecidableEq Bal] [Inhabited Bal] [DecidableEq Ledg] [Inhabited Ledg] [DecidableEq Leg] [Inhabited Leg]
attribute [local go_sem ↓] Go.wp_at_zero Go.wp_at_succ

theorem heap_set {w : World} {p : Addr} {u : Value} {ob : Array Value} {t : Nat} (h : w.heap[p.block]? = some (.cells ob t)) : ∃ ob', (w.setCell p u).heap[p.block]? = some (.cells ob' t) := by
  refine ⟨if p.spot.isSome then ob else ob.setIfInBounds p.off u, ?_⟩
  unfold World.setCell
  simp [Array.getElem?_modify, h]
theorem promise_busy (B : Nat) (p b : Int) (w : World) (h2 : w.cell? ⟨B, 2, none⟩ = some (.int .i64 p)) (h : b < p) :
    Calls Try.prog 55 #[.pointer (some ⟨B, 0, none⟩), .int .i64 b] w fun e w' => e = .returned (.int .i64 8) ∧ w' = w := by
  go_enter Try.func55, Try.ntmps55
  go_wp2
  go_ret
  exact ⟨rfl, rfl⟩
theorem promise_ok (B : Nat) (p b : Int) (w : World) (h2 : w.cell? ⟨B, 2, none⟩ = some (.int .i64 p)) (hf : ∀ o, w.frozen? ⟨B, o, none⟩ = false) (h : ¬ b < p) :
    Calls Try.prog 55 #[.pointer (some ⟨B, 0, none⟩), .int .i64 b] w fun e w' => e = .returned (.int .i64 0) ∧ w' = w.setCell ⟨B, 2, none⟩ (.int .i64 b) := by
  go_enter Try.func55, Try.ntmps55
  go_wp2
  go_ret
  exact ⟨rfl, rfl⟩
def AcE (base B : Nat) (k : Int) (s : Slt) (w : World) (e : Ending) (w' : World) : Prop :=
  e = .returned (.int .i64 k) ∧ Below base w w' ∧ (k = 0 → ∃ a n c F, (w'.cell? ⟨B, 0, none⟩ = some (.int .i64 s.con) ∧ w'.cell? ⟨B, 1, none⟩ = some (.int .i64 s.sh) ∧ w'.cell? ⟨B, 2, none⟩ = some (.int .i64 s.pr) ∧ w'.cell? ⟨B, 3, none⟩ = some (.int .i64 s.lb) ∧ w'.cell? ⟨B, 4, none⟩ = some (.int .i64 s.lv) ∧ w'.cell? ⟨B, 5, none⟩ = some (.slice a n c)) ∧ votsR.O w' base F (.slice a n c) s.cast)
set_option maxHeartbeats 4000000 in
theorem accept_any (B base : Nat) (d : Slt) (v : Vot) (a : Option Addr) (c : Nat) (F : Nat → Prop) (ob0 : Array Value) (w : World) (hbox : w.cell? ⟨B, 0, none⟩ = some (.int .i64 d.con) ∧ w.cell? ⟨B, 1, none⟩ = some (.int .i64 d.sh) ∧ w.cell? ⟨B, 2, none⟩ = some (.int .i64 d.pr) ∧ w.cell? ⟨B, 3, none⟩ = some (.int .i64 d.lb) ∧ w.cell? ⟨B, 4, none⟩ = some (.int .i64 d.lv) ∧ w.cell? ⟨B, 5, none⟩ = some (.slice a d.cast.length c)) (cf : ∀ o, w.frozen? ⟨B, o, none⟩ = false)
    (hblk : w.heap[B]? = some (.cells ob0 60)) (ov : votsR.O w base F (.slice a d.cast.length c) d.cast) (hFB : ¬ F B) (hbB : base ≤ B) (hbs : base ≤ w.heap.size) (hn : d.cast.length ≤ 60) :
    Calls Try.prog 56 #[.pointer (some ⟨B, 0, none⟩), .agg #[.int .i64 v.bal, .int .i64 v.val]] w fun e w' => AcE base B (accC d v) (accS d v) w e w' := by
  obtain ⟨c0, c1, c2, c3, c4, c5⟩ := hbox
  have hB : B < w.heap.size := World.block_lt_of_cell? w _ c0
  have hlt0 : ∀ b, F b → b < w.heap.size := fun b hb => (votsR.rng ov b hb).2
  by_cases h1 : v.bal < d.pr
  · rw [accC_busy h1]
    go_enter Try.func56, Try.ntmps56
    go_wp2_with fail
    refine (promise_busy B d.pr v.bal _ (by simp [go_sem, c2, hB]) (by omega)).mono ?_
    rintro e w1 ⟨rfl, rfl⟩
    go_wp2
    go_ret
    exact ⟨rfl, (Below.refl _ _).alloc hbs _, fun h => absurd h (by omega)⟩
  by_cases h2 : v.bal = d.lb
  · by_cases h3 : v.val = d.lv
    · rw [accC_same h1 h2 h3, accS_same h2 h3]
      have heq : ∀ w, (binOp .eql 25 (.agg #[.int .i64 v.bal, .int .i64 v.val]) (.agg #[.int .i64 d.lb, .int .i64 d.lv])).run Try.prog w = .ok (.bool true) w := fun w => by rw [eqlVot]; simp [h2, h3]
      have ho : otherB v ⟨d.lb, d.lv⟩ = false := by simp [otherB, h2, h3]
      have HE : Hid (v.bal = d.lb ∧ v.val = d.lv) := ⟨h2, h3⟩
      clear h2 h3
      go_enter Try.func56, Try.ntmps56
      go_wp2_with fail
      refine (promise_ok B d.pr v.bal _ (by simp [go_sem, c2, hB]) (fun o => by simp [go_sem, cf, hB]) (by omega)).mono ?_
      rintro e W1 ⟨rfl, hE⟩
      have r0 : W1.cell? ⟨w.heap.size, 0, none⟩ = some (.int .i64 v.bal) := by rw [hE]; simp [go_sem, hB]; try omega
      have r1 : W1.cell? ⟨w.heap.size, 1, none⟩ = some (.int .i64 v.val) := by rw [hE]; simp [go_sem, hB]; try omega
      replace c0 : W1.cell? ⟨B, 0, none⟩ = some (.int .i64 d.con) := by rw [hE]; simp [go_sem, hB, c0]
      replace c1 : W1.cell? ⟨B, 1, none⟩ = some (.int .i64 d.sh) := by rw [hE]; simp [go_sem, hB, c1]
      replace c2 : W1.cell? ⟨B, 2, none⟩ = some (.int .i64 v.bal) := by rw [hE]; simp [go_sem, hB, c2]
      replace c3 : W1.cell? ⟨B, 3, none⟩ = some (.int .i64 d.lb) := by rw [hE]; simp [go_sem, hB, c3]
      replace c4 : W1.cell? ⟨B, 4, none⟩ = some (.int .i64 d.lv) := by rw [hE]; simp [go_sem, hB, c4]
      replace c5 : W1.cell? ⟨B, 5, none⟩ = some (.slice a d.cast.length c) := by rw [hE]; simp [go_sem, hB, c5]
      replace cf : ∀ o, W1.frozen? ⟨B, o, none⟩ = false := fun o => by rw [hE]; simp [go_sem, hB, cf]
      replace ov : votsR.O W1 base F (.slice a d.cast.length c) d.cast := by rw [hE]; exact Rep.setN _ (Rep.alloc _ ov _) _ hFB
      have hW1 : Below base w W1 := by rw [hE]; exact ((Below.refl _ _).alloc hbs _).setCell hbB _
      have hblk : ∃ ob, W1.heap[B]? = some (.cells ob 60) := by rw [hE]; exact heap_set (by show (w.heap.push _)[B]? = _; rw [Array.getElem?_push, if_neg (by omega)]; exact hblk)
      obtain ⟨ob, hblk⟩ := hblk
      have hBW : B < W1.heap.size := World.block_lt_of_cell? W1 _ c0
      have hWs : w.heap.size < W1.heap.size := World.block_lt_of_cell? W1 _ r0
      replace hbs : base ≤ W1.heap.size := by omega
      clear hE
      go_wp2
      refine wp_region_noPanic ?_
      refine region_upto (fun W => Below W1.heap.size W1 W ∧ (W.cell? ⟨w.heap.size, 0, none⟩ = some (.int .i64 v.bal) ∧ W.cell? ⟨w.heap.size, 1, none⟩ = some (.int .i64 v.val)) ∧ W.cell? ⟨B, 3, none⟩ = some (.int .i64 d.lb) ∧ W.cell? ⟨B, 4, none⟩ = some (.int .i64 d.lv)) 6 (by kernel_rfl) ⟨by (repeat (first | exact Below.refl _ _ | assumption | refine Below.drew ?_ | refine balloc ?_ _ | refine bset ?_ (by simp; omega) _ | refine bset ?_ (by simp) _ | refine bstep ?_ (by assumption))), ⟨cell_keep (by (repeat (first | exact Below.refl _ _ | assumption | refine Below.drew ?_ | refine balloc ?_ _ | refine bset ?_ (by simp; omega) _ | refine bset ?_ (by simp) _ | refine bstep ?_ (by assumption)))) r0, cell_keep (by (repeat (first | exact Below.refl _ _ | assumption | refine Below.drew ?_ | refine balloc ?_ _ | refine bset ?_ (by simp; omega) _ | refine bset ?_ (by simp) _ | refine bstep ?_ (by assumption)))) r1⟩, cell_keep (by (repeat (first | exact Below.refl _ _ | assumption | refine Below.drew ?_ | refine balloc ?_ _ | refine bset ?_ (by simp; omega) _ | refine bset ?_ (by simp) _ | refine bstep ?_ (by assumption)))) c3, cell_keep (by (repeat (first | exact Below.refl _ _ | assumption | refine Below.drew ?_ | refine balloc ?_ _ | refine bset ?_ (by simp; omega) _ | refine bset ?_ (by simp) _ | refine bstep ?_ (by assumption)))) c4⟩ (fun hS => ?_)
      refine upto_takeN (i := 0) (v := ?_) rfl (by kernel_rfl) (by kernel_rfl) (by kernel_rfl) (by kernel_rfl) (fun _ _ _ h => h) (by rfl) hS ?_ ?_
      rotate_left
      · intro wS hSw
        try dsimp only at hSw
        first | (go_simp; done) | (go_simp; with_reducible rfl)
      try simp only [Act.put, List.getElem_toArray, List.getElem_cons_zero, List.getElem_cons_succ, List.setIfInBounds_toArray, List.set_cons_zero, List.set_cons_succ]
      refine upto_takeN (i := 1) (v := ?_) rfl (by kernel_rfl) (by kernel_rfl) (by kernel_rfl) (by kernel_rfl) (fun _ _ _ h => h) (by rfl) hS ?_ ?_
      rotate_left
      · intro wS hSw
        try dsimp only at hSw
        first | (go_simp; done) | (go_simp; with_reducible rfl)
      try simp only [Act.put, List.getElem_toArray, List.getElem_cons_zero, List.getElem_cons_succ, List.setIfInBounds_toArray, List.set_cons_zero, List.set_cons_succ]
      refine upto_takeN (i := 2) (v := ?_) rfl (by kernel_rfl) (by kernel_rfl) (by kernel_rfl) (by kernel_rfl) (fun _ _ _ h => h) (by rfl) hS ?_ ?_
      rotate_left
      · intro wS hSw
        try dsimp only at hSw
        first | (go_simp; done) | (go_simp; with_reducible rfl)
      try simp only [Act.put, List.getElem_toArray, List.getElem_cons_zero, List.getElem_cons_succ, List.setIfInBounds_toArray, List.set_cons_zero, List.set_cons_succ]
      refine upto_takeN (i := 3) (v := ?_) rfl (by kernel_rfl) (by kernel_rfl) (by kernel_rfl) (by kernel_rfl) (fun _ _ _ h => h) (by rfl) hS ?_ ?_
      rotate_left
      · intro wS hSw
        try dsimp only at hSw
        first | (go_simp; done) | (go_simp; with_reducible rfl)
      try simp only [Act.put, List.getElem_toArray, List.getElem_cons_zero, List.getElem_cons_succ, List.setIfInBounds_toArray, List.set_cons_zero, List.set_cons_succ]
      refine upto_takeN (i := 4) (v := ?_) rfl (by kernel_rfl) (by kernel_rfl) (by kernel_rfl) (by kernel_rfl) (fun _ _ _ h => h) (by rfl) hS ?_ ?_
      rotate_left
      · intro wS hSw
        try dsimp only at hSw
        first | (go_simp; done) | (go_simp; with_reducible rfl)
      try simp only [Act.put, List.getElem_toArray, List.getElem_cons_zero, List.getElem_cons_succ, List.setIfInBounds_toArray, List.set_cons_zero, List.set_cons_succ]
      refine upto_step (i := 5) (by kernel_rfl) rfl ?_
      intro K hK
      go_simp
      refine (isOtherwise_any v ⟨d.lb, d.lv⟩ _).mono ?_
      rintro e w3 ⟨rfl, hb3⟩
      have hS3 : (fun W => Below W1.heap.size W1 W ∧ (W.cell? ⟨w.heap.size, 0, none⟩ = some (.int .i64 v.bal) ∧ W.cell? ⟨w.heap.size, 1, none⟩ = some (.int .i64 v.val)) ∧ W.cell? ⟨B, 3, none⟩ = some (.int .i64 d.lb) ∧ W.cell? ⟨B, 4, none⟩ = some (.int .i64 d.lv)) w3 := ⟨bstep hS.1 hb3, ⟨cell_keep hb3 hS.2.1.1, cell_keep hb3 hS.2.1.2⟩, cell_keep hb3 hS.2.2.1, cell_keep hb3 hS.2.2.2⟩
      refine hK _ _ (fun _ => hS3) ?_
      clear hK K hS hb3
      try simp only [Act.put, List.getElem_toArray, List.getElem_cons_zero, List.getElem_cons_succ, List.setIfInBounds_toArray, List.set_cons_zero, List.set_cons_succ]
      refine upto_done (by kernel_rfl) ?_
      refine NoPanic.normal ?_
      have hBr := hS3.1
      clear hS3
      replace c0 := cell_keep hBr c0
      replace c1 := cell_keep hBr c1
      replace c2 := cell_keep hBr c2
      replace c3 := cell_keep hBr c3
      replace c4 := cell_keep hBr c4
      replace c5 := cell_keep hBr c5
      replace r0 := cell_keep hBr r0
      replace r1 := cell_keep hBr r1
      replace cf : ∀ o, w3.frozen? ⟨B, o, none⟩ = false := fun o => by rw [(bcell hBr).2 _ _ hBW]; exact cf o
      replace hblk : w3.heap[B]? = some (.cells ob 60) := (hBr.block B hBW).trans hblk
      replace ov := votsR.keep ov hBr
      replace hW1 : Below base w w3 := hW1.trans (hBr.mono (by omega))
      replace hBW : B < w3.heap.size := Nat.lt_of_lt_of_le hBW hBr.size
      replace hWs : w.heap.size < w3.heap.size := World.block_lt_of_cell? w3 _ r0
      replace hbs : base ≤ w3.heap.size := Nat.le_trans hbs hBr.size
      clear hBr
      rw [ho]
      go_wp2
      refine wp_region_noPanic ?_
      refine region_upto (fun W => Below w3.heap.size w3 W ∧ (W.cell? ⟨w.heap.size, 0, none⟩ = some (.int .i64 v.bal) ∧ W.cell? ⟨w.heap.size, 1, none⟩ = some (.int .i64 v.val)) ∧ W.cell? ⟨B, 3, none⟩ = some (.int .i64 d.lb) ∧ W.cell? ⟨B, 4, none⟩ = some (.int .i64 d.lv)) 6 (by kernel_rfl) ⟨by (repeat (first | exact Below.refl _ _ | assumption | refine Below.drew ?_ | refine balloc ?_ _ | refine bset ?_ (by simp; omega) _ | refine bset ?_ (by simp) _ | refine bstep ?_ (by assumption))), ⟨cell_keep (by (repeat (first | exact Below.refl _ _ | assumption | refine Below.drew ?_ | refine balloc ?_ _ | refine bset ?_ (by simp; omega) _ | refine bset ?_ (by simp) _ | refine bstep ?_ (by assumption)))) r0, cell_keep (by (repeat (first | exact Below.refl _ _ | assumption | refine Below.drew ?_ | refine balloc ?_ _ | refine bset ?_ (by simp; omega) _ | refine bset ?_ (by simp) _ | refine bstep ?_ (by assumption)))) r1⟩, cell_keep (by (repeat (first | exact Below.refl _ _ | assumption | refine Below.drew ?_ | refine balloc ?_ _ | refine bset ?_ (by simp; omega) _ | refine bset ?_ (by simp) _ | refine bstep ?_ (by assumption)))) c3, cell_keep (by (repeat (first | exact Below.refl _ _ | assumption | refine Below.drew ?_ | refine balloc ?_ _ | refine bset ?_ (by simp; omega) _ | refine bset ?_ (by simp) _ | refine bstep ?_ (by assumption)))) c4⟩ (fun hS => ?_)
      refine upto_takeN (i := 0) (v := ?_) rfl (by kernel_rfl) (by kernel_rfl) (by kernel_rfl) (by kernel_rfl) (fun _ _ _ h => h) (by rfl) hS ?_ ?_
      rotate_left
      · intro wS hSw
        try dsimp only at hSw
        first | (go_simp; done) | (go_simp; with_reducible rfl)
      try simp only [Act.put, List.getElem_toArray, List.getElem_cons_zero, List.getElem_cons_succ, List.setIfInBounds_toArray, List.set_cons_zero, List.set_cons_succ]
      refine upto_takeN (i := 1) (v := ?_) rfl (by kernel_rfl) (by kernel_rfl) (by kernel_rfl) (by kernel_rfl) (fun _ _ _ h => h) (by rfl) hS ?_ ?_
      rotate_left
      · intro wS hSw
        try dsimp only at hSw
        first | (go_simp; done) | (go_simp; with_reducible rfl)
      try simp only [Act.put, List.getElem_toArray, List.getElem_cons_zero, List.getElem_cons_succ, List.setIfInBounds_toArray, List.set_cons_zero, List.set_cons_succ]
      refine upto_takeN (i := 2) (v := ?_) rfl (by kernel_rfl) (by kernel_rfl) (by kernel_rfl) (by kernel_rfl) (fun _ _ _ h => h) (by rfl) hS ?_ ?_
      rotate_left
      · intro wS hSw
        try dsimp only at hSw
        first | (go_simp; done) | (go_simp; with_reducible rfl)
      try simp only [Act.put, List.getElem_toArray, List.getElem_cons_zero, List.getElem_cons_succ, List.setIfInBounds_toArray, List.set_cons_zero, List.set_cons_succ]
      refine upto_takeN (i := 3) (v := ?_) rfl (by kernel_rfl) (by kernel_rfl) (by kernel_rfl) (by kernel_rfl) (fun _ _ _ h => h) (by rfl) hS ?_ ?_
      rotate_left
      · intro wS hSw
        try dsimp only at hSw
        first | (go_simp; done) | (go_simp; with_reducible rfl)
      try simp only [Act.put, List.getElem_toArray, List.getElem_cons_zero, List.getElem_cons_succ, List.setIfInBounds_toArray, List.set_cons_zero, List.set_cons_succ]
      refine upto_takeN (i := 4) (v := ?_) rfl (by kernel_rfl) (by kernel_rfl) (by kernel_rfl) (by kernel_rfl) (fun _ _ _ h => h) (by rfl) hS ?_ ?_
      rotate_left
      · intro wS hSw
        try dsimp only at hSw
        first | (go_simp; done) | (go_simp; with_reducible rfl)
      try simp only [Act.put, List.getElem_toArray, List.getElem_cons_zero, List.getElem_cons_succ, List.setIfInBounds_toArray, List.set_cons_zero, List.set_cons_succ]
      refine upto_takeN (i := 5) (v := (.bool true)) rfl (by kernel_rfl) (by kernel_rfl) (by kernel_rfl) (by kernel_rfl) (fun _ _ _ h => h) (by rfl) hS ?_ ?_
      · intro wS hSw
        try dsimp only at hSw
        go_simp
      try simp only [Act.put, List.getElem_toArray, List.getElem_cons_zero, List.getElem_cons_succ, List.setIfInBounds_toArray, List.set_cons_zero, List.set_cons_succ]
      refine upto_done (by kernel_rfl) ?_
      refine NoPanic.normal ?_
      clear hS
      go_wp2
      go_ret
      refine ⟨rfl, hW1.trans (Below.drew (Below.refl _ _) |>.mono hbs), fun _ => ⟨a, _, c, F, ⟨cell_keep (Below.drew (Below.refl _ _)) c0, cell_keep (Below.drew (Below.refl _ _)) c1, cell_keep (Below.drew (Below.refl _ _)) c2, ?_, ?_, cell_keep (Below.drew (Below.refl _ _)) c5⟩, votsR.keep ov (Below.drew (Below.refl _ _))⟩⟩
      · dsimp only
        rw [HE.out.1]
        exact cell_keep (Below.drew (Below.refl _ _)) c3
      · dsimp only
        rw [HE.out.2]
        exact cell_keep (Below.drew (Below.refl _ _)) c4
    · rw [accC_taken h1 h2 h3]
      have ho : otherB v ⟨d.lb, d.lv⟩ = true := by simp [otherB, h2, h3]
      clear h2 h3
      go_enter Try.func56, Try.ntmps56
      go_wp2_with fail
      refine (promise_ok B d.pr v.bal _ (by simp [go_sem, c2, hB]) (fun o => by simp [go_sem, cf, hB]) (by omega)).mono ?_
      rintro e W1 ⟨rfl, hE⟩
      have r0 : W1.cell? ⟨w.heap.size, 0, none⟩ = some (.int .i64 v.bal) := by rw [hE]; simp [go_sem, hB]; try omega
      have r1 : W1.cell? ⟨w.heap.size, 1, none⟩ = some (.int .i64 v.val) := by rw [hE]; simp [go_sem, hB]; try omega
      replace c0 : W1.cell? ⟨B, 0, none⟩ = some (.int .i64 d.con) := by rw [hE]; simp [go_sem, hB, c0]
      replace c1 : W1.cell? ⟨B, 1, none⟩ = some (.int .i64 d.sh) := by rw [hE]; simp [go_sem, hB, c1]
      replace c2 : W1.cell? ⟨B, 2, none⟩ = some (.int .i64 v.bal) := by rw [hE]; simp [go_sem, hB, c2]
      replace c3 : W1.cell? ⟨B, 3, none⟩ = some (.int .i64 d.lb) := by rw [hE]; simp [go_sem, hB, c3]
      replace c4 : W1.cell? ⟨B, 4, none⟩ = some (.int .i64 d.lv) := by rw [hE]; simp [go_sem, hB, c4]
      replace c5 : W1.cell? ⟨B, 5, none⟩ = some (.slice a d.cast.length c) := by rw [hE]; simp [go_sem, hB, c5]
      replace cf : ∀ o, W1.frozen? ⟨B, o, none⟩ = false := fun o => by rw [hE]; simp [go_sem, hB, cf]
      replace ov : votsR.O W1 base F (.slice a d.cast.length c) d.cast := by rw [hE]; exact Rep.setN _ (Rep.alloc _ ov _) _ hFB
      have hW1 : Below base w W1 := by rw [hE]; exact ((Below.refl _ _).alloc hbs _).setCell hbB _
      have hblk : ∃ ob, W1.heap[B]? = some (.cells ob 60) := by rw [hE]; exact heap_set (by show (w.heap.push _)[B]? = _; rw [Array.getElem?_push, if_neg (by omega)]; exact hblk)
      obtain ⟨ob, hblk⟩ := hblk
      have hBW : B < W1.heap.size := World.block_lt_of_cell? W1 _ c0
      have hWs : w.heap.size < W1.heap.size := World.block_lt_of_cell? W1 _ r0
      replace hbs : base ≤ W1.heap.size := by omega
      clear hE
      go_wp2
      refine wp_region_noPanic ?_
      refine region_upto (fun W => Below W1.heap.size W1 W ∧ (W.cell? ⟨w.heap.size, 0, none⟩ = some (.int .i64 v.bal) ∧ W.cell? ⟨w.heap.size, 1, none⟩ = some (.int .i64 v.val)) ∧ W.cell? ⟨B, 3, none⟩ = some (.int .i64 d.lb) ∧ W.cell? ⟨B, 4, none⟩ = some (.int .i64 d.lv)) 6 (by kernel_rfl) ⟨by (repeat (first | exact Below.refl _ _ | assumption | refine Below.drew ?_ | refine balloc ?_ _ | refine bset ?_ (by simp; omega) _ | refine bset ?_ (by simp) _ | refine bstep ?_ (by assumption))), ⟨cell_keep (by (repeat (first | exact Below.refl _ _ | assumption | refine Below.drew ?_ | refine balloc ?_ _ | refine bset ?_ (by simp; omega) _ | refine bset ?_ (by simp) _ | refine bstep ?_ (by assumption)))) r0, cell_keep (by (repeat (first | exact Below.refl _ _ | assumption | refine Below.drew ?_ | refine balloc ?_ _ | refine bset ?_ (by simp; omega) _ | refine bset ?_ (by simp) _ | refine bstep ?_ (by assumption)))) r1⟩, cell_keep (by (repeat (first | exact Below.refl _ _ | assumption | refine Below.drew ?_ | refine balloc ?_ _ | refine bset ?_ (by simp; omega) _ | refine bset ?_ (by simp) _ | refine bstep ?_ (by assumption)))) c3, cell_keep (by (repeat (first | exact Below.refl _ _ | assumption | refine Below.drew ?_ | refine balloc ?_ _ | refine bset ?_ (by simp; omega) _ | refine bset ?_ (by simp) _ | refine bstep ?_ (by assumption)))) c4⟩ (fun hS => ?_)
      refine upto_takeN (i := 0) (v := ?_) rfl (by kernel_rfl) (by kernel_rfl) (by kernel_rfl) (by kernel_rfl) (fun _ _ _ h => h) (by rfl) hS ?_ ?_
      rotate_left
      · intro wS hSw
        try dsimp only at hSw
        first | (go_simp; done) | (go_simp; with_reducible rfl)
      try simp only [Act.put, List.getElem_toArray, List.getElem_cons_zero, List.getElem_cons_succ, List.setIfInBounds_toArray, List.set_cons_zero, List.set_cons_succ]
      refine upto_takeN (i := 1) (v := ?_) rfl (by kernel_rfl) (by kernel_rfl) (by kernel_rfl) (by kernel_rfl) (fun _ _ _ h => h) (by rfl) hS ?_ ?_
      rotate_left
      · intro wS hSw
        try dsimp only at hSw
        first | (go_simp; done) | (go_simp; with_reducible rfl)
      try simp only [Act.put, List.getElem_toArray, List.getElem_cons_zero, List.getElem_cons_succ, List.setIfInBounds_toArray, List.set_cons_zero, List.set_cons_succ]
      refine upto_takeN (i := 2) (v := ?_) rfl (by kernel_rfl) (by kernel_rfl) (by kernel_rfl) (by kernel_rfl) (fun _ _ _ h => h) (by rfl) hS ?_ ?_
      rotate_left
      · intro wS hSw
        try dsimp only at hSw
        first | (go_simp; done) | (go_simp; with_reducible rfl)
      try simp only [Act.put, List.getElem_toArray, List.getElem_cons_zero, List.getElem_cons_succ, List.setIfInBounds_toArray, List.set_cons_zero, List.set_cons_succ]
      refine upto_takeN (i := 3) (v := ?_) rfl (by kernel_rfl) (by kernel_rfl) (by kernel_rfl) (by kernel_rfl) (fun _ _ _ h => h) (by rfl) hS ?_ ?_
      rotate_left
      · intro wS hSw
        try dsimp only at hSw
        first | (go_simp; done) | (go_simp; with_reducible rfl)
      try simp only [Act.put, List.getElem_toArray, List.getElem_cons_zero, List.getElem_cons_succ, List.setIfInBounds_toArray, List.set_cons_zero, List.set_cons_succ]
      refine upto_takeN (i := 4) (v := ?_) rfl (by kernel_rfl) (by kernel_rfl) (by kernel_rfl) (by kernel_rfl) (fun _ _ _ h => h) (by rfl) hS ?_ ?_
      rotate_left
      · intro wS hSw
        try dsimp only at hSw
        first | (go_simp; done) | (go_simp; with_reducible rfl)
      try simp only [Act.put, List.getElem_toArray, List.getElem_cons_zero, List.getElem_cons_succ, List.setIfInBounds_toArray, List.set_cons_zero, List.set_cons_succ]
      refine upto_step (i := 5) (by kernel_rfl) rfl ?_
      intro K hK
      go_simp
      refine (isOtherwise_any v ⟨d.lb, d.lv⟩ _).mono ?_
      rintro e w3 ⟨rfl, hb3⟩
      have hS3 : (fun W => Below W1.heap.size W1 W ∧ (W.cell? ⟨w.heap.size, 0, none⟩ = some (.int .i64 v.bal) ∧ W.cell? ⟨w.heap.size, 1, none⟩ = some (.int .i64 v.val)) ∧ W.cell? ⟨B, 3, none⟩ = some (.int .i64 d.lb) ∧ W.cell? ⟨B, 4, none⟩ = some (.int .i64 d.lv)) w3 := ⟨bstep hS.1 hb3, ⟨cell_keep hb3 hS.2.1.1, cell_keep hb3 hS.2.1.2⟩, cell_keep hb3 hS.2.2.1, cell_keep hb3 hS.2.2.2⟩
      refine hK _ _ (fun _ => hS3) ?_
      clear hK K hS hb3
      try simp only [Act.put, List.getElem_toArray, List.getElem_cons_zero, List.getElem_cons_succ, List.setIfInBounds_toArray, List.set_cons_zero, List.set_cons_succ]
      refine upto_done (by kernel_rfl) ?_
      refine NoPanic.normal ?_
      have hBr := hS3.1
      clear hS3
      replace c0 := cell_keep hBr c0
      replace c1 := cell_keep hBr c1
      replace c2 := cell_keep hBr c2
      replace c3 := cell_keep hBr c3
      replace c4 := cell_keep hBr c4
      replace c5 := cell_keep hBr c5
      replace r0 := cell_keep hBr r0
      replace r1 := cell_keep hBr r1
      replace cf : ∀ o, w3.frozen? ⟨B, o, none⟩ = false := fun o => by rw [(bcell hBr).2 _ _ hBW]; exact cf o
      replace hblk : w3.heap[B]? = some (.cells ob 60) := (hBr.block B hBW).trans hblk
      replace ov := votsR.keep ov hBr
      replace hW1 : Below base w w3 := hW1.trans (hBr.mono (by omega))
      replace hBW : B < w3.heap.size := Nat.lt_of_lt_of_le hBW hBr.size
      replace hWs : w.heap.size < w3.heap.size := World.block_lt_of_cell? w3 _ r0
      replace hbs : base ≤ w3.heap.size := Nat.le_trans hbs hBr.size
      clear hBr
      rw [ho]
      go_wp2
      go_ret
      exact ⟨rfl, hW1, fun h => absurd h (by omega)⟩
  have heq : ∀ w, (binOp .eql 25 (.agg #[.int .i64 v.bal, .int .i64 v.val]) (.agg #[.int .i64 d.lb, .int .i64 d.lv])).run Try.prog w = .ok (.bool false) w := fun w => by rw [eqlVot]; simp [h2]
  have ho : otherB v ⟨d.lb, d.lv⟩ = false := by simp [otherB, h2]
  by_cases h4 : 60 ≤ d.cast.length
  · rw [accC_many h1 h2 h4]
    have h5 : d.cast.length = 60 := by omega
    clear h2
    go_enter Try.func56, Try.ntmps56
    go_wp2_with fail
    refine (promise_ok B d.pr v.bal _ (by simp [go_sem, c2, hB]) (fun o => by simp [go_sem, cf, hB]) (by omega)).mono ?_
    rintro e W1 ⟨rfl, hE⟩
    have r0 : W1.cell? ⟨w.heap.size, 0, none⟩ = some (.int .i64 v.bal) := by rw [hE]; simp [go_sem, hB]; try omega
    have r1 : W1.cell? ⟨w.heap.size, 1, none⟩ = some (.int .i64 v.val) := by rw [hE]; simp [go_sem, hB]; try omega
    replace c0 : W1.cell? ⟨B, 0, none⟩ = some (.int .i64 d.con) := by rw [hE]; simp [go_sem, hB, c0]
    replace c1 : W1.cell? ⟨B, 1, none⟩ = some (.int .i64 d.sh) := by rw [hE]; simp [go_sem, hB, c1]
    replace c2 : W1.cell? ⟨B, 2, none⟩ = some (.int .i64 v.bal) := by rw [hE]; simp [go_sem, hB, c2]
    replace c3 : W1.cell? ⟨B, 3, none⟩ = some (.int .i64 d.lb) := by rw [hE]; simp [go_sem, hB, c3]
    replace c4 : W1.cell? ⟨B, 4, none⟩ = some (.int .i64 d.lv) := by rw [hE]; simp [go_sem, hB, c4]
    replace c5 : W1.cell? ⟨B, 5, none⟩ = some (.slice a d.cast.length c) := by rw [hE]; simp [go_sem, hB, c5]
    replace cf : ∀ o, W1.frozen? ⟨B, o, none⟩ = false := fun o => by rw [hE]; simp [go_sem, hB, cf]
    replace ov : votsR.O W1 base F (.slice a d.cast.length c) d.cast := by rw [hE]; exact Rep.setN _ (Rep.alloc _ ov _) _ hFB
    have hW1 : Below base w W1 := by rw [hE]; exact ((Below.refl _ _).alloc hbs _).setCell hbB _
    have hblk : ∃ ob, W1.heap[B]? = some (.cells ob 60) := by rw [hE]; exact heap_set (by show (w.heap.push _)[B]? = _; rw [Array.getElem?_push, if_neg (by omega)]; exact hblk)
    obtain ⟨ob, hblk⟩ := hblk
    have hBW : B < W1.heap.size := World.block_lt_of_cell? W1 _ c0
    have hWs : w.heap.size < W1.heap.size := World.block_lt_of_cell? W1 _ r0
    replace hbs : base ≤ W1.heap.size := by omega
    clear hE
    go_wp2
    refine wp_region_noPanic ?_
    refine region_upto (fun W => Below W1.heap.size W1 W ∧ (W.cell? ⟨w.heap.size, 0, none⟩ = some (.int .i64 v.bal) ∧ W.cell? ⟨w.heap.size, 1, none⟩ = some (.int .i64 v.val)) ∧ W.cell? ⟨B, 3, none⟩ = some (.int .i64 d.lb) ∧ W.cell? ⟨B, 4, none⟩ = some (.int .i64 d.lv)) 6 (by kernel_rfl) ⟨by (repeat (first | exact Below.refl _ _ | assumption | refine Below.drew ?_ | refine balloc ?_ _ | refine bset ?_ (by simp; omega) _ | refine bset ?_ (by simp) _ | refine bstep ?_ (by assumption))), ⟨cell_keep (by (repeat (first | exact Below.refl _ _ | assumption | refine Below.drew ?_ | refine balloc ?_ _ | refine bset ?_ (by simp; omega) _ | refine bset ?_ (by simp) _ | refine bstep ?_ (by assumption)))) r0, cell_keep (by (repeat (first | exact Below.refl _ _ | assumption | refine Below.drew ?_ | refine balloc ?_ _ | refine bset ?_ (by simp; omega) _ | refine bset ?_ (by simp) _ | refine bstep ?_ (by assumption)))) r1⟩, cell_keep (by (repeat (first | exact Below.refl _ _ | assumption | refine Below.drew ?_ | refine balloc ?_ _ | refine bset ?_ (by simp; omega) _ | refine bset ?_ (by simp) _ | refine bstep ?_ (by assumption)))) c3, cell_keep (by (repeat (first | exact Below.refl _ _ | assumption | refine Below.drew ?_ | refine balloc ?_ _ | refine bset ?_ (by simp; omega) _ | refine bset ?_ (by simp) _ | refine bstep ?_ (by assumption)))) c4⟩ (fun hS => ?_)
    refine upto_takeN (i := 0) (v := ?_) rfl (by kernel_rfl) (by kernel_rfl) (by kernel_rfl) (by kernel_rfl) (fun _ _ _ h => h) (by rfl) hS ?_ ?_
    rotate_left
    · intro wS hSw
      try dsimp only at hSw
      first | (go_simp; done) | (go_simp; with_reducible rfl)
    try simp only [Act.put, List.getElem_toArray, List.getElem_cons_zero, List.getElem_cons_succ, List.setIfInBounds_toArray, List.set_cons_zero, List.set_cons_succ]
    refine upto_takeN (i := 1) (v := ?_) rfl (by kernel_rfl) (by kernel_rfl) (by kernel_rfl) (by kernel_rfl) (fun _ _ _ h => h) (by rfl) hS ?_ ?_
    rotate_left
    · intro wS hSw
      try dsimp only at hSw
      first | (go_simp; done) | (go_simp; with_reducible rfl)
    try simp only [Act.put, List.getElem_toArray, List.getElem_cons_zero, List.getElem_cons_succ, List.setIfInBounds_toArray, List.set_cons_zero, List.set_cons_succ]
    refine upto_takeN (i := 2) (v := ?_) rfl (by kernel_rfl) (by kernel_rfl) (by kernel_rfl) (by kernel_rfl) (fun _ _ _ h => h) (by rfl) hS ?_ ?_
    rotate_left
    · intro wS hSw
      try dsimp only at hSw
      first | (go_simp; done) | (go_simp; with_reducible rfl)
    try simp only [Act.put, List.getElem_toArray, List.getElem_cons_zero, List.getElem_cons_succ, List.setIfInBounds_toArray, List.set_cons_zero, List.set_cons_succ]
    refine upto_takeN (i := 3) (v := ?_) rfl (by kernel_rfl) (by kernel_rfl) (by kernel_rfl) (by kernel_rfl) (fun _ _ _ h => h) (by rfl) hS ?_ ?_
    rotate_left
    · intro wS hSw
      try dsimp only at hSw
      first | (go_simp; done) | (go_simp; with_reducible rfl)
    try simp only [Act.put, List.getElem_toArray, List.getElem_cons_zero, List.getElem_cons_succ, List.setIfInBounds_toArray, List.set_cons_zero, List.set_cons_succ]
    refine upto_takeN (i := 4) (v := ?_) rfl (by kernel_rfl) (by kernel_rfl) (by kernel_rfl) (by kernel_rfl) (fun _ _ _ h => h) (by rfl) hS ?_ ?_
    rotate_left
    · intro wS hSw
      try dsimp only at hSw
      first | (go_simp; done) | (go_simp; with_reducible rfl)
    try simp only [Act.put, List.getElem_toArray, List.getElem_cons_zero, List.getElem_cons_succ, List.setIfInBounds_toArray, List.set_cons_zero, List.set_cons_succ]
    refine upto_step (i := 5) (by kernel_rfl) rfl ?_
    intro K hK
    go_simp
    refine (isOtherwise_any v ⟨d.lb, d.lv⟩ _).mono ?_
    rintro e w3 ⟨rfl, hb3⟩
    have hS3 : (fun W => Below W1.heap.size W1 W ∧ (W.cell? ⟨w.heap.size, 0, none⟩ = some (.int .i64 v.bal) ∧ W.cell? ⟨w.heap.size, 1, none⟩ = some (.int .i64 v.val)) ∧ W.cell? ⟨B, 3, none⟩ = some (.int .i64 d.lb) ∧ W.cell? ⟨B, 4, none⟩ = some (.int .i64 d.lv)) w3 := ⟨bstep hS.1 hb3, ⟨cell_keep hb3 hS.2.1.1, cell_keep hb3 hS.2.1.2⟩, cell_keep hb3 hS.2.2.1, cell_keep hb3 hS.2.2.2⟩
    refine hK _ _ (fun _ => hS3) ?_
    clear hK K hS hb3
    try simp only [Act.put, List.getElem_toArray, List.getElem_cons_zero, List.getElem_cons_succ, List.setIfInBounds_toArray, List.set_cons_zero, List.set_cons_succ]
    refine upto_done (by kernel_rfl) ?_
    refine NoPanic.normal ?_
    have hBr := hS3.1
    clear hS3
    replace c0 := cell_keep hBr c0
    replace c1 := cell_keep hBr c1
    replace c2 := cell_keep hBr c2
    replace c3 := cell_keep hBr c3
    replace c4 := cell_keep hBr c4
    replace c5 := cell_keep hBr c5
    replace r0 := cell_keep hBr r0
    replace r1 := cell_keep hBr r1
    replace cf : ∀ o, w3.frozen? ⟨B, o, none⟩ = false := fun o => by rw [(bcell hBr).2 _ _ hBW]; exact cf o
    replace hblk : w3.heap[B]? = some (.cells ob 60) := (hBr.block B hBW).trans hblk
    replace ov := votsR.keep ov hBr
    replace hW1 : Below base w w3 := hW1.trans (hBr.mono (by omega))
    replace hBW : B < w3.heap.size := Nat.lt_of_lt_of_le hBW hBr.size
    replace hWs : w.heap.size < w3.heap.size := World.block_lt_of_cell? w3 _ r0
    replace hbs : base ≤ w3.heap.size := Nat.le_trans hbs hBr.size
    clear hBr
    rw [ho]
    go_wp2
    refine wp_region_noPanic ?_
    refine region_upto (fun W => Below w3.heap.size w3 W ∧ (W.cell? ⟨w.heap.size, 0, none⟩ = some (.int .i64 v.bal) ∧ W.cell? ⟨w.heap.size, 1, none⟩ = some (.int .i64 v.val)) ∧ W.cell? ⟨B, 3, none⟩ = some (.int .i64 d.lb) ∧ W.cell? ⟨B, 4, none⟩ = some (.int .i64 d.lv)) 6 (by kernel_rfl) ⟨by (repeat (first | exact Below.refl _ _ | assumption | refine Below.drew ?_ | refine balloc ?_ _ | refine bset ?_ (by simp; omega) _ | refine bset ?_ (by simp) _ | refine bstep ?_ (by assumption))), ⟨cell_keep (by (repeat (first | exact Below.refl _ _ | assumption | refine Below.drew ?_ | refine balloc ?_ _ | refine bset ?_ (by simp; omega) _ | refine bset ?_ (by simp) _ | refine bstep ?_ (by assumption)))) r0, cell_keep (by (repeat (first | exact Below.refl _ _ | assumption | refine Below.drew ?_ | refine balloc ?_ _ | refine bset ?_ (by simp; omega) _ | refine bset ?_ (by simp) _ | refine bstep ?_ (by assumption)))) r1⟩, cell_keep (by (repeat (first | exact Below.refl _ _ | assumption | refine Below.drew ?_ | refine balloc ?_ _ | refine bset ?_ (by simp; omega) _ | refine bset ?_ (by simp) _ | refine bstep ?_ (by assumption)))) c3, cell_keep (by (repeat (first | exact Below.refl _ _ | assumption | refine Below.drew ?_ | refine balloc ?_ _ | refine bset ?_ (by simp; omega) _ | refine bset ?_ (by simp) _ | refine bstep ?_ (by assumption)))) c4⟩ (fun hS => ?_)
    refine upto_takeN (i := 0) (v := ?_) rfl (by kernel_rfl) (by kernel_rfl) (by kernel_rfl) (by kernel_rfl) (fun _ _ _ h => h) (by rfl) hS ?_ ?_
    rotate_left
    · intro wS hSw
      try dsimp only at hSw
      first | (go_simp; done) | (go_simp; with_reducible rfl)
    try simp only [Act.put, List.getElem_toArray, List.getElem_cons_zero, List.getElem_cons_succ, List.setIfInBounds_toArray, List.set_cons_zero, List.set_cons_succ]
    refine upto_takeN (i := 1) (v := ?_) rfl (by kernel_rfl) (by kernel_rfl) (by kernel_rfl) (by kernel_rfl) (fun _ _ _ h => h) (by rfl) hS ?_ ?_
    rotate_left
    · intro wS hSw
      try dsimp only at hSw
      first | (go_simp; done) | (go_simp; with_reducible rfl)
    try simp only [Act.put, List.getElem_toArray, List.getElem_cons_zero, List.getElem_cons_succ, List.setIfInBounds_toArray, List.set_cons_zero, List.set_cons_succ]
    refine upto_takeN (i := 2) (v := ?_) rfl (by kernel_rfl) (by kernel_rfl) (by kernel_rfl) (by kernel_rfl) (fun _ _ _ h => h) (by rfl) hS ?_ ?_
    rotate_left
    · intro wS hSw
      try dsimp only at hSw
      first | (go_simp; done) | (go_simp; with_reducible rfl)
    try simp only [Act.put, List.getElem_toArray, List.getElem_cons_zero, List.getElem_cons_succ, List.setIfInBounds_toArray, List.set_cons_zero, List.set_cons_succ]
    refine upto_takeN (i := 3) (v := ?_) rfl (by kernel_rfl) (by kernel_rfl) (by kernel_rfl) (by kernel_rfl) (fun _ _ _ h => h) (by rfl) hS ?_ ?_
    rotate_left
    · intro wS hSw
      try dsimp only at hSw
      first | (go_simp; done) | (go_simp; with_reducible rfl)
    try simp only [Act.put, List.getElem_toArray, List.getElem_cons_zero, List.getElem_cons_succ, List.setIfInBounds_toArray, List.set_cons_zero, List.set_cons_succ]
    refine upto_takeN (i := 4) (v := ?_) rfl (by kernel_rfl) (by kernel_rfl) (by kernel_rfl) (by kernel_rfl) (fun _ _ _ h => h) (by rfl) hS ?_ ?_
    rotate_left
    · intro wS hSw
      try dsimp only at hSw
      first | (go_simp; done) | (go_simp; with_reducible rfl)
    try simp only [Act.put, List.getElem_toArray, List.getElem_cons_zero, List.getElem_cons_succ, List.setIfInBounds_toArray, List.set_cons_zero, List.set_cons_succ]
    refine upto_takeN (i := 5) (v := (.bool false)) rfl (by kernel_rfl) (by kernel_rfl) (by kernel_rfl) (by kernel_rfl) (fun _ _ _ h => h) (by rfl) hS ?_ ?_
    · intro wS hSw
      try dsimp only at hSw
      go_simp
    try simp only [Act.put, List.getElem_toArray, List.getElem_cons_zero, List.getElem_cons_succ, List.setIfInBounds_toArray, List.set_cons_zero, List.set_cons_succ]
    refine upto_done (by kernel_rfl) ?_
    refine NoPanic.normal ?_
    clear hS
    rw [h5] at c5
    clear ov h5
    go_wp2
    go_ret
    exact ⟨rfl, hW1.trans (Below.drew (Below.refl _ _) |>.mono hbs), fun h => absurd h (by omega)⟩
  · rw [accC_new h1 h2 h4, accS_new h2]
    have h5 : ((d.cast.length : Int) == 60) = false := by simp; omega
    clear h2
    go_enter Try.func56, Try.ntmps56
    go_wp2_with fail
    refine (promise_ok B d.pr v.bal _ (by simp [go_sem, c2, hB]) (fun o => by simp [go_sem, cf, hB]) (by omega)).mono ?_
    rintro e W1 ⟨rfl, hE⟩
    have r0 : W1.cell? ⟨w.heap.size, 0, none⟩ = some (.int .i64 v.bal) := by rw [hE]; simp [go_sem, hB]; try omega
    have r1 : W1.cell? ⟨w.heap.size, 1, none⟩ = some (.int .i64 v.val) := by rw [hE]; simp [go_sem, hB]; try omega
    replace c0 : W1.cell? ⟨B, 0, none⟩ = some (.int .i64 d.con) := by rw [hE]; simp [go_sem, hB, c0]
    replace c1 : W1.cell? ⟨B, 1, none⟩ = some (.int .i64 d.sh) := by rw [hE]; simp [go_sem, hB, c1]
    replace c2 : W1.cell? ⟨B, 2, none⟩ = some (.int .i64 v.bal) := by rw [hE]; simp [go_sem, hB, c2]
    replace c3 : W1.cell? ⟨B, 3, none⟩ = some (.int .i64 d.lb) := by rw [hE]; simp [go_sem, hB, c3]
    replace c4 : W1.cell? ⟨B, 4, none⟩ = some (.int .i64 d.lv) := by rw [hE]; simp [go_sem, hB, c4]
    replace c5 : W1.cell? ⟨B, 5, none⟩ = some (.slice a d.cast.length c) := by rw [hE]; simp [go_sem, hB, c5]
    replace cf : ∀ o, W1.frozen? ⟨B, o, none⟩ = false := fun o => by rw [hE]; simp [go_sem, hB, cf]
    replace ov : votsR.O W1 base F (.slice a d.cast.length c) d.cast := by rw [hE]; exact Rep.setN _ (Rep.alloc _ ov _) _ hFB
    have hW1 : Below base w W1 := by rw [hE]; exact ((Below.refl _ _).alloc hbs _).setCell hbB _
    have hblk : ∃ ob, W1.heap[B]? = some (.cells ob 60) := by rw [hE]; exact heap_set (by show (w.heap.push _)[B]? = _; rw [Array.getElem?_push, if_neg (by omega)]; exact hblk)
    obtain ⟨ob, hblk⟩ := hblk
    have hBW : B < W1.heap.size := World.block_lt_of_cell? W1 _ c0
    have hWs : w.heap.size < W1.heap.size := World.block_lt_of_cell? W1 _ r0
    replace hbs : base ≤ W1.heap.size := by omega
    clear hE
    go_wp2
    refine wp_region_noPanic ?_
    refine region_upto (fun W => Below W1.heap.size W1 W ∧ (W.cell? ⟨w.heap.size, 0, none⟩ = some (.int .i64 v.bal) ∧ W.cell? ⟨w.heap.size, 1, none⟩ = some (.int .i64 v.val)) ∧ W.cell? ⟨B, 3, none⟩ = some (.int .i64 d.lb) ∧ W.cell? ⟨B, 4, none⟩ = some (.int .i64 d.lv)) 6 (by kernel_rfl) ⟨by (repeat (first | exact Below.refl _ _ | assumption | refine Below.drew ?_ | refine balloc ?_ _ | refine bset ?_ (by simp; omega) _ | refine bset ?_ (by simp) _ | refine bstep ?_ (by assumption))), ⟨cell_keep (by (repeat (first | exact Below.refl _ _ | assumption | refine Below.drew ?_ | refine balloc ?_ _ | refine bset ?_ (by simp; omega) _ | refine bset ?_ (by simp) _ | refine bstep ?_ (by assumption)))) r0, cell_keep (by (repeat (first | exact Below.refl _ _ | assumption | refine Below.drew ?_ | refine balloc ?_ _ | refine bset ?_ (by simp; omega) _ | refine bset ?_ (by simp) _ | refine bstep ?_ (by assumption)))) r1⟩, cell_keep (by (repeat (first | exact Below.refl _ _ | assumption | refine Below.drew ?_ | refine balloc ?_ _ | refine bset ?_ (by simp; omega) _ | refine bset ?_ (by simp) _ | refine bstep ?_ (by assumption)))) c3, cell_keep (by (repeat (first | exact Below.refl _ _ | assumption | refine Below.drew ?_ | refine balloc ?_ _ | refine bset ?_ (by simp; omega) _ | refine bset ?_ (by simp) _ | refine bstep ?_ (by assumption)))) c4⟩ (fun hS => ?_)
    refine upto_takeN (i := 0) (v := ?_) rfl (by kernel_rfl) (by kernel_rfl) (by kernel_rfl) (by kernel_rfl) (fun _ _ _ h => h) (by rfl) hS ?_ ?_
    rotate_left
    · intro wS hSw
      try dsimp only at hSw
      first | (go_simp; done) | (go_simp; with_reducible rfl)
    try simp only [Act.put, List.getElem_toArray, List.getElem_cons_zero, List.getElem_cons_succ, List.setIfInBounds_toArray, List.set_cons_zero, List.set_cons_succ]
    refine upto_takeN (i := 1) (v := ?_) rfl (by kernel_rfl) (by kernel_rfl) (by kernel_rfl) (by kernel_rfl) (fun _ _ _ h => h) (by rfl) hS ?_ ?_
    rotate_left
    · intro wS hSw
      try dsimp only at hSw
      first | (go_simp; done) | (go_simp; with_reducible rfl)
    try simp only [Act.put, List.getElem_toArray, List.getElem_cons_zero, List.getElem_cons_succ, List.setIfInBounds_toArray, List.set_cons_zero, List.set_cons_succ]
    refine upto_takeN (i := 2) (v := ?_) rfl (by kernel_rfl) (by kernel_rfl) (by kernel_rfl) (by kernel_rfl) (fun _ _ _ h => h) (by rfl) hS ?_ ?_
    rotate_left
    · intro wS hSw
      try dsimp only at hSw
      first | (go_simp; done) | (go_simp; with_reducible rfl)
    try simp only [Act.put, List.getElem_toArray, List.getElem_cons_zero, List.getElem_cons_succ, List.setIfInBounds_toArray, List.set_cons_zero, List.set_cons_succ]
    refine upto_takeN (i := 3) (v := ?_) rfl (by kernel_rfl) (by kernel_rfl) (by kernel_rfl) (by kernel_rfl) (fun _ _ _ h => h) (by rfl) hS ?_ ?_
    rotate_left
    · intro wS hSw
      try dsimp only at hSw
      first | (go_simp; done) | (go_simp; with_reducible rfl)
    try simp only [Act.put, List.getElem_toArray, List.getElem_cons_zero, List.getElem_cons_succ, List.setIfInBounds_toArray, List.set_cons_zero, List.set_cons_succ]
    refine upto_takeN (i := 4) (v := ?_) rfl (by kernel_rfl) (by kernel_rfl) (by kernel_rfl) (by kernel_rfl) (fun _ _ _ h => h) (by rfl) hS ?_ ?_
    rotate_left
    · intro wS hSw
      try dsimp only at hSw
      first | (go_simp; done) | (go_simp; with_reducible rfl)
    try simp only [Act.put, List.getElem_toArray, List.getElem_cons_zero, List.getElem_cons_succ, List.setIfInBounds_toArray, List.set_cons_zero, List.set_cons_succ]
    refine upto_step (i := 5) (by kernel_rfl) rfl ?_
    intro K hK
    go_simp
    refine (isOtherwise_any v ⟨d.lb, d.lv⟩ _).mono ?_
    rintro e w3 ⟨rfl, hb3⟩
    have hS3 : (fun W => Below W1.heap.size W1 W ∧ (W.cell? ⟨w.heap.size, 0, none⟩ = some (.int .i64 v.bal) ∧ W.cell? ⟨w.heap.size, 1, none⟩ = some (.int .i64 v.val)) ∧ W.cell? ⟨B, 3, none⟩ = some (.int .i64 d.lb) ∧ W.cell? ⟨B, 4, none⟩ = some (.int .i64 d.lv)) w3 := ⟨bstep hS.1 hb3, ⟨cell_keep hb3 hS.2.1.1, cell_keep hb3 hS.2.1.2⟩, cell_keep hb3 hS.2.2.1, cell_keep hb3 hS.2.2.2⟩
    refine hK _ _ (fun _ => hS3) ?_
    clear hK K hS hb3
    try simp only [Act.put, List.getElem_toArray, List.getElem_cons_zero, List.getElem_cons_succ, List.setIfInBounds_toArray, List.set_cons_zero, List.set_cons_succ]
    refine upto_done (by kernel_rfl) ?_
    refine NoPanic.normal ?_
    have hBr := hS3.1
    clear hS3
    replace c0 := cell_keep hBr c0
    replace c1 := cell_keep hBr c1
    replace c2 := cell_keep hBr c2
    replace c3 := cell_keep hBr c3
    replace c4 := cell_keep hBr c4
    replace c5 := cell_keep hBr c5
    replace r0 := cell_keep hBr r0
    replace r1 := cell_keep hBr r1
    replace cf : ∀ o, w3.frozen? ⟨B, o, none⟩ = false := fun o => by rw [(bcell hBr).2 _ _ hBW]; exact cf o
    replace hblk : w3.heap[B]? = some (.cells ob 60) := (hBr.block B hBW).trans hblk
    replace ov := votsR.keep ov hBr
    replace hW1 : Below base w w3 := hW1.trans (hBr.mono (by omega))
    replace hBW : B < w3.heap.size := Nat.lt_of_lt_of_le hBW hBr.size
    replace hWs : w.heap.size < w3.heap.size := World.block_lt_of_cell? w3 _ r0
    replace hbs : base ≤ w3.heap.size := Nat.le_trans hbs hBr.size
    clear hBr
    rw [ho]
    go_wp2
    refine wp_region_noPanic ?_
    refine region_upto (fun W => Below w3.heap.size w3 W ∧ (W.cell? ⟨w.heap.size, 0, none⟩ = some (.int .i64 v.bal) ∧ W.cell? ⟨w.heap.size, 1, none⟩ = some (.int .i64 v.val)) ∧ W.cell? ⟨B, 3, none⟩ = some (.int .i64 d.lb) ∧ W.cell? ⟨B, 4, none⟩ = some (.int .i64 d.lv)) 6 (by kernel_rfl) ⟨by (repeat (first | exact Below.refl _ _ | assumption | refine Below.drew ?_ | refine balloc ?_ _ | refine bset ?_ (by simp; omega) _ | refine bset ?_ (by simp) _ | refine bstep ?_ (by assumption))), ⟨cell_keep (by (repeat (first | exact Below.refl _ _ | assumption | refine Below.drew ?_ | refine balloc ?_ _ | refine bset ?_ (by simp; omega) _ | refine bset ?_ (by simp) _ | refine bstep ?_ (by assumption)))) r0, cell_keep (by (repeat (first | exact Below.refl _ _ | assumption | refine Below.drew ?_ | refine balloc ?_ _ | refine bset ?_ (by simp; omega) _ | refine bset ?_ (by simp) _ | refine bstep ?_ (by assumption)))) r1⟩, cell_keep (by (repeat (first | exact Below.refl _ _ | assumption | refine Below.drew ?_ | refine balloc ?_ _ | refine bset ?_ (by simp; omega) _ | refine bset ?_ (by simp) _ | refine bstep ?_ (by assumption)))) c3, cell_keep (by (repeat (first | exact Below.refl _ _ | assumption | refine Below.drew ?_ | refine balloc ?_ _ | refine bset ?_ (by simp; omega) _ | refine bset ?_ (by simp) _ | refine bstep ?_ (by assumption)))) c4⟩ (fun hS => ?_)
    refine upto_takeN (i := 0) (v := ?_) rfl (by kernel_rfl) (by kernel_rfl) (by kernel_rfl) (by kernel_rfl) (fun _ _ _ h => h) (by rfl) hS ?_ ?_
    rotate_left
    · intro wS hSw
      try dsimp only at hSw
      first | (go_simp; done) | (go_simp; with_reducible rfl)
    try simp only [Act.put, List.getElem_toArray, List.getElem_cons_zero, List.getElem_cons_succ, List.setIfInBounds_toArray, List.set_cons_zero, List.set_cons_succ]
    refine upto_takeN (i := 1) (v := ?_) rfl (by kernel_rfl) (by kernel_rfl) (by kernel_rfl) (by kernel_rfl) (fun _ _ _ h => h) (by rfl) hS ?_ ?_
    rotate_left
    · intro wS hSw
      try dsimp only at hSw
      first | (go_simp; done) | (go_simp; with_reducible rfl)
    try simp only [Act.put, List.getElem_toArray, List.getElem_cons_zero, List.getElem_cons_succ, List.setIfInBounds_toArray, List.set_cons_zero, List.set_cons_succ]
    refine upto_takeN (i := 2) (v := ?_) rfl (by kernel_rfl) (by kernel_rfl) (by kernel_rfl) (by kernel_rfl) (fun _ _ _ h => h) (by rfl) hS ?_ ?_
    rotate_left
    · intro wS hSw
      try dsimp only at hSw
      first | (go_simp; done) | (go_simp; with_reducible rfl)
    try simp only [Act.put, List.getElem_toArray, List.getElem_cons_zero, List.getElem_cons_succ, List.setIfInBounds_toArray, List.set_cons_zero, List.set_cons_succ]
    refine upto_takeN (i := 3) (v := ?_) rfl (by kernel_rfl) (by kernel_rfl) (by kernel_rfl) (by kernel_rfl) (fun _ _ _ h => h) (by rfl) hS ?_ ?_
    rotate_left
    · intro wS hSw
      try dsimp only at hSw
      first | (go_simp; done) | (go_simp; with_reducible rfl)
    try simp only [Act.put, List.getElem_toArray, List.getElem_cons_zero, List.getElem_cons_succ, List.setIfInBounds_toArray, List.set_cons_zero, List.set_cons_succ]
    refine upto_takeN (i := 4) (v := ?_) rfl (by kernel_rfl) (by kernel_rfl) (by kernel_rfl) (by kernel_rfl) (fun _ _ _ h => h) (by rfl) hS ?_ ?_
    rotate_left
    · intro wS hSw
      try dsimp only at hSw
      first | (go_simp; done) | (go_simp; with_reducible rfl)
    try simp only [Act.put, List.getElem_toArray, List.getElem_cons_zero, List.getElem_cons_succ, List.setIfInBounds_toArray, List.set_cons_zero, List.set_cons_succ]
    refine upto_takeN (i := 5) (v := (.bool false)) rfl (by kernel_rfl) (by kernel_rfl) (by kernel_rfl) (by kernel_rfl) (fun _ _ _ h => h) (by rfl) hS ?_ ?_
    · intro wS hSw
      try dsimp only at hSw
      go_simp
    try simp only [Act.put, List.getElem_toArray, List.getElem_cons_zero, List.getElem_cons_succ, List.setIfInBounds_toArray, List.set_cons_zero, List.set_cons_succ]
    refine upto_done (by kernel_rfl) ?_
    refine NoPanic.normal ?_
    clear hS
    replace c0 := cell_keep (Below.drew (Below.refl _ _)) c0
    replace c1 := cell_keep (Below.drew (Below.refl _ _)) c1
    replace c2 := cell_keep (Below.drew (Below.refl _ _)) c2
    replace c3 := cell_keep (Below.drew (Below.refl _ _)) c3
    replace c4 := cell_keep (Below.drew (Below.refl _ _)) c4
    replace c5 := cell_keep (Below.drew (Below.refl _ _)) c5
    replace r0 := cell_keep (Below.drew (Below.refl _ _)) r0
    replace r1 := cell_keep (Below.drew (Below.refl _ _)) r1
    replace cf : ∀ o, w3.drew.frozen? ⟨B, o, none⟩ = false := fun o => by rw [(bcell (Below.drew (Below.refl _ w3))).2 _ _ hBW]; exact cf o
    replace hblk : w3.drew.heap[B]? = some (.cells ob 60) := hblk
    replace ov := votsR.keep ov (Below.drew (Below.refl _ w3))
    replace hW1 : Below base w w3.drew := hW1.trans (Below.drew (Below.refl _ _) |>.mono hbs)
    replace hBW : B < w3.drew.heap.size := hBW
    replace hWs : w.heap.size < w3.drew.heap.size := hWs
    replace hbs : base ≤ w3.drew.heap.size := hbs
    generalize w3.drew = W4 at *
    go_wp2
    obtain ⟨Y, hY⟩ : ∃ Y, Y = (W4.setCell ⟨B, 3, none⟩ (.int .i64 v.bal)).setCell ⟨B, 4, none⟩ (.int .i64 v.val) := ⟨_, rfl⟩
    rw [← hY]
    replace c0 : Y.cell? ⟨B, 0, none⟩ = some (.int .i64 d.con) := by rw [hY]; simp [go_sem, c0]
    replace c1 : Y.cell? ⟨B, 1, none⟩ = some (.int .i64 d.sh) := by rw [hY]; simp [go_sem, c1]
    replace c2 : Y.cell? ⟨B, 2, none⟩ = some (.int .i64 v.bal) := by rw [hY]; simp [go_sem, c2]
    replace c3 : Y.cell? ⟨B, 3, none⟩ = some (.int .i64 v.bal) := by rw [hY]; simp [go_sem, c3]
    replace c4 : Y.cell? ⟨B, 4, none⟩ = some (.int .i64 v.val) := by rw [hY]; simp [go_sem, c4]
    replace c5 : Y.cell? ⟨B, 5, none⟩ = some (.slice a d.cast.length c) := by rw [hY]; simp [go_sem, c5]
    replace r0 : Y.cell? ⟨w.heap.size, 0, none⟩ = some (.int .i64 v.bal) := by rw [hY]; simp [go_sem, r0]; try omega
    replace r1 : Y.cell? ⟨w.heap.size, 1, none⟩ = some (.int .i64 v.val) := by rw [hY]; simp [go_sem, r1]; try omega
    replace cf : ∀ o, Y.frozen? ⟨B, o, none⟩ = false := fun o => by rw [hY]; simp [go_sem, cf]
    replace ov : votsR.O Y base F (.slice a d.cast.length c) d.cast := by rw [hY]; exact Rep.setN _ (Rep.setN _ ov _ hFB) _ hFB
    replace hW1 : Below base w Y := by rw [hY]; exact (hW1.setCell hbB _).setCell hbB _
    replace hblk : ∃ ob, Y.heap[B]? = some (.cells ob 60) := by
      rw [hY]
      obtain ⟨ob1, h⟩ := heap_set (p := ⟨B, 3, none⟩) (u := .int .i64 v.bal) hblk
      exact heap_set (p := ⟨B, 4, none⟩) h
    replace hBW : B < Y.heap.size := World.block_lt_of_cell? Y _ c0
    replace hWs : w.heap.size < Y.heap.size := World.block_lt_of_cell? Y _ r0
    replace hbs : base ≤ Y.heap.size := by omega
    clear hY
    obtain ⟨ob1, hblk⟩ := hblk
    have hFo : ∀ b, (Value.slice a d.cast.length c).ownBlock = some b → F b := fun b hb => by rw [ov.2]; exact hb
    have nB : some B ≠ (Value.slice a d.cast.length c).ownBlock := fun h => hFB (hFo B h.symm)
    have nW : some w.heap.size ≠ (Value.slice a d.cast.length c).ownBlock := fun h => by have := hlt0 _ (hFo _ h.symm); omega
    refine wp_region_noPanic ?_
    refine region_upto (fun W => Below base w W ∧ (W.cell? ⟨w.heap.size, 0, none⟩ = some (.int .i64 v.bal) ∧ W.cell? ⟨w.heap.size, 1, none⟩ = some (.int .i64 v.val)) ∧ W.cell? ⟨B, 5, none⟩ = some (.slice a d.cast.length c)) 10 (by kernel_rfl) ⟨Below.drew hW1, ⟨cell_keep (Below.drew (Below.refl _ _)) r0, cell_keep (Below.drew (Below.refl _ _)) r1⟩, cell_keep (Below.drew (Below.refl _ _)) c5⟩ (fun hS => ?_)
    refine upto_take (i := 0) (v := ?_) rfl (by kernel_rfl) (by kernel_rfl) (by kernel_rfl) (by kernel_rfl) (fun _ _ _ h => h) (by rfl) hS ?_ ?_
    rotate_left
    · intro wS hSw
      try dsimp only at hSw
      first | (go_simp; done) | (go_simp; with_reducible rfl)
    try simp only [Act.put, List.getElem_toArray, List.getElem_cons_zero, List.getElem_cons_succ, List.setIfInBounds_toArray, List.set_cons_zero, List.set_cons_succ]
    refine upto_take (i := 1) (v := ?_) rfl (by kernel_rfl) (by kernel_rfl) (by kernel_rfl) (by kernel_rfl) (fun _ _ _ h => h) (by rfl) hS ?_ ?_
    rotate_left
    · intro wS hSw
      try dsimp only at hSw
      first | (go_simp; done) | (go_simp; with_reducible rfl)
    try simp only [Act.put, List.getElem_toArray, List.getElem_cons_zero, List.getElem_cons_succ, List.setIfInBounds_toArray, List.set_cons_zero, List.set_cons_succ]
    refine upto_take (i := 2) (v := ?_) rfl (by kernel_rfl) (by kernel_rfl) (by kernel_rfl) (by kernel_rfl) (fun _ _ _ h => h) (by rfl) hS ?_ ?_
    rotate_left
    · intro wS hSw
      try dsimp only at hSw
      first | (go_simp; done) | (go_simp; with_reducible rfl)
    try simp only [Act.put, List.getElem_toArray, List.getElem_cons_zero, List.getElem_cons_succ, List.setIfInBounds_toArray, List.set_cons_zero, List.set_cons_succ]
    refine upto_take (i := 3) (v := ?_) rfl (by kernel_rfl) (by kernel_rfl) (by kernel_rfl) (by kernel_rfl) (fun _ _ _ h => h) (by rfl) hS ?_ ?_
    rotate_left
    · intro wS hSw
      try dsimp only at hSw
      first | (go_simp; done) | (go_simp; with_reducible rfl)
    try simp only [Act.put, List.getElem_toArray, List.getElem_cons_zero, List.getElem_cons_succ, List.setIfInBounds_toArray, List.set_cons_zero, List.set_cons_succ]
    refine upto_take (i := 4) (v := ?_) rfl (by kernel_rfl) (by kernel_rfl) (by kernel_rfl) (by kernel_rfl) (fun _ _ _ h => h) (by rfl) hS ?_ ?_
    rotate_left
    · intro wS hSw
      try dsimp only at hSw
      first | (go_simp; done) | (go_simp; with_reducible rfl)
    try simp only [Act.put, List.getElem_toArray, List.getElem_cons_zero, List.getElem_cons_succ, List.setIfInBounds_toArray, List.set_cons_zero, List.set_cons_succ]
    refine upto_take (i := 5) (v := ?_) rfl (by kernel_rfl) (by kernel_rfl) (by kernel_rfl) (by kernel_rfl) (fun _ _ _ h => h) (by rfl) hS ?_ ?_
    rotate_left
    · intro wS hSw
      try dsimp only at hSw
      first | (go_simp; done) | (go_simp; with_reducible rfl)
    try simp only [Act.put, List.getElem_toArray, List.getElem_cons_zero, List.getElem_cons_succ, List.setIfInBounds_toArray, List.set_cons_zero, List.set_cons_succ]
    refine upto_step (i := 6) (by kernel_rfl) rfl ?_
    intro K hK
    go_simp
    refine hK _ _ (fun _ => ⟨(Below.drew hW1).alloc hbs _, ⟨cell_keep (balloc (Below.drew (Below.refl _ _)) _) r0, cell_keep (balloc (Below.drew (Below.refl _ _)) _) r1⟩, cell_keep (balloc (Below.drew (Below.refl _ _)) _) c5⟩) ?_
    clear hK K
    try simp only [Act.put, List.getElem_toArray, List.getElem_cons_zero, List.getElem_cons_succ, List.setIfInBounds_toArray, List.set_cons_zero, List.set_cons_succ]
    refine upto_step (i := 7) (by kernel_rfl) rfl ?_
    intro K hK
    refine step_appV _ rfl _ _ rfl base _ d.cast rfl _ [v] rfl (votsR.alloc (votsR.keep ov (Below.drew (Below.refl _ _))) _).1 ?_ ?_ ?_ ?_
    · exact appAny_vot (g := Y.heap.size) (by simp [go_sem]) (by simp [go_sem])
    · simp; omega
    · simp; omega
    intro v5 w5 o5 hg5 hB5
    obtain ⟨p5, q5, rfl⟩ := owns_form o5
    have hw5 : Below base w w5 := hB5 w ((Below.drew hW1).alloc hbs _)
    replace c0 := hg5.cell (cell_keep (balloc (Below.drew (Below.refl _ Y)) _) c0) nB
    replace c1 := hg5.cell (cell_keep (balloc (Below.drew (Below.refl _ Y)) _) c1) nB
    replace c2 := hg5.cell (cell_keep (balloc (Below.drew (Below.refl _ Y)) _) c2) nB
    replace c3 := hg5.cell (cell_keep (balloc (Below.drew (Below.refl _ Y)) _) c3) nB
    replace c4 := hg5.cell (cell_keep (balloc (Below.drew (Below.refl _ Y)) _) c4) nB
    replace c5 := hg5.cell (cell_keep (balloc (Below.drew (Below.refl _ Y)) _) c5) nB
    replace r0 := hg5.cell (cell_keep (balloc (Below.drew (Below.refl _ Y)) _) r0) nW
    replace r1 := hg5.cell (cell_keep (balloc (Below.drew (Below.refl _ Y)) _) r1) nW
    replace cf : ∀ o, w5.frozen? ⟨B, o, none⟩ = false := fun o => (hg5.frozen_far ⟨B, o, none⟩ (by simp; omega) nB).trans (((bcell (balloc (Below.drew (Below.refl _ Y)) _)).2 _ _ hBW).trans (cf o))
    replace hblk : w5.heap[B]? = some (.cells ob1 60) := (hg5.block B (by simp; omega) nB).trans (((balloc (Below.drew (Below.refl _ Y)) _).block B hBW).trans hblk)
    have hne5 := own_other o5 hblk (by decide)
    have o6 : ∃ F, votsR.O w5 base F (.slice p5 (d.cast ++ [v]).length q5) (d.cast ++ [v]) ∧ ¬ F B := ⟨_, ⟨o5, rfl⟩, hne5⟩
    obtain ⟨F5, o6, hF5⟩ := o6
    have hS5 : (fun W => Below base w W ∧ (W.cell? ⟨w.heap.size, 0, none⟩ = some (.int .i64 v.bal) ∧ W.cell? ⟨w.heap.size, 1, none⟩ = some (.int .i64 v.val)) ∧ W.cell? ⟨B, 5, none⟩ = some (.slice a d.cast.length c)) w5 := ⟨hw5, ⟨r0, r1⟩, c5⟩
    refine hK _ _ (fun _ => hS5) ?_
    clear hK K
    try simp only [Act.put, List.getElem_toArray, List.getElem_cons_zero, List.getElem_cons_succ, List.setIfInBounds_toArray, List.set_cons_zero, List.set_cons_succ]
    refine upto_step (i := 8) (by kernel_rfl) rfl ?_
    intro K hK
    go_simp
    refine hK _ _ (fun _ => hS5) ?_
    clear hK K
    try simp only [Act.put, List.getElem_toArray, List.getElem_cons_zero, List.getElem_cons_succ, List.setIfInBounds_toArray, List.set_cons_zero, List.set_cons_succ]
    refine upto_take (i := 9) (v := ?_) rfl (by kernel_rfl) (by kernel_rfl) (by kernel_rfl) (by kernel_rfl) (fun _ _ _ h => h) (by rfl) hS5 ?_ ?_
    rotate_left
    · intro wS hSw
      try dsimp only at hSw
      first | (go_simp; done) | (go_simp; with_reducible rfl)
    try simp only [Act.put, List.getElem_toArray, List.getElem_cons_zero, List.getElem_cons_succ, List.setIfInBounds_toArray, List.set_cons_zero, List.set_cons_succ]
    refine upto_step (i := 10) (by kernel_rfl) rfl ?_
    intro K hK
    go_simp
    refine hK _ _ (fun h => absurd rfl h) ?_
    clear hK K
    refine upto_done (by kernel_rfl) ?_
    refine NoPanic.normal ?_
    clear hS hS5 hg5 hB5 o5 hne5 ov hblk
    go_wp2
    go_ret
    refine ⟨rfl, hw5.setCell hbB _, fun _ => ⟨p5, _, q5, F5, ⟨?_, ?_, ?_, ?_, ?_, ?_⟩, Rep.setN _ o6 _ hF5⟩⟩
    · simp [go_sem, c0]
    · simp [go_sem, c1]
    · simp [go_sem, c2]
    · simp [go_sem, c3]
    · simp [go_sem, c4]
    · simp [go_sem, c5]
end Go.Proofs.Ytjhmdnlkpkagiaa


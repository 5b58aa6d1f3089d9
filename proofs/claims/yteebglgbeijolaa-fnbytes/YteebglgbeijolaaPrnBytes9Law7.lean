import Derived.Test.YteebglgbeijolaaPrnBytes9Law6
import Derived.Test.YteebglgbeijolaaPrnBytes9Law1
import Derived.Test.YteebglgbeijolaaPrnBytes9Law5
import Derived.Deep.RegionHeld3
import Derived.Deep.DrawnRows

/-
  The specification's draws: one of a list, some bytes, bytes with something turned.
-/
namespace Go.Proofs.Yteebglgbeijolaa
open Go.RowKit
set_option linter.unusedSectionVars false
variable [DecidableEq Logg] [Inhabited Logg] [DecidableEq LoggR] [Inhabited LoggR] [DecidableEq BytesR] [Inhabited BytesR] [DecidableEq RecsR] [Inhabited RecsR] [DecidableEq Leg] [Inhabited Leg]
set_option linter.unusedSimpArgs false
attribute [local go_sem ↓] Go.wp_at_zero Go.wp_at_succ

theorem Mod.trans2 {F G : Nat → Prop} {w w1 w2 : World} (h : Mod F w w1) (k : Mod G w1 w2) (hG : ∀ b, G b → b < w.heap.size → F b) : Mod F w w2 :=
  ⟨k.os.trans h.os, k.tape.trans h.tape, k.output.trans h.output, Nat.le_trans h.size k.size, fun i hi hn => (k.block i (Nat.lt_of_lt_of_le hi h.size) (fun e => hn (hG i e hi))).trans (h.block i hi hn)⟩
theorem Mod.transB {F : Nat → Prop} {w w1 w2 : World} (h : Mod F w w1) (k : Below w1.heap.size w1 w2) : Mod F w w2 := h.trans (Mod.of_below k)
theorem src_new {w : World} {a : Option Addr} {cap : Nat} {xs : List Byte} {T : TypeId} (h : BytesV w (.slice a xs.length cap) xs) (hn : xs.length ≤ 2097152) : Src w.heap.size (w.alloc (.cells #[.slice a xs.length cap, .int .i64 0] T)) w.heap.size a xs.length cap 0 := by
  obtain ⟨a', cap', e, g1, g2, g3⟩ := h
  simp only [Value.slice.injEq, true_and] at e
  obtain ⟨rfl, rfl⟩ := e
  refine ⟨Nat.le_refl _, by simp, by simp [go_sem], by simp [go_sem], fun o => by simp [go_sem], g1, g2, hn, fun i hi => ?_⟩
  obtain ⟨b, o, e, hc⟩ := g3 i hi
  have hl := World.block_lt_of_cell? _ _ hc
  dsimp only at hl
  exact ⟨b, o, _, e, hl, by omega, by have := (xs.getD i 0).isLt; omega, cell_keep (balloc (Below.refl _ _) _) hc⟩
set_option maxHeartbeats 400000 in
theorem l1Source_any (x : Value) (xs : List Byte) (w : World) (hx : BytesV w x xs) (hn : xs.length ≤ 2097152) :
    Calls Try.prog 47 #[x] w fun e w' => ∃ a cap, e = .returned (.pointer (some ⟨w.heap.size, 0, none⟩)) ∧ Src w.heap.size w' w.heap.size a xs.length cap 0 ∧ Below w.heap.size w w' := by
  have hX := hx
  obtain ⟨a, cap, rfl, _⟩ := hx
  go_enter Try.func47, Try.ntmps47
  go_wp2
  go_ret
  exact ⟨a, cap, rfl, src_new hX hn, by (repeat (first | exact Below.refl _ _ | assumption | refine Below.drew ?_ | refine balloc ?_ _ | refine bset ?_ (by simp; omega) _ | refine bset ?_ (by simp) _ | refine bstep ?_ (by assumption)))⟩
set_option maxHeartbeats 1000000 in
theorem l1Pick_any (B : Nat) (w : World) (bs : Nat) (a : Option Addr) (k cap t : Nat) (g c : Nat) (ys : List Int) (h : Src B w bs a k cap t) (ht : t ≤ 100000) (hg : g ≠ bs) (hn1 : 1 ≤ ys.length) (hn2 : ys.length ≤ 200)
    (hy : ∀ i, i < ys.length → w.cell? ⟨g, i, none⟩ = some (.int .i64 (ys.getD i 0))) :
    Calls Try.prog 49 #[.pointer (some ⟨bs, 0, none⟩), .slice (some ⟨g, 0, none⟩) ys.length c] w fun e w' => ∃ r : Int, e = .returned (.int .i64 r) ∧ r ∈ ys ∧ Src B w' bs a k cap (t + 1) ∧ Mod (fun b => b = bs) w w' := by
  have HY : Hid (∀ i, i < ys.length → w.cell? ⟨g, i, none⟩ = some (.int .i64 (ys.getD i 0))) := hy
  clear hy
  go_enter Try.func49, Try.ntmps49
  go_wp2_with fail
  refine (l1Next_any B w bs a k cap t ys.length h ht (by omega) (by omega)).mono ?_
  rintro e w1 ⟨m, rfl, r1, hs1, hm1⟩
  have hm : m < ys.length := by omega
  have hcell := hm1.cell (HY.out m hm) (by simpa using hg)
  obtain ⟨y, hye⟩ : ∃ y, y = ys.getD m 0 := ⟨_, rfl⟩
  rw [← hye] at hcell
  have HE : Hid (y = ys.getD m 0) := hye
  clear hye
  go_wp2
  go_ret
  refine ⟨y, rfl, ?_, hs1, hm1⟩
  rw [HE.out]
  have e : ys.getD m 0 = ys[m] := by simp [List.getD, hm]
  rw [e]
  exact List.getElem_mem hm
set_option maxHeartbeats 400000 in
theorem l1Chance_any (B : Nat) (w : World) (bs : Nat) (a : Option Addr) (k cap t : Nat) (n : Int) (h : Src B w bs a k cap t) (ht : t ≤ 100000) (hn1 : 1 ≤ n) (hn2 : n ≤ 100000) :
    Calls Try.prog 64 #[.pointer (some ⟨bs, 0, none⟩), .int .i64 n] w fun e w' => ∃ r : Bool, e = .returned (.bool r) ∧ Src B w' bs a k cap (t + 1) ∧ Mod (fun b => b = bs) w w' := by
  go_enter Try.func64, Try.ntmps64
  go_wp2_with fail
  refine (l1Next_any B w bs a k cap t n h ht hn1 hn2).mono ?_
  rintro e w1 ⟨m, rfl, r1, hs1, hm1⟩
  go_wp2
  go_ret
  exact ⟨_, rfl, hs1, hm1⟩
end Go.Proofs.Yteebglgbeijolaa

/-
  The specification's draws: bytes with something turned.
-/
namespace Go.Proofs.Yteebglgbeijolaa
open Go.RowKit
set_option linter.unusedSectionVars false
variable [DecidableEq Logg] [Inhabited Logg] [DecidableEq LoggR] [Inhabited LoggR] [DecidableEq BytesR] [Inhabited BytesR] [DecidableEq RecsR] [Inhabited RecsR] [DecidableEq Leg] [Inhabited Leg]
set_option linter.unusedSimpArgs false
attribute [local go_sem ↓] Go.wp_at_zero Go.wp_at_succ

theorem one_owns {W : World} {base : Nat} {q : Int} (b : Byte) (hq : q = (b.val : Int)) (h : base ≤ W.heap.size) : (W.alloc (.cells #[.int .u8 q] 5)).ownsRow base 5 1 (.slice (some ⟨W.heap.size, 0, none⟩) 1 1) [b].length (bytesC [b]) := by
  subst hq
  exact World.ownsRow_lit (base := base) (e := 5) (size := 1) W #[.int .u8 (b.val : Int)] 1 h (by unfold maxLen; omega) rfl
theorem owns_take {w : World} {base : Nat} {a : Option Addr} {cap : Nat} {xs : List Byte} (h : w.ownsRow base 5 1 (.slice a xs.length cap) xs.length (bytesC xs)) (k : Nat) (hk : k ≤ xs.length) :
    w.ownsRow base 5 1 (.slice (if cap = 0 then a else a.map (·.add (0 * 1))) k (cap - 0)) (xs.take k).length (bytesC (xs.take k)) := by
  have hl : (xs.take k).length = k := by rw [List.length_take]; omega
  have hc : bytesC (xs.take k) = (bytesC xs).take k := by simp [bytesC]
  rcases h.2 with ⟨e, e2⟩ | ⟨g, cap', cur, e, h1, h2, h3, h4, h5, h6⟩
  · simp only [Value.slice.injEq] at e
    obtain ⟨rfl, e3, rfl⟩ := e
    have hk0 : k = 0 := by omega
    subst hk0
    have hx : xs.take 0 = [] := rfl
    rw [hx]
    exact World.ownsRow_nil _ _ _ _
  · simp only [Value.slice.injEq, true_and] at e
    obtain ⟨rfl, rfl⟩ := e
    have ea : (if cap = 0 then some (⟨g, 0, none⟩ : Addr) else (some (⟨g, 0, none⟩ : Addr)).map (·.add (0 * 1))) = some ⟨g, 0, none⟩ := by
      split
      · rfl
      · simp [Addr.add]
    rw [ea, hl, hc, Nat.sub_zero]
    refine ⟨by simp [length_bytesC]; omega, .inr ⟨g, cap, cur, rfl, h1, h2, by omega, h4, h5, ?_⟩⟩
    rw [← h6, List.take_take]
    congr 1
    omega
set_option maxHeartbeats 4000000 in
theorem l3Cut_any (B : Nat) (w : World) (bs : Nat) (a : Option Addr) (k cap t : Nat) (x : Value) (xs : List Byte) (h : Src B w bs a k cap t) (ht : t ≤ 90000) (hx : bytesR.V w x xs) (hn : xs.length ≤ 10000) :
    Calls Try.prog 65 #[.pointer (some ⟨bs, 0, none⟩), x] w fun e w' => ∃ v F ys t', e = .returned v ∧ bytesR.O w' w.heap.size F v ys ∧ ys.length ≤ xs.length + 1 ∧ Src B w' bs a k cap t' ∧ t' ≤ t + 3 ∧ Mod (fun b => b = bs) w w' := by
  have hlt := h.lt
  have hX := hx
  obtain ⟨ax, cx, rfl⟩ := bytes_form hx
  have hs0 : ([] : List Byte).length + xs.length ≤ 1073741824 := by simp; omega
  go_enter Try.func65, Try.ntmps65
  go_wp2_with (at_builtin; refine wpList_appB _ rfl _ _ rfl w.heap.size (.slice (some ⟨w.heap.size, 0, none⟩) 0 0) [] rfl _ xs rfl (nil_owns (Below.refl _ _) _ rfl (Nat.le_refl _)) (appAny_bytes (bytesR.below hX (balloc (Below.refl _ _) _))) hs0 (by simp) ?_)
  intro v1 w1 o1 hg1 hB1
  have hb1 : Below w.heap.size w w1 := hB1 w (balloc (Below.refl _ _) _)
  have hs1 := h.below hb1
  have hM1 : Mod (fun b => b = bs) w w1 := Mod.of_below hb1
  have z1 := hb1.size
  have o1' : World.ownsRow w1 w.heap.size 5 1 v1 xs.length (bytesC xs) := by simpa using o1
  obtain ⟨p1, q1, rfl⟩ := owns_form o1'
  clear o1 hg1 hB1 hb1 h hX hx hs0
  by_cases h0 : xs.length = 0
  · have hq : ((xs.length : Int) == 0) = true := by simp [h0]
    have hq2 : (xs.length : Int) = 0 := by omega
    have HOX : Hid (xs.length = 0) := h0
    clear o1'
    generalize xs.length = nx at *
    subst h0
    go_wp2_with fail
    refine (l1Next_any B w1 bs a k cap t 256 hs1 (by omega) (by omega) (by omega)).mono ?_
    rintro e w2 ⟨c, rfl, rc, hs2, hm2⟩
    have hM2 := hM1.trans hm2
    have z2 := hm2.size
    have hc8 : IntKind.u8.wrap (c : Int) = c := by rw [wrapB]; have := toB_val (c : Int); omega
    clear hm2 hM1 hs1
    go_wp2
    go_ret
    have ho := one_owns (W := w2) (base := w.heap.size) (toB (c : Int)) (q := (c : Int)) (by rw [toB_val]; omega) (by omega)
    have hs3 := hs2.below (w' := w2.alloc (.cells #[.int .u8 (c : Int)] 5)) (by (repeat (first | exact Below.refl _ _ | assumption | refine Below.drew ?_ | refine balloc ?_ _ | refine bset ?_ (by simp; omega) _ | refine bset ?_ (by simp) _ | refine bstep ?_ (by assumption))))
    have hM3 := hM2.transB (w2 := w2.alloc (.cells #[.int .u8 (c : Int)] 5)) (by (repeat (first | exact Below.refl _ _ | assumption | refine Below.drew ?_ | refine balloc ?_ _ | refine bset ?_ (by simp; omega) _ | refine bset ?_ (by simp) _ | refine bstep ?_ (by assumption))))
    first
      | exact ⟨_, _, [toB (c : Int)], t + 1, rfl, ⟨ho, rfl⟩, by simp, hs3, by omega, hM3⟩
      | exact ⟨_, rfl, _, [toB (c : Int)], ⟨ho, rfl⟩, by simp, t + 1, hs3, by omega, hM3⟩
  have hq : ((xs.length : Int) == 0) = false := by rw [beq_eq_false_iff_ne]; omega
  go_wp2_with fail
  refine (l1Next_any B w1 bs a k cap t xs.length hs1 (by omega) (by omega) (by omega)).mono ?_
  rintro e w2 ⟨i, rfl, ri, hs2, hm2⟩
  have hM2 := hM1.trans hm2
  have z2 := hm2.size
  have o2 := hm2.owns o1' (fun b hb e => by have := (o1'.lt b hb).1; omega)
  clear hm2 hM1 hs1 o1'
  go_wp2_with fail
  refine (l1Next_any B w2 bs a k cap (t + 1) 3 hs2 (by omega) (by omega) (by omega)).mono ?_
  rintro e w3 ⟨c, rfl, rc, hs3, hm3⟩
  have hM3 := hM2.trans hm3
  have z3 := hm3.size
  have o3 := hm3.owns o2 (fun b hb e => by have := (o2.lt b hb).1; omega)
  clear hm3 hM2 hs2 o2
  have hcc : c = 0 ∨ c = 1 ∨ c = 2 := by omega
  rcases hcc with rfl | rfl | rfl
  · -- one byte written
    go_wp2_with fail
    refine (l1Next_any B w3 bs a k cap (t + 1 + 1) 256 hs3 (by omega) (by omega) (by omega)).mono ?_
    rintro e w4 ⟨d, rfl, rd, hs4, hm4⟩
    have hM4 := hM3.trans hm4
    have z4 := hm4.size
    have o4 := hm4.owns o3 (fun b hb e => by have := (o3.lt b hb).1; omega)
    clear hm4 hM3 hs3 o3
    have hc8 : IntKind.u8.wrap (d : Int) = d := by rw [wrapB]; have := toB_val (d : Int); omega
    rcases o4.2 with ⟨e, e2⟩ | ⟨g, cap', cur, e, hgb, hgh, hgc, hgm, _, _⟩
    · omega
    simp only [Value.slice.injEq, true_and] at e
    obtain ⟨rfl, rfl⟩ := e
    obtain ⟨u0, g0⟩ := owns_some o4 i (by omega)
    have hf := fun j => o4.frozenAt j
    have hii : (i : Int) < (xs.length : Int) := by omega
    unfold maxLen at hgm
    have s0 := o4.stored i (.int .u8 (d : Int))
    have hm5 : Mod (fun b => (some g : Option Nat) = some b) w4 (w4.setCell ⟨g, i, none⟩ (.int .u8 (d : Int))) := by
      have := Mod.of_set w4 ⟨g, i, none⟩ (.int .u8 (d : Int))
      exact this.mono (fun b hb => by rw [hb])
    have hs5 := hs4.mod hm5 (fun b hb => by simp at hb; omega)
    have hM5 := hM4.trans2 hm5 (fun b hb hl => by simp at hb; omega)
    have hset : (bytesC xs).set i (.int .u8 (d : Int)) = bytesC (xs.set i (toB (d : Int))) := by
      simp only [bytesC, List.map_set]
      rw [toB_val]
      congr 2
      omega
    have HO : Hid (bytesR.O (w4.setCell ⟨g, i, none⟩ (.int .u8 (d : Int))) w.heap.size (fun b => (Value.slice (some ⟨g, 0, none⟩) xs.length q1).ownBlock = some b) (.slice (some ⟨g, 0, none⟩) xs.length q1) (xs.set i (toB (d : Int)))) := by
      refine ⟨?_, rfl⟩
      rw [List.length_set, ← hset]
      simpa using s0.1
    have HL : Hid ((xs.set i (toB (d : Int))).length ≤ xs.length + 1) := by unfold Hid; rw [List.length_set]; omega
    clear s0 hm5 hset o4 hgh
    go_wp2
    go_ret
    first
      | exact ⟨_, _, _, t + 1 + 1 + 1, rfl, HO.out, HL.out, hs5, by omega, hM5⟩
      | exact ⟨_, rfl, _, _, HO.out, HL.out, t + 1 + 1 + 1, hs5, by omega, hM5⟩
  · -- a beginning
    have hcap : xs.length ≤ q1 := by
      rcases o3.2 with ⟨e, _⟩ | ⟨g, cap', cur, e, _, _, hgc, _⟩
      · simp only [Value.slice.injEq] at e; omega
      · simp only [Value.slice.injEq, true_and] at e; omega
    have run3 : ∀ w : World, (Instr.sliceAt 22 (.slice p1 xs.length q1) none (some (.int .i64 (i : Int))) none).run Try.prog w = .ok (.slice (if q1 = 0 then p1 else p1.map (·.add (0 * 1))) i (q1 - 0)) w := fun w => by
      rw [run_sliceAt_slice (h := undB), run_slice_h (ht := undB) (h0 := by omega) (h2 := by omega), cellsB]
      simp only [Result.andThen, sliced]
      rw [Nat.sub_zero, show ((i : Int)).toNat = i by omega]
    have ho := owns_take o3 i (by omega)
    have hl : (xs.take i).length = i := by rw [List.length_take]; omega
    have HO : Hid (bytesR.O w3 w.heap.size (fun b => (Value.slice (if q1 = 0 then p1 else p1.map (·.add (0 * 1))) i (q1 - 0)).ownBlock = some b) (.slice (if q1 = 0 then p1 else p1.map (·.add (0 * 1))) i (q1 - 0)) (xs.take i)) := ⟨ho, rfl⟩
    have HL : Hid ((xs.take i).length ≤ xs.length + 1) := by unfold Hid; rw [hl]; omega
    generalize (if q1 = 0 then p1 else p1.map (·.add (0 * 1))) = p2 at *
    generalize q1 - 0 = q2 at *
    clear ho hl
    go_wp2
    go_ret
    first
      | exact ⟨_, _, _, t + 1 + 1, rfl, HO.out, HL.out, hs3, by omega, hM3⟩
      | exact ⟨_, rfl, _, _, HO.out, HL.out, t + 1 + 1, hs3, by omega, hM3⟩
  · -- one byte more
    go_wp2_with fail
    refine (l1Next_any B w3 bs a k cap (t + 1 + 1) 6 hs3 (by omega) (by omega) (by omega)).mono ?_
    rintro e w5 ⟨d, rfl, rd, hs5, hm5⟩
    have hM5 := hM3.trans hm5
    have z5 := hm5.size
    have o5 := hm5.owns o3 (fun b hb e => by have := (o3.lt b hb).1; omega)
    clear hm5 hM3 hs3 o3
    have hc8 : IntKind.u8.wrap (d : Int) = d := by rw [wrapB]; have := toB_val (d : Int); omega
    have sb : xs.length + [toB (d : Int)].length ≤ 1073741824 := by simp; omega
    go_wp2_with (at_builtin; refine wpList_appB _ rfl _ _ rfl w.heap.size _ xs rfl _ [toB (d : Int)] rfl (o5.alloc _) (appAny_one (g := w5.heap.size) (q := (d : Int)) (by simp [go_sem]) (by rw [toB_val]; omega)) sb (by simp; omega) ?_)
    intro v6 w6 o6 hg6 hB6
    obtain ⟨p6, q6, rfl⟩ := owns_form o6
    have hm6 : Mod (fun b => (Value.slice p1 xs.length q1).ownBlock = some b) (w5.alloc _) w6 := Mod.of_grown hg6
    have hs6 := (hs5.below (balloc (Below.refl _ _) _)).mod hm6 (fun b hb => by have := (o5.lt b hb).1; omega)
    have hM6 := (hM5.alloc _).trans2 hm6 (fun b hb hl => by have := (o5.lt b hb).1; omega)
    have HO : Hid (bytesR.O w6 w.heap.size (fun b => (Value.slice p6 (xs.length + 1) q6).ownBlock = some b) (.slice p6 (xs.length + 1) q6) (xs ++ [toB (d : Int)])) := by
      refine ⟨?_, rfl⟩
      rw [List.length_append]
      exact o6
    have HL : Hid ((xs ++ [toB (d : Int)]).length ≤ xs.length + 1) := by unfold Hid; simp
    clear hm6 hg6 hB6 o6 o5 hM5 hs5
    go_wp2
    go_ret
    first
      | exact ⟨_, _, _, t + 1 + 1 + 1, rfl, HO.out, HL.out, hs6, by omega, hM6⟩
      | exact ⟨_, rfl, _, _, HO.out, HL.out, t + 1 + 1 + 1, hs6, by omega, hM6⟩
end Go.Proofs.Yteebglgbeijolaa

/-
  As RegS, where an operation may also write into what another one made, and takes it over (an append to what was just made).
-/
namespace Go.Proofs.Yteebglgbeijolaa
open Go.RowKit

section
variable {P : Program} {ops : Array Oper} {Q : Exit → Act → World → Prop} {md : Region.Mode} {S : World → Prop} {t : Nat}

def Alive (L : List (Nat × Nat)) (cons : Nat → List Nat) (listed : Array Bool) (j : Nat) : Prop := listed.getD j true = true ∧ ∀ p ∈ L, listed.getD p.1 true = true → j ∉ cons p.1
def Taken (cons : Nat → List Nat) (Φ : Nat → Nat → Prop) (i b : Nat) : Prop := ∃ j ∈ cons i, Φ j b
def FIn (w0 w : World) (F : Nat → Prop) : Prop := ∀ b, F b → w0.heap.size ≤ b ∧ b < w.heap.size
def FApart (F F' : Nat → Prop) : Prop := ∀ b, F b → ¬ F' b
def StepC (P : Program) (md : Region.Mode) (ops : Array Oper) (Q : Exit → Act → World → Prop) (S : World → Prop) (L : List (Nat × Nat)) (cons : Nat → List Nat) (G : Nat → (Nat → Value) → (Nat → Prop) → World → Prop) (a0 : Act) (w0 : World) (p : Nat × Nat) : Prop :=
  ∃ o, ops[p.1]? = some o ∧ o.dst = some p.2 ∧ ∀ (y : Nat → Value) (w : World) (Φ : Nat → Nat → Prop), S w → Below w0.heap.size w0 w →
    (∀ q ∈ L, waitsFor md ops p.1 q.1 = true → (q.1 ∈ cons p.1 ∨ ∀ r ∈ L, q.1 ∉ cons r.1) → FIn w0 w (Φ q.1) ∧ G q.1 y (Φ q.1) w) →
    ∀ K : Act → World → Prop, (∀ v w' F', Mod (Taken cons Φ p.1) w w' → (∀ b, F' b → Taken cons Φ p.1 b ∨ (w.heap.size ≤ b ∧ b < w'.heap.size)) → G p.1 (updV y p.2 v) F' w' → K ((over a0 (L.map Prod.snd) y).put (some p.2) v) w') →
      Shut (if Region.wanted o (yielded ops (over a0 (L.map Prod.snd) y).tmps) = true then Oper.wp P o (over a0 (L.map Prod.snd) y) w K Q else K ((over a0 (L.map Prod.snd) y).put o.dst undef) w)
theorem upto_cons (L : List (Nat × Nat)) (cons : Nat → List Nat) (G : Nat → (Nat → Value) → (Nat → Prop) → World → Prop) {f : Nat} {listed : Array Bool} {a0 : Act} {w0 : World}
    (hrise : risesB md ops = true) (hsz : listed.size = ops.size) (hot : ∃ ot, ops[t]? = some ot)
    (hall : ∀ i, i < ops.size → listed.getD i true = false → i = t ∨ ∃ p ∈ L, p.1 = i)
    (hun : listed.getD t true = false ∧ ∀ p ∈ L, listed.getD p.1 true = false)
    (hno : (L.map Prod.fst).Nodup) (hnd : (L.map Prod.snd).Nodup) (htl : ∀ p ∈ L, p.1 ≠ t ∧ waitsFor md ops t p.1 = true) (hf : f = L.length + 1)
    (hcons : ∀ p ∈ L, ∀ j ∈ cons p.1, waitsFor md ops p.1 j = true ∧ ∃ q ∈ L, q.1 = j) (huniq : ∀ p ∈ L, ∀ r ∈ L, p.1 ≠ r.1 → ∀ j ∈ cons p.1, j ∉ cons r.1)
    (hS : S w0) (hSst : ∀ (F : Nat → Prop) (w w' : World), S w → Mod F w w' → (∀ b, F b → w0.heap.size ≤ b) → S w')
    (hG : ∀ p ∈ L, ∀ (y y' : Nat → Value) (F F' : Nat → Prop) (w w' : World), G p.1 y F w → FIn w0 w F → Mod F' w w' → FApart F' F → (∀ b, F' b → w0.heap.size ≤ b) → y' p.2 = y p.2 → (∀ q ∈ L, waitsFor md ops p.1 q.1 = true → y' q.2 = y q.2) → G p.1 y' F w')
    (hstep : ∀ p ∈ L, StepC P md ops Q S L cons G a0 w0 p)
    (hlast : ∃ o, ops[t]? = some o ∧ ∀ (y : Nat → Value) (w : World) (Φ : Nat → Nat → Prop), S w → Below w0.heap.size w0 w → (∀ q ∈ L, (∀ r ∈ L, q.1 ∉ cons r.1) → FIn w0 w (Φ q.1) ∧ G q.1 y (Φ q.1) w) → (∀ q ∈ L, ∀ r ∈ L, q.1 ≠ r.1 → (∀ p ∈ L, q.1 ∉ cons p.1) → (∀ p ∈ L, r.1 ∉ cons p.1) → FApart (Φ q.1) (Φ r.1)) →
      ∀ K : Act → World → Prop, (∀ a' w', Q .normal a' w' → K a' w') → Shut (if Region.wanted o (yielded ops (over a0 (L.map Prod.snd) y).tmps) = true then Oper.wp P o (over a0 (L.map Prod.snd) y) w K Q else K ((over a0 (L.map Prod.snd) y).put o.dst undef) w)) :
    wpUpto P md ops Q S t f listed a0 w0 := by
  have H : ∀ (n f : Nat) (listed : Array Bool) (y : Nat → Value) (w : World) (Φ : Nat → Nat → Prop),
      f = (L.filter fun p => !listed.getD p.1 true).length + 1 → listed.size = ops.size → listed.getD t true = false →
      (∀ i, i < ops.size → listed.getD i true = false → i = t ∨ ∃ p ∈ L, p.1 = i) →
      (∀ p ∈ L, listed.getD p.1 true = true → ∀ q ∈ L, waitsFor md ops p.1 q.1 = true → listed.getD q.1 true = true) →
      S w → Below w0.heap.size w0 w → (∀ q ∈ L, Alive L cons listed q.1 → FIn w0 w (Φ q.1) ∧ G q.1 y (Φ q.1) w) →
      (∀ q ∈ L, ∀ r ∈ L, q.1 ≠ r.1 → Alive L cons listed q.1 → Alive L cons listed r.1 → FApart (Φ q.1) (Φ r.1)) →
      f ≤ n → wpUpto P md ops Q S t f listed (over a0 (L.map Prod.snd) y) w := by
    intro n
    induction n with
    | zero => intro f listed y w Φ hf _ _ _ _ _ _ _ _ hn; omega
    | succ n ih =>
      intro f listed y w Φ hf hsz htun hall hdown hS hB hGs hAp hn
      obtain ⟨ot, hot⟩ := hot
      have htlt : t < ops.size := by
        rcases Nat.lt_or_ge t ops.size with h | h
        · exact h
        · rw [Array.getElem?_eq_none h] at hot; cases hot
      obtain ⟨g, rfl⟩ : ∃ g, f = g + 1 := ⟨_, hf⟩
      have hg : g = (L.filter fun p => !listed.getD p.1 true).length := by omega
      refine ⟨fun h => ?_, fun i hi' => ?_⟩
      · obtain ⟨j, hj⟩ := ready_some hrise hsz (t + 1) t (by omega) htlt htun
        rw [h] at hj
        cases hj
      obtain ⟨hiun, o, hio, hdeps⟩ := mem_ready.1 hi'
      have hilt : i < ops.size := by
        rcases Nat.lt_or_ge i ops.size with h | h
        · exact h
        · rw [Array.getElem?_eq_none h] at hio; cases hio
      have hdep : ∀ k, k < ops.size → waitsFor md ops i k = true → listed.getD k true = true := by
        intro k hk hw
        unfold waitsFor at hw
        rw [hio] at hw
        obtain ⟨e, he, hb⟩ := Array.any_eq_true'.1 hw
        simp only [Bool.and_eq_true, beq_iff_eq] at hb
        have h1 := hdeps e he hb.1
        rw [hb.2] at h1
        have hk' : k < listed.size := by omega
        simp [hk'] at h1 ⊢
        exact h1
      have hLlt : ∀ p ∈ L, p.1 < ops.size := by
        intro p hp
        obtain ⟨o', ho', _⟩ := hstep p hp
        rcases Nat.lt_or_ge p.1 ops.size with h | h
        · exact h
        · rw [Array.getElem?_eq_none h] at ho'; cases ho'
      have key : ∀ K : Act → World → Prop, (if Region.wanted o (yielded ops (over a0 (L.map Prod.snd) y).tmps) = true then Oper.wp P o (over a0 (L.map Prod.snd) y) w K Q else K ((over a0 (L.map Prod.snd) y).put o.dst undef) w) → wpOp P ops Q i K (over a0 (L.map Prod.snd) y) w := by
        intro K h1
        unfold wpOp
        simp only [hio]
        split
        · rename_i hw
          rw [if_pos hw] at h1
          exact .inl h1
        · rename_i hw
          rw [if_neg hw] at h1
          exact h1
      refine key _ ?_
      by_cases hit : i = t
      · subst hit
        have hl : ∀ p ∈ L, listed.getD p.1 true = true := fun p hp => hdep p.1 (hLlt p hp) (htl p hp).2
        obtain ⟨o2, ho2, hlst⟩ := hlast
        rw [hio] at ho2
        cases ho2
        refine (hlst y w Φ hS hB (fun q hq hc => hGs q hq ⟨hl q hq, fun p hp _ => hc p hp⟩) (fun q hq r hr hne h1 h2 => hAp q hq r hr hne ⟨hl q hq, fun p hp _ => h1 p hp⟩ ⟨hl r hr, fun p hp _ => h2 p hp⟩) _ (fun a' w' hq => ⟨fun h => absurd rfl h, upto_done ?_ hq⟩)).out
        rw [List.eq_nil_iff_forall_not_mem]
        intro j hj
        obtain ⟨hjun, oj, hjo, _⟩ := mem_ready.1 hj
        have hjl : j < ops.size := by
          rcases Nat.lt_or_ge j ops.size with h | h
          · exact h
          · rw [Array.getElem?_eq_none h] at hjo; cases hjo
        by_cases hji : i = j
        · subst hji
          have hk' : i < listed.size := by omega
          simp [hk'] at hjun
        · rw [getD_set_ne true hji] at hjun
          rcases hall j hjl hjun with h | ⟨p, hp, h⟩
          · exact hji h.symm
          · rw [← h, hl p hp] at hjun; cases hjun
      · obtain ⟨p, hp, hpi⟩ := (hall i hilt hiun).resolve_left hit
        subst hpi
        obtain ⟨o', ho', hdst, hst⟩ := hstep p hp
        rw [hio] at ho'
        cases ho'
        -- what p takes over is there
        have hcal : ∀ q ∈ L, q.1 ∈ cons p.1 → Alive L cons listed q.1 := fun q hq hc => ⟨hdep q.1 (hLlt q hq) (hcons p hp _ hc).1, fun r hr hrl hcr => by
          by_cases e : r.1 = p.1
          · rw [e, hiun] at hrl; cases hrl
          · exact huniq p hp r hr (Ne.symm e) q.1 hc hcr⟩
        refine (hst y w Φ hS hB (fun q hq hw hc => ?_) _ (fun v w' F' hm hF' hGp => ⟨fun _ => hSst _ _ _ hS hm ?_, ?_⟩)).out
        · rcases hc with hc | hc
          · exact hGs q hq (hcal q hq hc)
          · exact hGs q hq ⟨hdep q.1 (hLlt q hq) hw, fun r hr _ => hc r hr⟩
        · rintro b ⟨j, hj, hb⟩
          obtain ⟨_, q, hq, rfl⟩ := hcons p hp j hj
          exact ((hGs q hq (hcal q hq hj)).1 b hb).1
        have hTk : ∀ b, Taken cons Φ p.1 b → w0.heap.size ≤ b ∧ b < w.heap.size := by
          rintro b ⟨j, hj, hb⟩
          obtain ⟨_, q, hq, rfl⟩ := hcons p hp j hj
          exact (hGs q hq (hcal q hq hj)).1 b hb
        rw [over_put (List.mem_map_of_mem hp) hnd]
        have hlt : p.1 < listed.size := by omega
        have hself' : (listed.setIfInBounds p.1 true).getD p.1 true = true := by simp [hlt]
        have hoth : ∀ j, p.1 ≠ j → (listed.setIfInBounds p.1 true).getD j true = listed.getD j true := fun j h => getD_set_ne true h
        have hinj : ∀ q ∈ L, q.1 = p.1 → q = p := fun q hq h => inj_fst L hno q hq p hp h
        have hinj2 : ∀ q ∈ L, q.2 = p.2 → q = p := fun q hq h => inj_snd L hnd q hq p hp h
        -- who is alive behind p, and is not p, was alive ahead of it, and is not taken over
        have hback : ∀ q ∈ L, q.1 ≠ p.1 → Alive L cons (listed.setIfInBounds p.1 true) q.1 → Alive L cons listed q.1 ∧ q.1 ∉ cons p.1 := fun q hq e ha => by
          refine ⟨⟨by rw [← hoth _ (Ne.symm e)]; exact ha.1, fun r hr hrl => ?_⟩, ha.2 p hp hself'⟩
          by_cases e2 : r.1 = p.1
          · rw [e2, hiun] at hrl; cases hrl
          · exact ha.2 r hr (by rw [hoth _ (Ne.symm e2)]; exact hrl)
        have hTq : ∀ q ∈ L, Alive L cons listed q.1 → q.1 ∉ cons p.1 → FApart (Taken cons Φ p.1) (Φ q.1) := by
          rintro q hq ha hn b ⟨j, hj, hb⟩
          obtain ⟨_, r, hr, rfl⟩ := hcons p hp j hj
          exact hAp r hr q hq (fun e => hn (e ▸ hj)) (hcal r hr hj) ha b hb
        refine ih g (listed.setIfInBounds p.1 true) (updV y p.2 v) w' (fun j => if j = p.1 then F' else Φ j) ?_ (by simpa using hsz) ?_ ?_ ?_ (hSst _ _ _ hS hm (fun b hb => (hTk b hb).1)) (hm.below hB hB.size (fun b hb => (hTk b hb).1)) ?_ ?_ (by omega)
        · rw [hg]
          refine filter_less hno hp (by rw [hiun]; rfl) (by rw [hself']; rfl) (fun q hq hne => ?_)
          rw [hoth _ (fun c => hne (hinj q hq c.symm))]
        · rw [hoth _ (fun h => hit h)]; exact htun
        · intro j hj hju
          by_cases e : p.1 = j
          · subst e; rw [hself'] at hju; cases hju
          · rw [hoth _ e] at hju; exact hall j hj hju
        · intro q hq hql r hr hw
          by_cases e : p.1 = r.1
          · rw [← e]; exact hself'
          · rw [hoth _ e]
            by_cases e2 : p.1 = q.1
            · rw [← e2] at hw; exact hdep r.1 (hLlt r hr) hw
            · rw [hoth _ e2] at hql; exact hdown q hq hql r hr hw
        · intro q hq ha
          by_cases e : q.1 = p.1
          · have e2 := hinj q hq e
            subst e2
            simp only [if_true]
            refine ⟨fun b hb => ?_, hGp⟩
            rcases hF' b hb with h | h
            · have := hTk b h; have := hm.size; omega
            · have := hB.size; omega
          · obtain ⟨h1, h2⟩ := hback q hq e ha
            simp only [if_neg e]
            obtain ⟨g1, g2⟩ := hGs q hq h1
            refine ⟨fun b hb => ⟨(g1 b hb).1, Nat.lt_of_lt_of_le (g1 b hb).2 hm.size⟩, hG q hq y (updV y p.2 v) _ _ w w' g2 g1 hm (hTq q hq h1 h2) (fun b hb => (hTk b hb).1) ?_ ?_⟩
            · exact if_neg (fun c => e (by rw [hinj2 q hq c]))
            · intro r hr hw
              refine if_neg (fun c => ?_)
              have e3 := hinj2 r hr c
              subst e3
              rw [hdown q hq h1.1 _ hr hw] at hiun
              cases hiun
        · intro q hq r hr hne hqa hra
          by_cases e : q.1 = p.1
          · have e' : r.1 ≠ p.1 := fun c => hne (e.trans c.symm)
            obtain ⟨h1, h2⟩ := hback r hr e' hra
            simp only [if_pos e, if_neg e']
            intro b hb hb2
            rcases hF' b hb with h | h
            · exact hTq r hr h1 h2 b h hb2
            · have := ((hGs r hr h1).1 b hb2).2; omega
          · obtain ⟨h1, h2⟩ := hback q hq e hqa
            by_cases e' : r.1 = p.1
            · simp only [if_neg e, if_pos e']
              intro b hb hb2
              rcases hF' b hb2 with h | h
              · exact hTq q hq h1 h2 b h hb
              · have := ((hGs q hq h1).1 b hb).2; omega
            · obtain ⟨h3, _⟩ := hback r hr e' hra
              simp only [if_neg e, if_neg e']
              exact hAp q hq r hr hne h1 h3
  have h0 := H f f listed (fun s => a0.tmps.getD s undef) w0 (fun _ _ => False) (by
    rw [hf, List.filter_eq_self.2 (fun p hp => by rw [hun.2 p hp]; rfl)]) hsz hun.1 hall (fun p hp h => by rw [hun.2 p hp] at h; cases h) hS (Below.refl _ _) (fun q hq h => by have h := h.1; rw [hun.2 q hq] at h; cases h) (fun q hq r hr hne h => by have h := h.1; rw [hun.2 q hq] at h; cases h) (Nat.le_refl _)
  rw [over_self] at h0
  exact h0
def checkC (md : Region.Mode) (ops : Array Oper) (listed : Array Bool) (t f : Nat) (L : List (Nat × Nat)) (cons : Nat → List Nat) : Bool :=
  checkS md ops listed t f L && (L.all fun p => (cons p.1).all fun j => waitsFor md ops p.1 j && L.any fun q => decide (q.1 = j)) && (L.all fun p => L.all fun r => decide (p.1 = r.1) || (cons p.1).all fun j => decide (j ∉ cons r.1))
theorem upto_cons' (L : List (Nat × Nat)) (cons : Nat → List Nat) (G : Nat → (Nat → Value) → (Nat → Prop) → World → Prop) {f : Nat} {listed : Array Bool} {a0 : Act} {w0 : World} (hc : checkC md ops listed t f L cons = true)
    (hS : S w0) (hSst : ∀ (F : Nat → Prop) (w w' : World), S w → Mod F w w' → (∀ b, F b → w0.heap.size ≤ b) → S w')
    (hG : ∀ p ∈ L, ∀ (y y' : Nat → Value) (F F' : Nat → Prop) (w w' : World), G p.1 y F w → FIn w0 w F → Mod F' w w' → FApart F' F → (∀ b, F' b → w0.heap.size ≤ b) → y' p.2 = y p.2 → (∀ q ∈ L, waitsFor md ops p.1 q.1 = true → y' q.2 = y q.2) → G p.1 y' F w')
    (hstep : ∀ p ∈ L, StepC P md ops Q S L cons G a0 w0 p)
    (hlast : ∃ o, ops[t]? = some o ∧ ∀ (y : Nat → Value) (w : World) (Φ : Nat → Nat → Prop), S w → Below w0.heap.size w0 w → (∀ q ∈ L, (∀ r ∈ L, q.1 ∉ cons r.1) → FIn w0 w (Φ q.1) ∧ G q.1 y (Φ q.1) w) → (∀ q ∈ L, ∀ r ∈ L, q.1 ≠ r.1 → (∀ p ∈ L, q.1 ∉ cons p.1) → (∀ p ∈ L, r.1 ∉ cons p.1) → FApart (Φ q.1) (Φ r.1)) →
      ∀ K : Act → World → Prop, (∀ a' w', Q .normal a' w' → K a' w') → Shut (if Region.wanted o (yielded ops (over a0 (L.map Prod.snd) y).tmps) = true then Oper.wp P o (over a0 (L.map Prod.snd) y) w K Q else K ((over a0 (L.map Prod.snd) y).put o.dst undef) w)) :
    wpUpto P md ops Q S t f listed a0 w0 := by
  unfold checkC checkS at hc
  simp only [Bool.and_eq_true, decide_eq_true_eq, List.all_eq_true, List.any_eq_true, Bool.or_eq_true, Bool.not_eq_true', List.mem_range] at hc
  obtain ⟨⟨⟨⟨⟨⟨⟨⟨⟨⟨⟨h1, h2⟩, h3⟩, h4⟩, h5⟩, h6⟩, h7⟩, h8⟩, h9⟩, h10⟩, h11⟩, h13⟩ := hc
  refine upto_cons L cons G h1 h2 (Option.isSome_iff_exists.1 h3) (fun i hi hu => ?_) ⟨h5, h6⟩ h7 h8 h9 h10 h11 (fun p hp r hr hne => (h13 p hp r hr).resolve_left hne) hS hSst hG hstep hlast
  rcases h4 i hi with (h | h) | h
  · rw [hu] at h; cases h
  · exact .inl h
  · exact .inr h
end

end Go.Proofs.Yteebglgbeijolaa

/-
  Legs in memory: what a slice of legs holds, and the contracts of the functions that only compare, count and copy them.
-/
namespace Go.Proofs.Yteebglgbeijolaa
open Go.RowKit
set_option linter.unusedSectionVars false
variable [DecidableEq Leg] [Inhabited Leg]
attribute [local go_sem ↓] Go.wp_at_zero Go.wp_at_succ

def legCells (w : World) (b o : Nat) (l : Leg) : Prop :=
  w.cell? ⟨b, o, none⟩ = some (.int .i64 l.sh) ∧ w.cell? ⟨b, o + 1, none⟩ = some (.int .i64 l.ac) ∧ w.cell? ⟨b, o + 2, none⟩ = some (.int .i64 l.ast) ∧ w.cell? ⟨b, o + 3, none⟩ = some (.int .i64 l.am)
def LegsV (w : World) (v : Value) (xs : List Leg) : Prop :=
  ∃ a cap, v = .slice a xs.length cap ∧ xs.length ≤ cap ∧ cap ≤ maxLen ∧ ∀ i, i < xs.length → ∃ b o, a = some ⟨b, o, none⟩ ∧ legCells w b (o + i * 4) (xs.getD i default)
theorem legCells_below {w w' : World} {b o : Nat} {l : Leg} (hb : Below w.heap.size w w') (h : legCells w b o l) : legCells w' b o l := by
  obtain ⟨h1, h2, h3, h4⟩ := h
  have hlt : b < w.heap.size := World.block_lt_of_cell? w _ h1
  exact ⟨(hb.cell (p := ⟨b, o, none⟩) hlt).trans h1, (hb.cell (p := ⟨b, o + 1, none⟩) hlt).trans h2, (hb.cell (p := ⟨b, o + 2, none⟩) hlt).trans h3, (hb.cell (p := ⟨b, o + 3, none⟩) hlt).trans h4⟩
theorem keep2 {w w' : World} {b o b' o' : Nat} {l l' : Leg} (hb : Below w.heap.size w w') (h : legCells w b o l) (h' : legCells w b' o' l') :
    Below w.heap.size w w' ∧ (w'.cell? ⟨b, o, none⟩ = some (.int .i64 l.sh) ∧ w'.cell? ⟨b, o + 1, none⟩ = some (.int .i64 l.ac) ∧ w'.cell? ⟨b, o + 2, none⟩ = some (.int .i64 l.ast) ∧ w'.cell? ⟨b, o + 3, none⟩ = some (.int .i64 l.am)) ∧
      (w'.cell? ⟨b', o', none⟩ = some (.int .i64 l'.sh) ∧ w'.cell? ⟨b', o' + 1, none⟩ = some (.int .i64 l'.ac) ∧ w'.cell? ⟨b', o' + 2, none⟩ = some (.int .i64 l'.ast) ∧ w'.cell? ⟨b', o' + 3, none⟩ = some (.int .i64 l'.am)) :=
  ⟨hb, legCells_below hb h, legCells_below hb h'⟩
theorem list_eq_of {xs ys : List Leg} (hl : ys.length = xs.length) (h : ∀ j, j < xs.length → xs.getD j default = ys.getD j default) : xs = ys := by
  apply List.ext_getElem (by omega)
  intro i h1 h2
  have := h i h1
  simpa [List.getD, h1, h2] using this
end Go.Proofs.Yteebglgbeijolaa


/-
  The specification's draws: one of a list, some bytes, bytes with something turned.
-/
import Derived.Test.YtaahmmadcdfcpaaDrw
namespace Go.Proofs.Ytaahmmadcdfcpaa
open Go.RowKit
set_option linter.unusedSectionVars false
variable [DecidableEq Logg] [Inhabited Logg] [DecidableEq LoggR] [Inhabited LoggR] [DecidableEq BytesR] [Inhabited BytesR] [DecidableEq RecsR] [Inhabited RecsR] [DecidableEq Leg] [Inhabited Leg]
set_option linter.unusedSimpArgs false
attribute [local go_sem ↓] Go.wp_at_zero Go.wp_at_succ

theorem Mod.trans2 {F G : Nat → Prop} {w w1 w2 : World} (h : Mod F w w1) (k : Mod G w1 w2) (hG : ∀ b, G b → b < w.heap.size → F b) : Mod F w w2 :=
  ⟨k.os.trans h.os, k.tape.trans h.tape, k.output.trans h.output, Nat.le_trans h.size k.size, fun i hi hn => (k.block i (Nat.lt_of_lt_of_le hi h.size) (fun e => hn (hG i e hi))).trans (h.block i hi hn)⟩
theorem Mod.transB {F : Nat → Prop} {w w1 w2 : World} (h : Mod F w w1) (k : Below w1.heap.size w1 w2) : Mod F w w2 := h.trans (Mod.of_below k)

theorem src_new {w : World} {a : Option Addr} {cap : Nat} {xs : List Byte} {T : TypeId} (h : BytesV w (.slice a xs.length cap) xs) (hn : xs.length ≤ 2097152) : Src w.heap.size (w.alloc (.cells #[.slice a xs.length cap, .int .i64 0] T)) w.heap.size a xs.length cap 0 := by
  obtain ⟨a', cap', e, g1, g2, g3⟩ := h
  simp only [Value.slice.injEq, true_and] at e
  obtain ⟨rfl, rfl⟩ := e
  refine ⟨Nat.le_refl _, by simp, by simp [go_sem], by simp [go_sem], fun o => by simp [go_sem], g1, g2, hn, fun i hi => ?_⟩
  obtain ⟨b, o, e, hc⟩ := g3 i hi
  have hl := World.block_lt_of_cell? _ _ hc
  dsimp only at hl
  exact ⟨b, o, _, e, hl, by omega, by have := (xs.getD i 0).isLt; omega, cell_keep (balloc (Below.refl _ _) _) hc⟩

set_option maxHeartbeats 400000 in
theorem l1Source_any (x : Value) (xs : List Byte) (w : World) (hx : BytesV w x xs) (hn : xs.length ≤ 2097152) :
    Calls Try.prog 25 #[x] w fun e w' => ∃ a cap, e = .returned (.pointer (some ⟨w.heap.size, 0, none⟩)) ∧ Src w.heap.size w' w.heap.size a xs.length cap 0 ∧ Below w.heap.size w w' := by
  have hX := hx
  obtain ⟨a, cap, rfl, _⟩ := hx
  go_enter Try.func25, Try.ntmps25
  go_wp2
  go_ret
  exact ⟨a, cap, rfl, src_new hX hn, by (repeat (first | exact Below.refl _ _ | assumption | refine Below.drew ?_ | refine balloc ?_ _ | refine bset ?_ (by simp; omega) _ | refine bset ?_ (by simp) _ | refine bstep ?_ (by assumption)))⟩

set_option maxHeartbeats 1000000 in
theorem l1Pick_any (B : Nat) (w : World) (bs : Nat) (a : Option Addr) (k cap t : Nat) (g c : Nat) (ys : List Int) (h : Src B w bs a k cap t) (ht : t ≤ 100000) (hg : g ≠ bs) (hn1 : 1 ≤ ys.length) (hn2 : ys.length ≤ 200)
    (hy : ∀ i, i < ys.length → w.cell? ⟨g, i, none⟩ = some (.int .i64 (ys.getD i 0))) :
    Calls Try.prog 28 #[.pointer (some ⟨bs, 0, none⟩), .slice (some ⟨g, 0, none⟩) ys.length c] w fun e w' => ∃ r : Int, e = .returned (.int .i64 r) ∧ r ∈ ys ∧ Src B w' bs a k cap (t + 1) ∧ Mod (fun b => b = bs) w w' := by
  have HY : Hid (∀ i, i < ys.length → w.cell? ⟨g, i, none⟩ = some (.int .i64 (ys.getD i 0))) := hy
  clear hy
  go_enter Try.func28, Try.ntmps28
  go_wp2_with fail
  refine (l1Next_any B w bs a k cap t ys.length h ht (by omega) (by omega)).mono ?_
  rintro e w1 ⟨m, rfl, r1, hs1, hm1⟩
  have hm : m < ys.length := by omega
  have hcell := hm1.cell (HY.out m hm) (by simpa using hg)
  obtain ⟨y, hye⟩ : ∃ y, y = ys.getD m 0 := ⟨_, rfl⟩
  rw [← hye] at hcell
  have HE : Hid (y = ys.getD m 0) := hye
  clear hye
  go_wp2
  go_ret
  refine ⟨y, rfl, ?_, hs1, hm1⟩
  rw [HE.out]
  have e : ys.getD m 0 = ys[m] := by simp [List.getD, hm]
  rw [e]
  exact List.getElem_mem hm

set_option maxHeartbeats 400000 in
theorem l1Chance_any (B : Nat) (w : World) (bs : Nat) (a : Option Addr) (k cap t : Nat) (n : Int) (h : Src B w bs a k cap t) (ht : t ≤ 100000) (hn1 : 1 ≤ n) (hn2 : n ≤ 100000) :
    Calls Try.prog 78 #[.pointer (some ⟨bs, 0, none⟩), .int .i64 n] w fun e w' => ∃ r : Bool, e = .returned (.bool r) ∧ Src B w' bs a k cap (t + 1) ∧ Mod (fun b => b = bs) w w' := by
  go_enter Try.func78, Try.ntmps78
  go_wp2_with fail
  refine (l1Next_any B w bs a k cap t n h ht hn1 hn2).mono ?_
  rintro e w1 ⟨m, rfl, r1, hs1, hm1⟩
  go_wp2
  go_ret
  exact ⟨_, rfl, hs1, hm1⟩

end Go.Proofs.Ytaahmmadcdfcpaa

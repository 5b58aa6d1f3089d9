/-
  The specification's draws: bytes with something turned.
-/
import Derived.Test.YtfeolikagceohaaDrw2
namespace Go.Proofs.Ytfeolikagceohaa
open Go.RowKit
set_option linter.unusedSectionVars false
variable [DecidableEq Logg] [Inhabited Logg] [DecidableEq LoggR] [Inhabited LoggR] [DecidableEq BytesR] [Inhabited BytesR] [DecidableEq RecsR] [Inhabited RecsR] [DecidableEq Leg] [Inhabited Leg]
set_option linter.unusedSimpArgs false
attribute [local go_sem ↓] Go.wp_at_zero Go.wp_at_succ

theorem one_owns {W : World} {base : Nat} {q : Int} (b : Byte) (hq : q = (b.val : Int)) (h : base ≤ W.heap.size) : (W.alloc (.cells #[.int .u8 q] 5)).ownsRow base 5 1 (.slice (some ⟨W.heap.size, 0, none⟩) 1 1) [b].length (bytesC [b]) := by
  subst hq
  exact World.ownsRow_lit (base := base) (e := 5) (size := 1) W #[.int .u8 (b.val : Int)] 1 h (by unfold maxLen; omega) rfl

/-- a beginning of a row that is owned -/
theorem owns_take {w : World} {base : Nat} {a : Option Addr} {cap : Nat} {xs : List Byte} (h : w.ownsRow base 5 1 (.slice a xs.length cap) xs.length (bytesC xs)) (k : Nat) (hk : k ≤ xs.length) :
    w.ownsRow base 5 1 (.slice (if cap = 0 then a else a.map (·.add (0 * 1))) k (cap - 0)) (xs.take k).length (bytesC (xs.take k)) := by
  have hl : (xs.take k).length = k := by rw [List.length_take]; omega
  have hc : bytesC (xs.take k) = (bytesC xs).take k := by simp [bytesC]
  rcases h.2 with ⟨e, e2⟩ | ⟨g, cap', cur, e, h1, h2, h3, h4, h5, h6⟩
  · simp only [Value.slice.injEq] at e
    obtain ⟨rfl, e3, rfl⟩ := e
    have hk0 : k = 0 := by omega
    subst hk0
    have hx : xs.take 0 = [] := rfl
    rw [hx]
    exact World.ownsRow_nil _ _ _ _
  · simp only [Value.slice.injEq, true_and] at e
    obtain ⟨rfl, rfl⟩ := e
    have ea : (if cap = 0 then some (⟨g, 0, none⟩ : Addr) else (some (⟨g, 0, none⟩ : Addr)).map (·.add (0 * 1))) = some ⟨g, 0, none⟩ := by
      split
      · rfl
      · simp [Addr.add]
    rw [ea, hl, hc, Nat.sub_zero]
    refine ⟨by simp [length_bytesC]; omega, .inr ⟨g, cap, cur, rfl, h1, h2, by omega, h4, h5, ?_⟩⟩
    rw [← h6, List.take_take]
    congr 1
    omega

set_option maxHeartbeats 4000000 in
theorem l3Cut_any (B : Nat) (w : World) (bs : Nat) (a : Option Addr) (k cap t : Nat) (x : Value) (xs : List Byte) (h : Src B w bs a k cap t) (ht : t ≤ 90000) (hx : bytesR.V w x xs) (hn : xs.length ≤ 10000) :
    Calls Try.prog 48 #[.pointer (some ⟨bs, 0, none⟩), x] w fun e w' => ∃ v F ys t', e = .returned v ∧ bytesR.O w' w.heap.size F v ys ∧ ys.length ≤ xs.length + 1 ∧ Src B w' bs a k cap t' ∧ t' ≤ t + 3 ∧ Mod (fun b => b = bs) w w' := by
  have hlt := h.lt
  have hX := hx
  obtain ⟨ax, cx, rfl⟩ := bytes_form hx
  have hs0 : ([] : List Byte).length + xs.length ≤ 1073741824 := by simp; omega
  go_enter Try.func48, Try.ntmps48
  go_wp2_with (at_builtin; refine wpList_appB _ rfl _ _ rfl w.heap.size (.slice (some ⟨w.heap.size, 0, none⟩) 0 0) [] rfl _ xs rfl (nil_owns (Below.refl _ _) _ rfl (Nat.le_refl _)) (appAny_bytes (bytesR.below hX (balloc (Below.refl _ _) _))) hs0 (by simp) ?_)
  intro v1 w1 o1 hg1 hB1
  have hb1 : Below w.heap.size w w1 := hB1 w (balloc (Below.refl _ _) _)
  have hs1 := h.below hb1
  have hM1 : Mod (fun b => b = bs) w w1 := Mod.of_below hb1
  have z1 := hb1.size
  have o1' : World.ownsRow w1 w.heap.size 5 1 v1 xs.length (bytesC xs) := by simpa using o1
  obtain ⟨p1, q1, rfl⟩ := owns_form o1'
  clear o1 hg1 hB1 hb1 h hX hx hs0
  by_cases h0 : xs.length = 0
  · have hq : ((xs.length : Int) == 0) = true := by simp [h0]
    have hq2 : (xs.length : Int) = 0 := by omega
    have HOX : Hid (xs.length = 0) := h0
    clear o1'
    generalize xs.length = nx at *
    subst h0
    go_wp2_with fail
    refine (l1Next_any B w1 bs a k cap t 256 hs1 (by omega) (by omega) (by omega)).mono ?_
    rintro e w2 ⟨c, rfl, rc, hs2, hm2⟩
    have hM2 := hM1.trans hm2
    have z2 := hm2.size
    have hc8 : IntKind.u8.wrap (c : Int) = c := by rw [wrapB]; have := toB_val (c : Int); omega
    clear hm2 hM1 hs1
    go_wp2
    go_ret
    have ho := one_owns (W := w2) (base := w.heap.size) (toB (c : Int)) (q := (c : Int)) (by rw [toB_val]; omega) (by omega)
    have hs3 := hs2.below (w' := w2.alloc (.cells #[.int .u8 (c : Int)] 5)) (by (repeat (first | exact Below.refl _ _ | assumption | refine Below.drew ?_ | refine balloc ?_ _ | refine bset ?_ (by simp; omega) _ | refine bset ?_ (by simp) _ | refine bstep ?_ (by assumption))))
    have hM3 := hM2.transB (w2 := w2.alloc (.cells #[.int .u8 (c : Int)] 5)) (by (repeat (first | exact Below.refl _ _ | assumption | refine Below.drew ?_ | refine balloc ?_ _ | refine bset ?_ (by simp; omega) _ | refine bset ?_ (by simp) _ | refine bstep ?_ (by assumption))))
    first
      | exact ⟨_, _, [toB (c : Int)], t + 1, rfl, ⟨ho, rfl⟩, by simp, hs3, by omega, hM3⟩
      | exact ⟨_, rfl, _, [toB (c : Int)], ⟨ho, rfl⟩, by simp, t + 1, hs3, by omega, hM3⟩
  have hq : ((xs.length : Int) == 0) = false := by rw [beq_eq_false_iff_ne]; omega
  go_wp2_with fail
  refine (l1Next_any B w1 bs a k cap t xs.length hs1 (by omega) (by omega) (by omega)).mono ?_
  rintro e w2 ⟨i, rfl, ri, hs2, hm2⟩
  have hM2 := hM1.trans hm2
  have z2 := hm2.size
  have o2 := hm2.owns o1' (fun b hb e => by have := (o1'.lt b hb).1; omega)
  clear hm2 hM1 hs1 o1'
  go_wp2_with fail
  refine (l1Next_any B w2 bs a k cap (t + 1) 3 hs2 (by omega) (by omega) (by omega)).mono ?_
  rintro e w3 ⟨c, rfl, rc, hs3, hm3⟩
  have hM3 := hM2.trans hm3
  have z3 := hm3.size
  have o3 := hm3.owns o2 (fun b hb e => by have := (o2.lt b hb).1; omega)
  clear hm3 hM2 hs2 o2
  have hcc : c = 0 ∨ c = 1 ∨ c = 2 := by omega
  rcases hcc with rfl | rfl | rfl
  · -- one byte written
    go_wp2_with fail
    refine (l1Next_any B w3 bs a k cap (t + 1 + 1) 256 hs3 (by omega) (by omega) (by omega)).mono ?_
    rintro e w4 ⟨d, rfl, rd, hs4, hm4⟩
    have hM4 := hM3.trans hm4
    have z4 := hm4.size
    have o4 := hm4.owns o3 (fun b hb e => by have := (o3.lt b hb).1; omega)
    clear hm4 hM3 hs3 o3
    have hc8 : IntKind.u8.wrap (d : Int) = d := by rw [wrapB]; have := toB_val (d : Int); omega
    rcases o4.2 with ⟨e, e2⟩ | ⟨g, cap', cur, e, hgb, hgh, hgc, hgm, _, _⟩
    · omega
    simp only [Value.slice.injEq, true_and] at e
    obtain ⟨rfl, rfl⟩ := e
    obtain ⟨u0, g0⟩ := owns_some o4 i (by omega)
    have hf := fun j => o4.frozenAt j
    have hii : (i : Int) < (xs.length : Int) := by omega
    unfold maxLen at hgm
    have s0 := o4.stored i (.int .u8 (d : Int))
    have hm5 : Mod (fun b => (some g : Option Nat) = some b) w4 (w4.setCell ⟨g, i, none⟩ (.int .u8 (d : Int))) := by
      have := Mod.of_set w4 ⟨g, i, none⟩ (.int .u8 (d : Int))
      exact this.mono (fun b hb => by rw [hb])
    have hs5 := hs4.mod hm5 (fun b hb => by simp at hb; omega)
    have hM5 := hM4.trans2 hm5 (fun b hb hl => by simp at hb; omega)
    have hset : (bytesC xs).set i (.int .u8 (d : Int)) = bytesC (xs.set i (toB (d : Int))) := by
      simp only [bytesC, List.map_set]
      rw [toB_val]
      congr 2
      omega
    have HO : Hid (bytesR.O (w4.setCell ⟨g, i, none⟩ (.int .u8 (d : Int))) w.heap.size (fun b => (Value.slice (some ⟨g, 0, none⟩) xs.length q1).ownBlock = some b) (.slice (some ⟨g, 0, none⟩) xs.length q1) (xs.set i (toB (d : Int)))) := by
      refine ⟨?_, rfl⟩
      rw [List.length_set, ← hset]
      simpa using s0.1
    have HL : Hid ((xs.set i (toB (d : Int))).length ≤ xs.length + 1) := by unfold Hid; rw [List.length_set]; omega
    clear s0 hm5 hset o4 hgh
    go_wp2
    go_ret
    first
      | exact ⟨_, _, _, t + 1 + 1 + 1, rfl, HO.out, HL.out, hs5, by omega, hM5⟩
      | exact ⟨_, rfl, _, _, HO.out, HL.out, t + 1 + 1 + 1, hs5, by omega, hM5⟩
  · -- a beginning
    have hcap : xs.length ≤ q1 := by
      rcases o3.2 with ⟨e, _⟩ | ⟨g, cap', cur, e, _, _, hgc, _⟩
      · simp only [Value.slice.injEq] at e; omega
      · simp only [Value.slice.injEq, true_and] at e; omega
    have run3 : ∀ w : World, (Instr.sliceAt 22 (.slice p1 xs.length q1) none (some (.int .i64 (i : Int))) none).run Try.prog w = .ok (.slice (if q1 = 0 then p1 else p1.map (·.add (0 * 1))) i (q1 - 0)) w := fun w => by
      rw [run_sliceAt_slice (h := undB), run_slice_h (ht := undB) (h0 := by omega) (h2 := by omega), cellsB]
      simp only [Result.andThen, sliced]
      rw [Nat.sub_zero, show ((i : Int)).toNat = i by omega]
    have ho := owns_take o3 i (by omega)
    have hl : (xs.take i).length = i := by rw [List.length_take]; omega
    have HO : Hid (bytesR.O w3 w.heap.size (fun b => (Value.slice (if q1 = 0 then p1 else p1.map (·.add (0 * 1))) i (q1 - 0)).ownBlock = some b) (.slice (if q1 = 0 then p1 else p1.map (·.add (0 * 1))) i (q1 - 0)) (xs.take i)) := ⟨ho, rfl⟩
    have HL : Hid ((xs.take i).length ≤ xs.length + 1) := by unfold Hid; rw [hl]; omega
    generalize (if q1 = 0 then p1 else p1.map (·.add (0 * 1))) = p2 at *
    generalize q1 - 0 = q2 at *
    clear ho hl
    go_wp2
    go_ret
    first
      | exact ⟨_, _, _, t + 1 + 1, rfl, HO.out, HL.out, hs3, by omega, hM3⟩
      | exact ⟨_, rfl, _, _, HO.out, HL.out, t + 1 + 1, hs3, by omega, hM3⟩
  · -- one byte more
    go_wp2_with fail
    refine (l1Next_any B w3 bs a k cap (t + 1 + 1) 6 hs3 (by omega) (by omega) (by omega)).mono ?_
    rintro e w5 ⟨d, rfl, rd, hs5, hm5⟩
    have hM5 := hM3.trans hm5
    have z5 := hm5.size
    have o5 := hm5.owns o3 (fun b hb e => by have := (o3.lt b hb).1; omega)
    clear hm5 hM3 hs3 o3
    have hc8 : IntKind.u8.wrap (d : Int) = d := by rw [wrapB]; have := toB_val (d : Int); omega
    have sb : xs.length + [toB (d : Int)].length ≤ 1073741824 := by simp; omega
    go_wp2_with (at_builtin; refine wpList_appB _ rfl _ _ rfl w.heap.size _ xs rfl _ [toB (d : Int)] rfl (o5.alloc _) (appAny_one (g := w5.heap.size) (q := (d : Int)) (by simp [go_sem]) (by rw [toB_val]; omega)) sb (by simp; omega) ?_)
    intro v6 w6 o6 hg6 hB6
    obtain ⟨p6, q6, rfl⟩ := owns_form o6
    have hm6 : Mod (fun b => (Value.slice p1 xs.length q1).ownBlock = some b) (w5.alloc _) w6 := Mod.of_grown hg6
    have hs6 := (hs5.below (balloc (Below.refl _ _) _)).mod hm6 (fun b hb => by have := (o5.lt b hb).1; omega)
    have hM6 := (hM5.alloc _).trans2 hm6 (fun b hb hl => by have := (o5.lt b hb).1; omega)
    have HO : Hid (bytesR.O w6 w.heap.size (fun b => (Value.slice p6 (xs.length + 1) q6).ownBlock = some b) (.slice p6 (xs.length + 1) q6) (xs ++ [toB (d : Int)])) := by
      refine ⟨?_, rfl⟩
      rw [List.length_append]
      exact o6
    have HL : Hid ((xs ++ [toB (d : Int)]).length ≤ xs.length + 1) := by unfold Hid; simp
    clear hm6 hg6 hB6 o6 o5 hM5 hs5
    go_wp2
    go_ret
    first
      | exact ⟨_, _, _, t + 1 + 1 + 1, rfl, HO.out, HL.out, hs6, by omega, hM6⟩
      | exact ⟨_, rfl, _, _, HO.out, HL.out, t + 1 + 1 + 1, hs6, by omega, hM6⟩

end Go.Proofs.Ytfeolikagceohaa

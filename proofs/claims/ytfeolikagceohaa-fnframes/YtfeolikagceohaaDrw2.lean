/-
  The specification's draws: one of a list, some bytes, bytes with something turned.
-/
import Derived.Test.YtfeolikagceohaaDrw
namespace Go.Proofs.Ytfeolikagceohaa
open Go.RowKit
set_option linter.unusedSectionVars false
variable [DecidableEq Logg] [Inhabited Logg] [DecidableEq LoggR] [Inhabited LoggR] [DecidableEq BytesR] [Inhabited BytesR] [DecidableEq RecsR] [Inhabited RecsR] [DecidableEq Leg] [Inhabited Leg]
set_option linter.unusedSimpArgs false
attribute [local go_sem ↓] Go.wp_at_zero Go.wp_at_succ

theorem Mod.trans2 {F G : Nat → Prop} {w w1 w2 : World} (h : Mod F w w1) (k : Mod G w1 w2) (hG : ∀ b, G b → b < w.heap.size → F b) : Mod F w w2 :=
  ⟨k.os.trans h.os, k.tape.trans h.tape, k.output.trans h.output, Nat.le_trans h.size k.size, fun i hi hn => (k.block i (Nat.lt_of_lt_of_le hi h.size) (fun e => hn (hG i e hi))).trans (h.block i hi hn)⟩
theorem Mod.transB {F : Nat → Prop} {w w1 w2 : World} (h : Mod F w w1) (k : Below w1.heap.size w1 w2) : Mod F w w2 := h.trans (Mod.of_below k)

theorem src_new {w : World} {a : Option Addr} {cap : Nat} {xs : List Byte} {T : TypeId} (h : BytesV w (.slice a xs.length cap) xs) (hn : xs.length ≤ 2097152) : Src w.heap.size (w.alloc (.cells #[.slice a xs.length cap, .int .i64 0] T)) w.heap.size a xs.length cap 0 := by
  obtain ⟨a', cap', e, g1, g2, g3⟩ := h
  simp only [Value.slice.injEq, true_and] at e
  obtain ⟨rfl, rfl⟩ := e
  refine ⟨Nat.le_refl _, by simp, by simp [go_sem], by simp [go_sem], fun o => by simp [go_sem], g1, g2, hn, fun i hi => ?_⟩
  obtain ⟨b, o, e, hc⟩ := g3 i hi
  have hl := World.block_lt_of_cell? _ _ hc
  dsimp only at hl
  exact ⟨b, o, _, e, hl, by omega, by have := (xs.getD i 0).isLt; omega, cell_keep (balloc (Below.refl _ _) _) hc⟩

set_option maxHeartbeats 400000 in
theorem l1Source_any (x : Value) (xs : List Byte) (w : World) (hx : BytesV w x xs) (hn : xs.length ≤ 2097152) :
    Calls Try.prog 23 #[x] w fun e w' => ∃ a cap, e = .returned (.pointer (some ⟨w.heap.size, 0, none⟩)) ∧ Src w.heap.size w' w.heap.size a xs.length cap 0 ∧ Below w.heap.size w w' := by
  have hX := hx
  obtain ⟨a, cap, rfl, _⟩ := hx
  go_enter Try.func23, Try.ntmps23
  go_wp2
  go_ret
  exact ⟨a, cap, rfl, src_new hX hn, by (repeat (first | exact Below.refl _ _ | assumption | refine Below.drew ?_ | refine balloc ?_ _ | refine bset ?_ (by simp; omega) _ | refine bset ?_ (by simp) _ | refine bstep ?_ (by assumption)))⟩

set_option maxHeartbeats 1000000 in
theorem l1Pick_any (B : Nat) (w : World) (bs : Nat) (a : Option Addr) (k cap t : Nat) (g c : Nat) (ys : List Int) (h : Src B w bs a k cap t) (ht : t ≤ 100000) (hg : g ≠ bs) (hn1 : 1 ≤ ys.length) (hn2 : ys.length ≤ 200)
    (hy : ∀ i, i < ys.length → w.cell? ⟨g, i, none⟩ = some (.int .i64 (ys.getD i 0))) :
    Calls Try.prog 30 #[.pointer (some ⟨bs, 0, none⟩), .slice (some ⟨g, 0, none⟩) ys.length c] w fun e w' => ∃ r : Int, e = .returned (.int .i64 r) ∧ r ∈ ys ∧ Src B w' bs a k cap (t + 1) ∧ Mod (fun b => b = bs) w w' := by
  have HY : Hid (∀ i, i < ys.length → w.cell? ⟨g, i, none⟩ = some (.int .i64 (ys.getD i 0))) := hy
  clear hy
  go_enter Try.func30, Try.ntmps30
  go_wp2_with fail
  refine (l1Next_any B w bs a k cap t ys.length h ht (by omega) (by omega)).mono ?_
  rintro e w1 ⟨m, rfl, r1, hs1, hm1⟩
  have hm : m < ys.length := by omega
  have hcell := hm1.cell (HY.out m hm) (by simpa using hg)
  obtain ⟨y, hye⟩ : ∃ y, y = ys.getD m 0 := ⟨_, rfl⟩
  rw [← hye] at hcell
  have HE : Hid (y = ys.getD m 0) := hye
  clear hye
  go_wp2
  go_ret
  refine ⟨y, rfl, ?_, hs1, hm1⟩
  rw [HE.out]
  have e : ys.getD m 0 = ys[m] := by simp [List.getD, hm]
  rw [e]
  exact List.getElem_mem hm

set_option maxHeartbeats 400000 in
theorem l1Chance_any (B : Nat) (w : World) (bs : Nat) (a : Option Addr) (k cap t : Nat) (n : Int) (h : Src B w bs a k cap t) (ht : t ≤ 100000) (hn1 : 1 ≤ n) (hn2 : n ≤ 100000) :
    Calls Try.prog 47 #[.pointer (some ⟨bs, 0, none⟩), .int .i64 n] w fun e w' => ∃ r : Bool, e = .returned (.bool r) ∧ Src B w' bs a k cap (t + 1) ∧ Mod (fun b => b = bs) w w' := by
  go_enter Try.func47, Try.ntmps47
  go_wp2_with fail
  refine (l1Next_any B w bs a k cap t n h ht hn1 hn2).mono ?_
  rintro e w1 ⟨m, rfl, r1, hs1, hm1⟩
  go_wp2
  go_ret
  exact ⟨_, rfl, hs1, hm1⟩

set_option maxHeartbeats 4000000 in
theorem l3Some_any (B : Nat) (w : World) (bs : Nat) (a : Option Addr) (k cap t : Nat) (h : Src B w bs a k cap t) (ht : t ≤ 90000) :
    Calls Try.prog 22 #[.pointer (some ⟨bs, 0, none⟩)] w fun e w' => ∃ v F xs t', e = .returned v ∧ bytesR.O w' w.heap.size F v xs ∧ xs.length ≤ 501 ∧ Src B w' bs a k cap t' ∧ t' ≤ t + 505 ∧ Mod (fun b => b = bs) w w' := by
  have hlt := h.lt
  go_enter Try.func22, Try.ntmps22
  go_wp2_with fail
  refine (l1Next_any B _ bs a k cap t 9 (h.below (by (repeat (first | exact Below.refl _ _ | assumption | refine Below.drew ?_ | refine balloc ?_ _ | refine bset ?_ (by simp; omega) _ | refine bset ?_ (by simp) _ | refine bstep ?_ (by assumption))))) (by omega) (by omega) (by omega)).mono ?_
  rintro e w1 ⟨n1, rfl, r1, hs1, hm1⟩
  have z1 := hm1.size
  simp only [World.size_alloc] at z1
  have o0 : World.ownsRow w1 w.heap.size 5 1 (.slice (some ⟨w.heap.size, 0, none⟩) 0 0) ([] : List Byte).length (bytesC []) := hm1.owns (nil_owns (Below.refl _ _) _ rfl (Nat.le_refl _)) (fun b hb e => by simp [Value.ownBlock] at hb; omega)
  have hM1 : Mod (fun b => b = bs) w w1 := (Mod.of_below (by (repeat (first | exact Below.refl _ _ | assumption | refine Below.drew ?_ | refine balloc ?_ _ | refine bset ?_ (by simp; omega) _ | refine bset ?_ (by simp) _ | refine bstep ?_ (by assumption))))).trans hm1
  clear hm1 h
  have y1 : IntKind.i64.wrap (1 + (n1 : Int)) = 1 + n1 := wrapI _ (by omega) (by omega)
  go_wp2_with fail
  refine (l1Next_any B w1 bs a k cap (t + 1) 9 hs1 (by omega) (by omega) (by omega)).mono ?_
  rintro e w2 ⟨n2, rfl, r2, hs2, hm2⟩
  have z2 := hm2.size
  replace o0 := hm2.owns o0 (fun b hb e => by simp [Value.ownBlock] at hb; omega)
  have hM2 := hM1.trans hm2
  clear hm2 hM1 hs1
  have y2 : IntKind.i64.wrap (1 + (n2 : Int)) = 1 + n2 := wrapI _ (by omega) (by omega)
  go_wp2_with fail
  refine (l1Next_any B w2 bs a k cap (t + 1 + 1) 9 hs2 (by omega) (by omega) (by omega)).mono ?_
  rintro e w3 ⟨n3, rfl, r3, hs3, hm3⟩
  have z3 := hm3.size
  replace o0 := hm3.owns o0 (fun b hb e => by simp [Value.ownBlock] at hb; omega)
  have hM3 := hM2.trans hm3
  clear hm3 hM2 hs2
  have y3 : IntKind.i64.wrap (1 + (n3 : Int)) = 1 + n3 := wrapI _ (by omega) (by omega)
  go_wp2_with fail
  refine (l1Pick_any B _ bs a k cap (t + 1 + 1 + 1) w3.heap.size 6 [1 + n1, 1 + n2, 1 + n3, 0, 500, 501] (hs3.below (by (repeat (first | exact Below.refl _ _ | assumption | refine Below.drew ?_ | refine balloc ?_ _ | refine bset ?_ (by simp; omega) _ | refine bset ?_ (by simp) _ | refine bstep ?_ (by assumption))))) (by omega) (by omega) (by simp) (by simp) ?_).mono ?_
  · intro i hi
    match i, hi with
    | 0, _ => simp [go_sem]
    | 1, _ => simp [go_sem]
    | 2, _ => simp [go_sem]
    | 3, _ => simp [go_sem]
    | 4, _ => simp [go_sem]
    | 5, _ => simp [go_sem]
  rintro e w4 ⟨r, rfl, hr, hs4, hm4⟩
  have z4 := hm4.size
  simp only [World.size_alloc] at z4
  replace o0 := hm4.owns (o0.alloc _) (fun b hb e => by simp [Value.ownBlock] at hb; omega)
  have hM4 := (hM3.alloc _).trans hm4
  have hr0 : ∃ m : Nat, r = m ∧ m ≤ 501 := by
    simp only [List.mem_cons, List.not_mem_nil, or_false] at hr
    exact ⟨r.toNat, by omega, by omega⟩
  obtain ⟨m, rfl, hm⟩ := hr0
  clear hm4 hM3 hs3 hr y1 y2 y3
  go_wp2
  go_loopw [3, 4] (fun v i w' => ∃ (xs : List Byte) (m t' : Nat), i = .int .i64 m ∧ m + xs.length ≤ 501 ∧ w'.ownsRow w.heap.size 5 1 v xs.length (bytesC xs) ∧ Src B w' bs a k cap t' ∧ t' + m ≤ t + 505 ∧ Mod (fun b => b = bs) w w') (fun _ i _ => (intOf i).toNat)
  case atStart =>
    exact ⟨[], m, t + 1 + 1 + 1 + 1, rfl, by simpa using hm, o0, hs4, by omega, hM4⟩
  case round =>
    obtain ⟨xs, m, t', rfl, hx, ho, hs, htm, hM⟩ := hrel
    obtain ⟨pv, qv, rfl⟩ := owns_form ho
    have zz := hM.size
    by_cases hpos : 0 < m
    · have hq : (0 : Int) < (m : Int) := by omega
      go_wp2_with fail
      refine (l1Next_any B wr bs a k cap t' 256 hs (by omega) (by omega) (by omega)).mono ?_
      rintro e w5 ⟨c, rfl, rc, hs5, hm5⟩
      have ho5 := hm5.owns ho (fun b hb e => by have := (ho.lt b hb).1; omega)
      have hM5 := hM.trans hm5
      have hc8 : IntKind.u8.wrap (c : Int) = c := by rw [wrapB]; have := toB_val (c : Int); omega
      have zz5 := hm5.size
      clear hs hm5 ho hM
      have sb : xs.length + [toB (c : Int)].length ≤ 1073741824 := by simp; omega
      go_wp2_with (at_builtin; refine wpList_appB _ rfl _ _ rfl w.heap.size _ xs rfl _ [toB (c : Int)] rfl (ho5.alloc _) (appAny_one (g := w5.heap.size) (q := (c : Int)) (by simp [go_sem]) (by rw [toB_val]; omega)) sb (by simp; omega) ?_)
      intro v6 w6 o6 hg6 hB6
      obtain ⟨p6, q6, rfl⟩ := owns_form o6
      have hm6 : Mod (fun b => (Value.slice pv xs.length qv).ownBlock = some b) (w5.alloc _) w6 := Mod.of_grown hg6
      have hs6 := (hs5.below (balloc (Below.refl _ _) _)).mod hm6 (fun b hb => by have := (ho5.lt b hb).1; omega)
      have hM6 := (hM5.alloc _).trans2 hm6 (fun b hb hl => by have := (ho5.lt b hb).1; omega)
      have HO : Hid (World.ownsRow w6 w.heap.size 5 1 (.slice p6 (xs.length + 1) q6) (xs ++ [toB (c : Int)]).length (bytesC (xs ++ [toB (c : Int)]))) := by unfold Hid; rw [List.length_append]; exact o6
      clear hm6 hg6 hB6 o6 ho5 hM5 hs5
      go_wp2
      refine ⟨⟨xs ++ [toB (c : Int)], m - 1, t' + 1, by go_num, by simp; omega, HO.out, hs6, by omega, hM6⟩, by simp [intOf]; omega⟩
    · have hq : ¬ (0 : Int) < (m : Int) := by omega
      have HO : Hid (World.ownsRow wr w.heap.size 5 1 (.slice pv xs.length qv) xs.length (bytesC xs)) := ho
      go_wp2
      go_ret
      first
        | exact ⟨_, _, xs, t', rfl, ⟨HO.out, rfl⟩, by omega, hs, by omega, hM⟩
        | exact ⟨_, rfl, _, xs, ⟨HO.out, rfl⟩, by omega, t', hs, by omega, hM⟩
        | exact ⟨_, rfl, _, xs, t', ⟨HO.out, rfl⟩, by omega, hs, by omega, hM⟩

end Go.Proofs.Ytfeolikagceohaa

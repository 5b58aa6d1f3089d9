import Derived.Test.YtdfapehonegeeaaGreatPrnWriteBatchLaw11
import Derived.Test.YtdfapehonegeeaaGreatPrnWriteBatchLaw1
import Derived.Test.YtdfapehonegeeaaGreatPrnWriteBatchLaw3
import Derived.Test.YtdfapehonegeeaaGreatPrnWriteBatchLaw4
import Derived.Test.YtdfapehonegeeaaGreatPrnWriteBatchLaw9

/-
  LogResult. (Written by program: nest.py.)
-/
namespace Go.Proofs.YtdfapehonegeeaaGreat
open Go.RowKit
set_option linter.unusedSectionVars false
variable [DecidableEq Logg] [Inhabited Logg]
attribute [local go_sem ↓] Go.wp_at_zero Go.wp_at_succ

set_option linter.unusedSimpArgs false

structure LoggR where
  code : Int
  log : Logg
variable [DecidableEq LoggR] [Inhabited LoggR]

def loggRR : Rep LoggR where
  V := fun w v x => ∃ u1_1 u1_2, v = .agg #[.int .i64 x.code, u1_1, u1_2] ∧ loggR.V w (.agg #[u1_1, u1_2]) x.log
  O := fun w base F v x => ∃ u1_1 u1_2 F1, v = .agg #[.int .i64 x.code, u1_1, u1_2] ∧ loggR.O w base F1 (.agg #[u1_1, u1_2]) x.log ∧ (∀ b, F b ↔ (F1 b))
  below := fun h hb => by
    obtain ⟨u1_1, u1_2, rfl, h1⟩ := h
    exact ⟨u1_1, u1_2, rfl, loggR.below h1 hb⟩
  ofO := fun h => by
    obtain ⟨u1_1, u1_2, F1, rfl, h1, _⟩ := h
    exact ⟨u1_1, u1_2, rfl, loggR.ofO h1⟩
  mod := fun h hm hd => by
    obtain ⟨u1_1, u1_2, F1, rfl, h1, hF⟩ := h
    exact ⟨u1_1, u1_2, F1, rfl, loggR.mod h1 hm (fun b hb => hd b ((hF b).2 hb)), hF⟩
  rng := fun h b hb => by
    obtain ⟨u1_1, u1_2, F1, rfl, h1, hF⟩ := h
    rcases (hF b).1 hb with hb
    · exact loggR.rng h1 b hb
  base := fun h hb => by
    obtain ⟨u1_1, u1_2, F1, rfl, h1, hF⟩ := h
    exact ⟨u1_1, u1_2, F1, rfl, loggR.base h1 hb, hF⟩
theorem loggR_form {w : World} {v : Value} {x : LoggR} (h : loggRR.V w v x) : ∃ a1_1 a1_2 c1_1 c1_2, v = .agg #[.int .i64 x.code, .slice a1_1 x.log.synced.length c1_1, .slice a1_2 x.log.loose.length c1_2] := by
  obtain ⟨u1_1, u1_2, rfl, h1⟩ := h
  obtain ⟨a1_1, a1_2, c1_1, c1_2, e1⟩ := logg_form h1
  simp only [Value.agg.injEq, Array.mk.injEq, List.cons.injEq, and_true] at e1
  obtain ⟨rfl, rfl⟩ := e1
  exact ⟨_, _, _, _, rfl⟩
end Go.Proofs.YtdfapehonegeeaaGreat

/-
  A piece of a row of bytes.
-/
namespace Go.Proofs.YtdfapehonegeeaaGreat
open Go.RowKit

theorem addP (b o i : Nat) : (Addr.mk b o none).add i = ⟨b, o + i, none⟩ := by
  by_cases h : i = 0
  · subst h; simp [Addr.add]
  · simp [Addr.add, h]
theorem bytes_cut {w : World} {a : Option Addr} {cap : Nat} {xs : List Byte} (hx : BytesV w (.slice a xs.length cap) xs) (l h : Nat) (h1 : l ≤ h) (h2 : h ≤ xs.length) :
    BytesV w (.slice (if cap = l then a else a.map (·.add (l * 1))) (h - l) (cap - l)) ((xs.drop l).take (h - l)) := by
  obtain ⟨a', cap', e, g1, g2, g3⟩ := hx
  simp only [Value.slice.injEq, true_and] at e
  obtain ⟨rfl, rfl⟩ := e
  have hl : ((xs.drop l).take (h - l)).length = h - l := by rw [List.length_take, List.length_drop]; omega
  refine ⟨_, _, by rw [hl], by omega, by omega, fun i hi => ?_⟩
  rw [hl] at hi
  obtain ⟨b, o, rfl, hc⟩ := g3 (l + i) (by omega)
  refine ⟨b, o + l, ?_, ?_⟩
  · rw [if_neg (by omega)]
    simp only [Option.map_some, Nat.mul_one]
    rw [addP]
  · rw [show o + l + i = o + (l + i) by omega, hc]
    simp [List.getD, hi]
theorem cellsB : (sizeOf (Tryz.prog.elem 22)).run Tryz.prog = fun w => .ok 1 w := by
  have he : Tryz.prog.elem 22 = 5 := by kernel_rfl
  obtain ⟨i0, hi, hz0, hz1, hz2⟩ := info_parts infoByte
  funext w
  simp [sizeOf, typeInfo, he, hi, hz1]
theorem undB : Tryz.prog.underlying 22 = some (.slice (Tryz.prog.elem 22)) := by kernel_rfl
theorem cutB {a : Option Addr} {n cap : Nat} (l h : Int) (h0 : 0 ≤ l) (h1 : l ≤ h) (h2 : h ≤ n) (hn : n ≤ cap) :
    ∃ a' c', (∀ w : World, (Instr.sliceAt 22 (.slice a n cap) (some (.int .i64 l)) (some (.int .i64 h)) none).run Tryz.prog w = .ok (.slice a' (h - l).toNat c') w) ∧
      ∀ (w : World) (xs : List Byte), xs.length = n → BytesV w (.slice a n cap) xs → BytesV w (.slice a' (h - l).toNat c') ((xs.drop l.toNat).take (h - l).toNat) := by
  refine ⟨if cap = l.toNat then a else a.map (·.add (l.toNat * 1)), cap - l.toNat, fun w => ?_, fun w xs e hx => ?_⟩
  · rw [run_sliceAt_slice (h := undB), run_slice_lh (ht := undB) (h0 := h0) (h1 := h1) (h2 := by omega), cellsB]
    simp only [Result.andThen, sliced]
    rw [show h.toNat - l.toNat = (h - l).toNat by omega]
  · subst e
    have := bytes_cut hx l.toNat h.toNat (by omega) (by omega)
    rw [show h.toNat - l.toNat = (h - l).toNat by omega] at this
    exact this
theorem cutH {a : Option Addr} {n cap : Nat} (h : Int) (h0 : 0 ≤ h) (h2 : h ≤ n) (hn : n ≤ cap) :
    ∃ a' c', (∀ w : World, (Instr.sliceAt 22 (.slice a n cap) none (some (.int .i64 h)) none).run Tryz.prog w = .ok (.slice a' h.toNat c') w) ∧
      ∀ (w : World) (xs : List Byte), xs.length = n → BytesV w (.slice a n cap) xs → BytesV w (.slice a' h.toNat c') (xs.take h.toNat) := by
  refine ⟨if cap = 0 then a else a.map (·.add (0 * 1)), cap - 0, fun w => ?_, fun w xs e hx => ?_⟩
  · rw [run_sliceAt_slice (h := undB), run_slice_h (ht := undB) (h0 := h0) (h2 := by omega), cellsB]
    simp only [Result.andThen, sliced]
    rw [Nat.sub_zero]
  · subst e
    have := bytes_cut hx 0 h.toNat (by omega) (by omega)
    rw [Nat.sub_zero, List.drop_zero] at this
    exact this
theorem cutL {a : Option Addr} {n cap : Nat} (l : Int) (h0 : 0 ≤ l) (h2 : l ≤ n) (hn : n ≤ cap) :
    ∃ a' c', (∀ w : World, (Instr.sliceAt 22 (.slice a n cap) (some (.int .i64 l)) none none).run Tryz.prog w = .ok (.slice a' (n - l.toNat) c') w) ∧
      ∀ (w : World) (xs : List Byte), xs.length = n → BytesV w (.slice a n cap) xs → BytesV w (.slice a' (n - l.toNat) c') (xs.drop l.toNat) := by
  refine ⟨if cap = l.toNat then a else a.map (·.add (l.toNat * 1)), cap - l.toNat, fun w => ?_, fun w xs e hx => ?_⟩
  · rw [run_sliceAt_slice (h := undB), run_slice_l (ht := undB) (h0 := h0) (h1 := h2), cellsB]
    simp only [Result.andThen, sliced]
  · subst e
    have := bytes_cut hx l.toNat xs.length (by omega) (by omega)
    rw [show (xs.drop l.toNat).take (xs.length - l.toNat) = xs.drop l.toNat from List.take_of_length_le (by rw [List.length_drop]; omega)] at this
    exact this
end Go.Proofs.YtdfapehonegeeaaGreat

/-
  Records told out of bytes: the mathematics, and the program's frameSize.
-/
namespace Go.Proofs.YtdfapehonegeeaaGreat
open Go.RowKit
set_option linter.unusedSectionVars false
variable [DecidableEq BytesR] [Inhabited BytesR]
attribute [local go_sem ↓] Go.wp_at_zero Go.wp_at_succ

def fN (xs : List Byte) : Nat := (xs.getD 0 0).val * 256 + (xs.getD 1 0).val
def fC (xs : List Byte) : Nat := (xs.getD 2 0).val * 256 + (xs.getD 3 0).val
def frameSz (xs : List Byte) : Nat := if 1 ≤ fN xs ∧ fN xs ≤ 500 ∧ 4 + fN xs ≤ xs.length ∧ chk ((xs.drop 4).take (fN xs)) = fC xs then 4 + fN xs else 0
theorem frameSz_pos {xs : List Byte} (h : ¬ frameSz xs = 0) : frameSz xs = 4 + fN xs ∧ 1 ≤ fN xs ∧ fN xs ≤ 500 ∧ 4 + fN xs ≤ xs.length := by
  unfold frameSz at h ⊢
  split at h
  · rename_i h1; rw [if_pos h1]; exact ⟨rfl, h1.1, h1.2.1, h1.2.2.1⟩
  · exact absurd rfl h
def recLF : Nat → List Byte → List (List Byte)
  | 0, _ => []
  | f + 1, xs => if frameSz xs = 0 then [] else (xs.drop 4).take (frameSz xs - 4) :: recLF f (xs.drop (frameSz xs))
def recUF : Nat → List Byte → Nat
  | 0, _ => 0
  | f + 1, xs => if frameSz xs = 0 then 0 else frameSz xs + recUF f (xs.drop (frameSz xs))
def recL (xs : List Byte) : List (List Byte) := recLF xs.length xs
def recU (xs : List Byte) : Nat := recUF xs.length xs
theorem frameSz_nil {xs : List Byte} (h : xs.length = 0) : frameSz xs = 0 := by
  unfold frameSz
  rw [if_neg]
  omega
theorem recF_fuel : ∀ (f g : Nat) (xs : List Byte), xs.length ≤ f → xs.length ≤ g → recLF f xs = recLF g xs ∧ recUF f xs = recUF g xs
  | 0, 0, _, _, _ => ⟨rfl, rfl⟩
  | 0, g + 1, xs, h, _ => by
    have hz := frameSz_nil (xs := xs) (by omega)
    simp only [recLF, recUF, if_pos hz]
    exact ⟨trivial, trivial⟩
  | f + 1, 0, xs, _, h => by
    have hz := frameSz_nil (xs := xs) (by omega)
    simp only [recLF, recUF, if_pos hz]
    exact ⟨trivial, trivial⟩
  | f + 1, g + 1, xs, h1, h2 => by
    by_cases hz : frameSz xs = 0
    · simp only [recLF, recUF, if_pos hz]
      exact ⟨trivial, trivial⟩
    · have hp := frameSz_pos hz
      have ih := recF_fuel f g (xs.drop (frameSz xs)) (by rw [List.length_drop]; omega) (by rw [List.length_drop]; omega)
      simp only [recLF, recUF, if_neg hz, ih.1, ih.2]
      exact ⟨trivial, trivial⟩
theorem recL_end {xs : List Byte} (h : frameSz xs = 0) : recL xs = [] := by
  unfold recL
  cases hl : xs.length with
  | zero => rfl
  | succ f => simp only [recLF, if_pos h]
theorem recU_end {xs : List Byte} (h : frameSz xs = 0) : recU xs = 0 := by
  unfold recU
  cases hl : xs.length with
  | zero => rfl
  | succ f => simp only [recUF, if_pos h]
theorem recL_step {xs : List Byte} (h : ¬ frameSz xs = 0) : recL xs = (xs.drop 4).take (frameSz xs - 4) :: recL (xs.drop (frameSz xs)) := by
  have hp := frameSz_pos h
  unfold recL
  cases hl : xs.length with
  | zero => omega
  | succ f =>
    simp only [recLF, if_neg h]
    rw [(recF_fuel f (xs.drop (frameSz xs)).length (xs.drop (frameSz xs)) (by rw [List.length_drop]; omega) (Nat.le_refl _)).1]
theorem recU_step {xs : List Byte} (h : ¬ frameSz xs = 0) : recU xs = frameSz xs + recU (xs.drop (frameSz xs)) := by
  have hp := frameSz_pos h
  unfold recU
  cases hl : xs.length with
  | zero => omega
  | succ f =>
    simp only [recUF, if_neg h]
    rw [(recF_fuel f (xs.drop (frameSz xs)).length (xs.drop (frameSz xs)) (by rw [List.length_drop]; omega) (Nat.le_refl _)).2]
theorem hiN_two (xs : List Byte) (h : 2 ≤ xs.length) : hiN (xs.take 2) = (fN xs : Int) := by
  match xs, h with
  | a :: b :: r, _ => simp [hiN, fN, List.getD]
theorem hiN_check (xs : List Byte) (h : 4 ≤ xs.length) : hiN ((xs.drop 2).take 2) = (fC xs : Int) := by
  match xs, h with
  | a :: b :: c :: d :: r, _ => simp [hiN, fC, List.getD]
theorem fN_lt (xs : List Byte) : fN xs < 65536 := by
  have := (xs.getD 0 0).isLt
  have := (xs.getD 1 0).isLt
  unfold fN; omega
theorem fC_lt (xs : List Byte) : fC xs < 65536 := by
  have := (xs.getD 2 0).isLt
  have := (xs.getD 3 0).isLt
  unfold fC; omega
set_option maxHeartbeats 2000000 in
theorem frameSize_any (x : Value) (xs : List Byte) (w : World) (hx : BytesV w x xs) :
    Calls Tryz.prog 176 #[x] w fun e w' => e = .returned (.int .i64 (frameSz xs)) ∧ Below w.heap.size w w' := by
  have hX := hx
  obtain ⟨ax, cx, rfl, hcx, hmx, _⟩ := hx
  unfold maxLen at hmx
  by_cases h4 : xs.length < 4
  · have HS : Hid (frameSz xs = 0) := by
      unfold Hid frameSz
      rw [if_neg]
      omega
    rw [HS.out]
    generalize xs.length = n at *
    go_enter Tryz.func176, Tryz.ntmps176
    go_wp2
    go_ret
    exact ⟨rfl, Below.refl _ _⟩
  obtain ⟨a1, c1, run1, V1⟩ := cutH (a := ax) (n := xs.length) (cap := cx) 2 (by omega) (by omega) hcx
  have e1 := hiN_two xs (by omega)
  have hlt := fN_lt xs
  obtain ⟨m, hm⟩ : ∃ m, fN xs = m := ⟨_, rfl⟩
  rw [hm] at e1 hlt
  have HM : Hid (fN xs = m) := hm
  have u1 : hiN (xs.take 2) % 18446744073709551616 = m := by rw [e1]; omega
  have u2 : IntKind.i64.wrap (m : Int) = m := by rw [IntKind.wrap_i64]; omega
  have HV1 : Hid (∀ (w : World) (ys : List Byte), ys.length = xs.length → BytesV w (.slice ax xs.length cx) ys → BytesV w (.slice a1 (2 : Int).toNat c1) (ys.take (2 : Int).toNat)) := V1
  clear V1 hm e1
  by_cases hb : m = 0 ∨ 500 < m ∨ xs.length < 4 + m
  · have HS : Hid (frameSz xs = 0) := by
      unfold Hid frameSz
      rw [if_neg]
      rw [HM.out]
      omega
    rw [HS.out]
    go_enter Tryz.func176, Tryz.ntmps176
    go_wp2_with fail
    refine (bitsIn_any _ (xs.take 2) _ (HV1.out _ xs rfl hX)).mono ?_
    rintro e w1 ⟨rfl, rfl⟩
    rw [u1]
    generalize xs.length = n at *
    clear u1 run1 HV1
    rcases hb with hb | hb | hb
    all_goals
      go_wp2
      all_goals
        go_ret
        exact ⟨rfl, Below.refl _ _⟩
  · have hb1 : ¬ m = 0 := by omega
    have hb2 : ¬ 500 < m := by omega
    have hb3 : ¬ xs.length < 4 + m := by omega
    have d1 : ((4 : Int) + (m : Int) == 4) = false := by simp; omega
    have d2 : ¬ (504 : Int) < 4 + (m : Int) := by omega
    have d3 : ¬ (xs.length : Int) < 4 + (m : Int) := by omega
    obtain ⟨a2, c2, run2, V2⟩ := cutB (a := ax) (n := xs.length) (cap := cx) 2 4 (by omega) (by omega) (by omega) hcx
    obtain ⟨a3, c3, run3, V3⟩ := cutB (a := ax) (n := xs.length) (cap := cx) 4 (4 + m) (by omega) (by omega) (by omega) hcx
    have HV2 := V2 _ xs rfl hX
    have HV3 := V3 _ xs rfl hX
    rw [show ((4 : Int) + (m : Int) - 4).toNat = m by omega] at HV3
    rw [show ((4 : Int) + (m : Int) - 4).toNat = m by omega] at run3
    rw [show ((4 : Int) - 2).toNat = 2 by omega] at run2 HV2
    rw [show (2 : Int).toNat = 2 by omega] at HV2
    rw [show (4 : Int).toNat = 4 by omega] at HV3
    have hl2 := fC_lt xs
    have e2 := hiN_check xs (by omega)
    obtain ⟨q, hq⟩ : ∃ q, fC xs = q := ⟨_, rfl⟩
    rw [hq] at e2 hl2
    have HQ : Hid (fC xs = q) := hq
    have u3 : IntKind.i64.wrap (hiN ((xs.drop 2).take 2)) = q := by rw [e2, IntKind.wrap_i64]; omega
    obtain ⟨r, hr⟩ : ∃ r, chk ((xs.drop 4).take m) = r := ⟨_, rfl⟩
    have HR : Hid (chk ((xs.drop 4).take m) = r) := hr
    clear V2 V3 hq hr e2 hb
    by_cases hc : (q : Int) = r
    · have HS : Hid (frameSz xs = 4 + m) := by
        unfold Hid frameSz
        rw [HM.out, HQ.out, HR.out, if_pos]
        omega
      rw [HS.out]
      have hd : ((q : Int) == r) = true := by simpa using hc
      go_enter Tryz.func176, Tryz.ntmps176
      go_wp2_with fail
      refine (bitsIn_any _ (xs.take 2) _ (HV1.out _ xs rfl hX)).mono ?_
      rintro e w1 ⟨rfl, rfl⟩
      rw [u1]
      clear u1 run1 HV1 hc
      go_wp2
      go_region_held3 (fun w' => Below w1.heap.size w1 w') ((repeat (first | exact Below.refl _ _ | assumption | refine Below.drew ?_ | refine balloc ?_ _ | refine bset ?_ (by simp; omega) _ | refine bset ?_ (by simp) _ | refine bstep ?_ (by assumption)))) (first | (go_at_call 167; refine (numberIn_any _ _ _ (BytesV_below HV2 (by (repeat (first | exact Below.refl _ _ | assumption | refine Below.drew ?_ | refine balloc ?_ _ | refine bset ?_ (by simp; omega) _ | refine bset ?_ (by simp) _ | refine bstep ?_ (by assumption)))))).mono ?_; rintro e w2 ⟨rfl, rfl⟩; rw [u3]) | (go_at_call 156; refine (implChk_any _ _ _ (BytesV_below HV3 (by (repeat (first | exact Below.refl _ _ | assumption | refine Below.drew ?_ | refine balloc ?_ _ | refine bset ?_ (by simp; omega) _ | refine bset ?_ (by simp) _ | refine bstep ?_ (by assumption)))))).mono ?_; rintro e w2 ⟨rfl, rfl⟩; rw [HR.out]))
      all_goals
        rename_i hH
        go_wp2
        go_ret
        exact ⟨rfl, hH⟩
    · have HS : Hid (frameSz xs = 0) := by
        unfold Hid frameSz
        rw [HM.out, HQ.out, HR.out, if_neg]
        intro h
        exact hc h.2.2.2.symm
      rw [HS.out]
      have hd : ((q : Int) == r) = false := by simpa using hc
      go_enter Tryz.func176, Tryz.ntmps176
      go_wp2_with fail
      refine (bitsIn_any _ (xs.take 2) _ (HV1.out _ xs rfl hX)).mono ?_
      rintro e w1 ⟨rfl, rfl⟩
      rw [u1]
      clear u1 run1 HV1 hc
      go_wp2
      go_region_held3 (fun w' => Below w1.heap.size w1 w') ((repeat (first | exact Below.refl _ _ | assumption | refine Below.drew ?_ | refine balloc ?_ _ | refine bset ?_ (by simp; omega) _ | refine bset ?_ (by simp) _ | refine bstep ?_ (by assumption)))) (first | (go_at_call 167; refine (numberIn_any _ _ _ (BytesV_below HV2 (by (repeat (first | exact Below.refl _ _ | assumption | refine Below.drew ?_ | refine balloc ?_ _ | refine bset ?_ (by simp; omega) _ | refine bset ?_ (by simp) _ | refine bstep ?_ (by assumption)))))).mono ?_; rintro e w2 ⟨rfl, rfl⟩; rw [u3]) | (go_at_call 156; refine (implChk_any _ _ _ (BytesV_below HV3 (by (repeat (first | exact Below.refl _ _ | assumption | refine Below.drew ?_ | refine balloc ?_ _ | refine bset ?_ (by simp; omega) _ | refine bset ?_ (by simp) _ | refine bstep ?_ (by assumption)))))).mono ?_; rintro e w2 ⟨rfl, rfl⟩; rw [HR.out]))
      all_goals
        rename_i hH
        go_wp2
        go_ret
        exact ⟨rfl, hH⟩
end Go.Proofs.YtdfapehonegeeaaGreat

/-
  One more row of bytes appended to a row of such.
-/
namespace Go.Proofs.YtdfapehonegeeaaGreat
open Go.RowKit

theorem wpList_append_at {P : Program} (w : World) {ops : Array Oper} {rest : List Oper} {o : Oper} {a : Act} {Q : Exit → Act → World → Prop} (hgd : o.guard = none) (s x : Operand) (t : TypeId)
    (ho : o.op = .call { callee := .builtin .append, args := #[s, x], argTypes := #[t, t] })
    (base : Nat) (e : TypeId) (i : TypeInfo) (z : Value) (size bytes : Nat) (ht : P.underlying t = some (.slice e)) (hi : P.info? e = some i) (hz : i.zero = some z)
    (hsize : i.size = size) (hby : i.bytes = bytes) (hzs : z.cells.size = size) (hsz : 0 < size)
    (v : Value) (n : Nat) (xs : List Value) (hs : a.eval s = v) (hown : w.ownsRow base e size v n xs)
    (ad : Addr) (m c : Nat) (news : List Value) (hx : a.eval x = .slice (some ad) m c) (hl : news.length = m * size) (hnews : ∀ j u, news[j]? = some u → w.cell? (ad.add j) = some u) (h1 : ∀ u ∈ news, u.oneCell' = true)
    (h63 : n + m ≤ maxLen) (hbytes : (n + m) * bytes ≤ 140737488355328) (hbase : base ≤ w.heap.size)
    (h : ∀ v' w', w'.ownsRow base e size v' (n + m) (xs ++ news) → w.grownBy w' v.ownBlock → (v'.ownBlock = v.ownBlock ∨ v'.ownBlock = some w.heap.size) → wpList P ops Q rest (a.put o.dst v') w') :
    wpList P ops Q (o :: rest) a w := by
  refine wpList_plain hgd fun K' hK' => ?_
  obtain ⟨v', w', hr, h2, h3, _, h5⟩ := run_append_own_at (P := P) w base t o.type e i z size bytes ht hi hz hsize hby hzs hsz v n xs hown ad m c news hl hnews h1 h63 hbytes hbase
  unfold Oper.wp execOp
  simp only [ho, resolve, invoke, builtin, Sem.run_bind, Sem.run_pure, Result.andThen_ok, List.map_toArray, List.map_cons, List.map_nil, hs, hx, hr]
  exact hK' _ _ (h v' w' h2 h3 h5)
def RowsB (w : World) (base : Nat) (v : Value) (out : List (List Byte)) : Prop :=
  ∃ cs us fs, PO bytesR 22 1 one w base v out.length out.length (fun i => out.getD i default) cs us fs
theorem rowsB_below {w w' : World} {base : Nat} {v : Value} {out : List (List Byte)} (h : RowsB w base v out) (hb : Below w.heap.size w w') : RowsB w' base v out := by
  obtain ⟨cs, us, fs, hp⟩ := h
  exact ⟨cs, us, fs, hp.keep hb⟩
theorem rowsB_O {w : World} {base : Nat} {v : Value} {out : List (List Byte)} (h : RowsB w base v out) : ∃ F, bytessR.O w base F v out := by
  obtain ⟨cs, us, fs, hp⟩ := h
  exact ⟨_, cs, us, fs, hp, fun b => Iff.rfl⟩
theorem rowsB_form {w : World} {base : Nat} {v : Value} {out : List (List Byte)} (h : RowsB w base v out) : ∃ a c, v = .slice a out.length c := by
  obtain ⟨cs, us, fs, hp⟩ := h
  exact owns_form hp.row
theorem rowsB_nil {w : World} {base : Nat} {v : Value} (h : w.ownsRow base 22 1 v 0 []) : RowsB w base v [] :=
  ⟨[], fun _ => .int .i64 0, fun _ _ => False, h, fun _ h => absurd h (Nat.not_lt_zero _), fun _ h => absurd h (Nat.not_lt_zero _), fun _ h => absurd h (Nat.not_lt_zero _), fun _ h => absurd h (Nat.not_lt_zero _), fun _ _ h => absurd h (Nat.not_lt_zero _)⟩
theorem rowsB_own {w : World} {base : Nat} {v : Value} {out : List (List Byte)} (h : RowsB w base v out) : Own base w.heap.size v := by
  obtain ⟨cs, us, fs, hp⟩ := h
  exact own_of hp.row
theorem wpList_pushB (w0 Y : World) {ops : Array Oper} {rest : List Oper} {o : Oper} {a : Act} {Q : Exit → Act → World → Prop} (hgd : o.guard = none) (s x : Operand)
    (ho : o.op = .call { callee := .builtin .append, args := #[s, x], argTypes := #[131, 131] })
    (base : Nat) (v : Value) (out : List (List Byte)) (hp : RowsB w0 base v out) (hbs : base ≤ w0.heap.size) (hb : Below w0.heap.size w0 Y)
    (F : Nat → Prop) (u : Value) (d : List Byte) (hu : bytesR.O Y w0.heap.size F u d) (hs : a.eval s = v) (hx : a.eval x = .slice (some ⟨Y.heap.size, 0, none⟩) 1 1) (hlen : out.length ≤ 1048576)
    (h : ∀ v' w', RowsB w' base v' (out ++ [d]) → (∀ W : World, Below base W w0 → Below base W w') → wpList Tryz.prog ops Q rest (a.put o.dst v') w') :
    wpList Tryz.prog ops Q (o :: rest) a (Y.alloc (.cells #[u] 22)) := by
  obtain ⟨cs, us, fs, hp⟩ := hp
  obtain ⟨i0, hi, hz0, hz1, hz2⟩ := info_parts infoBytess
  obtain ⟨a1, c1, e1⟩ := bytes_form (bytesR.ofO hu)
  have hb' : Below w0.heap.size w0 (Y.alloc (.cells #[u] 22)) := balloc hb _
  have hs0 := hb.size
  refine wpList_append_at _ hgd s x 131 ho base 22 i0 _ 1 24 Tryz.underlying131 hi hz0 hz1 hz2 rfl (by decide) v out.length cs hs (owns_below hp.row hb') ⟨Y.heap.size, 0, none⟩ 1 1 [u] hx rfl ?_ ?_ (by unfold maxLen; omega) (by omega) (by rw [World.size_alloc]; omega) ?_
  · intro j x hj
    match j, hj with
    | 0, hj => simp at hj; subst hj; simp [Addr.add, go_sem]
    | j + 1, hj => simp at hj
  · intro x hx
    simp only [List.mem_cons, List.not_mem_nil, or_false] at hx
    subst hx
    rw [e1]
    rfl
  · intro v' w' h1 h2 h3
    refine h v' w' ?_ (fun W hW => (hW.trans (hb'.mono hbs)).grown h2 (by rw [World.size_alloc]; omega) (fun k hk => ((owns_below hp.row hb').lt k hk).1))
    have hd : (out ++ [d]).getD out.length default = d := by simp [List.getD]
    have hp' : PO bytesR 22 1 one w0 base v out.length out.length (fun i => (out ++ [d]).getD i default) cs us fs := hp.cast (fun i hi => by simp [List.getD, List.getElem?_append_left hi])
    have := hp'.append (Y := Y.alloc (.cells #[u] 22)) (w' := w') (v' := v') (u := u) (F' := F) hbs hb' (by rw [hd]; exact bytesR.alloc hu _) rfl h1 h2 (by
      rcases h3 with h3 | h3
      · exact .inl h3
      · exact .inr ⟨_, h3, Nat.le_refl _⟩)
    refine ⟨cs ++ one u, upd us out.length u, upd fs out.length F, ?_⟩
    rw [List.length_append]
    exact this
end Go.Proofs.YtdfapehonegeeaaGreat


import Derived.Test.YtdfapehonegeeaaGreatPrnWriteBatchLaw3
import Derived.Test.YtdfapehonegeeaaGreatPrnWriteBatchLaw1
import Derived.Test.YtdfapehonegeeaaGreatPrnWriteBatchLaw12
import Derived.Deep.QuietTactic
import Derived.BigQuiet

/-
  RecordsResult. (Written by program: nest.py.)
-/
namespace Go.Proofs.YtdfapehonegeeaaGreat
open Go.RowKit
set_option linter.unusedSectionVars false
attribute [local go_sem ↓] Go.wp_at_zero Go.wp_at_succ

structure RecsR where
  code : Int
  used : Int
  records : List (List Byte)
variable [DecidableEq RecsR] [Inhabited RecsR]

def recsRR : Rep RecsR where
  V := fun w v x => ∃ u1, v = .agg #[.int .i64 x.code, .int .i64 x.used, u1] ∧ bytessR.V w u1 x.records
  O := fun w base F v x => ∃ u1 F1, v = .agg #[.int .i64 x.code, .int .i64 x.used, u1] ∧ bytessR.O w base F1 u1 x.records ∧ (∀ b, F b ↔ (F1 b))
  below := fun h hb => by
    obtain ⟨u1, rfl, h1⟩ := h
    exact ⟨u1, rfl, bytessR.below h1 hb⟩
  ofO := fun h => by
    obtain ⟨u1, F1, rfl, h1, _⟩ := h
    exact ⟨u1, rfl, bytessR.ofO h1⟩
  mod := fun h hm hd => by
    obtain ⟨u1, F1, rfl, h1, hF⟩ := h
    exact ⟨u1, F1, rfl, bytessR.mod h1 hm (fun b hb => hd b ((hF b).2 hb)), hF⟩
  rng := fun h b hb => by
    obtain ⟨u1, F1, rfl, h1, hF⟩ := h
    rcases (hF b).1 hb with hb
    · exact bytessR.rng h1 b hb
  base := fun h hb => by
    obtain ⟨u1, F1, rfl, h1, hF⟩ := h
    exact ⟨u1, F1, rfl, bytessR.base h1 hb, hF⟩
theorem recsR_form {w : World} {v : Value} {x : RecsR} (h : recsRR.V w v x) : ∃ a1 c1, v = .agg #[.int .i64 x.code, .int .i64 x.used, .slice a1 x.records.length c1] := by
  obtain ⟨u1, rfl, h1⟩ := h
  obtain ⟨a1, c1, rfl⟩ := bytess_form h1
  exact ⟨_, _, rfl⟩
end Go.Proofs.YtdfapehonegeeaaGreat

/-
  Records told, on both sides.
-/
namespace Go.Proofs.YtdfapehonegeeaaGreat
open Go.RowKit
set_option linter.unusedSectionVars false
variable [DecidableEq BytesR] [Inhabited BytesR] [DecidableEq RecsR] [Inhabited RecsR]
attribute [local go_sem ↓] Go.wp_at_zero Go.wp_at_succ

theorem getD_drop (xs : List Byte) (k i : Nat) : (xs.drop k).getD i 0 = xs.getD (k + i) 0 := by simp [List.getD]
theorem fN_drop (xs : List Byte) (k : Nat) : fN (xs.drop k) = (xs.getD k 0).val * 256 + (xs.getD (k + 1) 0).val := by unfold fN; rw [getD_drop, getD_drop]; rfl
theorem fC_drop (xs : List Byte) (k : Nat) : fC (xs.drop k) = (xs.getD (k + 2) 0).val * 256 + (xs.getD (k + 3) 0).val := by unfold fC; rw [getD_drop, getD_drop]
theorem frameSz_short {xs : List Byte} (h : xs.length ≤ 4) : frameSz xs = 0 := by
  unfold frameSz
  rw [if_neg]
  omega
def SoFar (xs : List Byte) (k : Nat) (out : List (List Byte)) : Prop :=
  k ≤ xs.length ∧ out.length ≤ k ∧ recL xs = out ++ recL (xs.drop k) ∧ recU xs = k + recU (xs.drop k)
theorem soFar_start (xs : List Byte) : SoFar xs 0 [] := ⟨by omega, by simp, by simp, by simp⟩
theorem soFar_end {xs : List Byte} {k : Nat} {out : List (List Byte)} (h : SoFar xs k out) (hz : frameSz (xs.drop k) = 0) : recL xs = out ∧ recU xs = k := by
  obtain ⟨_, _, h3, h4⟩ := h
  rw [recL_end hz, List.append_nil] at h3
  rw [recU_end hz, Nat.add_zero] at h4
  exact ⟨h3, h4⟩
theorem soFar_step {xs : List Byte} {k m : Nat} {out : List (List Byte)} (h : SoFar xs k out) (hz : frameSz (xs.drop k) = 4 + m) (hm : 1 ≤ m) : SoFar xs (k + 4 + m) (out ++ [(xs.drop (k + 4)).take m]) := by
  obtain ⟨h1, h2, h3, h4⟩ := h
  have hz' : ¬ frameSz (xs.drop k) = 0 := by omega
  have h5 := frameSz_pos hz'
  rw [List.length_drop] at h5
  refine ⟨by omega, by rw [List.length_append, List.length_singleton]; omega, ?_, ?_⟩
  · rw [h3, recL_step hz', hz, List.drop_drop, List.drop_drop, List.append_assoc, show k + (4 + m) = k + 4 + m by omega, show 4 + m - 4 = m by omega]
    rfl
  · rw [h4, recU_step hz', hz, List.drop_drop, show k + (4 + m) = k + 4 + m by omega]
    omega
theorem bdrewB {B : Nat} {w Y : World} (h : Below B w Y) (n : Nat) : Below B w (Y.drewN n) := h.trans ⟨rfl, rfl, rfl, Nat.le_refl _, fun _ _ => rfl⟩
theorem rec_end {wz : World} {base : Nat} {xs : List Byte} {k : Nat} {out : List (List Byte)} {v : Value} (hso : SoFar xs k out) (hz : frameSz (xs.drop k) = 0) (hro : RowsB wz base v out) :
    (∃ F, bytessR.O wz base F v (recL xs)) ∧ recU xs = k := by
  obtain ⟨e1, e2⟩ := soFar_end hso hz
  rw [e1]
  exact ⟨rowsB_O hro, e2⟩
set_option maxHeartbeats 4000000 in
theorem l3Records_any (x : Value) (xs : List Byte) (w : World) (hx : BytesV w x xs) (hn : xs.length ≤ 6000) :
    Calls Tryz.prog 103 #[x] w fun e w' => ∃ v F, e = .returned (.tuple #[v, .int .i64 (recU xs)]) ∧ bytessR.O w' w.heap.size F v (recL xs) ∧ Below w.heap.size w w' := by
  have hX := hx
  obtain ⟨ax, cx, rfl, hcx, hmx, hx⟩ := hx
  unfold maxLen at hmx
  go_enter Tryz.func103, Tryz.ntmps103
  go_wp2
  go_loopw [4, 5] (fun v i w' => ∃ (k : Nat) (out : List (List Byte)), i = .int .i64 k ∧ SoFar xs k out ∧ RowsB w' w.heap.size v out ∧ Below w.heap.size w w') (fun _ i _ => xs.length - (intOf i).toNat)
  case atStart =>
    refine ⟨0, [], rfl, soFar_start xs, rowsB_nil ?_, balloc (Below.refl _ _) _⟩
    exact World.ownsRow_lit (base := w.heap.size) (e := 22) (size := 1) w #[] 0 (by simp) (by unfold maxLen; omega) rfl
  case round =>
    obtain ⟨k, out, rfl, hso, hro, hbl⟩ := hrel
    have hkn := hso.1
    have hok := hso.2.1
    obtain ⟨av, cv, rfl⟩ := rowsB_form hro
    have HSo : Hid (SoFar xs k out) := hso
    have HRo : Hid (RowsB wr w.heap.size (.slice av out.length cv) out) := hro
    clear hso hro
    by_cases hlt : k + 4 < xs.length
    · obtain ⟨b, o, rfl, g0⟩ := hx k (by omega)
      obtain ⟨b', o', e, g1⟩ := hx (k + 1) (by omega)
      simp only [Option.some.injEq, Addr.mk.injEq, and_true] at e
      obtain ⟨rfl, rfl⟩ := e
      obtain ⟨b', o', e, g2⟩ := hx (k + 2) (by omega)
      simp only [Option.some.injEq, Addr.mk.injEq, and_true] at e
      obtain ⟨rfl, rfl⟩ := e
      obtain ⟨b', o', e, g3⟩ := hx (k + 3) (by omega)
      simp only [Option.some.injEq, Addr.mk.injEq, and_true] at e
      obtain ⟨rfl, rfl⟩ := e
      have hfN := fN_drop xs k
      have hfC := fC_drop xs k
      obtain ⟨p0, hp0⟩ : ∃ p, (xs.getD k 0).val = p := ⟨_, rfl⟩
      obtain ⟨p1, hp1⟩ : ∃ p, (xs.getD (k + 1) 0).val = p := ⟨_, rfl⟩
      obtain ⟨p2, hp2⟩ : ∃ p, (xs.getD (k + 2) 0).val = p := ⟨_, rfl⟩
      obtain ⟨p3, hp3⟩ : ∃ p, (xs.getD (k + 3) 0).val = p := ⟨_, rfl⟩
      have l0 : p0 < 256 := by rw [← hp0]; exact (xs.getD k 0).isLt
      have l1 : p1 < 256 := by rw [← hp1]; exact (xs.getD (k + 1) 0).isLt
      have l2 : p2 < 256 := by rw [← hp2]; exact (xs.getD (k + 2) 0).isLt
      have l3 : p3 < 256 := by rw [← hp3]; exact (xs.getD (k + 3) 0).isLt
      rw [hp0, hp1] at hfN
      rw [hp2, hp3] at hfC
      rw [hp0] at g0
      rw [hp1] at g1
      rw [hp2] at g2
      rw [hp3] at g3
      replace g0 := cell_keep hbl g0
      replace g1 := cell_keep hbl g1
      replace g2 := cell_keep hbl g2
      replace g3 := cell_keep hbl g3
      obtain ⟨m, hm⟩ : ∃ m, p0 * 256 + p1 = m := ⟨_, rfl⟩
      obtain ⟨q, hq⟩ : ∃ q, p2 * 256 + p3 = q := ⟨_, rfl⟩
      have HN : Hid (fN (xs.drop k) = m) := by rw [← hm]; exact hfN
      have HC : Hid (fC (xs.drop k) = q) := by rw [← hq]; exact hfC
      have v0 : IntKind.i64.wrap (p0 : Int) = p0 := by rw [IntKind.wrap_i64]; omega
      have v1 : IntKind.i64.wrap (p1 : Int) = p1 := by rw [IntKind.wrap_i64]; omega
      have v2 : IntKind.i64.wrap (p2 : Int) = p2 := by rw [IntKind.wrap_i64]; omega
      have v3 : IntKind.i64.wrap (p3 : Int) = p3 := by rw [IntKind.wrap_i64]; omega
      have v4 : IntKind.i64.wrap ((p0 : Int) * 256) = p0 * 256 := by rw [IntKind.wrap_i64]; omega
      have v5 : IntKind.i64.wrap ((p2 : Int) * 256) = p2 * 256 := by rw [IntKind.wrap_i64]; omega
      have v6 : IntKind.i64.wrap ((p0 : Int) * 256 + p1) = m := by rw [IntKind.wrap_i64]; omega
      have v7 : IntKind.i64.wrap ((p2 : Int) * 256 + p3) = q := by rw [IntKind.wrap_i64]; omega
      have v8 : IntKind.i64.wrap ((k : Int) + 1) = k + 1 := by rw [IntKind.wrap_i64]; omega
      have v9 : IntKind.i64.wrap ((k : Int) + 2) = k + 2 := by rw [IntKind.wrap_i64]; omega
      have v10 : IntKind.i64.wrap ((k : Int) + 3) = k + 3 := by rw [IntKind.wrap_i64]; omega
      have i0 : ((k : Int) + 1).toNat = k + 1 := by omega
      have i2 : ((k : Int) + 2).toNat = k + 2 := by omega
      have i3 : ((k : Int) + 3).toNat = k + 3 := by omega
      have hm6 : m < 65536 := by omega
      have HM : Hid (p0 * 256 + p1 = m) := hm
      have HQ : Hid (p2 * 256 + p3 = q) := hq
      clear hp0 hp1 hp2 hp3 hm hq hfN hfC hx
      by_cases hbad : m < 1 ∨ 500 < m ∨ xs.length < k + 4 + m
      · have HZ : Hid (frameSz (xs.drop k) = 0) := by
          unfold Hid frameSz
          rw [if_neg]
          rw [HN.out, List.length_drop]
          omega
        go_wp2
        go_quiet (fail)
        rcases hbad with hbad | hbad | hbad
        all_goals
          go_wp2
          all_goals
            obtain ⟨⟨F, hO⟩, hU⟩ := rec_end HSo.out HZ.out HRo.out
            refine bodyPost_ret (v := .tuple #[.slice av out.length cv, .int .i64 k]) (by simp [results, Tryz.results103, go_sem]) rfl ?_
            rw [hU]
            have hb2 := bdrewB (Below.refl wr.heap.size wr) nq
            first | exact ⟨_, F, rfl, bytessR.keep hO hb2, bstep hbl hb2⟩ | exact ⟨_, rfl, ⟨F, bytessR.keep hO hb2⟩, bstep hbl hb2⟩
      · have d1 : ¬ (m : Int) < 1 := by omega
        have d2 : ¬ (500 : Int) < (m : Int) := by omega
        have d3 : ¬ (xs.length : Int) < (k : Int) + 4 + (m : Int) := by omega
        have hm1 : 1 ≤ m := by omega
        have hV := bytes_cut hX (k + 4) (k + 4 + m) (by omega) (by omega)
        rw [if_neg (by omega)] at hV
        simp only [Option.map_some, Nat.mul_one, addP] at hV
        rw [show (xs.drop (k + 4)).take (k + 4 + m - (k + 4)) = (xs.drop (k + 4)).take m by rw [show k + 4 + m - (k + 4) = m by omega]] at hV
        replace hV := BytesV_below hV hbl
        obtain ⟨rr, hrr⟩ : ∃ rr, (xs.drop (k + 4)).take m = rr := ⟨_, rfl⟩
        rw [hrr] at hV
        have hrl : rr.length ≤ 500 := by rw [← hrr, List.length_take, List.length_drop]; omega
        have HRR : Hid ((xs.drop (k + 4)).take m = rr) := hrr
        obtain ⟨r, hr⟩ : ∃ r, chk rr = r := ⟨_, rfl⟩
        have HR : Hid (chk rr = r) := hr
        have hm500 : m ≤ 500 := by omega
        clear hbad hrr hr
        go_wp2
        go_quiet (fail)
        go_wp2
        have hbq := bdrewB (Below.refl wr.heap.size wr) nq
        generalize wr.drewN nq = wq at *
        replace g2 := cell_keep hbq g2
        replace g3 := cell_keep hbq g3
        replace hV := BytesV_below hV hbq
        have HRo' := rowsB_below HRo.out hbq
        clear HRo g0 g1
        have hbw : Below w.heap.size w wq := bstep hbl hbq
        clear hbl hbq
        generalize Value.slice (some ⟨b, o + (k + 4), none⟩) (k + 4 + m - (k + 4)) (cx - (k + 4)) = sv at *
        have hCk : ∀ W : World, Below wq.heap.size wq W → Calls Tryz.prog 144 #[sv] W fun e w' => e = .returned (.int .i64 r) ∧ w' = W := fun W hW => by
          rw [← HR.out]
          exact specChk_any _ _ _ (BytesV_below hV hW)
        by_cases hc : r = (q : Int)
        · have HZ : Hid (frameSz (xs.drop k) = 4 + m) := by
            unfold Hid frameSz
            rw [HN.out, HC.out, List.length_drop, List.drop_drop, HRR.out, HR.out, if_pos]
            omega
          have hd : (r == (q : Int)) = true := by simpa using hc
          go_quiet (first | (go_at_call 144; refine Calls.quiet_of_same (hCk _ ?_); exact bdrewB (Below.refl _ _) _))
          have hb2 := bdrewB (Below.refl wq.heap.size wq) nq
          generalize wq.drewN nq = w3 at *
          clear hCk g2 g3 hc hd
          replace hV := BytesV_below hV hb2
          have hR3 := rowsB_below HRo' hb2
          have hbw3 : Below w.heap.size w w3 := bstep hbw hb2
          clear HRo' hb2 hbw
          have hs3 := hbw3.size
          have hrow := World.ownsRow_lit (base := w3.heap.size) (e := 5) (size := 1) w3 #[] 0 (by simp) (by unfold maxLen; omega) rfl
          have hrow' : World.ownsRow (w3.alloc (.cells #[] 5)) w3.heap.size 5 1 (.slice (some ⟨w3.heap.size, 0, none⟩) 0 0) ([] : List Byte).length (bytesC []) := hrow
          have hV3 := BytesV_below hV (balloc (Below.refl _ _) (.cells #[] 5))
          have hsrc := appAny_bytes hV3
          have hlen1 : ([] : List Byte).length + rr.length ≤ 1073741824 := by simp only [List.length_nil]; omega
          have hz3 : w3.heap.size ≤ (w3.alloc (.cells #[] 5)).heap.size := by simp
          clear hrow
          go_wp2_with (at_builtin; refine wpList_appB _ rfl _ _ rfl w3.heap.size _ [] rfl _ rr rfl hrow' hsrc hlen1 hz3 ?_)
          intro v1 w4 o1 hg hB
          have hb4 := hB w3 (balloc (Below.refl _ _) _)
          have o1' : bytesR.O w4 w3.heap.size (fun b => v1.ownBlock = some b) v1 rr := ⟨by simpa using o1, rfl⟩
          obtain ⟨a1, c1, rfl⟩ := bytes_form (bytesR.ofO o1')
          clear hB hg o1 hrow' hsrc hlen1 hz3 hV3
          have hol : out.length ≤ 1048576 := by omega
          go_wp2_with (at_builtin; refine wpList_pushB w3 w4 rfl _ _ rfl w.heap.size _ out hR3 hs3 hb4 _ _ rr o1' rfl rfl hol ?_)
          intro v2 w5 hR5 hB5
          have hb5 := hB5 w hbw3
          have HR5 : Hid (RowsB w5 w.heap.size v2 (out ++ [rr])) := hR5
          clear hR3 hB5 hR5 o1' hb4
          have HS5 := soFar_step HSo.out HZ.out hm1
          rw [HRR.out] at HS5
          have HS6 : Hid (SoFar xs (k + 4 + m) (out ++ [rr])) := HS5
          clear HS5
          go_wp2
          refine ⟨⟨k + 4 + m, out ++ [rr], by go_num, HS6.out, HR5.out, hb5⟩, by simp [intOf]; omega⟩
        · have HZ : Hid (frameSz (xs.drop k) = 0) := by
            unfold Hid frameSz
            rw [if_neg]
            rw [HN.out, HC.out, List.length_drop, List.drop_drop, HRR.out, HR.out]
            omega
          have hd : (r == (q : Int)) = false := by simpa using hc
          go_quiet (first | (go_at_call 144; refine Calls.quiet_of_same (hCk _ ?_); exact bdrewB (Below.refl _ _) _))
          have hb2 := bdrewB (Below.refl wq.heap.size wq) nq
          generalize wq.drewN nq = w3 at *
          obtain ⟨⟨F, hO⟩, hU⟩ := rec_end HSo.out HZ.out HRo'
          clear hCk hV HRo'
          go_wp2
          refine bodyPost_ret (v := .tuple #[.slice av out.length cv, .int .i64 k]) (by simp [results, Tryz.results103, go_sem]) rfl ?_
          rw [hU]
          first | exact ⟨_, F, rfl, bytessR.keep hO hb2, bstep hbw hb2⟩ | exact ⟨_, rfl, ⟨F, bytessR.keep hO hb2⟩, bstep hbw hb2⟩
    · go_wp2
      refine bodyPost_ret (v := .tuple #[.slice av out.length cv, .int .i64 k]) (by simp [results, Tryz.results103, go_sem]) rfl ?_
      obtain ⟨⟨F, hO⟩, hU⟩ := rec_end HSo.out (frameSz_short (by rw [List.length_drop]; omega)) HRo.out
      rw [hU]
      first | exact ⟨_, F, rfl, hO, hbl⟩ | exact ⟨_, rfl, ⟨F, hO⟩, hbl⟩
end Go.Proofs.YtdfapehonegeeaaGreat

/-
  UnframeAll on both sides.
-/
namespace Go.Proofs.YtdfapehonegeeaaGreat
open Go.RowKit
set_option linter.unusedSectionVars false
variable [DecidableEq BytesR] [Inhabited BytesR] [DecidableEq RecsR] [Inhabited RecsR]
attribute [local go_sem ↓] Go.wp_at_zero Go.wp_at_succ

def recsD (xs : List Byte) : RecsR := if xs.length ≤ 6000 then ⟨0, recU xs, recL xs⟩ else ⟨2, 0, []⟩
theorem recsR_nil (w : World) (base : Nat) (c u : Int) : recsRR.O w base none_ (.agg #[.int .i64 c, .int .i64 u, .slice none 0 0]) ⟨c, u, []⟩ :=
  ⟨.slice none 0 0, none_, rfl, ⟨[], fun _ => .int .i64 0, fun _ _ => False, ⟨World.ownsRow_nil w base 22 1, fun _ h => absurd h (Nat.not_lt_zero _), fun _ h => absurd h (Nat.not_lt_zero _), fun _ h => absurd h (Nat.not_lt_zero _), fun _ h => absurd h (Nat.not_lt_zero _), fun _ _ h => absurd h (Nat.not_lt_zero _)⟩, fun b => by simp [none_, Value.ownBlock]⟩, fun b => Iff.rfl⟩
set_option maxHeartbeats 2000000 in
theorem implUnframe_u (x : Value) (xs : List Byte) (w : World) (hx : bytesR.V w x xs) :
    Calls Tryz.prog 166 #[x] w fun e w' => ∃ v F, e = .returned v ∧ recsRR.O w' w.heap.size F v (recsD xs) ∧ Below w.heap.size w w' := by
  have hX := hx
  obtain ⟨ax, cx, rfl, hcx, hmx, hx⟩ := hx
  unfold maxLen at hmx
  by_cases h : xs.length ≤ 6000
  · have HD : Hid (recsD xs = ⟨0, recU xs, recL xs⟩) := if_pos h
    go_enter Tryz.func166, Tryz.ntmps166
    go_wp2_with fail
    refine (frameSize_any _ xs _ (bytesR.below hX (by (repeat (first | exact Below.refl _ _ | assumption | refine Below.drew ?_ | refine balloc ?_ _ | refine bset ?_ (by simp; omega) _ | refine bset ?_ (by simp) _ | refine bstep ?_ (by assumption)))))).mono ?_
    rintro e w1 ⟨rfl, hb1⟩
    have hr0 : w1.cell? ⟨w.heap.size, 0, none⟩ = some (.int .i64 0) := cell_keep hb1 (by simp [go_sem])
    have hr1 : w1.cell? ⟨w.heap.size, 1, none⟩ = some (.int .i64 0) := cell_keep hb1 (by simp [go_sem])
    have hr2 : w1.cell? ⟨w.heap.size, 2, none⟩ = some (.slice none 0 0) := cell_keep hb1 (by simp [go_sem])
    have hrf : (∀ o, w1.frozen? ⟨w.heap.size, o, none⟩ = false) ∧ w.heap.size < w1.heap.size := (boxNew3 hb1 rfl).2.2.2
    have hB1 : Below w.heap.size w w1 := by (repeat (first | exact Below.refl _ _ | assumption | refine Below.drew ?_ | refine balloc ?_ _ | refine bset ?_ (by simp; omega) _ | refine bset ?_ (by simp) _ | refine bstep ?_ (by assumption)))
    have HS : Hid (frameSz (xs.drop 0) = frameSz xs) := by simp [Hid]
    clear hb1
    go_wp2
    go_loopw [3, 4, 5] (fun v i j w' => ∃ (k sz : Nat) (out : List (List Byte)), i = .int .i64 k ∧ j = .int .i64 sz ∧ frameSz (xs.drop k) = sz ∧ SoFar xs k out ∧ RowsB w' (w.heap.size + 1) v out ∧
        (w'.cell? ⟨w.heap.size, 0, none⟩ = some (.int .i64 0) ∧ w'.cell? ⟨w.heap.size, 1, none⟩ = some (.int .i64 0) ∧ w'.cell? ⟨w.heap.size, 2, none⟩ = some (.slice none 0 0)) ∧ ((∀ o, w'.frozen? ⟨w.heap.size, o, none⟩ = false) ∧ w.heap.size < w'.heap.size) ∧ Below w.heap.size w w') (fun _ i _ _ => xs.length - (intOf i).toNat)
    case atStart =>
      refine ⟨0, frameSz xs, [], rfl, rfl, HS.out, soFar_start xs, rowsB_nil (World.ownsRow_nil _ _ _ _), ⟨hr0, hr1, hr2⟩, hrf, hB1⟩
    case round =>
      clear hr0 hr1 hr2 hrf hB1
      obtain ⟨k, sz, out, rfl, rfl, hsz, hso, hro, ⟨hr0, hr1, hr2⟩, hrf, hbl⟩ := hrel
      have hkn := hso.1
      have hok := hso.2.1
      obtain ⟨av, cv, rfl⟩ := rowsB_form hro
      have HSo : Hid (SoFar xs k out) := hso
      have HSz : Hid (frameSz (xs.drop k) = sz) := hsz
      clear hso hsz
      by_cases h0 : sz = 0
      · subst h0
        obtain ⟨⟨F, hO⟩, hU⟩ := rec_end HSo.out HSz.out hro
        obtain ⟨hrf, hlt⟩ := hrf
        have HO : Hid (bytessR.O wr (w.heap.size + 1) F (.slice av out.length cv) (recL xs)) := hO
        clear hO hro
        go_wp2
        refine bodyPost_ret (v := .agg #[.int .i64 0, .int .i64 k, .slice av out.length cv]) ?_ rfl ?_
        · simp [results, Tryz.results166, go_sem, hr0, hr1, hr2]
        · rw [HD.out, hU]
          have ho2 := bytessR.set (bytessR.set (bytessR.set HO.out (p := ⟨w.heap.size, 0, none⟩) (.int .i64 0) (by simp)) (p := ⟨w.heap.size, 1, none⟩) (.int .i64 k) (by simp)) (p := ⟨w.heap.size, 2, none⟩) (.slice av out.length cv) (by simp)
          first | exact ⟨_, F, rfl, ⟨_, F, rfl, bytessR.base ho2 (by omega), fun b => Iff.rfl⟩, by (repeat (first | exact Below.refl _ _ | assumption | refine Below.drew ?_ | refine balloc ?_ _ | refine bset ?_ (by simp; omega) _ | refine bset ?_ (by simp) _ | refine bstep ?_ (by assumption)))⟩ | exact ⟨_, rfl, ⟨F, ⟨_, F, rfl, bytessR.base ho2 (by omega), fun b => Iff.rfl⟩⟩, by (repeat (first | exact Below.refl _ _ | assumption | refine Below.drew ?_ | refine balloc ?_ _ | refine bset ?_ (by simp; omega) _ | refine bset ?_ (by simp) _ | refine bstep ?_ (by assumption)))⟩
      · have hp := frameSz_pos (xs := xs.drop k) (by rw [HSz.out]; exact h0)
        rw [HSz.out, List.length_drop] at hp
        obtain ⟨m, hm⟩ : ∃ m, fN (xs.drop k) = m := ⟨_, rfl⟩
        rw [hm] at hp
        obtain ⟨rfl, hm1, hm2, hm3⟩ := hp
        clear hm h0
        have hm4 : k + 4 + m ≤ xs.length := by omega
        obtain ⟨b, o, rfl, _⟩ := hx 0 (by omega)
        have hbs : w.heap.size + 1 ≤ wr.heap.size := hrf.2
        have HV2 := bytes_cut hX (k + 4) (k + (4 + m)) (by omega) (by omega)
        rw [if_neg (by omega)] at HV2
        simp only [Option.map_some, Nat.mul_one, addP] at HV2
        replace HV2 := BytesV_below HV2 hbl
        have HV3 := bytes_cut hX (k + (4 + m)) xs.length (by omega) (by omega)
        simp only [Option.map_some, Nat.mul_one, addP] at HV3
        rw [show (xs.drop (k + (4 + m))).take (xs.length - (k + (4 + m))) = xs.drop (k + (4 + m)) from List.take_of_length_le (by rw [List.length_drop]; omega)] at HV3
        rw [show (xs.drop (k + 4)).take (k + (4 + m) - (k + 4)) = (xs.drop (k + 4)).take m by rw [show k + (4 + m) - (k + 4) = m by omega]] at HV2
        obtain ⟨rr, hrr⟩ : ∃ rr, (xs.drop (k + 4)).take m = rr := ⟨_, rfl⟩
        rw [hrr] at HV2
        have hrl : [rr].flatten.length ≤ 1073741824 := by
          simp only [List.flatten_cons, List.flatten_nil, List.append_nil]
          rw [← hrr, List.length_take, List.length_drop]; omega
        have HRL : Hid ([rr].flatten.length ≤ 1073741824) := hrl
        have HRR : Hid ((xs.drop (k + 4)).take m = rr) := hrr
        have HZ : Hid (frameSz (xs.drop k) = 4 + m) := HSz.out
        clear hrr HSz hrl hx
        go_wp2_with fail
        generalize Value.slice (some ⟨b, o + (k + 4), none⟩) (k + (4 + m) - (k + 4)) (cx - (k + 4)) = sv at *
        refine (joined_any _ [rr] _ (bytess1 (g := wr.heap.size) (by simp [go_sem]) (bytesR.below HV2 (by (repeat (first | exact Below.refl _ _ | assumption | refine Below.drew ?_ | refine balloc ?_ _ | refine bset ?_ (by simp; omega) _ | refine bset ?_ (by simp) _ | refine bstep ?_ (by assumption)))))) HRL.out).mono ?_
        rintro e w4 ⟨v3, F3, rfl, o3, hb4⟩
        have hs4 := hb4.size
        rw [World.size_alloc] at hs4
        have o3' : bytesR.O w4 wr.heap.size F3 v3 rr := bytesR.base (by simpa using o3) (by simp)
        have hb4' : Below wr.heap.size wr w4 := by (repeat (first | exact Below.refl _ _ | assumption | refine Below.drew ?_ | refine balloc ?_ _ | refine bset ?_ (by simp; omega) _ | refine bset ?_ (by simp) _ | refine bstep ?_ (by assumption)))
        obtain ⟨a3, c3, rfl⟩ := bytes_form (bytesR.ofO o3')
        clear o3 HV2 hb4
        have hol : out.length ≤ 1048576 := by omega
        go_wp2_with (at_builtin; refine wpList_pushB wr w4 rfl _ _ rfl (w.heap.size + 1) _ out hro hbs hb4' _ _ rr o3' rfl rfl hol ?_)
        intro v5 w5 hR5 hB
        have hb5 := hB wr (Below.refl _ _)
        replace hr0 := (hb5.cell (p := ⟨w.heap.size, 0, none⟩) (by simp)).trans hr0
        replace hr1 := (hb5.cell (p := ⟨w.heap.size, 1, none⟩) (by simp)).trans hr1
        replace hr2 := (hb5.cell (p := ⟨w.heap.size, 2, none⟩) (by simp)).trans hr2
        have hrg : (∀ o, w5.frozen? ⟨w.heap.size, o, none⟩ = false) ∧ w.heap.size < w5.heap.size := ⟨fun o => (hb5.frozen (p := ⟨w.heap.size, o, none⟩) (by simp)).trans (hrf.1 o), Nat.lt_of_lt_of_le hrf.2 hb5.size⟩
        have hbw : Below w.heap.size w w5 := hbl.trans (hb5.mono (by omega))
        have HR5 : Hid (RowsB w5 (w.heap.size + 1) v5 (out ++ [rr])) := hR5
        obtain ⟨a5, c5, rfl⟩ := rowsB_form hR5
        have HS5 := soFar_step HSo.out HZ.out hm1
        rw [HRR.out, show k + 4 + m = k + (4 + m) by omega] at HS5
        have HS6 : Hid (SoFar xs (k + (4 + m)) (out ++ [rr])) := HS5
        have HV4 := BytesV_below HV3 hbw
        clear HS5 hR5 hB hb5 hrf hro o3' hb4' hbl HV3
        by_cases hck : cx = k + (4 + m)
        · rw [if_pos hck, show cx - (k + (4 + m)) = 0 by omega] at HV4
          go_wp2_with fail
          refine (frameSize_any _ (xs.drop (k + (4 + m))) _ HV4).mono ?_
          rintro e w6 ⟨rfl, hb6⟩
          replace hr0 := cell_keep hb6 hr0
          replace hr1 := cell_keep hb6 hr1
          replace hr2 := cell_keep hb6 hr2
          replace hrg := boxKeep hrg hb6
          have hbz := bstep hbw hb6
          have HR6 := rowsB_below HR5.out hb6
          rw [List.length_append, List.length_singleton] at HR6
          clear hb6 hbw HV4 hck
          go_wp2
          refine ⟨⟨k + (4 + m), _, out ++ [rr], by go_num, rfl, rfl, HS6.out, HR6, ⟨hr0, hr1, hr2⟩, hrg, hbz⟩, by simp [intOf]; omega⟩
        · rw [if_neg hck] at HV4
          go_wp2_with fail
          refine (frameSize_any _ (xs.drop (k + (4 + m))) _ HV4).mono ?_
          rintro e w6 ⟨rfl, hb6⟩
          replace hr0 := cell_keep hb6 hr0
          replace hr1 := cell_keep hb6 hr1
          replace hr2 := cell_keep hb6 hr2
          replace hrg := boxKeep hrg hb6
          have hbz := bstep hbw hb6
          have HR6 := rowsB_below HR5.out hb6
          rw [List.length_append, List.length_singleton] at HR6
          clear hb6 hbw HV4
          go_wp2
          refine ⟨⟨k + (4 + m), _, out ++ [rr], by go_num, rfl, rfl, HS6.out, HR6, ⟨hr0, hr1, hr2⟩, hrg, hbz⟩, by simp [intOf]; omega⟩
  · have HD : Hid (recsD xs = ⟨2, 0, []⟩) := if_neg h
    generalize xs.length = n at *
    go_enter Tryz.func166, Tryz.ntmps166
    go_wp2
    refine bodyPost_ret (v := .agg #[.int .i64 2, .int .i64 0, .slice none 0 0]) ?_ rfl ?_
    · simp [results, Tryz.results166, go_sem]
    · rw [HD.out]
      first | exact ⟨_, none_, rfl, recsR_nil _ _ _ _, by (repeat (first | exact Below.refl _ _ | assumption | refine Below.drew ?_ | refine balloc ?_ _ | refine bset ?_ (by simp; omega) _ | refine bset ?_ (by simp) _ | refine bstep ?_ (by assumption)))⟩ | exact ⟨_, rfl, ⟨none_, recsR_nil _ _ _ _⟩, by (repeat (first | exact Below.refl _ _ | assumption | refine Below.drew ?_ | refine balloc ?_ _ | refine bset ?_ (by simp; omega) _ | refine bset ?_ (by simp) _ | refine bstep ?_ (by assumption)))⟩
theorem recL_wt (xs : List Byte) : (recL xs).length + cntTo List.length (recL xs).length (recL xs) ≤ xs.length := by
  have H : ∀ n (xs : List Byte), xs.length ≤ n → (recL xs).length + cntTo List.length (recL xs).length (recL xs) ≤ xs.length := by
    intro n
    induction n with
    | zero =>
      intro xs h
      rw [recL_end (frameSz_short (by omega))]
      simp [cntTo]
    | succ n ih =>
      intro xs h
      by_cases hz : frameSz xs = 0
      · rw [recL_end hz]
        simp [cntTo]
      · have hp := frameSz_pos hz
        rw [recL_step hz]
        have := ih (xs.drop (frameSz xs)) (by rw [List.length_drop]; omega)
        rw [List.length_drop] at this
        simp only [List.length_cons, cntTo, List.length_take, List.length_drop]
        omega
  exact H _ xs (Nat.le_refl _)
end Go.Proofs.YtdfapehonegeeaaGreat

/-
  A leg as a value: the law's own copy and comparison of one leg.
-/
namespace Go.Proofs.YtdfapehonegeeaaGreat
open Go.RowKit
set_option linter.unusedSectionVars false

structure Leg where
  sh : Int
  ac : Int
  ast : Int
  am : Int
variable [DecidableEq Leg] [Inhabited Leg]

end Go.Proofs.YtdfapehonegeeaaGreat


/-
  Records told, on both sides.
-/
import Derived.Test.YtfeolikagceohaaRecs
import Derived.Deep.QuietTactic
import Derived.Test.YtfeolikagceohaaRowB
import Derived.Test.YtfeolikagceohaaSRecsR
namespace Go.Proofs.Ytfeolikagceohaa
open Go.RowKit
set_option linter.unusedSectionVars false
variable [DecidableEq BytesR] [Inhabited BytesR] [DecidableEq RecsR] [Inhabited RecsR]
attribute [local go_sem ↓] Go.wp_at_zero Go.wp_at_succ

theorem getD_drop (xs : List Byte) (k i : Nat) : (xs.drop k).getD i 0 = xs.getD (k + i) 0 := by simp [List.getD]
theorem fN_drop (xs : List Byte) (k : Nat) : fN (xs.drop k) = (xs.getD k 0).val * 256 + (xs.getD (k + 1) 0).val := by unfold fN; rw [getD_drop, getD_drop]; rfl
theorem fC_drop (xs : List Byte) (k : Nat) : fC (xs.drop k) = (xs.getD (k + 2) 0).val * 256 + (xs.getD (k + 3) 0).val := by unfold fC; rw [getD_drop, getD_drop]
theorem frameSz_short {xs : List Byte} (h : xs.length ≤ 4) : frameSz xs = 0 := by
  unfold frameSz
  rw [if_neg]
  omega

/-- what was told so far, and what is told behind it -/
def SoFar (xs : List Byte) (k : Nat) (out : List (List Byte)) : Prop :=
  k ≤ xs.length ∧ out.length ≤ k ∧ recL xs = out ++ recL (xs.drop k) ∧ recU xs = k + recU (xs.drop k)
theorem soFar_start (xs : List Byte) : SoFar xs 0 [] := ⟨by omega, by simp, by simp, by simp⟩
theorem soFar_end {xs : List Byte} {k : Nat} {out : List (List Byte)} (h : SoFar xs k out) (hz : frameSz (xs.drop k) = 0) : recL xs = out ∧ recU xs = k := by
  obtain ⟨_, _, h3, h4⟩ := h
  rw [recL_end hz, List.append_nil] at h3
  rw [recU_end hz, Nat.add_zero] at h4
  exact ⟨h3, h4⟩
theorem soFar_step {xs : List Byte} {k m : Nat} {out : List (List Byte)} (h : SoFar xs k out) (hz : frameSz (xs.drop k) = 4 + m) (hm : 1 ≤ m) : SoFar xs (k + 4 + m) (out ++ [(xs.drop (k + 4)).take m]) := by
  obtain ⟨h1, h2, h3, h4⟩ := h
  have hz' : ¬ frameSz (xs.drop k) = 0 := by omega
  have h5 := frameSz_pos hz'
  rw [List.length_drop] at h5
  refine ⟨by omega, by rw [List.length_append, List.length_singleton]; omega, ?_, ?_⟩
  · rw [h3, recL_step hz', hz, List.drop_drop, List.drop_drop, List.append_assoc, show k + (4 + m) = k + 4 + m by omega, show 4 + m - 4 = m by omega]
    rfl
  · rw [h4, recU_step hz', hz, List.drop_drop, show k + (4 + m) = k + 4 + m by omega]
    omega

theorem bdrewB {B : Nat} {w Y : World} (h : Below B w Y) (n : Nat) : Below B w (Y.drewN n) := h.trans ⟨rfl, rfl, rfl, Nat.le_refl _, fun _ _ => rfl⟩
theorem rec_end {wz : World} {base : Nat} {xs : List Byte} {k : Nat} {out : List (List Byte)} {v : Value} (hso : SoFar xs k out) (hz : frameSz (xs.drop k) = 0) (hro : RowsB wz base v out) :
    (∃ F, bytessR.O wz base F v (recL xs)) ∧ recU xs = k := by
  obtain ⟨e1, e2⟩ := soFar_end hso hz
  rw [e1]
  exact ⟨rowsB_O hro, e2⟩

set_option maxHeartbeats 4000000 in
theorem l3Records_any (x : Value) (xs : List Byte) (w : World) (hx : BytesV w x xs) (hn : xs.length ≤ 6000) :
    Calls Try.prog 49 #[x] w fun e w' => ∃ v F, e = .returned (.tuple #[v, .int .i64 (recU xs)]) ∧ bytessR.O w' w.heap.size F v (recL xs) ∧ Below w.heap.size w w' := by
  have hX := hx
  obtain ⟨ax, cx, rfl, hcx, hmx, hx⟩ := hx
  unfold maxLen at hmx
  go_enter Try.func49, Try.ntmps49
  go_wp2
  go_loopw [4, 5] (fun v i w' => ∃ (k : Nat) (out : List (List Byte)), i = .int .i64 k ∧ SoFar xs k out ∧ RowsB w' w.heap.size v out ∧ Below w.heap.size w w') (fun _ i _ => xs.length - (intOf i).toNat)
  case atStart =>
    refine ⟨0, [], rfl, soFar_start xs, rowsB_nil ?_, balloc (Below.refl _ _) _⟩
    exact World.ownsRow_lit (base := w.heap.size) (e := 22) (size := 1) w #[] 0 (by simp) (by unfold maxLen; omega) rfl
  case round =>
    obtain ⟨k, out, rfl, hso, hro, hbl⟩ := hrel
    have hkn := hso.1
    have hok := hso.2.1
    obtain ⟨av, cv, rfl⟩ := rowsB_form hro
    have HSo : Hid (SoFar xs k out) := hso
    have HRo : Hid (RowsB wr w.heap.size (.slice av out.length cv) out) := hro
    clear hso hro
    by_cases hlt : k + 4 < xs.length
    · obtain ⟨b, o, rfl, g0⟩ := hx k (by omega)
      obtain ⟨b', o', e, g1⟩ := hx (k + 1) (by omega)
      simp only [Option.some.injEq, Addr.mk.injEq, and_true] at e
      obtain ⟨rfl, rfl⟩ := e
      obtain ⟨b', o', e, g2⟩ := hx (k + 2) (by omega)
      simp only [Option.some.injEq, Addr.mk.injEq, and_true] at e
      obtain ⟨rfl, rfl⟩ := e
      obtain ⟨b', o', e, g3⟩ := hx (k + 3) (by omega)
      simp only [Option.some.injEq, Addr.mk.injEq, and_true] at e
      obtain ⟨rfl, rfl⟩ := e
      have hfN := fN_drop xs k
      have hfC := fC_drop xs k
      obtain ⟨p0, hp0⟩ : ∃ p, (xs.getD k 0).val = p := ⟨_, rfl⟩
      obtain ⟨p1, hp1⟩ : ∃ p, (xs.getD (k + 1) 0).val = p := ⟨_, rfl⟩
      obtain ⟨p2, hp2⟩ : ∃ p, (xs.getD (k + 2) 0).val = p := ⟨_, rfl⟩
      obtain ⟨p3, hp3⟩ : ∃ p, (xs.getD (k + 3) 0).val = p := ⟨_, rfl⟩
      have l0 : p0 < 256 := by rw [← hp0]; exact (xs.getD k 0).isLt
      have l1 : p1 < 256 := by rw [← hp1]; exact (xs.getD (k + 1) 0).isLt
      have l2 : p2 < 256 := by rw [← hp2]; exact (xs.getD (k + 2) 0).isLt
      have l3 : p3 < 256 := by rw [← hp3]; exact (xs.getD (k + 3) 0).isLt
      rw [hp0, hp1] at hfN
      rw [hp2, hp3] at hfC
      rw [hp0] at g0
      rw [hp1] at g1
      rw [hp2] at g2
      rw [hp3] at g3
      replace g0 := cell_keep hbl g0
      replace g1 := cell_keep hbl g1
      replace g2 := cell_keep hbl g2
      replace g3 := cell_keep hbl g3
      obtain ⟨m, hm⟩ : ∃ m, p0 * 256 + p1 = m := ⟨_, rfl⟩
      obtain ⟨q, hq⟩ : ∃ q, p2 * 256 + p3 = q := ⟨_, rfl⟩
      have HN : Hid (fN (xs.drop k) = m) := by rw [← hm]; exact hfN
      have HC : Hid (fC (xs.drop k) = q) := by rw [← hq]; exact hfC
      have v0 : IntKind.i64.wrap (p0 : Int) = p0 := by rw [IntKind.wrap_i64]; omega
      have v1 : IntKind.i64.wrap (p1 : Int) = p1 := by rw [IntKind.wrap_i64]; omega
      have v2 : IntKind.i64.wrap (p2 : Int) = p2 := by rw [IntKind.wrap_i64]; omega
      have v3 : IntKind.i64.wrap (p3 : Int) = p3 := by rw [IntKind.wrap_i64]; omega
      have v4 : IntKind.i64.wrap ((p0 : Int) * 256) = p0 * 256 := by rw [IntKind.wrap_i64]; omega
      have v5 : IntKind.i64.wrap ((p2 : Int) * 256) = p2 * 256 := by rw [IntKind.wrap_i64]; omega
      have v6 : IntKind.i64.wrap ((p0 : Int) * 256 + p1) = m := by rw [IntKind.wrap_i64]; omega
      have v7 : IntKind.i64.wrap ((p2 : Int) * 256 + p3) = q := by rw [IntKind.wrap_i64]; omega
      have v8 : IntKind.i64.wrap ((k : Int) + 1) = k + 1 := by rw [IntKind.wrap_i64]; omega
      have v9 : IntKind.i64.wrap ((k : Int) + 2) = k + 2 := by rw [IntKind.wrap_i64]; omega
      have v10 : IntKind.i64.wrap ((k : Int) + 3) = k + 3 := by rw [IntKind.wrap_i64]; omega
      have i0 : ((k : Int) + 1).toNat = k + 1 := by omega
      have i2 : ((k : Int) + 2).toNat = k + 2 := by omega
      have i3 : ((k : Int) + 3).toNat = k + 3 := by omega
      have hm6 : m < 65536 := by omega
      have HM : Hid (p0 * 256 + p1 = m) := hm
      have HQ : Hid (p2 * 256 + p3 = q) := hq
      clear hp0 hp1 hp2 hp3 hm hq hfN hfC hx
      by_cases hbad : m < 1 ∨ 500 < m ∨ xs.length < k + 4 + m
      · have HZ : Hid (frameSz (xs.drop k) = 0) := by
          unfold Hid frameSz
          rw [if_neg]
          rw [HN.out, List.length_drop]
          omega
        go_wp2
        go_quiet (fail)
        rcases hbad with hbad | hbad | hbad
        all_goals
          go_wp2
          all_goals
            obtain ⟨⟨F, hO⟩, hU⟩ := rec_end HSo.out HZ.out HRo.out
            refine bodyPost_ret (v := .tuple #[.slice av out.length cv, .int .i64 k]) (by simp [results, Try.results49, go_sem]) rfl ?_
            rw [hU]
            have hb2 := bdrewB (Below.refl wr.heap.size wr) nq
            first | exact ⟨_, F, rfl, bytessR.keep hO hb2, bstep hbl hb2⟩ | exact ⟨_, rfl, ⟨F, bytessR.keep hO hb2⟩, bstep hbl hb2⟩
      · have d1 : ¬ (m : Int) < 1 := by omega
        have d2 : ¬ (500 : Int) < (m : Int) := by omega
        have d3 : ¬ (xs.length : Int) < (k : Int) + 4 + (m : Int) := by omega
        have hm1 : 1 ≤ m := by omega
        have hV := bytes_cut hX (k + 4) (k + 4 + m) (by omega) (by omega)
        rw [if_neg (by omega)] at hV
        simp only [Option.map_some, Nat.mul_one, addP] at hV
        rw [show (xs.drop (k + 4)).take (k + 4 + m - (k + 4)) = (xs.drop (k + 4)).take m by rw [show k + 4 + m - (k + 4) = m by omega]] at hV
        replace hV := BytesV_below hV hbl
        obtain ⟨rr, hrr⟩ : ∃ rr, (xs.drop (k + 4)).take m = rr := ⟨_, rfl⟩
        rw [hrr] at hV
        have hrl : rr.length ≤ 500 := by rw [← hrr, List.length_take, List.length_drop]; omega
        have HRR : Hid ((xs.drop (k + 4)).take m = rr) := hrr
        obtain ⟨r, hr⟩ : ∃ r, chk rr = r := ⟨_, rfl⟩
        have HR : Hid (chk rr = r) := hr
        have hm500 : m ≤ 500 := by omega
        clear hbad hrr hr
        go_wp2
        go_quiet (fail)
        go_wp2
        have hbq := bdrewB (Below.refl wr.heap.size wr) nq
        generalize wr.drewN nq = wq at *
        replace g2 := cell_keep hbq g2
        replace g3 := cell_keep hbq g3
        replace hV := BytesV_below hV hbq
        have HRo' := rowsB_below HRo.out hbq
        clear HRo g0 g1
        have hbw : Below w.heap.size w wq := bstep hbl hbq
        clear hbl hbq
        generalize Value.slice (some ⟨b, o + (k + 4), none⟩) (k + 4 + m - (k + 4)) (cx - (k + 4)) = sv at *
        have hCk : ∀ W : World, Below wq.heap.size wq W → Calls Try.prog 44 #[sv] W fun e w' => e = .returned (.int .i64 r) ∧ w' = W := fun W hW => by
          rw [← HR.out]
          exact specChk_any _ _ _ (BytesV_below hV hW)
        by_cases hc : r = (q : Int)
        · have HZ : Hid (frameSz (xs.drop k) = 4 + m) := by
            unfold Hid frameSz
            rw [HN.out, HC.out, List.length_drop, List.drop_drop, HRR.out, HR.out, if_pos]
            omega
          have hd : (r == (q : Int)) = true := by simpa using hc
          go_quiet (first | (go_at_call 44; refine Calls.quiet_of_same (hCk _ ?_); exact bdrewB (Below.refl _ _) _))
          have hb2 := bdrewB (Below.refl wq.heap.size wq) nq
          generalize wq.drewN nq = w3 at *
          clear hCk g2 g3 hc hd
          replace hV := BytesV_below hV hb2
          have hR3 := rowsB_below HRo' hb2
          have hbw3 : Below w.heap.size w w3 := bstep hbw hb2
          clear HRo' hb2 hbw
          have hs3 := hbw3.size
          have hrow := World.ownsRow_lit (base := w3.heap.size) (e := 5) (size := 1) w3 #[] 0 (by simp) (by unfold maxLen; omega) rfl
          have hrow' : World.ownsRow (w3.alloc (.cells #[] 5)) w3.heap.size 5 1 (.slice (some ⟨w3.heap.size, 0, none⟩) 0 0) ([] : List Byte).length (bytesC []) := hrow
          have hV3 := BytesV_below hV (balloc (Below.refl _ _) (.cells #[] 5))
          have hsrc := appAny_bytes hV3
          have hlen1 : ([] : List Byte).length + rr.length ≤ 1073741824 := by simp only [List.length_nil]; omega
          have hz3 : w3.heap.size ≤ (w3.alloc (.cells #[] 5)).heap.size := by simp
          clear hrow
          go_wp2_with (at_builtin; refine wpList_appB _ rfl _ _ rfl w3.heap.size _ [] rfl _ rr rfl hrow' hsrc hlen1 hz3 ?_)
          intro v1 w4 o1 hg hB
          have hb4 := hB w3 (balloc (Below.refl _ _) _)
          have o1' : bytesR.O w4 w3.heap.size (fun b => v1.ownBlock = some b) v1 rr := ⟨by simpa using o1, rfl⟩
          obtain ⟨a1, c1, rfl⟩ := bytes_form (bytesR.ofO o1')
          clear hB hg o1 hrow' hsrc hlen1 hz3 hV3
          have hol : out.length ≤ 1048576 := by omega
          go_wp2_with (at_builtin; refine wpList_pushB w3 w4 rfl _ _ rfl w.heap.size _ out hR3 hs3 hb4 _ _ rr o1' rfl rfl hol ?_)
          intro v2 w5 hR5 hB5
          have hb5 := hB5 w hbw3
          have HR5 : Hid (RowsB w5 w.heap.size v2 (out ++ [rr])) := hR5
          clear hR3 hB5 hR5 o1' hb4
          have HS5 := soFar_step HSo.out HZ.out hm1
          rw [HRR.out] at HS5
          have HS6 : Hid (SoFar xs (k + 4 + m) (out ++ [rr])) := HS5
          clear HS5
          go_wp2
          refine ⟨⟨k + 4 + m, out ++ [rr], by go_num, HS6.out, HR5.out, hb5⟩, by simp [intOf]; omega⟩
        · have HZ : Hid (frameSz (xs.drop k) = 0) := by
            unfold Hid frameSz
            rw [if_neg]
            rw [HN.out, HC.out, List.length_drop, List.drop_drop, HRR.out, HR.out]
            omega
          have hd : (r == (q : Int)) = false := by simpa using hc
          go_quiet (first | (go_at_call 44; refine Calls.quiet_of_same (hCk _ ?_); exact bdrewB (Below.refl _ _) _))
          have hb2 := bdrewB (Below.refl wq.heap.size wq) nq
          generalize wq.drewN nq = w3 at *
          obtain ⟨⟨F, hO⟩, hU⟩ := rec_end HSo.out HZ.out HRo'
          clear hCk hV HRo'
          go_wp2
          refine bodyPost_ret (v := .tuple #[.slice av out.length cv, .int .i64 k]) (by simp [results, Try.results49, go_sem]) rfl ?_
          rw [hU]
          first | exact ⟨_, F, rfl, bytessR.keep hO hb2, bstep hbw hb2⟩ | exact ⟨_, rfl, ⟨F, bytessR.keep hO hb2⟩, bstep hbw hb2⟩
    · go_wp2
      refine bodyPost_ret (v := .tuple #[.slice av out.length cv, .int .i64 k]) (by simp [results, Try.results49, go_sem]) rfl ?_
      obtain ⟨⟨F, hO⟩, hU⟩ := rec_end HSo.out (frameSz_short (by rw [List.length_drop]; omega)) HRo.out
      rw [hU]
      first | exact ⟨_, F, rfl, hO, hbl⟩ | exact ⟨_, rfl, ⟨F, hO⟩, hbl⟩

end Go.Proofs.Ytfeolikagceohaa

import Derived.Test.YtjmabfikbfdjbaaPrnOutcomesLaw20
import Derived.Test.YtjmabfikbfdjbaaPrnOutcomesLaw23
import Derived.Test.YtjmabfikbfdjbaaPrnOutcomesLaw17
import Derived.Test.YtjmabfikbfdjbaaPrnOutcomesLaw12
import Derived.Test.YtjmabfikbfdjbaaPrnOutcomesLaw4
import Derived.Test.YtjmabfikbfdjbaaPrnOutcomesLaw14
import Derived.BigQuiet
import Derived.Deep.QuietTactic
import Derived.Deep.RegionHeld3
import Derived.Test.YtjmabfikbfdjbaaPrnOutcomesLaw21
import Derived.Test.YtjmabfikbfdjbaaPrnOutcomesLaw11

/-
  Those that are reached.
-/
namespace Go.Proofs.Ytjmabfikbfdjbaa
open Go.RowKit
set_option linter.unusedSectionVars false
variable [DecidableEq Logg] [Inhabited Logg] [DecidableEq LoggR] [Inhabited LoggR] [DecidableEq BytesR] [Inhabited BytesR] [DecidableEq RecsR] [Inhabited RecsR] [DecidableEq Leg] [Inhabited Leg] [DecidableEq Vot] [Inhabited Vot] [DecidableEq Slt] [Inhabited Slt] [DecidableEq SltR] [Inhabited SltR] [DecidableEq Bal] [Inhabited Bal] [DecidableEq Ledg] [Inhabited Ledg] [DecidableEq Acc] [Inhabited Acc] [DecidableEq AccR] [Inhabited AccR] [DecidableEq AccsR] [Inhabited AccsR] [DecidableEq SltsR] [Inhabited SltsR]
set_option linter.unusedSimpArgs false
set_option linter.unusedVariables false
attribute [local go_sem ↓] Go.wp_at_zero Go.wp_at_succ

structure Rch (R : List Int) (k : Nat) : Prop where
  len : R.length ≤ k
  inn : ∀ j, j < R.length → 0 ≤ R.getD j 0 ∧ R.getD j 0 < k
  rise : ∀ j, j + 1 < R.length → R.getD j 0 < R.getD (j + 1) 0
theorem rch_nil : Rch [] 0 := ⟨Nat.le_refl _, fun j hj => by simp at hj, fun j hj => by simp at hj⟩
theorem Rch.skip {R : List Int} {k : Nat} (h : Rch R k) : Rch R (k + 1) := ⟨by have := h.len; omega, fun j hj => by have := h.inn j hj; omega, h.rise⟩
theorem Rch.snoc {R : List Int} {k : Nat} (h : Rch R k) : Rch (R ++ [(k : Int)]) (k + 1) := by
  have h1 : ∀ j, j < R.length → (R ++ [(k : Int)]).getD j 0 = R.getD j 0 := fun j hj => by
    simp only [List.getD_eq_getElem?_getD]; rw [List.getElem?_append_left hj]
  have h2 : (R ++ [(k : Int)]).getD R.length 0 = k := by simp
  refine ⟨by have := h.len; simp; omega, fun j hj => ?_, fun j hj => ?_⟩
  · rw [List.length_append, List.length_singleton] at hj
    by_cases e : j < R.length
    · rw [h1 j e]; have := h.inn j e; omega
    · obtain rfl : j = R.length := by omega
      rw [h2]; omega
  · rw [List.length_append, List.length_singleton] at hj
    by_cases e : j + 1 < R.length
    · rw [h1 j (by omega), h1 (j + 1) e]; exact h.rise j e
    · obtain e2 : j + 1 = R.length := by omega
      rw [h1 j (by omega), e2, h2]; have := h.inn j (by omega); omega
set_option maxRecDepth 20000 in
set_option maxHeartbeats 2000000 in
theorem reached_any (x : Value) (xs : List Byte) (K n : Nat) (w : World) (hx : BytesV w x xs) (hxn : xs.length ≤ 1048576) (hK : K ≤ 100) (hn : n ≤ 5) :
    Calls Try.prog 9 #[x, .int .i64 K, .int .i64 n] w fun e w' => ∃ R v, e = .returned v ∧ w'.ownsRow w.heap.size 2 1 v R.length (intsC R) ∧ Rch R n ∧ Below w.heap.size w w' := by
  have HA : Hid (∀ (W : World) (k : Nat), k ≤ 1000 → Below w.heap.size w W → Calls Try.prog 10 #[x, .int .i64 k, .int .i64 3] W fun e w' => ∃ r : Nat, e = .returned (.int .i64 r) ∧ (r : Int) < 3 ∧ Below W.heap.size W w') := fun W k hk hW => lwAtK_any x xs W k 3 (BytesV_below hx hW) hxn hk (by omega) (by omega)
  obtain ⟨a, cap, rfl, _, _, _⟩ := hx
  generalize xs.length = xn at *
  obtain ⟨i0, hi0, hz0, hz1, hz2⟩ := info_parts infoInt
  have HI0 : Hid (Try.prog.info? 2 = some i0 ∧ i0.zero = some (.int .i64 0) ∧ i0.size = 1 ∧ i0.bytes = 8) := ⟨hi0, hz0, hz1, hz2⟩
  clear hi0 hz0 hz1 hz2
  go_enter Try.func9, Try.ntmps9
  go_wp2
  go_loopw [7, 8] (fun vd i w' => ∃ (k : Nat) (R : List Int) (pd : Option Addr) (qd dn : Nat), k ≤ n ∧ i = .int .i64 k ∧ vd = .slice pd dn qd ∧ Hid (R.length = dn) ∧ Hid (Rch R k) ∧ Hid (w'.ownsRow w.heap.size 2 1 (.slice pd dn qd) dn (intsC R)) ∧ Below w.heap.size w w') (fun vd i _ => n - (intOf i).toNat)
  case atStart =>
    refine ⟨0, [], _, _, 0, Nat.zero_le _, rfl, rfl, rfl, rch_nil, ?_, balloc (Below.refl _ _) _⟩
    have := World.ownsRow_lit (base := w.heap.size) (e := 2) (size := 1) w #[] 0 (by simp) (by unfold maxLen; omega) rfl
    show World.ownsRow _ _ _ _ _ _ _
    simpa [intsC] using this
  case round =>
    obtain ⟨k, R, pd, qd, dn, hk, rfl, rfl, HDn, HR, HD, hbl⟩ := hrel
    by_cases hlt : k < n
    · have e1 : IntKind.i64.wrap ((K : Int) * 7) = (K : Int) * 7 := by rw [IntKind.wrap_i64]; omega
      have e2 : IntKind.i64.wrap ((K : Int) * 7 + (k : Int)) = (K : Int) * 7 + (k : Int) := by rw [IntKind.wrap_i64]; omega
      have hA := HA.out wr (K * 7 + k) (by omega) hbl
      have e3 : ((K * 7 + k : Nat) : Int) = (K : Int) * 7 + (k : Int) := by omega
      rw [e3] at hA
      clear e3
      have HA' : Hid (Calls Try.prog 10 #[.slice a xn cap, .int .i64 ((K : Int) * 7 + (k : Int)), .int .i64 3] wr fun e w' => ∃ r : Nat, e = .returned (.int .i64 r) ∧ (r : Int) < 3 ∧ Below wr.heap.size wr w') := hA
      clear hA
      have hdlen : dn ≤ 1000 := by have := HDn.out; have := HR.out.len; omega
      go_wp2_with fail
      refine HA'.out.mono ?_
      rintro e w1 ⟨r, rfl, hr, hb1⟩
      have hb : Below w.heap.size w w1 := bstep hbl hb1
      have HD1 : Hid (w1.ownsRow w.heap.size 2 1 (.slice pd dn qd) dn (intsC R)) := owns_below HD.out hb1
      clear HD HA' hbl hb1
      have hz1 := hb.size
      by_cases hr0 : 0 < r
      · have hr0' : (0 : Int) < (r : Int) := by omega
        go_wp2_with (at_builtin; refine wpList_append_own_at _ rfl _ _ 28 rfl w.heap.size 2 i0 _ 1 8 Try.underlying28 HI0.out.1 HI0.out.2.1 HI0.out.2.2.1 HI0.out.2.2.2 rfl (by decide) _ dn (intsC R) rfl (owns_below HD1.out (balloc (Below.refl _ _) _)) ⟨w1.heap.size, 0, none⟩ 1 1 [.int .i64 k] rfl rfl ?c1 ?c2 ?c3 ?c4 ?c5 ?_)
        case c1 =>
          intro j u hj
          match j, hj with
          | 0, hj => simp at hj; subst hj; simp [Addr.add, go_sem]
          | j + 1, hj => simp at hj
        case c2 =>
          intro u hu
          rw [List.mem_singleton] at hu
          rw [hu]
          rfl
        case c3 => unfold maxLen; omega
        case c4 => omega
        case c5 => simp; omega
        intro vd5 w5 od5 gd5 _ ld5
        have HDl : Hid (∀ b', (Value.slice pd dn qd).ownBlock = some b' → w.heap.size ≤ b' ∧ b' < w1.heap.size) := fun b' h => HD1.out.lt b' h
        have hm5 : Below w.heap.size w w5 := ((Mod.of_below (F := fun _ => False) hb).alloc _ |>.grow gd5 (fun b' h => (HDl.out b' h).1)).below (Below.refl _ _) (Nat.le_refl _) (fun b' h => h.elim)
        obtain ⟨ad5, cd5, rfl⟩ := owns_form od5
        have HD5 : Hid (w5.ownsRow w.heap.size 2 1 (.slice ad5 (dn + 1) cd5) (dn + 1) (intsC (R ++ [(k : Int)]))) := by
          show World.ownsRow _ _ _ _ _ _ _
          have e : intsC (R ++ [(k : Int)]) = intsC R ++ [.int .i64 k] := by simp [intsC]
          rw [e]; exact od5
        have HR5 : Hid (Rch (R ++ [(k : Int)]) (k + 1)) := HR.out.snoc
        have HN5 : Hid ((R ++ [(k : Int)]).length = dn + 1) := by show _ = _; rw [List.length_append, List.length_singleton, HDn.out]
        clear od5 gd5 ld5 HD1 HDl HR HDn
        go_wp2
        exact ⟨⟨k + 1, _, ad5, cd5, dn + 1, by omega, by go_num, rfl, HN5, HR5, HD5, hm5⟩, by simp [intOf]; omega⟩
      · have hr0' : ¬ (0 : Int) < (r : Int) := by omega
        have HR5 : Hid (Rch R (k + 1)) := HR.out.skip
        go_wp2
        exact ⟨⟨k + 1, R, pd, qd, dn, by omega, by go_num, rfl, HDn, HR5, HD1, hb⟩, by simp [intOf]; omega⟩
    · go_wp2
      go_ret
      obtain rfl : k = n := by omega
      exact ⟨R, _, rfl, by rw [HDn.out]; exact HD.out, HR.out, hbl⟩
end Go.Proofs.Ytjmabfikbfdjbaa

/-
  New acceptors; ballots that are right.
-/
namespace Go.Proofs.Ytjmabfikbfdjbaa
open Go.RowKit
set_option linter.unusedSectionVars false
variable [DecidableEq Vot] [Inhabited Vot] [DecidableEq Slt] [Inhabited Slt] [DecidableEq SltR] [Inhabited SltR] [DecidableEq Bal] [Inhabited Bal] [DecidableEq Ledg] [Inhabited Ledg] [DecidableEq Leg] [Inhabited Leg] [DecidableEq Acc] [Inhabited Acc] [DecidableEq AccR] [Inhabited AccR] [DecidableEq AccsR] [Inhabited AccsR] [DecidableEq SltsR] [Inhabited SltsR] [DecidableEq Cont] [Inhabited Cont] [DecidableEq Logg] [Inhabited Logg] [DecidableEq LoggR] [Inhabited LoggR] [DecidableEq BytesR] [Inhabited BytesR] [DecidableEq RecsR] [Inhabited RecsR]

def news : List Acc := [⟨[]⟩, ⟨[]⟩, ⟨[]⟩]
theorem news_at {k : Nat} (hk : k < news.length) : (news.getD k default).slots = [] := by
  match k, hk with
  | 0, _ => rfl
  | 1, _ => rfl
  | 2, _ => rfl
theorem inv_new (c : Int) : Inv news c 0 := by
  refine ⟨⟨by decide, by decide, fun k hk => ?_⟩, fun k hk s _ => ?_, fun s _ u hu => ?_⟩
  · rw [news_at hk]; rfl
  · rw [news_at hk]; show (-1 : Int) < 0; omega
  · obtain ⟨k, hk, hc⟩ := isCh_at hu
    rw [news_at hk] at hc
    exact absurd hc (by show ¬ u ∈ ([] : List Vot); simp)
theorem bal_rch {R : List Int} {n : Nat} {b v : Int} (h : Rch R n) (hv : votB ⟨b, v⟩ = true) : balF R n b v = 0 := by
  refine balF_ok hv (scanI_of fun k hk => badAt_ok (inBi.2 ?_)) (scanI_of fun k hk => ?_)
  · have := h.inn k hk; omega
  · cases k with
    | zero => exact riseAt_zero R
    | succ k => exact riseAt_ok (h.rise k hk)
theorem shards_some {id : Int} {xs : List Leg} (h : contractFault id xs = 0) (h1 : 1 ≤ xs.length) : 1 ≤ (shardsL xs).length := by
  have hb := sh_bound (cf_inv h).2.2.2.1 0 (by omega)
  have hm : ∀ s, (xs.getD 0 default).sh = s → hasS xs s = true := fun s e => by
    cases xs with
    | nil => simp at h1
    | cons x xs => simp at e; simp [hasS, e]
  have h3 : (xs.getD 0 default).sh = 0 ∨ (xs.getD 0 default).sh = 1 ∨ (xs.getD 0 default).sh = 2 := by omega
  unfold shardsL sl
  rcases h3 with e | e | e <;> rw [hm _ e] <;> simp <;> omega
end Go.Proofs.Ytjmabfikbfdjbaa

/-
  ballotFault, the program's.
-/
set_option linter.unusedSimpArgs false
set_option linter.unusedVariables false
namespace Go.Proofs.Ytjmabfikbfdjbaa
open Go.RowKit
set_option linter.unusedSectionVars false
variable [DecidableEq Vot] [Inhabited Vot] [DecidableEq Slt] [Inhabited Slt] [DecidableEq SltR] [Inhabited SltR] [DecidableEq Bal] [Inhabited Bal] [DecidableEq Ledg] [Inhabited Ledg] [DecidableEq Leg] [Inhabited Leg] [DecidableEq Acc] [Inhabited Acc] [DecidableEq AccR] [Inhabited AccR] [DecidableEq AccsR] [Inhabited AccsR] [DecidableEq SltsR] [Inhabited SltsR]
attribute [local go_sem ↓] Go.wp_at_zero Go.wp_at_succ

set_option maxRecDepth 20000 in
set_option maxHeartbeats 4000000 in
theorem implBalF_any (x : Value) (R : List Int) (n : Nat) (b own : Int) (w : World) (hx : IntsV w x R) (hn : n ≤ 1000) :
    Calls Try.prog 28 #[x, .int .i64 n, .agg #[.int .i64 b, .int .i64 own]] w fun e w' => e = .returned (.int .i64 (balF R n b own)) ∧ Below w.heap.size w w' := by
  obtain ⟨a, cx, rfl, hcx, hmx, hx⟩ := hx
  unfold maxLen at hmx
  have HX : Hid (∀ i, i < R.length → ∃ bb o, a = some ⟨bb, o, none⟩ ∧ w.cell? ⟨bb, o + i, none⟩ = some (.int .i64 (R.getD i 0))) := hx
  clear hx
  have HV : Hid (∀ W, Calls Try.prog 57 #[.agg #[.int .i64 b, .int .i64 own]] W fun e w' => e = .returned (.bool (votB ⟨b, own⟩)) ∧ Below W.heap.size W w') := fun W => isVote_any ⟨b, own⟩ W
  have H1 : Hid (votB ⟨b, own⟩ = false → balF R n b own = 3) := fun h => balF_vote h
  have H2 : Hid (∀ k, votB ⟨b, own⟩ = true → k < R.length → scanI (badAt R n) k = 0 → inB (R.getD k 0) 0 ((n : Int) - 1) = false → balF R n b own = 3) := fun k h hk hs hb => balF_bad h hk hs hb
  have H3 : Hid (∀ k, votB ⟨b, own⟩ = true → scanI (badAt R n) R.length = 0 → k + 1 < R.length → scanI (riseAt R) (k + 1) = 0 → R.getD (k + 1) 0 ≤ R.getD k 0 → balF R n b own = 7) := fun k h h0 hk hs hb => balF_rise h h0 hk hs (by omega)
  have H4 : Hid (votB ⟨b, own⟩ = true → scanI (badAt R n) R.length = 0 → scanI (riseAt R) R.length = 0 → balF R n b own = 0) := fun h h0 hs => balF_ok h h0 hs
  generalize balF R n b own = Z at *
  obtain ⟨m, hm'⟩ : ∃ m, m = R.length := ⟨_, rfl⟩
  rw [← hm'] at hcx HX H2 H3 H4 ⊢
  clear hm'
  cases hv : votB ⟨b, own⟩
  · have HC : Hid (Z = 3) := H1.out hv
    rw [hv] at HV
    clear H1 H2 H3 H4 HX
    go_enter Try.func28, Try.ntmps28
    go_wp2_with fail
    refine (HV.out _).mono ?_
    rintro e w1 ⟨rfl, hb1⟩
    have hB1 : Below w.heap.size w w1 := by (repeat (first | exact Below.refl _ _ | assumption | refine Below.drew ?_ | refine balloc ?_ _ | refine bset ?_ (by simp; omega) _ | refine bset ?_ (by simp) _ | refine bstep ?_ (by assumption)))
    go_wp2
    go_ret
    exact ⟨by rw [HC.out]; rfl, hB1⟩
  have HVt : Hid (votB ⟨b, own⟩ = true) := hv
  rw [hv] at HV
  clear hv H1
  go_enter Try.func28, Try.ntmps28
  go_wp2_with fail
  refine (HV.out _).mono ?_
  rintro e w1 ⟨rfl, hb1⟩
  have hB1 : Below w.heap.size w w1 := by (repeat (first | exact Below.refl _ _ | assumption | refine Below.drew ?_ | refine balloc ?_ _ | refine bset ?_ (by simp; omega) _ | refine bset ?_ (by simp) _ | refine bstep ?_ (by assumption)))
  clear hb1 HV
  go_wp2
  go_loopw [16] (fun i w' => ∃ k : Nat, k ≤ m ∧ i = .int .i64 k ∧ Hid (scanI (badAt R n) k = 0) ∧ Below w.heap.size w w') (fun i _ => m - (intOf i).toNat)
  case atStart => exact ⟨0, Nat.zero_le _, rfl, rfl, hB1⟩
  case round =>
    clear hB1
    obtain ⟨k, hk, rfl, HS, hB1⟩ := hrel
    by_cases hlt : k < m
    · obtain ⟨bb, o, rfl, hc⟩ := HX.out k hlt
      replace hc := cell_keep hB1 hc
      have hw1 : IntKind.i64.wrap ((n : Int) - 1) = (n : Int) - 1 := by rw [IntKind.wrap_i64]; omega
      have HH : Hid (inB (R.getD k 0) 0 ((n : Int) - 1) = false → Z = 3) := fun h => H2.out k HVt.out hlt HS.out h
      have HZ : Hid (inB (R.getD k 0) 0 ((n : Int) - 1) = true → scanI (badAt R n) (k + 1) = 0) := fun h => scanI_succ HS.out (badAt_ok h)
      generalize R.getD k 0 = y at *
      cases hy : inB y 0 ((n : Int) - 1)
      · have HC : Hid (Z = 3) := HH.out hy
        clear HH HZ
        go_wp2_with (go_at_call 58; refine (within_any _ _ _ _).mono ?_; rintro e w' ⟨rfl, hw'⟩; obtain rfl := hw'.symm; rw [hy])
        go_ret
        exact ⟨by rw [HC.out]; rfl, hB1⟩
      · have HC : Hid (scanI (badAt R n) (k + 1) = 0) := HZ.out hy
        clear HH HZ
        go_wp2_with (go_at_call 58; refine (within_any _ _ _ _).mono ?_; rintro e w' ⟨rfl, hw'⟩; obtain rfl := hw'.symm; rw [hy])
        exact ⟨⟨k + 1, by omega, by go_num, HC, hB1⟩, by simp [intOf]; omega⟩
    · have hkm : k = m := by omega
      subst hkm
      clear H2
      go_wp2
      go_loopw [28] (fun i w' => ∃ j : Nat, j ≤ k ∧ i = .int .i64 j ∧ Hid (scanI (riseAt R) j = 0) ∧ Below w.heap.size w w') (fun i _ => k - (intOf i).toNat)
      case atStart => exact ⟨0, Nat.zero_le _, rfl, rfl, hB1⟩
      case round =>
        clear hB1
        obtain ⟨j, hj, rfl, HS2, hB1⟩ := hrel
        by_cases hlt2 : j < k
        · obtain ⟨bb, o, rfl, hc⟩ := HX.out j hlt2
          replace hc := cell_keep hB1 hc
          cases j with
          | zero =>
            have HC : Hid (scanI (riseAt R) 1 = 0) := scanI_succ HS2.out (riseAt_zero R)
            simp only [Nat.add_zero] at hc
            generalize R.getD 0 0 = y at *
            go_wp2
            exact ⟨⟨1, by omega, by go_num, HC, hB1⟩, by simp [intOf]; omega⟩
          | succ p =>
            obtain ⟨bb', o', he, hc'⟩ := HX.out p (by omega)
            simp only [Option.some.injEq, Addr.mk.injEq, and_true] at he
            obtain ⟨rfl, rfl⟩ := he
            replace hc' := cell_keep hB1 hc'
            have i1 : (p : Int) < (k : Int) := by omega
            have i3 : (0 : Int) < ((p + 1 : Nat) : Int) := by omega
            have i5 : IntKind.i64.wrap (((p + 1 : Nat) : Int) - 1) = (p : Int) := by rw [IntKind.wrap_i64]; omega
            have i6 : (0 : Int) ≤ (p : Int) := by omega
            have i7 : IntKind.i64.wrap (p : Int) = p := wrapId (by omega) (by omega)
            have HH : Hid (R.getD (p + 1) 0 ≤ R.getD p 0 → Z = 7) := fun h => H3.out p HVt.out HS.out hlt2 HS2.out h
            have HZ : Hid (R.getD p 0 < R.getD (p + 1) 0 → scanI (riseAt R) (p + 1 + 1) = 0) := fun h => scanI_succ HS2.out (riseAt_ok h)
            generalize R.getD p 0 = y at *
            generalize R.getD (p + 1) 0 = z at *
            by_cases hyz : y < z
            · have HC : Hid (scanI (riseAt R) (p + 1 + 1) = 0) := HZ.out hyz
              have hle : ¬ z ≤ y := by omega
              go_wp2
              exact ⟨⟨p + 1 + 1, by omega, by go_num, HC, hB1⟩, by simp [intOf]; omega⟩
            · have HC : Hid (Z = 7) := HH.out (by omega)
              have hle : z ≤ y := by omega
              go_wp2
              go_ret
              exact ⟨by rw [HC.out]; rfl, hB1⟩
        · have hjk : j = k := by omega
          subst hjk
          have HC : Hid (Z = 0) := H4.out HVt.out HS.out HS2.out
          go_wp2
          go_ret
          exact ⟨by rw [HC.out]; rfl, hB1⟩
end Go.Proofs.Ytjmabfikbfdjbaa

/-
  copiedAcceptors, the program's.
-/
set_option linter.unusedSimpArgs false
set_option linter.unusedVariables false
namespace Go.Proofs.Ytjmabfikbfdjbaa
open Go.RowKit
set_option linter.unusedSectionVars false
variable [DecidableEq Vot] [Inhabited Vot] [DecidableEq Slt] [Inhabited Slt] [DecidableEq SltR] [Inhabited SltR] [DecidableEq Bal] [Inhabited Bal] [DecidableEq Ledg] [Inhabited Ledg] [DecidableEq Leg] [Inhabited Leg] [DecidableEq Acc] [Inhabited Acc] [DecidableEq AccR] [Inhabited AccR] [DecidableEq AccsR] [Inhabited AccsR] [DecidableEq SltsR] [Inhabited SltsR]
attribute [local go_sem ↓] Go.wp_at_zero Go.wp_at_succ

set_option maxRecDepth 20000 in
set_option maxHeartbeats 4000000 in
theorem copiedAccs_u (x : Value) (l : List Acc) (w : World) (hx : accsR.V w x l) (hl : ListOk l) :
    Calls Try.prog 29 #[x] w fun e w' => ∃ v F, e = .returned v ∧ accsR.O w' w.heap.size F v l ∧ Below w.heap.size w w' := by
  obtain ⟨a, cx, rfl, hcx, hmx, hx⟩ := accs_at hx
  unfold maxLen at hmx
  have hXs : Hid (∀ k, k < l.length → ∃ b o p q, a = some ⟨b, o, none⟩ ∧ w.cell? ⟨b, o + k, none⟩ = some (.slice p (l.getD k default).slots.length q) ∧ accR.V w (.agg #[.slice p (l.getD k default).slots.length q]) (l.getD k default)) := hx
  have HOk : Hid (∀ k, k < l.length → AccOk (l.getD k default).slots) := fun k hk => accOk_of (hl.ok k hk)
  have hn5 := hl.hi
  clear hx hl
  obtain ⟨n, hn'⟩ : ∃ n, n = l.length := ⟨_, rfl⟩
  have HN : Hid (l.length = n) := hn'.symm
  rw [← hn'] at hcx hXs HOk hn5 ⊢
  clear hn'
  have hs0 : ∃ a c' F, (Value.slice none 0 0) = .slice a 0 c' ∧ accsR.O w w.heap.size F (.slice a 0 c') (l.take 0) := ⟨none, 0, _, rfl, accs_nil w _⟩
  go_enter Try.func29, Try.ntmps29
  go_wp2
  go_loopw [3, 8] (fun t i w' => ∃ k : Nat, k ≤ n ∧ i = .int .i64 k ∧ (∃ a c' F, t = .slice a k c' ∧ accsR.O w' w.heap.size F (.slice a k c') (l.take k)) ∧ Below w.heap.size w w') (fun t i _ => n - (intOf i).toNat)
  case atStart => exact ⟨0, Nat.zero_le _, rfl, hs0, by (repeat (first | exact Below.refl _ _ | assumption | refine Below.drew ?_ | refine balloc ?_ _ | refine bset ?_ (by simp; omega) _ | refine bset ?_ (by simp) _ | refine bstep ?_ (by assumption)))⟩
  case round =>
    clear hs0
    obtain ⟨k, hk, rfl, ⟨as_, cs_, F, rfl, ho⟩, hbl⟩ := hrel
    have HO : Hid (accsR.O wr w.heap.size F (.slice as_ k cs_) (l.take k)) := ho
    clear ho
    have hwz := hbl.size
    by_cases hlt : k < n
    · obtain ⟨b, o, p, q, rfl, hc, hV⟩ := hXs.out k hlt
      have hok := HOk.out k hlt
      have HL : Hid (l.take (k + 1) = l.take k ++ [l.getD k default]) := take_accs l (by rw [HN.out]; exact hlt)
      replace hc := cell_keep hbl hc
      have zb : b < wr.heap.size := World.block_lt_of_cell? wr _ hc
      have HCp : Hid (∀ W, Below w.heap.size w W → Calls Try.prog 59 #[.agg #[.slice p (l.getD k default).slots.length q]] W fun e w' => ∃ v F, e = .returned v ∧ accR.O w' W.heap.size F v (l.getD k default) ∧ Below W.heap.size W w') := fun W hW => copiedAcc_u _ (l.getD k default) W (accR.below hV hW) (Nat.le_trans hok.len (by omega)) (fun j hj => Nat.le_trans (sltOk_of (hok.ok j hj)).len (by omega))
      clear hV hok
      generalize l.getD k default = y at *
      go_wp2_with fail
      refine (HCp.out _ (by (repeat (first | exact Below.refl _ _ | assumption | refine Below.drew ?_ | refine balloc ?_ _ | refine bset ?_ (by simp; omega) _ | refine bset ?_ (by simp) _ | refine bstep ?_ (by assumption))))).mono ?_
      rintro e w2 ⟨v2, F2, rfl, o2, hb2⟩
      obtain ⟨a2, c2, rfl, _⟩ := acc_cells o2
      have hB2 : Below wr.heap.size wr w2 := by (repeat (first | exact Below.refl _ _ | assumption | refine Below.drew ?_ | refine balloc ?_ _ | refine bset ?_ (by simp; omega) _ | refine bset ?_ (by simp) _ | refine bstep ?_ (by assumption)))
      have hBw : Below w.heap.size w w2 := bstep hbl hB2
      have hz2 := hB2.size
      have HO2 : Hid (accsR.O w2 w.heap.size F (.slice as_ k cs_) (l.take k)) := accsR.keep HO.out hB2
      have HFl : Hid (∀ b, F b → b < wr.heap.size) := fun b hb => (accsR.rng HO.out b hb).2
      have HF2 : Hid (∀ b, F2 b → wr.heap.size ≤ b) := fun b hb => by have := (accR.rng o2 b hb).1; first | exact this | (simp at this; omega)
      have HU : Hid (accR.O w2 w.heap.size F2 (.agg #[.slice a2 y.slots.length c2]) y) := accR.base o2 (by first | exact hwz | (simp; omega))
      clear hb2 o2 HCp HO hc
      go_wp2_with (at_builtin; refine wpl_appA _ rfl _ _ rfl w.heap.size F F2 _ (l.take k) y w2.heap.size a2 c2 rfl rfl ?a1 ?a2 ?a3 ?a4 ?a5 ?a6 ?_)
      case a1 => exact accsR.alloc HO2.out _
      case a2 => exact accR.alloc HU.out _
      case a3 => exact fun b h1 h2 => by have := HFl.out b h1; have := HF2.out b h2; omega
      case a4 => simp [go_sem]
      case a5 => rw [List.length_take, HN.out]; omega
      case a6 => simp; omega
      intro v3 w3 F3 o3 hb3 _
      rw [← HL.out] at o3
      obtain ⟨a3, c3, e3⟩ := accs_form (accsR.ofO o3)
      rw [show (l.take (k + 1)).length = k + 1 by rw [List.length_take, HN.out]; omega] at e3
      subst e3
      have o3' : ∃ a c' F, (Value.slice a3 (k + 1) c3) = .slice a (k + 1) c' ∧ accsR.O w3 w.heap.size F (.slice a (k + 1) c') (l.take (k + 1)) := ⟨_, _, F3, rfl, o3⟩
      have hB4 : Below w.heap.size w w3 := Below.trans (balloc hBw _) hb3
      clear o3 hb3
      go_wp2
      exact ⟨⟨k + 1, by omega, by go_num, o3', hB4⟩, by simp [intOf]; omega⟩
    · have hkn : k = n := by omega
      subst hkn
      have ho := HO.out
      rw [List.take_of_length_le (by rw [HN.out]; exact Nat.le_refl _)] at ho
      have HO2 : Hid (accsR.O wr w.heap.size F (.slice as_ k cs_) l) := ho
      clear ho HO
      go_wp2
      refine bodyPost_ret (v := .slice as_ k cs_) (by simp [results, Try.results29, go_sem]) rfl ⟨_, F, rfl, HO2.out, hbl⟩
end Go.Proofs.Ytjmabfikbfdjbaa


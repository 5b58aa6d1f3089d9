import Derived.Test.YtjemciikdijokaaPrnOpenSessionLaw11
import Derived.BigQuiet
import Derived.Deep.QuietTactic
import Derived.Deep.RegionHeld3
import Derived.Test.YtjemciikdijokaaPrnOpenSessionLaw3
import Derived.Test.YtjemciikdijokaaPrnOpenSessionLaw10
import Derived.Shelf.Abstract
import Derived.Laws.CopyRow
import Derived.Laws.Externs
import Derived.Lib.Overlaps
import Derived.Lib.AppendZerosOnto
import Derived.Deep.RegionLaw
import Derived.Maps.AppendAt

/-
  SessionsFault, the document's.
-/
set_option linter.unusedSimpArgs false
set_option linter.unusedVariables false
namespace Go.Proofs.Ytjemciikdijokaa
open Go.RowKit
set_option linter.unusedSectionVars false
variable [DecidableEq Leg] [Inhabited Leg] [DecidableEq Ses] [Inhabited Ses] [DecidableEq Cont] [Inhabited Cont] [DecidableEq Bal] [Inhabited Bal] [DecidableEq Mrk] [Inhabited Mrk] [DecidableEq Shd] [Inhabited Shd] [DecidableEq Vot] [Inhabited Vot] [DecidableEq Slt] [Inhabited Slt] [DecidableEq Acc] [Inhabited Acc] [DecidableEq Trr] [Inhabited Trr] [DecidableEq Hrd] [Inhabited Hrd] [DecidableEq Ldr] [Inhabited Ldr] [DecidableEq Msg] [Inhabited Msg] [DecidableEq Clu] [Inhabited Clu] [DecidableEq SesR] [Inhabited SesR] [DecidableEq Ledg] [Inhabited Ledg]
attribute [local go_sem ↓] Go.wp_at_zero Go.wp_at_succ

theorem sent_at {w : World} {p : Option Addr} {q : Nat} {x : Ses} (h : sesR.V w (.agg #[.int .i64 x.client, .int .i64 x.next, .slice p x.sent.length q]) x) : (x.sent.length ≤ 9223372036854775807) ∧ ∀ i, i < x.sent.length → ∃ b o, p = some ⟨b, o, none⟩ ∧ w.cell? ⟨b, o + i, none⟩ = some (.int .i64 (x.sent.getD i default)) := by
  obtain ⟨u1, e, h1⟩ := h
  simp only [Value.agg.injEq, Array.mk.injEq, List.cons.injEq, and_true, true_and] at e
  subst e
  obtain ⟨a, c, e, h2, h3, h4⟩ := h1
  simp only [Value.slice.injEq, true_and] at e
  obtain ⟨rfl, rfl⟩ := e
  unfold maxLen at h3
  exact ⟨by omega, h4⟩
set_option maxRecDepth 20000 in
set_option maxHeartbeats 8000000 in
theorem specSesF_any (v : Value) (l : List Ses) (w : World) (hx : sessR.V w v l) :
    Calls Try.prog 7 #[v] w fun e w' => e = .returned (.int .i64 (sesF l)) ∧ Below w.heap.size w w' := by
  obtain ⟨a, c, rfl, hcx, hmx, hx⟩ := sess_at hx
  unfold maxLen at hmx
  have HX : Hid (∀ k, k < l.length → ∃ b o p q, a = some ⟨b, o, none⟩ ∧ w.cell? ⟨b, o + k * 3, none⟩ = some (.int .i64 (l.getD k default).client) ∧ w.cell? ⟨b, o + k * 3 + 1, none⟩ = some (.int .i64 (l.getD k default).next) ∧ w.cell? ⟨b, o + k * 3 + 2, none⟩ = some (.slice p (l.getD k default).sent.length q) ∧ sesR.V w (.agg #[.int .i64 (l.getD k default).client, .int .i64 (l.getD k default).next, .slice p (l.getD k default).sent.length q]) (l.getD k default)) := hx
  clear hx
  obtain ⟨n, hn'⟩ : ∃ n, n = l.length := ⟨_, rfl⟩
  have HN : Hid (l.length = n) := hn'.symm
  rw [← hn'] at hcx HX ⊢
  clear hn'
  by_cases h6 : 10 < n
  · have HC : Hid (sesF l = 2) := sesF_many (by rw [HN.out]; exact h6)
    have h6' : (10 : Int) < n := by omega
    clear HX
    go_enter Try.func7, Try.ntmps7
    go_wp2
    go_ret
    exact ⟨by rw [HC.out]; rfl, by (repeat (first | exact Below.refl _ _ | assumption | refine Below.drew ?_ | refine balloc ?_ _ | refine bset ?_ (by simp; omega) _ | refine bset ?_ (by simp) _ | refine bstep ?_ (by assumption)))⟩
  have h6' : ¬ (10 : Int) < n := by omega
  have HH : Hid (∀ k c, k < n → scanI (sesAt l) k = 0 → sesAt l k = c → ¬ c = 0 → sesF l = c) := fun k c hk hs hc h0 => sesF_hit (by rw [HN.out]; exact h6) (by rw [HN.out]; exact hk) hs hc h0
  have HE : Hid (scanI (sesAt l) n = 0 → sesF l = 0) := fun hs => sesF_end (by rw [HN.out]; exact h6) (by rw [HN.out]; exact hs)
  have h10 : n ≤ 10 := by omega
  clear h6
  go_enter Try.func7, Try.ntmps7
  go_wp2
  go_loopw [3] (fun i w' => ∃ k : Nat, k ≤ n ∧ i = .int .i64 k ∧ Hid (scanI (sesAt l) k = 0) ∧ Below w.heap.size w w') (fun i _ => n - (intOf i).toNat)
  case atStart => exact ⟨0, Nat.zero_le _, rfl, rfl, by (repeat (first | exact Below.refl _ _ | assumption | refine Below.drew ?_ | refine balloc ?_ _ | refine bset ?_ (by simp; omega) _ | refine bset ?_ (by simp) _ | refine bstep ?_ (by assumption)))⟩
  case round =>
    obtain ⟨k, hk, rfl, HS, hbl⟩ := hrel
    by_cases hlt : k < n
    · obtain ⟨b, o, p, q, rfl, g0, g1, g2, hV⟩ := HX.out k hlt
      have hxp := HX.out (k - 1) (by omega)
      obtain ⟨hms, hss⟩ := sent_at hV
      clear hV
      have HSt : Hid (∀ i, i < (l.getD k default).sent.length → ∃ b o, p = some ⟨b, o, none⟩ ∧ w.cell? ⟨b, o + i, none⟩ = some (.int .i64 ((l.getD k default).sent.getD i default))) := hss
      clear hss
      have HR : Hid (¬ (inB (l.getD k default).client 1 999 = true ∧ inB (l.getD k default).next 1 1000 = true) → sesF l = 3) := fun h => HH.out k 3 hlt HS.out (sesAt_range h) (by omega)
      have HF : Hid ((inB (l.getD k default).client 1 999 = true ∧ inB (l.getD k default).next 1 1000 = true) → ¬ ((k = 0 ∨ cliAt l (k - 1) < (l.getD k default).client) ∧ sentB (l.getD k default) = true) → sesF l = 1) := fun h h1 => HH.out k 1 hlt HS.out (sesAt_form h h1) (by omega)
      have HO : Hid ((inB (l.getD k default).client 1 999 = true ∧ inB (l.getD k default).next 1 1000 = true) → ((k = 0 ∨ cliAt l (k - 1) < (l.getD k default).client) ∧ sentB (l.getD k default) = true) → scanI (sesAt l) (k + 1) = 0) := fun h h1 => scanI_succ HS.out (sesAt_ok h h1)
      obtain ⟨x, hx⟩ : ∃ x, x = l.getD k default := ⟨_, rfl⟩
      rw [← hx] at g0 g1 g2 hms HSt HR HF HO
      clear hx
      obtain ⟨bp, op, _, _, e, p0, _, _, _⟩ := hxp
      simp only [Option.some.injEq, Addr.mk.injEq, and_true] at e
      obtain ⟨rfl, rfl⟩ := e
      replace p0 : w.cell? ⟨b, o + (k - 1) * 3, none⟩ = some (.int .i64 (cliAt l (k - 1))) := p0
      generalize cliAt l (k - 1) = z at *
      obtain ⟨xc, xn, xs⟩ := x
      dsimp only at g0 g1 g2 hms HSt HR HF HO
      obtain ⟨m, hm⟩ : ∃ m, m = xs.length := ⟨_, rfl⟩
      have HM : Hid (xs.length = m) := hm.symm
      rw [← hm] at g2 hms HSt
      clear hm
      replace g0 := cell_keep hbl g0
      replace g1 := cell_keep hbl g1
      replace g2 := cell_keep hbl g2
      replace p0 := cell_keep hbl p0
      have zb : b < wr.heap.size := World.block_lt_of_cell? wr _ g0
      have hwz := hbl.size
      cases hc1 : inB xc 1 999
      · have HC : Hid (sesF l = 3) := HR.out (by rw [hc1]; simp)
        clear HR HF HO HSt p0
        go_wp2_with (go_at_call 21; refine (l1In_any _ _ _ _).mono ?_; rintro e w' ⟨rfl, rfl⟩)
        go_ret
        exact ⟨by rw [HC.out]; rfl, by (repeat (first | exact Below.refl _ _ | assumption | refine Below.drew ?_ | refine balloc ?_ _ | refine bset ?_ (by simp; omega) _ | refine bset ?_ (by simp) _ | refine bstep ?_ (by assumption)))⟩
      cases hc2 : inB xn 1 1000
      · have HC : Hid (sesF l = 3) := HR.out (by rw [hc2]; simp)
        clear HR HF HO HSt p0
        go_wp2_with (go_at_call 21; refine (l1In_any _ _ _ _).mono ?_; rintro e w' ⟨rfl, rfl⟩)
        go_ret
        exact ⟨by rw [HC.out]; rfl, by (repeat (first | exact Below.refl _ _ | assumption | refine Below.drew ?_ | refine balloc ?_ _ | refine bset ?_ (by simp; omega) _ | refine bset ?_ (by simp) _ | refine bstep ?_ (by assumption)))⟩
      have HF2 : Hid (¬ ((k = 0 ∨ z < xc) ∧ sentB ⟨xc, xn, xs⟩ = true) → sesF l = 1) := HF.out ⟨hc1, hc2⟩
      have HO2 : Hid (((k = 0 ∨ z < xc) ∧ sentB ⟨xc, xn, xs⟩ = true) → scanI (sesAt l) (k + 1) = 0) := HO.out ⟨hc1, hc2⟩
      have hnb := hc2
      unfold inB at hnb
      simp only [Bool.and_eq_true, decide_eq_true_eq] at hnb
      have wn : IntKind.i64.wrap (xn - 1) = xn - 1 := wrapId (by omega) (by omega)
      clear HR HF HO
      go_wp2_with (go_at_call 21; refine (l1In_any _ _ _ _).mono ?_; rintro e w' ⟨rfl, rfl⟩)
      cases k with
      | zero =>
        have HK : Hid ((0 : Nat) = 0 ∨ z < xc) := .inl rfl
        clear p0
        by_cases hl : (m : Int) = xn - 1
        · have f1 : ((m : Int) != xn - 1) = false := by simp [hl]
          have HL : Hid ((m : Int) = xn - 1) := hl
          clear hl
          go_wp2
          go_quiet (fail)
          go_wp2
          go_loopw [5] (fun j w' => ∃ t : Nat, t ≤ m ∧ j = .int .i64 t ∧ Hid (∀ i, i < t → xs.getD i default = (i : Int) + 1) ∧ w'.cell? ⟨wr.heap.size, 2, none⟩ = some (.slice p m q) ∧ Below w.heap.size w w') (fun j _ => m - (intOf j).toNat)
          case atStart => exact ⟨0, Nat.zero_le _, rfl, fun i h => absurd h (Nat.not_lt_zero _), cell_keep (bdrewN (Below.refl _ _) _) (by simp [go_sem]), bdrewN (by (repeat (first | exact Below.refl _ _ | assumption | refine Below.drew ?_ | refine balloc ?_ _ | refine bset ?_ (by simp; omega) _ | refine bset ?_ (by simp) _ | refine bstep ?_ (by assumption)))) _⟩
          case round =>
            clear hbl
            obtain ⟨t, ht, rfl, HP, hq, hbl⟩ := hrel
            by_cases htl : t < m
            · obtain ⟨bs, os, rfl, gs⟩ := HSt.out t htl
              replace gs := cell_keep hbl gs
              have t1 : (t : Int) < (m : Int) := by omega
              have t2 : (0 : Int) ≤ (t : Int) := by omega
              have t3 : IntKind.i64.wrap ((t : Int) + 1) = (t : Int) + 1 := wrapId (by omega) (by omega)
              by_cases he : xs.getD t default = (t : Int) + 1
              · have HP2 : Hid (∀ i, i < t + 1 → xs.getD i default = (i : Int) + 1) := fun i hi => by
                  by_cases e : i = t
                  · rw [e]; exact he
                  · exact HP.out i (by omega)
                have f2 : (xs.getD t default != (t : Int) + 1) = false := bne_eq_false_iff_eq.2 he
                generalize xs.getD t default = y at *
                clear he HF2 HO2
                go_wp2
                exact ⟨⟨t + 1, by omega, by go_num, HP2, hq, hbl⟩, by simp [intOf]; omega⟩
              · have HC : Hid (sesF l = 1) := HF2.out (fun h => by
                  have h2 := h.2
                  unfold sentB at h2
                  rw [decide_eq_true_eq] at h2
                  exact he (h2.2 t (by rw [HM.out]; exact htl)))
                have f2 : (xs.getD t default != (t : Int) + 1) = true := bne_iff_ne.2 he
                generalize xs.getD t default = y at *
                clear he HF2 HO2
                go_wp2
                go_ret
                exact ⟨by rw [HC.out]; rfl, hbl⟩
            · have htm : t = m := by omega
              have HZ : Hid (scanI (sesAt l) (0 + 1) = 0) := HO2.out ⟨HK.out, by
                unfold sentB
                rw [decide_eq_true_eq]
                dsimp only
                rw [HM.out]
                exact ⟨HL.out, fun j hj => HP.out j (by omega)⟩⟩
              have t1 : ¬ (t : Int) < (m : Int) := by omega
              clear HF2 HO2
              go_wp2
              exact ⟨⟨0 + 1, by omega, by go_num, HZ, hbl⟩, by simp [intOf]; omega⟩
        · have f1 : ((m : Int) != xn - 1) = true := by simp [hl]
          have HC : Hid (sesF l = 1) := HF2.out (fun h => by 
              have h2 := h.2
              unfold sentB at h2
              rw [decide_eq_true_eq] at h2
              have h3 := h2.1
              dsimp only at h3
              rw [HM.out] at h3
              exact hl h3)
          clear HF2 HO2 HSt
          go_wp2
          go_quiet (fail)
          go_wp2
          go_ret
          exact ⟨by rw [HC.out]; rfl, bdrewN (by (repeat (first | exact Below.refl _ _ | assumption | refine Below.drew ?_ | refine balloc ?_ _ | refine bset ?_ (by simp; omega) _ | refine bset ?_ (by simp) _ | refine bstep ?_ (by assumption)))) _⟩
      | succ pp =>
        rw [Nat.add_sub_cancel] at p0
        have i1 : (pp : Int) < (n : Int) := by omega
        have i2 : ((pp + 1 : Nat) : Int) < (n : Int) := by omega
        have i3 : (0 : Int) < ((pp + 1 : Nat) : Int) := by omega
        have i4 : decide (0 < pp + 1) = true := decide_eq_true (by omega)
        have i5 : IntKind.i64.wrap (((pp + 1 : Nat) : Int) - 1) = (pp : Int) := by rw [IntKind.wrap_i64]; omega
        have i6 : (0 : Int) ≤ ((pp + 1 : Nat) : Int) := by omega
        have i7 : (0 : Int) ≤ (pp : Int) := by omega
        have i8 : (pp : Int) + 1 < (n : Int) := by omega
        have i9 : (0 : Int) ≤ (pp : Int) + 1 := by omega
        have i10 : ((pp : Int) + 1).toNat = pp + 1 := by omega
        have w1' : IntKind.i64.wrap (pp : Int) = pp := wrapId (by omega) (by omega)
        by_cases hz : xc ≤ z
        · have hzd : decide (xc ≤ z) = true := decide_eq_true hz
          have HC : Hid (sesF l = 1) := HF2.out (fun h => by have h1 := h.1; omega)
          clear HF2 HO2 HSt
          go_wp2
          go_quiet (fail)
          go_wp2
          go_ret
          exact ⟨by rw [HC.out]; rfl, bdrewN (by (repeat (first | exact Below.refl _ _ | assumption | refine Below.drew ?_ | refine balloc ?_ _ | refine bset ?_ (by simp; omega) _ | refine bset ?_ (by simp) _ | refine bstep ?_ (by assumption)))) _⟩
        · have hzd : decide (xc ≤ z) = false := decide_eq_false hz
          have HK : Hid (pp + 1 = 0 ∨ z < xc) := .inr (by omega)
          by_cases hl : (m : Int) = xn - 1
          · have f1 : ((m : Int) != xn - 1) = false := by simp [hl]
            have HL : Hid ((m : Int) = xn - 1) := hl
            clear hl
            go_wp2
            go_quiet (fail)
            go_wp2
            go_loopw [5] (fun j w' => ∃ t : Nat, t ≤ m ∧ j = .int .i64 t ∧ Hid (∀ i, i < t → xs.getD i default = (i : Int) + 1) ∧ w'.cell? ⟨wr.heap.size, 2, none⟩ = some (.slice p m q) ∧ Below w.heap.size w w') (fun j _ => m - (intOf j).toNat)
            case atStart => exact ⟨0, Nat.zero_le _, rfl, fun i h => absurd h (Nat.not_lt_zero _), cell_keep (bdrewN (Below.refl _ _) _) (by simp [go_sem]), bdrewN (by (repeat (first | exact Below.refl _ _ | assumption | refine Below.drew ?_ | refine balloc ?_ _ | refine bset ?_ (by simp; omega) _ | refine bset ?_ (by simp) _ | refine bstep ?_ (by assumption)))) _⟩
            case round =>
              clear hbl
              obtain ⟨t, ht, rfl, HP, hq, hbl⟩ := hrel
              by_cases htl : t < m
              · obtain ⟨bs, os, rfl, gs⟩ := HSt.out t htl
                replace gs := cell_keep hbl gs
                have t1 : (t : Int) < (m : Int) := by omega
                have t2 : (0 : Int) ≤ (t : Int) := by omega
                have t3 : IntKind.i64.wrap ((t : Int) + 1) = (t : Int) + 1 := wrapId (by omega) (by omega)
                by_cases he : xs.getD t default = (t : Int) + 1
                · have HP2 : Hid (∀ i, i < t + 1 → xs.getD i default = (i : Int) + 1) := fun i hi => by
                    by_cases e : i = t
                    · rw [e]; exact he
                    · exact HP.out i (by omega)
                  have f2 : (xs.getD t default != (t : Int) + 1) = false := bne_eq_false_iff_eq.2 he
                  generalize xs.getD t default = y at *
                  clear he HF2 HO2
                  go_wp2
                  exact ⟨⟨t + 1, by omega, by go_num, HP2, hq, hbl⟩, by simp [intOf]; omega⟩
                · have HC : Hid (sesF l = 1) := HF2.out (fun h => by
                    have h2 := h.2
                    unfold sentB at h2
                    rw [decide_eq_true_eq] at h2
                    exact he (h2.2 t (by rw [HM.out]; exact htl)))
                  have f2 : (xs.getD t default != (t : Int) + 1) = true := bne_iff_ne.2 he
                  generalize xs.getD t default = y at *
                  clear he HF2 HO2
                  go_wp2
                  go_ret
                  exact ⟨by rw [HC.out]; rfl, hbl⟩
              · have htm : t = m := by omega
                have HZ : Hid (scanI (sesAt l) (pp + 1 + 1) = 0) := HO2.out ⟨HK.out, by
                  unfold sentB
                  rw [decide_eq_true_eq]
                  dsimp only
                  rw [HM.out]
                  exact ⟨HL.out, fun j hj => HP.out j (by omega)⟩⟩
                have t1 : ¬ (t : Int) < (m : Int) := by omega
                clear HF2 HO2
                go_wp2
                exact ⟨⟨pp + 1 + 1, by omega, by go_num, HZ, hbl⟩, by simp [intOf]; omega⟩
          · have f1 : ((m : Int) != xn - 1) = true := by simp [hl]
            have HC : Hid (sesF l = 1) := HF2.out (fun h => by 
                have h2 := h.2
                unfold sentB at h2
                rw [decide_eq_true_eq] at h2
                have h3 := h2.1
                dsimp only at h3
                rw [HM.out] at h3
                exact hl h3)
            clear HF2 HO2 HSt
            go_wp2
            go_quiet (fail)
            go_wp2
            go_ret
            exact ⟨by rw [HC.out]; rfl, bdrewN (by (repeat (first | exact Below.refl _ _ | assumption | refine Below.drew ?_ | refine balloc ?_ _ | refine bset ?_ (by simp; omega) _ | refine bset ?_ (by simp) _ | refine bstep ?_ (by assumption)))) _⟩
    · have hkn : k = n := by omega
      subst hkn
      have HC : Hid (sesF l = 0) := HE.out HS.out
      go_wp2
      go_ret
      exact ⟨by rw [HC.out]; rfl, by (repeat (first | exact Below.refl _ _ | assumption | refine Below.drew ?_ | refine balloc ?_ _ | refine bset ?_ (by simp; omega) _ | refine bset ?_ (by simp) _ | refine bstep ?_ (by assumption)))⟩
end Go.Proofs.Ytjemciikdijokaa

/-
  slices.Insert of one slot into slots that own their memory.
-/
namespace Go.Proofs.Ytjemciikdijokaa
open Go.RowKit Go.Shelf
set_option linter.unusedSectionVars false
variable [DecidableEq Leg] [Inhabited Leg] [DecidableEq Ses] [Inhabited Ses] [DecidableEq Bal] [Inhabited Bal] [DecidableEq Ledg] [Inhabited Ledg]
set_option linter.unusedVariables false
set_option linter.unusedSimpArgs false

theorem run_copyZ (w : World) (dT sT ty elem : TypeId) (sz g o dLen dCap : Nat) (a : Addr) (sLen sCap m : Nat) (cur : Array Value) (t : TypeId) (cs : List Value)
    (hu : Try.prog.underlying dT = some (.slice elem)) (hs : (Try.prog.info? elem).map (·.size) = some sz)
    (hg : w.heap[g]? = some (.cells cur t (0, 0))) (hm : Nat.min sLen dLen = m) (hn : cs.length = m * sz)
    (hsrc : ∀ j v, cs[j]? = some v → w.cell? (a.add j) = some v) (hfit : o + cs.length ≤ cur.size) (h1 : ∀ v ∈ cs, v.oneCell' = true) :
    (Builtin.copy_ #[dT, sT] ty #[.slice (some ⟨g, o, none⟩) dLen dCap, .slice (some a) sLen sCap]).run Try.prog w =
      .ok (goInt m) (w.setRow g (cur.toList.take o ++ cs ++ cur.toList.drop (o + cs.length)).toArray) := by
  have hl := run_loadCells_list (P := Try.prog) w a cs hsrc
  have hst := run_storeCells_at Try.prog g o t cs 0 cur w hg (by simpa using hfit) h1
  cases hq : Try.prog.info? elem with
  | none => simp [hq] at hs
  | some i =>
    have hi : i.size = sz := by simpa [hq] using hs
    rw [hn] at hl
    simp [Builtin.copy_, run_underlying hu, Builtin.lenOf, Builtin.firstCells, sizeOf, typeInfo, hq, hi, hm, hl, hst]
theorem wpl_copyZ (w : World) {ops : Array Oper} {rest : List Oper} {o : Oper} {a : Act} {Q : Exit → Act → World → Prop} (hgd : o.guard = none) (d s : Operand) (t t' : TypeId)
    (ho : o.op = .call { callee := .builtin .copy, args := #[d, s], argTypes := #[t, t'] }) (v u : Value) (hd : a.eval d = v) (hs : a.eval s = u) {v' : Value} {w' : World}
    (hr : (Builtin.copy_ #[t, t'] o.type #[v, u]).run Try.prog w = .ok v' w') (h : wpList Try.prog ops Q rest (a.put o.dst v') w') : wpList Try.prog ops Q (o :: rest) a w := by
  refine wpList_plain hgd fun K hK => ?_
  unfold Oper.wp execOp
  simp only [ho, resolve, invoke, builtin, Sem.run_bind, Sem.run_pure, Result.andThen_ok, List.map_toArray, List.map_cons, List.map_nil, hd, hs, hr]
  exact hK _ _ h
theorem step_copyZ {ops : Array Oper} {o : Oper} {a : Act} {w : World} {K : Act → World → Prop} {Q : Exit → Act → World → Prop} {E : Prop} (hgd : o.guard = none) (d s : Operand) (t t' : TypeId)
    (ho : o.op = .call { callee := .builtin .copy, args := #[d, s], argTypes := #[t, t'] }) (v u : Value) (hd : a.eval d = v) (hs : a.eval s = u) {v' : Value} {w' : World}
    (hr : (Builtin.copy_ #[t, t'] o.type #[v, u]).run Try.prog w = .ok v' w') (hK : K (a.put o.dst v') w') :
    if Region.wanted o (yielded ops a.tmps) = true then Oper.wp Try.prog o a w K Q else E := by
  have hw : Region.wanted o (yielded ops a.tmps) = true := by simp [Region.wanted, hgd]
  rw [if_pos hw]
  unfold Oper.wp execOp
  simp only [ho, resolve, invoke, builtin, Sem.run_bind, Sem.run_pure, Result.andThen_ok, List.map_toArray, List.map_cons, List.map_nil, hd, hs, hr]
  exact hK
theorem mod_setRowZ (w : World) (g : Nat) (cs : Array Value) : Mod (fun b => b = g) w (w.setRow g cs) :=
  ⟨rfl, rfl, rfl, by simp [World.setRow], fun k _ hn => setRow_other w g k cs hn⟩
theorem addr_addZ (b o j : Nat) : (⟨b, o, none⟩ : Addr).add j = ⟨b, o + j, none⟩ := by
  by_cases hj0 : j = 0
  · subst hj0; simp [Addr.add]
  · simp [Addr.add, hj0]
theorem cell_rowZ {w : World} {g j : Nat} {cur : Array Value} {t : TypeId} {fr : Nat × Nat} {v : Value} (hg : w.heap[g]? = some (.cells cur t fr)) (h : cur.toList[j]? = some v) : w.cell? ⟨g, j, none⟩ = some v := by
  have : cur[j]? = some v := by rw [← Array.getElem?_toList]; exact h
  simp [World.cell?, hg, this]
theorem heap_newZ (w : World) (o : Obj) : (w.alloc o).heap[w.heap.size]? = some o := by
  show (w.heap.push o)[w.heap.size]? = some o
  simp [Array.getElem?_push]
theorem shift_rowZ {cur cs vs : List Value} {k m : Nat} (hk : k ≤ cs.length) (hc : cur.take cs.length = cs) (hl : cs.length + m ≤ cur.length) (hv : vs.length = m) :
    ((((cur.take (k + m) ++ cs.drop k ++ cur.drop (k + m + (cs.drop k).length)).take k ++ vs ++ (cur.take (k + m) ++ cs.drop k ++ cur.drop (k + m + (cs.drop k).length)).drop (k + vs.length)).length = cur.length) ∧
    ((cur.take (k + m) ++ cs.drop k ++ cur.drop (k + m + (cs.drop k).length)).take k ++ vs ++ (cur.take (k + m) ++ cs.drop k ++ cur.drop (k + m + (cs.drop k).length)).drop (k + vs.length)).take (cs.length + m) = cs.take k ++ vs ++ cs.drop k) := by
  subst hv
  have h1 : (cur.take (k + vs.length) ++ cs.drop k ++ cur.drop (k + vs.length + (cs.drop k).length)).take k = cs.take k := by
    rw [List.append_assoc, List.take_append_of_le_length (by rw [List.length_take]; omega), List.take_take]
    conv => rhs; rw [← hc, List.take_take]
    congr 1
    omega
  have h2 : (cur.take (k + vs.length) ++ cs.drop k ++ cur.drop (k + vs.length + (cs.drop k).length)).drop (k + vs.length) = cs.drop k ++ cur.drop (k + vs.length + (cs.drop k).length) := by
    rw [List.append_assoc, List.drop_append_of_le_length (by rw [List.length_take]; omega), List.drop_take]
    simp
  rw [h1, h2]
  have hd : (cs.drop k).length = cs.length - k := List.length_drop ..
  constructor
  · simp only [List.length_append, List.length_take, List.length_drop]
    omega
  · rw [← List.append_assoc, List.take_append_of_le_length (by simp only [List.length_append, List.length_take, List.length_drop]; omega), List.take_of_length_le (by simp only [List.length_append, List.length_take, List.length_drop]; omega)]
set_option maxHeartbeats 4000000 in
set_option maxRecDepth 100000 in
theorem insertZ_shift (g n c i vb : Nat) (cs vs : List Value) (cur : Array Value) (w : World) (hg : w.heap[g]? = some (.cells cur 52 (0, 0))) (hi : i < n) (hroom : n + 1 ≤ c) (hc63 : c ≤ 9223372036854775807) (hvb : vb ≠ g)
    (hcur : cur.size = c * 3) (hcl : cs.length = n * 3) (ht : cur.toList.take (n * 3) = cs) (hvl : vs.length = 3) (hv : w.heap[vb]? = some (.cells vs.toArray 52 (0, 0))) (h1c : ∀ v ∈ cs, v.oneCell' = true) (h1v : ∀ v ∈ vs, v.oneCell' = true) :
    Calls Try.prog 34 #[.slice (some ⟨g, 0, none⟩) n c, .int .i64 i, .slice (some ⟨vb, 0, none⟩) 1 1] w fun e w' =>
      e = .returned (.slice (some ⟨g, 0, none⟩) (n + 1) c) ∧ ∃ cur' : Array Value, w'.heap[g]? = some (.cells cur' 52 (0, 0)) ∧ cur'.size = c * 3 ∧ cur'.toList.take ((n + 1) * 3) = cs.take (i * 3) ++ vs ++ cs.drop (i * 3) ∧ Mod (fun b => b = g) w w' := by
  have hz2 : ¬ ((i : Int) = (n : Int)) := by omega
  have hsz : (Try.prog.info? 52).map (·.size) = some 3 := by
    obtain ⟨i0, hi0, _, h1, _⟩ := info_parts infoSess
    rw [hi0]; simp [h1]
  have hzz : ∀ w, (Go.sizeOf 52).run Try.prog w = .ok 3 w := fun w => by
    obtain ⟨i0, hi0, _, h1, _⟩ := info_parts infoSess
    simp [sizeOf, typeInfo, hi0, h1]
  have hov : ∀ lb cb, (callFunc 45 #[.slice (some ⟨vb, 0, none⟩) 1 1, .slice (some ⟨g, (i + 1) * 3, none⟩) lb cb]).run Try.prog w = .ok (.value (.bool false)) w := fun lb cb => by
    rw [run_callFunc_extern Try.func45 (by kernel_rfl) (by kernel_rfl) (by kernel_rfl) (e := Extern.SlicesOverlaps.overlaps #[25, 25] #[4]) (by kernel_rfl),
      Lib.run_overlaps_apart w 25 4 52 Try.underlying25 3 hzz ⟨vb, 0, none⟩ ⟨g, (i + 1) * 3, none⟩ 1 1 lb cb hvb 52 52 3 (c * 3) (by simp [World.shape?, hv, hvl]) (by simp [World.shape?, hg, hcur]) (by omega) (by simp [World.frozen?, hv]) (by simp [World.frozen?, hv])]
    rfl
  have hdl : (cs.drop (i * 3)).length = (n - i) * 3 := by rw [List.length_drop, hcl]; omega
  have hb1 : (0 : Int) ≤ (i : Int) + 1 := by omega
  have hw1 : IntKind.i64.wrap ((i : Int) + 1) = (i : Int) + 1 := by rw [IntKind.wrap_i64]; omega
  have htn : ((i : Int) + 1).toNat = i + 1 := by omega
  have hin : i ≤ n := by omega
  have hb2 : ¬ (c = i + 1) := by omega
  have hb3 : (i : Int) ≤ (n : Int) + 1 := by omega
  have hb4 : ¬ (c = i) := by omega
  obtain ⟨A1, hA1⟩ : ∃ A1 : Array Value, A1 = (cur.toList.take ((i + 1) * 3) ++ cs.drop (i * 3) ++ cur.toList.drop ((i + 1) * 3 + (cs.drop (i * 3)).length)).toArray := ⟨_, rfl⟩
  have hcp1 : ∀ ty dl dc sl sc, dl = n - i → sl = n + 1 - i → (Builtin.copy_ #[25, 25] ty #[.slice (some ⟨g, (i + 1) * 3, none⟩) dl dc, .slice (some ⟨g, i * 3, none⟩) sl sc]).run Try.prog w.drew = .ok (goInt ((n - i : Nat) : Int)) (w.drew.setRow g A1) := fun ty dl dc sl sc e1 e2 => by
    rw [hA1]
    refine run_copyZ w.drew _ _ ty 52 3 g ((i + 1) * 3) dl dc ⟨g, i * 3, none⟩ sl sc (n - i) cur 52 (cs.drop (i * 3)) Try.underlying25 hsz hg (by simp only [Nat.min_def]; split <;> omega) hdl (fun j v hj => ?_) (by rw [hdl, hcur]; omega) (fun v hv => h1c v (List.mem_of_mem_drop hv))
    rw [addr_addZ]
    refine cell_rowZ hg ?_
    rw [List.getElem?_drop, ← ht, List.getElem?_take] at hj
    split at hj
    · exact hj
    · cases hj
  have hA1s : A1.size = c * 3 := by
    rw [hA1]
    simp only [List.size_toArray, List.length_append, List.length_take, List.length_drop, Array.length_toList]
    rw [hcl]
    omega
  have hg1 : (w.drew.setRow g A1).heap[g]? = some (.cells A1 52 (0, 0)) := setRow_heap w.drew g cur A1 _ _ hg
  have hv1 : (w.drew.setRow g A1).heap[vb]? = some (.cells vs.toArray 52 (0, 0)) := (setRow_other w.drew g vb A1 hvb).trans hv
  obtain ⟨W1, hW1⟩ : ∃ W1, W1 = w.drew.setRow g A1 := ⟨_, rfl⟩
  rw [← hW1] at hg1 hv1 hcp1
  have hm1 : Mod (fun b => b = g) w W1 := by
    rw [hW1]
    exact (Mod.of_below (Below.drew (Below.refl _ _))).trans (mod_setRowZ _ _ _)
  obtain ⟨A2, hA2⟩ : ∃ A2 : Array Value, A2 = (A1.toList.take (i * 3) ++ vs ++ A1.toList.drop (i * 3 + vs.length)).toArray := ⟨_, rfl⟩
  have hcp2 : ∀ (W : World), W.heap[g]? = some (.cells A1 52 (0, 0)) → W.heap[vb]? = some (.cells vs.toArray 52 (0, 0)) → ∀ ty dc, (Builtin.copy_ #[25, 25] ty #[.slice (some ⟨g, i * 3, none⟩) (n + 1 - i) dc, .slice (some ⟨vb, 0, none⟩) 1 1]).run Try.prog W = .ok (goInt 1) (W.setRow g A2) := fun W hW1 hW2 ty dc => by
    rw [hA2]
    refine run_copyZ W _ _ ty 52 3 g (i * 3) (n + 1 - i) dc ⟨vb, 0, none⟩ 1 1 1 A1 52 vs Try.underlying25 hsz hW1 (by simp only [Nat.min_def]; split <;> omega) (by omega) (fun j v hj => ?_) (by rw [hvl, hA1s]; omega) h1v
    rw [addr_addZ]
    exact cell_rowZ hW2 (by simpa using hj)
  have hfin : A2.size = c * 3 ∧ A2.toList.take ((n + 1) * 3) = cs.take (i * 3) ++ vs ++ cs.drop (i * 3) := by
    have h := shift_rowZ (cur := cur.toList) (cs := cs) (vs := vs) (k := i * 3) (m := 3) (by rw [hcl]; omega) (by rw [hcl]; exact ht) (by rw [hcl, Array.length_toList, hcur]; omega) hvl
    rw [hA2, hA1]
    rw [show (i + 1) * 3 = i * 3 + 3 by omega, show (n + 1) * 3 = cs.length + 3 by rw [hcl]; omega]
    refine ⟨?_, h.2⟩
    rw [List.size_toArray]
    have h1 := h.1
    have h2 : cur.toList.length = c * 3 := by rw [Array.length_toList, hcur]
    rw [h2] at h1
    exact h1
  clear hA1 hA2 hW1
  have HF : Hid (A2.size = c * 3 ∧ A2.toList.take ((n + 1) * 3) = cs.take (i * 3) ++ vs ++ cs.drop (i * 3)) := hfin
  clear hfin
  go_enter Try.func34, Try.ntmps34
  go_wp2_with (simp only [hov])
  go_region_law (refine step_copyZ rfl (.tmp 73) (.tmp 76) 25 25 rfl _ _ (by simp [Act.eval, Act.put]) (by simp [Act.eval, Act.put]) (hcp1 _ _ _ _ _ (by omega) (by omega)) ?_)
  go_wp2_with (at_builtin; refine wpl_copyZ _ rfl _ _ 25 25 rfl _ _ rfl rfl (hcp2 _ hg1 hv1 _ _) ?_)
  go_ret
  refine ⟨rfl, A2, setRow_heap _ g A1 A2 _ _ hg1, HF.out.1, HF.out.2, hm1.trans (mod_setRowZ _ _ _)⟩
end Go.Proofs.Ytjemciikdijokaa

/-
  slices.Insert at the end.
-/
namespace Go.Proofs.Ytjemciikdijokaa
open Go.RowKit Go.Shelf
set_option linter.unusedSectionVars false
variable [DecidableEq Leg] [Inhabited Leg] [DecidableEq Ses] [Inhabited Ses] [DecidableEq Bal] [Inhabited Bal] [DecidableEq Ledg] [Inhabited Ledg]
set_option linter.unusedVariables false
set_option linter.unusedSimpArgs false

set_option maxHeartbeats 4000000 in
set_option maxRecDepth 100000 in
theorem insertZ_end (base : Nat) (v : Value) (n vb : Nat) (cs vs : List Value) (w : World) (hown : w.ownsRow base 52 3 v n cs) (hn : n ≤ 1048576) (hbase : base ≤ w.heap.size)
    (hvl : vs.length = 3) (hv : w.heap[vb]? = some (.cells vs.toArray 52 (0, 0))) (h1v : ∀ v ∈ vs, v.oneCell' = true) :
    Calls Try.prog 34 #[v, .int .i64 n, .slice (some ⟨vb, 0, none⟩) 1 1] w fun e w' =>
      ∃ v', e = .returned v' ∧ w'.ownsRow base 52 3 v' (n + 1) (cs ++ vs) ∧ w.grownBy w' v.ownBlock ∧ (v'.ownBlock = v.ownBlock ∨ v'.ownBlock = some w.heap.size) := by
  obtain ⟨i0, hi, hz0, hz1, hz2⟩ := info_parts infoSess
  have HV : Hid (∀ j u, vs[j]? = some u → w.cell? ((⟨vb, 0, none⟩ : Addr).add j) = some u) := fun j u hj => by
    rw [addr_addZ]
    exact cell_rowZ hv (by simpa using hj)
  obtain ⟨a, c, rfl⟩ := owns_form hown
  have hnc : n ≤ c := by
    rcases hown.2 with ⟨_, h⟩ | ⟨g, cap, cur, h, _, _, h2, _⟩
    · omega
    · simp only [Value.slice.injEq] at h; omega
  have hcm : c ≤ 9223372036854775807 := by
    rcases hown.2 with ⟨h, _⟩ | ⟨g, cap, cur, h, _, _, h2, h3, _⟩
    · simp only [Value.slice.injEq] at h; omega
    · simp only [Value.slice.injEq] at h; unfold maxLen at h3; omega
  rcases Nat.eq_or_lt_of_le hnc with rfl | h0
  all_goals
    try (have hck : ¬ c = n := by omega)
    go_enter Try.func34, Try.ntmps34
    go_wp2_with (at_builtin; refine wpList_append_own_at w rfl (.tmp 23) (.tmp 24) 25 rfl base 52 i0 _ 3 40 Try.underlying25 hi hz0 hz1 hz2 rfl (by decide) _ n cs rfl hown ⟨vb, 0, none⟩ 1 1 vs rfl hvl HV.out h1v ?_ ?_ hbase ?_)
    · unfold maxLen; omega
    · omega
    intro v' w' h1 h2 h3 h4
    obtain ⟨a', c', rfl⟩ := owns_form h1
    go_wp2
    go_ret
    exact ⟨_, rfl, h1, h2, h4⟩
end Go.Proofs.Ytjemciikdijokaa

/-
  slices.Insert where there is no room.
-/
namespace Go.Proofs.Ytjemciikdijokaa
open Go.RowKit Go.Shelf
set_option linter.unusedSectionVars false
variable [DecidableEq Leg] [Inhabited Leg] [DecidableEq Ses] [Inhabited Ses] [DecidableEq Bal] [Inhabited Bal] [DecidableEq Ledg] [Inhabited Ledg]
set_option linter.unusedVariables false
set_option linter.unusedSimpArgs false

set_option maxHeartbeats 4000000 in
set_option maxRecDepth 100000 in
theorem insertZ_grow (g n c i vb : Nat) (cs vs : List Value) (w : World) (hi : i < n) (hnc : n ≤ c) (hroom : c < n + 1) (hbig : n ≤ 1048576)
    (hcl : cs.length = n * 3) (hcs : ∀ j v, cs[j]? = some v → w.cell? ⟨g, j, none⟩ = some v) (hvl : vs.length = 3) (hv : w.heap[vb]? = some (.cells vs.toArray 52 (0, 0))) (h1c : ∀ v ∈ cs, v.oneCell' = true) (h1v : ∀ v ∈ vs, v.oneCell' = true) :
    Calls Try.prog 34 #[.slice (some ⟨g, 0, none⟩) n c, .int .i64 i, .slice (some ⟨vb, 0, none⟩) 1 1] w fun e w' =>
      ∃ G, e = .returned (.slice (some ⟨w.heap.size, 0, none⟩) (n + 1) G) ∧ ∃ cur' : Array Value, w'.heap[w.heap.size]? = some (.cells cur' 52 (0, 0)) ∧ n + 1 ≤ G ∧ G ≤ maxLen ∧ cur'.size = G * 3 ∧ cur'.toList.take ((n + 1) * 3) = cs.take (i * 3) ++ vs ++ cs.drop (i * 3) ∧ Mod (fun _ => False) w w' := by
  obtain ⟨i0, hi0, hz0, hzs, hzb⟩ := info_parts infoSess
  have hsz : (Try.prog.info? 52).map (·.size) = some 3 := by rw [hi0]; simp [hzs]
  have hz2 : ¬ ((i : Int) = (n : Int)) := by omega
  have hz3 : (c : Int) < (n : Int) + 1 := by omega
  have hgw : g < w.heap.size := World.block_lt_of_cell? w ⟨g, 0, none⟩ (hcs 0 _ (List.getElem?_eq_getElem (by omega)))
  have hvw : vb < w.heap.size := (Array.getElem?_eq_some_iff.1 hv).1
  have hkk : (n : Int) + 1 - (i : Int) = ((n + 1 - i : Nat) : Int) := by omega
  have hik : i + (n + 1 - i) = n + 1 := by omega
  obtain ⟨Z, hZ⟩ : ∃ Z : Value, Z = .agg #[.int .i64 0, .int .i64 0, .slice none 0 0] := ⟨_, rfl⟩
  rw [← hZ] at hz0
  have hZs : Z.cells.size = 3 := by rw [hZ]; rfl
  have hold : (Builtin.firstCells i0.size i (.slice (some ⟨g, 0, none⟩) i c)).run Try.prog w.drew = .ok (cs.take (i * 3)).toArray w.drew := by
    rw [hzs]
    exact run_firstCells_some w.drew 3 i ⟨g, 0, none⟩ i c (cs.take (i * 3)) (by rw [List.length_take]; omega) (fun j v hj => by
      rw [addr_addZ, Nat.zero_add]
      rw [List.getElem?_take] at hj
      split at hj
      · exact hcs j v hj
      · cases hj)
  have hrz : ∀ ty, (Builtin.append_ #[25, 3] ty #[.slice (some ⟨g, 0, none⟩) i c, .int .i64 ((n : Int) + 1 - (i : Int))]).run Try.prog w =
      .ok (.slice (some ⟨w.heap.size, 0, none⟩) (n + 1) (grownCap w (n + 1) c 52)) (w.drew.alloc (.cells ((cs.take (i * 3)).toArray ++ Builtin.zeroCells Z.cells (n + 1 - i) ++ Builtin.zeroCells Z.cells (grownCap w (n + 1) c 52 - (n + 1))) 52)) := fun ty => by
    have h := Lib.run_append_grow_zeros w 25 3 ty 52 i0 _ .i64 .i64 Try.underlying25 Try.underlying3 hi0 hz0 (some ⟨g, 0, none⟩) i c (cs.take (i * 3)) hold (n + 1 - i) (by omega) (by omega) (by omega) (by omega) (by rw [hzb]; omega) (by rw [hzb, hik]; exact growslice_fits hroom (by omega))
    rw [hik] at h
    rw [hkk]
    exact h
  obtain ⟨G, hG⟩ : ∃ G, G = grownCap w (n + 1) c 52 := ⟨_, rfl⟩
  obtain ⟨ROW, hROW⟩ : ∃ ROW : Array Value, ROW = (cs.take (i * 3)).toArray ++ Builtin.zeroCells Z.cells (n + 1 - i) ++ Builtin.zeroCells Z.cells (G - (n + 1)) := ⟨_, rfl⟩
  rw [← hG] at hrz
  rw [← hROW] at hrz
  have hGn : n + 1 ≤ G := by rw [hG]; exact grownCap_ge w _ _ _
  have hGm : G ≤ maxLen := by
    rw [hG]
    exact grownCap_le_maxLen w (n + 1) c 52 (by unfold maxLen; omega)
  have hRl : ROW.size = G * 3 := by
    rw [hROW]
    simp [Builtin.zeroCells, hZs, List.length_take, hcl]
    omega
  have hR1 : ROW.toList.take (i * 3) = cs.take (i * 3) := by
    rw [hROW]
    simp only [Array.toList_append, List.append_assoc]
    rw [List.take_append_of_le_length (by simp [hcl]; omega)]
    rw [List.take_of_length_le (by simp; omega)]
  obtain ⟨W1, hW1⟩ : ∃ W1, W1 = w.drew.alloc (.cells ROW 52) := ⟨_, rfl⟩
  rw [← hW1] at hrz
  have hg1 : W1.heap[w.heap.size]? = some (.cells ROW 52 (0, 0)) := by rw [hW1]; exact heap_newZ w.drew _
  have hm1 : Mod (fun b => b = w.heap.size) w W1 := by
    rw [hW1]
    exact (Mod.of_below (Below.drew (Below.refl _ _))).trans ((Mod.refl _ _).alloc _)
  have hv1 : W1.heap[vb]? = some (.cells vs.toArray 52 (0, 0)) := (hm1.block vb hvw (by omega)).trans hv
  have hcs1 : ∀ j v, cs[j]? = some v → W1.cell? ⟨g, j, none⟩ = some v := fun j v hj => hm1.cell (hcs j v hj) (by dsimp only; omega)
  obtain ⟨A1, hA1⟩ : ∃ A1 : Array Value, A1 = (ROW.toList.take (i * 3) ++ vs ++ ROW.toList.drop (i * 3 + vs.length)).toArray := ⟨_, rfl⟩
  have hcpA : ∀ (W : World), W.heap[w.heap.size]? = some (.cells ROW 52 (0, 0)) → W.heap[vb]? = some (.cells vs.toArray 52 (0, 0)) → ∀ ty dc, (Builtin.copy_ #[25, 25] ty #[.slice (some ⟨w.heap.size, i * 3, none⟩) (n + 1 - i) dc, .slice (some ⟨vb, 0, none⟩) 1 1]).run Try.prog W = .ok (goInt 1) (W.setRow w.heap.size A1) := fun W hWa hWb ty dc => by
    rw [hA1]
    refine run_copyZ W _ _ ty 52 3 w.heap.size (i * 3) (n + 1 - i) dc ⟨vb, 0, none⟩ 1 1 1 ROW 52 vs Try.underlying25 hsz hWa (by simp only [Nat.min_def]; split <;> omega) (by omega) (fun j v hj => ?_) (by rw [hvl, hRl]; omega) h1v
    rw [addr_addZ]
    exact cell_rowZ hWb (by simpa using hj)
  have hA1s : A1.size = G * 3 := by
    rw [hA1]
    simp only [List.size_toArray, List.length_append, List.length_take, List.length_drop, Array.length_toList]
    rw [hRl, hvl]
    omega
  have hdl : (cs.drop (i * 3)).length = (n - i) * 3 := by rw [List.length_drop, hcl]; omega
  obtain ⟨A2, hA2⟩ : ∃ A2 : Array Value, A2 = (A1.toList.take ((i + 1) * 3) ++ cs.drop (i * 3) ++ A1.toList.drop ((i + 1) * 3 + (cs.drop (i * 3)).length)).toArray := ⟨_, rfl⟩
  have hcpB : ∀ (W : World), W.heap[w.heap.size]? = some (.cells A1 52 (0, 0)) → (∀ j v, cs[j]? = some v → W.cell? ⟨g, j, none⟩ = some v) → ∀ ty dl dc sl sc, dl = n - i → sl = n - i → (Builtin.copy_ #[25, 25] ty #[.slice (some ⟨w.heap.size, (i + 1) * 3, none⟩) dl dc, .slice (some ⟨g, i * 3, none⟩) sl sc]).run Try.prog W = .ok (goInt ((n - i : Nat) : Int)) (W.setRow w.heap.size A2) := fun W hWa hWc ty dl dc sl sc e1 e2 => by
    rw [hA2]
    refine run_copyZ W _ _ ty 52 3 w.heap.size ((i + 1) * 3) dl dc ⟨g, i * 3, none⟩ sl sc (n - i) A1 52 (cs.drop (i * 3)) Try.underlying25 hsz hWa (by simp only [Nat.min_def]; split <;> omega) hdl (fun j v hj => ?_) (by rw [hdl, hA1s]; omega) (fun v hv => h1c v (List.mem_of_mem_drop hv))
    rw [addr_addZ]
    rw [List.getElem?_drop] at hj
    exact hWc _ v hj
  have hfin : A2.size = G * 3 ∧ A2.toList.take ((n + 1) * 3) = cs.take (i * 3) ++ vs ++ cs.drop (i * 3) := by
    have hA1t : A1.toList.take ((i + 1) * 3) = cs.take (i * 3) ++ vs := by
      rw [hA1, hR1]
      simp only []
      rw [List.take_append_of_le_length (by simp only [List.length_append, List.length_take, hcl, hvl]; omega), List.take_of_length_le (by simp only [List.length_append, List.length_take, hcl, hvl]; omega)]
    constructor
    · rw [hA2]
      simp only [List.size_toArray, List.length_append, List.length_take, List.length_drop, Array.length_toList]
      rw [hA1s, hcl]
      omega
    · rw [hA2, hA1t]
      simp only []
      rw [List.take_append_of_le_length (by simp only [List.length_append, List.length_take, List.length_drop, hcl, hvl]; omega), List.take_of_length_le (by simp only [List.length_append, List.length_take, List.length_drop, hcl, hvl]; omega)]
  have HF : Hid (A2.size = G * 3 ∧ A2.toList.take ((n + 1) * 3) = cs.take (i * 3) ++ vs ++ cs.drop (i * 3)) := hfin
  have HG : Hid (n + 1 ≤ G ∧ G ≤ maxLen) := ⟨hGn, hGm⟩
  have HM : Hid (Mod (fun b => b = w.heap.size) w W1) := hm1
  have hG63 : G ≤ 9223372036854775807 := by unfold maxLen at hGm; omega
  clear hfin hA1 hA2 hW1 hROW hG hold hRl hR1 hGm hm1 hkk hik hi0 hz0 hZ hZs hzs hzb
  have hGi : ¬ (G = i) := by omega
  have hGim : ¬ (G = i + 1) := by omega
  have hci : ¬ (c = i) := by omega
  have hw1 : IntKind.i64.wrap ((i : Int) + 1) = (i : Int) + 1 := by rw [IntKind.wrap_i64]; omega
  have htn : ((i : Int) + 1).toNat = i + 1 := by omega
  have hb1 : (0 : Int) ≤ (i : Int) + 1 := by omega
  have hin : i ≤ n := by omega
  have hb3 : (i : Int) ≤ (n : Int) := by omega
  have hb5 : (i : Int) ≤ (n : Int) + 1 := by omega
  have hb6 : (i : Int) + 1 ≤ (n : Int) + 1 := by omega
  obtain ⟨N, hN⟩ : ∃ N, N = w.heap.size := ⟨_, rfl⟩
  rw [← hN] at hrz hg1 hcpA hcpB ⊢
  have HN : Hid (N = w.heap.size) := hN
  clear hN
  have hg2 : (W1.setRow N A1).heap[N]? = some (.cells A1 52 (0, 0)) := setRow_heap W1 N ROW A1 _ _ hg1
  have hcs2 : ∀ j v, cs[j]? = some v → (W1.setRow N A1).cell? ⟨g, j, none⟩ = some v := fun j v hj => (mod_setRowZ W1 N A1).cell (hcs1 j v hj) (by dsimp only; have := HN.out; omega)
  obtain ⟨W2, hW2⟩ : ∃ W2, W2 = W1.setRow N A1 := ⟨_, rfl⟩
  rw [← hW2] at hg2 hcs2
  have HM2 : Hid (Mod (fun b => b = N) w W2) := by
    rw [Hid, hW2, HN.out]
    exact HM.out.trans (mod_setRowZ _ _ _)
  have hcpA' := hcpA W1 hg1 hv1
  rw [← hW2] at hcpA'
  clear hW2 hcpA
  have hcpB' := hcpB W2.drew hg2 hcs2
  clear hcpB
  have hg3 : (W2.drew.setRow N A2).heap[N]? = some (.cells A2 52 (0, 0)) := setRow_heap W2.drew N A1 A2 _ _ hg2
  obtain ⟨W3, hW3⟩ : ∃ W3, W3 = W2.drew.setRow N A2 := ⟨_, rfl⟩
  rw [← hW3] at hg3 hcpB'
  have HM3 : Hid (Mod (fun _ => False) w W3) := by
    have h : Mod (fun b => b = N) w W3 := by
      rw [hW3]
      exact (HM2.out.trans (Mod.of_below (Below.drew (Below.refl _ _)))).trans (mod_setRowZ _ _ _)
    exact ⟨h.os, h.tape, h.output, h.size, fun k hk _ => h.block k hk (by have := HN.out; omega)⟩
  clear hW3
  go_enter Try.func34, Try.ntmps34
  go_wp2_with (first
    | (at_builtin; refine Lib.wpList_append_run _ rfl _ _ _ _ rfl _ _ rfl rfl _ _ (hrz _) ?_)
    | (at_builtin; refine wpl_copyZ _ rfl _ _ 25 25 rfl _ _ rfl rfl (hcpA' _ _) ?_))
  go_region_law (refine step_copyZ rfl (.tmp 50) (.tmp 53) 25 25 rfl _ _ (by simp [Act.eval, Act.put]) (by simp [Act.eval, Act.put]) (hcpB' _ _ _ _ _ (by omega) (by omega)) ?_)
  go_wp2
  go_ret
  exact ⟨G, rfl, A2, hg3, HG.out.1, HG.out.2, HF.out.1, HF.out.2, HM3.out⟩
end Go.Proofs.Ytjemciikdijokaa


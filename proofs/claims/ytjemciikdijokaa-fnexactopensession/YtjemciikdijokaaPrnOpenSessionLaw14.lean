import Derived.Test.YtjemciikdijokaaPrnOpenSessionLaw13
import Derived.BigQuiet
import Derived.Deep.QuietTactic
import Derived.Deep.RegionHeld3
import Derived.Test.YtjemciikdijokaaPrnOpenSessionLaw11
import Derived.Shelf.Abstract
import Derived.Test.YtjemciikdijokaaPrnOpenSessionLaw2
import Derived.Maps.AppendAt

/-
  Sessions copied, the document's.
-/
set_option linter.unusedSimpArgs false
set_option linter.unusedVariables false
namespace Go.Proofs.Ytjemciikdijokaa
open Go.RowKit
set_option linter.unusedSectionVars false
variable [DecidableEq Leg] [Inhabited Leg] [DecidableEq Ses] [Inhabited Ses] [DecidableEq Cont] [Inhabited Cont] [DecidableEq Bal] [Inhabited Bal] [DecidableEq Mrk] [Inhabited Mrk] [DecidableEq Shd] [Inhabited Shd] [DecidableEq Vot] [Inhabited Vot] [DecidableEq Slt] [Inhabited Slt] [DecidableEq Acc] [Inhabited Acc] [DecidableEq Trr] [Inhabited Trr] [DecidableEq Hrd] [Inhabited Hrd] [DecidableEq Ldr] [Inhabited Ldr] [DecidableEq Msg] [Inhabited Msg] [DecidableEq Clu] [Inhabited Clu] [DecidableEq SesR] [Inhabited SesR] [DecidableEq Ledg] [Inhabited Ledg]
attribute [local go_sem ↓] Go.wp_at_zero Go.wp_at_succ

set_option maxRecDepth 20000 in
set_option maxHeartbeats 8000000 in
theorem l15Copy_u (x : Value) (xs : List Ses) (w : World) (hx : sessR.V w x xs) (hn : xs.length ≤ 1048576) (hll : ∀ k, k < xs.length → (xs.getD k default).sent.length ≤ 1048576) :
    Calls Try.prog 29 #[x] w fun e w' => ∃ v F, e = .returned v ∧ sessR.O w' w.heap.size F v xs ∧ Below w.heap.size w w' := by
  obtain ⟨a3, c3, e3, hc3, hm3, hx3⟩ := sess_at hx
  subst e3
  unfold maxLen at hm3
  have HX : Hid (∀ k, k < xs.length → ∃ b o p q, a3 = some ⟨b, o, none⟩ ∧ w.cell? ⟨b, o + k * 3, none⟩ = some (.int .i64 (xs.getD k default).client) ∧ w.cell? ⟨b, o + k * 3 + 1, none⟩ = some (.int .i64 (xs.getD k default).next) ∧ w.cell? ⟨b, o + k * 3 + 2, none⟩ = some (.slice p (xs.getD k default).sent.length q) ∧ sesR.V w (.agg #[.int .i64 (xs.getD k default).client, .int .i64 (xs.getD k default).next, .slice p (xs.getD k default).sent.length q]) (xs.getD k default)) := hx3
  have HLl : Hid (∀ k, k < xs.length → (xs.getD k default).sent.length ≤ 1048576) := hll
  clear hx3 hll hx
  obtain ⟨n3, hn3⟩ : ∃ n3, n3 = xs.length := ⟨_, rfl⟩
  have HN : Hid (xs.length = n3) := hn3.symm
  rw [← hn3] at hc3 HX HLl hn ⊢
  clear hn3
  go_enter Try.func29, Try.ntmps29
  go_wp2
  go_loopw [3, 4] (fun s i w' => ∃ (k : Nat) (a : Option Addr) (c : Nat) (F : Nat → Prop), k ≤ n3 ∧ i = .int .i64 k ∧ s = .slice a k c ∧ Hid (sessR.O w' w.heap.size F (.slice a k c) (xs.take k)) ∧ Below w.heap.size w w') (fun s i _ => n3 - (intOf i).toNat)
  case atStart => exact ⟨0, some ⟨w.heap.size, 0, none⟩, 0, _, Nat.zero_le _, rfl, rfl, sess_lit w, by (repeat (first | exact Below.refl _ _ | assumption | refine Below.drew ?_ | refine balloc ?_ _ | refine bset ?_ (by simp; omega) _ | refine bset ?_ (by simp) _ | refine bstep ?_ (by assumption)))⟩
  case round =>
    obtain ⟨k, as_, cs_, F, hk, rfl, rfl, HO, hbl⟩ := hrel
    have zr := hbl.size
    by_cases hlt : k < n3
    · obtain ⟨bx, ox, pp, qq, rfl, g0, g1, g2, hV⟩ := HX.out k hlt
      have hcw := HLl.out k hlt
      obtain ⟨l, hl⟩ : ∃ l, l = xs.getD k default := ⟨_, rfl⟩
      rw [← hl] at g0 g1 g2 hV hcw
      have HL : Hid (xs.take (k + 1) = xs.take k ++ [l]) := by
        show _ = _
        rw [List.take_succ_eq_append_getElem (by rw [HN.out]; exact hlt), hl]
        simp [List.getD, show k < xs.length by rw [HN.out]; exact hlt]
      clear hl
      have HSr : Hid (∀ W, Below w.heap.size w W → AppAny W (.slice pp l.sent.length qq) l.sent.length (intsC l.sent)) := fun W hW => by
        obtain ⟨u1, e, h1⟩ := sesR.below hV hW
        simp only [Value.agg.injEq, Array.mk.injEq, List.cons.injEq, and_true, true_and] at e
        subst e
        exact appAny_ints h1
      clear hV
      replace g0 := cell_keep hbl g0
      replace g1 := cell_keep hbl g1
      replace g2 := cell_keep hbl g2
      have zb : bx < wr.heap.size := World.block_lt_of_cell? wr _ g0
      have hs0 := HSr.out (((wr.alloc (.cells #[.int .i64 l.client, .int .i64 l.next, .slice pp l.sent.length qq] 52)).alloc (.cells #[] 2))) (by (repeat (first | exact Below.refl _ _ | assumption | refine Below.drew ?_ | refine balloc ?_ _ | refine bset ?_ (by simp; omega) _ | refine bset ?_ (by simp) _ | refine bstep ?_ (by assumption))))
      have ho0 := World.ownsRow_lit (base := wr.heap.size + 1) (e := 2) (size := 1) (wr.alloc (.cells #[.int .i64 l.client, .int .i64 l.next, .slice pp l.sent.length qq] 52)) #[] 0 (by simp) (by unfold maxLen; omega) rfl
      simp only [World.size_alloc] at ho0
      go_wp2_with (at_builtin; refine wpList_app10I _ rfl _ _ rfl (wr.heap.size + 1) _ [] rfl _ l.sent rfl ho0 hs0 ?c1 ?c2 ?_)
      case c1 => simp; omega
      case c2 => simp
      intro v1 w1 ho hg hbel
      clear hs0 ho0 hg
      have hY := hbel (wr.alloc (.cells #[.int .i64 l.client, .int .i64 l.next, .slice pp l.sent.length qq] 52)) ((balloc (Below.refl _ _) _).mono (by simp))
      clear hbel
      have y0 : w1.cell? ⟨wr.heap.size, 0, none⟩ = some (.int .i64 l.client) := (hY.cell (p := ⟨wr.heap.size, 0, none⟩) (by simp)).trans (by simp [go_sem])
      have y1 : w1.cell? ⟨wr.heap.size, 1, none⟩ = some (.int .i64 l.next) := (hY.cell (p := ⟨wr.heap.size, 1, none⟩) (by simp)).trans (by simp [go_sem])
      have y2 : w1.cell? ⟨wr.heap.size, 2, none⟩ = some (.slice pp l.sent.length qq) := (hY.cell (p := ⟨wr.heap.size, 2, none⟩) (by simp)).trans (by simp [go_sem])
      have yf : ∀ o, w1.frozen? ⟨wr.heap.size, o, none⟩ = false := fun o => (hY.frozen (p := ⟨wr.heap.size, o, none⟩) (by simp)).trans (by simp [go_sem])
      have hB1 : Below wr.heap.size wr w1 := Below.trans (balloc (Below.refl _ _) _) (hY.mono (by omega))
      have hz := hY.size
      simp only [World.size_alloc] at hz
      clear hY
      try simp only [List.nil_append] at ho
      obtain ⟨av, cv, rfl⟩ := owns_form ho
      have o1 : ∃ F, intsR.O w1 (wr.heap.size + 1) F (.slice av l.sent.length cv) l.sent := ⟨_, ho, rfl⟩
      obtain ⟨F2, o1⟩ := o1
      clear ho
      have hwz := hbl.size
      have HO2 : Hid (sessR.O w1 w.heap.size F (.slice as_ k cs_) (xs.take k)) := sessR.keep HO.out hB1
      have HFl : Hid (∀ b, F b → b < wr.heap.size) := fun b hb => (sessR.rng HO.out b hb).2
      have HF2 : Hid (∀ b, F2 b → wr.heap.size + 1 ≤ b) := fun b hb => (intsR.rng o1 b hb).1
      have HU : Hid (sesR.O w1 w.heap.size F2 (.agg #[.int .i64 l.client, .int .i64 l.next, .slice av l.sent.length cv]) l) := ⟨_, F2, rfl, intsR.base o1 (by omega), fun b => Iff.rfl⟩
      have hB3 : Below w.heap.size w w1 := bstep hbl hB1
      have zR : wr.heap.size < w1.heap.size := by omega
      clear o1 HSr HO g0 g1 g2 hB1
      go_wp2_with (at_builtin; refine wpl_appZ _ rfl _ _ rfl w.heap.size F F2 _ (xs.take k) l w1.heap.size av cv rfl rfl ?a1 ?a2 ?a3 ?a4 ?a5 ?a6 ?_)
      case a1 => exact sessR.alloc (sessR.mod HO2.out (Mod.of_set w1 ⟨wr.heap.size, 2, none⟩ _) (fun b hb e => by have := HFl.out b hb; dsimp only at e; omega)) _
      case a2 => exact sesR.alloc (sesR.mod HU.out (Mod.of_set w1 ⟨wr.heap.size, 2, none⟩ _) (fun b hb e => by have := HF2.out b hb; dsimp only at e; omega)) _
      case a3 => exact fun b h1 h2 => by have := HFl.out b h1; have := HF2.out b h2; omega
      case a4 => simp [go_sem]
      case a5 => rw [List.length_take, HN.out]; omega
      case a6 => simp; omega
      intro v3 w3 F3 o3 hb3 _
      rw [← HL.out] at o3
      obtain ⟨a3', c3', e3⟩ := sess_form (sessR.ofO o3)
      rw [show (xs.take (k + 1)).length = k + 1 by rw [List.length_take, HN.out]; omega] at e3
      subst e3
      have HO3 : Hid (sessR.O w3 w.heap.size F3 (.slice a3' (k + 1) c3') (xs.take (k + 1))) := o3
      have hB5 : Below w.heap.size w w3 := Below.trans (balloc (bset hB3 (by dsimp only; omega) _) _) hb3
      clear o3 hb3
      go_wp2
      exact ⟨⟨k + 1, a3', c3', F3, by omega, by go_num, rfl, HO3, hB5⟩, by simp [intOf]; omega⟩
    · have hkn : k = n3 := by omega
      subst hkn
      have ho := HO.out
      rw [List.take_of_length_le (by rw [HN.out]; exact Nat.le_refl _)] at ho
      go_wp2
      go_ret
      exact ⟨_, F, rfl, ho, hbl⟩
end Go.Proofs.Ytjemciikdijokaa

/-
  Where a client's session stands.
-/
set_option linter.unusedVariables false
set_option linter.unusedSimpArgs false
namespace Go.Proofs.Ytjemciikdijokaa
open Go.RowKit
set_option linter.unusedSectionVars false
variable [DecidableEq Leg] [Inhabited Leg] [DecidableEq Ses] [Inhabited Ses] [DecidableEq Cont] [Inhabited Cont] [DecidableEq Bal] [Inhabited Bal] [DecidableEq Mrk] [Inhabited Mrk] [DecidableEq Shd] [Inhabited Shd] [DecidableEq Vot] [Inhabited Vot] [DecidableEq Slt] [Inhabited Slt] [DecidableEq Acc] [Inhabited Acc] [DecidableEq Trr] [Inhabited Trr] [DecidableEq Hrd] [Inhabited Hrd] [DecidableEq Ldr] [Inhabited Ldr] [DecidableEq Msg] [Inhabited Msg] [DecidableEq Clu] [Inhabited Clu] [DecidableEq SesR] [Inhabited SesR] [DecidableEq Ledg] [Inhabited Ledg]
attribute [local go_sem ↓] Go.wp_at_zero Go.wp_at_succ

theorem sesKeep2 {w w' : World} {a0 a1 a2 b0 b1 b2 : Addr} {x0 x1 x2 y0 y1 y2 : Value} (hb : Below w.heap.size w w') (h : w.cell? a0 = some x0 ∧ w.cell? a1 = some x1 ∧ w.cell? a2 = some x2) (h' : w.cell? b0 = some y0 ∧ w.cell? b1 = some y1 ∧ w.cell? b2 = some y2) :
    Below w.heap.size w w' ∧ (w'.cell? a0 = some x0 ∧ w'.cell? a1 = some x1 ∧ w'.cell? a2 = some x2) ∧ (w'.cell? b0 = some y0 ∧ w'.cell? b1 = some y1 ∧ w'.cell? b2 = some y2) :=
  ⟨hb, ⟨cell_keep hb h.1, cell_keep hb h.2.1, cell_keep hb h.2.2⟩, ⟨cell_keep hb h'.1, cell_keep hb h'.2.1, cell_keep hb h'.2.2⟩⟩
set_option maxRecDepth 20000 in
set_option maxHeartbeats 8000000 in
theorem bsZ_any (x : Value) (xs : List Ses) (c : Int) (w : World) (hx : sessR.V w x xs) (hn : xs.length ≤ 1048576)
    (hmono : ∀ a b, a ≤ b → b < xs.length → cmpSn (cliAt xs b) c < 0 → cmpSn (cliAt xs a) c < 0) :
    Calls Try.prog 44 #[x, .agg #[.int .i64 c, .int .i64 0, .slice none 0 0], .func (.func 26) #[] #[]] w fun e w' => ∃ i : Nat, i ≤ xs.length ∧ e = .returned (.tuple #[.int .i64 i, .bool (decide (i < xs.length ∧ cmpSn (cliAt xs i) c = 0))]) ∧
      (∀ k, k < i → cmpSn (cliAt xs k) c < 0) ∧ (∀ k, i ≤ k → k < xs.length → 0 ≤ cmpSn (cliAt xs k) c) ∧ Below w.heap.size w w' := by
  obtain ⟨ax, cx, rfl, hcx, hmx, hx⟩ := sess_at hx
  unfold maxLen at hmx
  have HMO : Hid (∀ a b, a ≤ b → b < xs.length → cmpSn (cliAt xs b) c < 0 → cmpSn (cliAt xs a) c < 0) := hmono
  clear hmono
  have hX : Hid (∀ k, k < xs.length → ∃ b o p q, ax = some ⟨b, o, none⟩ ∧ (w.cell? ⟨b, o + k * 3, none⟩ = some (.int .i64 (xs.getD k default).client) ∧ w.cell? ⟨b, o + k * 3 + 1, none⟩ = some (.int .i64 (xs.getD k default).next) ∧ w.cell? ⟨b, o + k * 3 + 2, none⟩ = some (.slice p (xs.getD k default).sent.length q))) := fun k hk => by
    obtain ⟨b, o, p, q, e, g0, g1, g2, _⟩ := hx k hk
    exact ⟨b, o, p, q, e, g0, g1, g2⟩
  clear hx
  generalize hN : xs.length = n at *
  clear hN
  have eg := enters_of Try.func26 (by kernel_rfl) rfl
  go_enter Try.func44, Try.ntmps44
  go_wp2
  go_loopw [9, 10] (fun a b W => ∃ i j : Nat, i ≤ j ∧ j ≤ n ∧ a = .int .i64 i ∧ b = .int .i64 j ∧ Hid (∀ k, k < i → cmpSn (cliAt xs k) c < 0) ∧ Hid (∀ k, j ≤ k → k < n → 0 ≤ cmpSn (cliAt xs k) c) ∧ (W.cell? ⟨w.heap.size, 0, none⟩ = some (.int .i64 c) ∧ W.cell? ⟨w.heap.size, 1, none⟩ = some (.int .i64 0) ∧ W.cell? ⟨w.heap.size, 2, none⟩ = some (.slice none 0 0)) ∧ Below w.heap.size w W) (fun a b _ => (intOf b).toNat - (intOf a).toNat)
  case atStart => exact ⟨0, n, Nat.zero_le _, Nat.le_refl _, rfl, rfl, fun k h => absurd h (Nat.not_lt_zero _), fun k h1 h2 => by omega, by simp [go_sem], balloc (Below.refl _ _) _⟩
  case round =>
    obtain ⟨i, j, hij, hjn, rfl, rfl, HA, HB, hq, hbl⟩ := hrel
    by_cases hlt : i < j
    · have hlt' : (i : Int) < j := by omega
      go_wp2
      obtain ⟨m, hm⟩ : ∃ m : Nat, ((i : Int) + j) / 2 = (m : Int) := ⟨(i + j) / 2, by omega⟩
      have hm1 : i ≤ m := by omega
      have hm2 : m < j := by omega
      rw [hm]
      clear hm
      obtain ⟨b, o, pp, qq, rfl, hc⟩ := hX.out m (by omega)
      obtain ⟨l, hl⟩ : ∃ l, l = xs.getD m default := ⟨_, rfl⟩
      rw [← hl] at hc
      have HL : Hid (l.client = cliAt xs m) := by rw [hl]; rfl
      clear hl hX
      have r1 := (sesKeep2 hbl hc hc).2.1
      have hi4 : (0 : Int) ≤ m := by omega
      have hi5 : (m : Int) < n := by omega
      go_region_held3 (fun W => Below wr.heap.size wr W ∧ (W.cell? ⟨b, o + m * 3, none⟩ = some (.int .i64 l.client) ∧ W.cell? ⟨b, o + m * 3 + 1, none⟩ = some (.int .i64 l.next) ∧ W.cell? ⟨b, o + m * 3 + 2, none⟩ = some (.slice pp l.sent.length qq)) ∧ (W.cell? ⟨w.heap.size, 0, none⟩ = some (.int .i64 c) ∧ W.cell? ⟨w.heap.size, 1, none⟩ = some (.int .i64 0) ∧ W.cell? ⟨w.heap.size, 2, none⟩ = some (.slice none 0 0))) ((refine sesKeep2 ?_ r1 hq; repeat (first | exact Below.refl _ _ | assumption | refine Below.drew ?_ | refine balloc ?_ _ | refine bstep ?_ (by assumption))))
        (first | (go_at_call 26; refine (cmpCli_any l.client c l.next 0 _ _ _).mono ?_; rintro e wa ⟨rfl, hb1⟩))
      rename_i hH
      have hB := bstep hbl hH.1
      have hq2 := hH.2.2
      clear hH
      by_cases hneg : cmpSn l.client c < 0
      · have hd : decide (cmpSn l.client c < 0) = true := decide_eq_true hneg
        have HA2 : Hid (∀ k, k < m + 1 → cmpSn (cliAt xs k) c < 0) := fun k hk => HMO.out k m (by omega) (by omega) (by rw [← HL.out]; exact hneg)
        go_wp2
        refine ⟨⟨m + 1, j, by omega, hjn, by go_num, rfl, HA2, HB, hq2, hB⟩, ?_⟩
        simp [intOf]
        omega
      · have hd : decide (cmpSn l.client c < 0) = false := decide_eq_false hneg
        have HB2 : Hid (∀ k, m ≤ k → k < n → 0 ≤ cmpSn (cliAt xs k) c) := fun k hk hkn => by
          by_cases h : cmpSn (cliAt xs k) c < 0
          · have := HMO.out m k hk hkn h
            rw [← HL.out] at this
            exact absurd this hneg
          · omega
        go_wp2
        refine ⟨⟨i, m, hm1, by omega, rfl, rfl, HA, HB2, hq2, hB⟩, ?_⟩
        simp [intOf]
        omega
    · obtain rfl : i = j := by omega
      have hi4 : (0 : Int) ≤ i := by omega
      have hnl : ¬ (i : Int) < i := by omega
      by_cases hin : i < n
      · obtain ⟨b, o, pp, qq, rfl, hc⟩ := hX.out i hin
        obtain ⟨l, hl⟩ : ∃ l, l = xs.getD i default := ⟨_, rfl⟩
        rw [← hl] at hc
        have HL : Hid (l.client = cliAt xs i) := by rw [hl]; rfl
        clear hl hX
        have r1 := (sesKeep2 hbl hc hc).2.1
        have hi5 : (i : Int) < n := by omega
        have hi6 : decide (i < n) = true := decide_eq_true hin
        go_wp2
        go_region_held3 (fun W => Below wr.heap.size wr W ∧ (W.cell? ⟨b, o + i * 3, none⟩ = some (.int .i64 l.client) ∧ W.cell? ⟨b, o + i * 3 + 1, none⟩ = some (.int .i64 l.next) ∧ W.cell? ⟨b, o + i * 3 + 2, none⟩ = some (.slice pp l.sent.length qq)) ∧ (W.cell? ⟨w.heap.size, 0, none⟩ = some (.int .i64 c) ∧ W.cell? ⟨w.heap.size, 1, none⟩ = some (.int .i64 0) ∧ W.cell? ⟨w.heap.size, 2, none⟩ = some (.slice none 0 0))) ((refine sesKeep2 ?_ r1 hq; repeat (first | exact Below.refl _ _ | assumption | refine Below.drew ?_ | refine balloc ?_ _ | refine bstep ?_ (by assumption))))
          (first | (go_at_call 26; refine (cmpCli_any l.client c l.next 0 _ _ _).mono ?_; rintro e wa ⟨rfl, hb1⟩))
        rename_i hH
        have hB := bstep hbl hH.1
        clear hH
        go_wp2
        refine bodyPost_ret (v := .tuple #[.int .i64 i, .bool (cmpSn l.client c == 0)]) (by simp [results, Try.results44, go_sem]) rfl ?_
        refine ⟨i, hjn, ?_, HA.out, HB.out, hB⟩
        rw [← HL.out]
        have e : (cmpSn l.client c == 0) = decide (i < n ∧ cmpSn l.client c = 0) := by
          rw [Bool.eq_iff_iff]
          simp [hin]
        rw [e]
      · have hi5 : ¬ (i : Int) < n := by omega
        have hi6 : decide (i < n) = false := decide_eq_false hin
        go_wp2
        go_quiet (fail)
        go_wp2
        refine bodyPost_ret (v := .tuple #[.int .i64 i, .bool false]) (by simp [results, Try.results44, go_sem]) rfl ?_
        refine ⟨i, hjn, ?_, HA.out, HB.out, bdrewN hbl _⟩
        simp [hin]
set_option maxHeartbeats 1000000 in
theorem sesPlace_any (x : Value) (xs : List Ses) (c : Int) (w : World) (hx : sessR.V w x xs) (hok : SesOk xs) :
    Calls Try.prog 33 #[x, .int .i64 c] w fun e w' => e = .returned (.tuple #[.int .i64 (posZ c xs : Nat), .bool (hasZ c xs)]) ∧ Below w.heap.size w w' := by
  have hl := hok.len
  have HP : Hid (∀ W, Below w.heap.size w W → Calls Try.prog 44 #[x, .agg #[.int .i64 c, .int .i64 0, .slice none 0 0], .func (.func 26) #[] #[]] W fun e w' => ∃ i : Nat, i ≤ xs.length ∧ e = .returned (.tuple #[.int .i64 i, .bool (decide (i < xs.length ∧ cmpSn (cliAt xs i) c = 0))]) ∧
      (∀ k, k < i → cmpSn (cliAt xs k) c < 0) ∧ (∀ k, i ≤ k → k < xs.length → 0 ≤ cmpSn (cliAt xs k) c) ∧ Below W.heap.size W w') := fun W hW => bsZ_any x xs c W (sessR.below hx hW) (by omega) (fun a b hab hb h => by
        rw [cmpSn_neg] at h ⊢
        by_cases e : a = b
        · rw [e]; exact h
        · have := hok.ord a b (by omega) hb; omega)
  have HZ : Hid (∀ i, i ≤ xs.length → (∀ k, k < i → cmpSn (cliAt xs k) c < 0) → (∀ k, i ≤ k → k < xs.length → 0 ≤ cmpSn (cliAt xs k) c) → posZ c xs = i ∧ hasZ c xs = decide (i < xs.length ∧ cmpSn (cliAt xs i) c = 0)) := fun i hi h1 h2 => by
    have hpz : posZ c xs = i := posZ_eq c xs i hi (fun k hk => cmpSn_neg.1 (h1 k hk)) (fun hlt => by have := h2 i (Nat.le_refl _) hlt; rw [← cmpSn_neg]; omega)
    refine ⟨hpz, ?_⟩
    unfold hasZ
    rw [hpz]
    simp only [cmpSn_eq]
  generalize posZ c xs = P at *
  generalize hasZ c xs = R at *
  obtain ⟨au, cu, rfl⟩ := sess_form hx
  clear hx
  go_enter Try.func33, Try.ntmps33
  go_wp2_with fail
  refine (HP.out _ (by (repeat (first | exact Below.refl _ _ | assumption | refine Below.drew ?_ | refine balloc ?_ _ | refine bset ?_ (by simp; omega) _ | refine bset ?_ (by simp) _ | refine bstep ?_ (by assumption))))).mono ?_
  rintro e w1 ⟨i, hi, rfl, h1, h2, hb1⟩
  have hB1 : Below w.heap.size w w1 := by (repeat (first | exact Below.refl _ _ | assumption | refine Below.drew ?_ | refine balloc ?_ _ | refine bset ?_ (by simp; omega) _ | refine bset ?_ (by simp) _ | refine bstep ?_ (by assumption)))
  obtain ⟨e1, e2⟩ := HZ.out i hi h1 h2
  have HP1 : Hid (P = i) := e1
  have HR1 : Hid (decide (i < xs.length ∧ cmpSn (cliAt xs i) c = 0) = R) := e2.symm
  clear h1 h2 e1 e2 HP HZ hi hl
  rw [HR1.out]
  clear HR1
  go_wp2
  refine bodyPost_ret (v := .tuple #[.int .i64 i, .bool R]) (by simp [results, Try.results33, go_sem]) rfl ?_
  exact ⟨by rw [HP1.out], hB1⟩
set_option maxHeartbeats 2000000 in
theorem l15Find_any (x : Value) (xs : List Ses) (c : Int) (w : World) (hx : sessR.V w x xs) (hok : SesOk xs) :
    Calls Try.prog 30 #[x, .int .i64 c] w fun e w' => ∃ i : Int, e = .returned (.int .i64 i) ∧ decide (0 ≤ i) = hasZ c xs ∧ Below w.heap.size w w' := by
  have hl := hok.len
  obtain ⟨a, cc, rfl, hcx, hmx, hx⟩ := sess_at hx
  unfold maxLen at hmx
  have HX : Hid (∀ k, k < xs.length → ∃ b o, a = some ⟨b, o, none⟩ ∧ w.cell? ⟨b, o + k * 3, none⟩ = some (.int .i64 (cliAt xs k))) := fun k hk => by
    obtain ⟨b, o, p, q, e, g0, _⟩ := hx k hk
    exact ⟨b, o, e, g0⟩
  clear hx
  have HF : Hid (∀ k, k < xs.length → cliAt xs k = c → hasZ c xs = true) := fun k hk he => hasZ_of hok hk he
  have HN0 : Hid ((∀ k, k < xs.length → ¬ cliAt xs k = c) → hasZ c xs = false) := fun h => hasZ_no h
  generalize hasZ c xs = R at *
  generalize xs.length = n at *
  go_enter Try.func30, Try.ntmps30
  go_wp2
  go_loopw [5] (fun i w' => ∃ k : Nat, k ≤ n ∧ i = .int .i64 k ∧ Hid (∀ j, j < k → ¬ cliAt xs j = c) ∧ Below w.heap.size w w') (fun i _ => n - (intOf i).toNat)
  case atStart => exact ⟨0, Nat.zero_le _, rfl, fun j h => absurd h (Nat.not_lt_zero _), by (repeat (first | exact Below.refl _ _ | assumption | refine Below.drew ?_ | refine balloc ?_ _ | refine bset ?_ (by simp; omega) _ | refine bset ?_ (by simp) _ | refine bstep ?_ (by assumption)))⟩
  case round =>
    obtain ⟨k, hk, rfl, HS, hbl⟩ := hrel
    by_cases hlt : k < n
    · obtain ⟨b, o, rfl, g0⟩ := HX.out k hlt
      replace g0 := cell_keep hbl g0
      by_cases he : cliAt xs k = c
      · have HC : Hid (R = true) := HF.out k hlt he
        generalize cliAt xs k = z at *
        subst he
        clear HF HN0
        go_wp2
        go_ret
        exact ⟨k, rfl, by rw [HC.out]; simp, hbl⟩
      · have HS2 : Hid (∀ j, j < k + 1 → ¬ cliAt xs j = c) := fun j hj => by
          by_cases e : j = k
          · rw [e]; exact he
          · exact HS.out j (by omega)
        generalize cliAt xs k = z at *
        have f1 : (z == c) = false := beq_eq_false_iff_ne.2 he
        clear HF HN0
        go_wp2
        exact ⟨⟨k + 1, by omega, by go_num, HS2, hbl⟩, by simp [intOf]; omega⟩
    · have hkn : k = n := by omega
      subst hkn
      have HC : Hid (R = false) := HN0.out HS.out
      clear HF HN0
      go_wp2
      go_ret
      exact ⟨-1, rfl, by rw [HC.out]; rfl, hbl⟩
end Go.Proofs.Ytjemciikdijokaa

/-
  A row of values that own memory, and one more appended.
-/
namespace Go.Proofs.Ytjemciikdijokaa
open Go.RowKit

theorem PO.append {α : Type} {R : Rep α} {e size : Nat} {lv : Value → List Value} {w Y w' : World} {base : Nat} {v v' : Value} {n : Nat} {d : Nat → α} {cs : List Value} {us : Nat → Value} {fs : Nat → Nat → Prop} {u : Value} {F' : Nat → Prop}
    (h : PO R e size lv w base v n n d cs us fs) (hbs : base ≤ w.heap.size) (hb : Below w.heap.size w Y) (hu : R.O Y w.heap.size F' u (d n)) (hl : (lv u).length = size)
    (hr : w'.ownsRow base e size v' (n + 1) (cs ++ lv u)) (hg : Y.grownBy w' v.ownBlock) (hloc : v'.ownBlock = v.ownBlock ∨ ∃ g, v'.ownBlock = some g ∧ Y.heap.size ≤ g) :
    PO R e size lv w' base v' (n + 1) (n + 1) d (cs ++ lv u) (upd us n u) (upd fs n F') := by
  have hlt : ∀ b, v.ownBlock = some b → b < w.heap.size := fun b hb => (h.row.lt b hb).2
  have hF : ∀ b, F' b → w.heap.size ≤ b ∧ b < Y.heap.size := fun b hb => R.rng hu b hb
  have hfs : ∀ i, i < n → ∀ b, fs i b → b < w.heap.size := fun i hi b hb => (R.rng (h.el i hi) b hb).2
  have hcl : cs.length = n * size := h.row.1
  refine ⟨hr, ?_, ?_, ?_, ?_, ?_⟩
  · intro i hi
    by_cases hik : i = n
    · subst hik
      rw [upd_at, upd_at]
      exact R.base (R.mod hu (Mod.of_grown hg) (fun b hb he => by have := hlt b he; have := (hF b hb).1; omega)) hbs
    · rw [upd_ne _ _ hik, upd_ne _ _ hik]
      exact R.mod (R.keep (h.el i (by omega)) hb) (Mod.of_grown hg) (fun b hb => h.out i (by omega) b hb)
  · intro i hi
    by_cases hik : i = n
    · subst hik; rw [upd_at]; exact hl
    · rw [upd_ne _ _ hik]; exact h.ln i (by omega)
  · intro i hi j hj
    by_cases hik : i = n
    · subst hik
      rw [upd_at, List.getElem?_append_right (by omega), hcl]
      congr 1
      omega
    · rw [upd_ne _ _ hik, ← h.cell i (by omega) j hj, List.getElem?_append_left]
      rw [hcl]
      have : i * size + size ≤ n * size := by rw [← Nat.succ_mul]; exact Nat.mul_le_mul_right _ (by omega)
      omega
  · intro i hi b hb he
    by_cases hik : i = n
    · subst hik
      rw [upd_at] at hb
      rcases hloc with hloc | ⟨g, hg', hge⟩
      · rw [hloc] at he
        have := hlt b he; have := (hF b hb).1; omega
      · rw [hg'] at he
        simp only [Option.some.injEq] at he
        have := (hF b hb).2; omega
    · rw [upd_ne _ _ hik] at hb
      rcases hloc with hloc | ⟨g, hg', hge⟩
      · rw [hloc] at he
        exact h.out i (by omega) b hb he
      · rw [hg'] at he
        simp only [Option.some.injEq] at he
        have := hfs i (by omega) b hb
        have := hb
        have := h.row
        have := hlt
        have hYw : w.heap.size ≤ Y.heap.size := by
          have := ‹Below w.heap.size w Y›
          exact this.size
        omega
  · intro i j hi hj hij b h1 h2
    by_cases hik : i = n
    · subst hik
      rw [upd_at] at h1
      rw [upd_ne _ _ (Ne.symm hij)] at h2
      have := (hF b h1).1; have := hfs j (by omega) b h2; omega
    · rw [upd_ne _ _ hik] at h1
      by_cases hjk : j = n
      · subst hjk
        rw [upd_at] at h2
        have := (hF b h2).1; have := hfs i (by omega) b h1; omega
      · rw [upd_ne _ _ hjk] at h2
        exact h.sep i j (by omega) (by omega) hij b h1 h2
section
variable {P : Program} (w : World)
theorem step_append_at {ops : Array Oper} {o : Oper} {a : Act} {K : Act → World → Prop} {Q : Exit → Act → World → Prop} {E : Prop} (hgd : o.guard = none) (s x : Operand) (t : TypeId)
    (ho : o.op = .call { callee := .builtin .append, args := #[s, x], argTypes := #[t, t] })
    (base : Nat) (e : TypeId) (i : TypeInfo) (z : Value) (size bytes : Nat) (ht : P.underlying t = some (.slice e)) (hi : P.info? e = some i) (hz : i.zero = some z)
    (hsize : i.size = size) (hby : i.bytes = bytes) (hzs : z.cells.size = size) (hsz : 0 < size)
    (v : Value) (n : Nat) (xs : List Value) (hs : a.eval s = v) (hown : w.ownsRow base e size v n xs)
    (ad : Addr) (m c : Nat) (news : List Value) (hx : a.eval x = .slice (some ad) m c) (hl : news.length = m * size) (hnews : ∀ j u, news[j]? = some u → w.cell? (ad.add j) = some u) (h1 : ∀ u ∈ news, u.oneCell' = true)
    (h63 : n + m ≤ maxLen) (hbytes : (n + m) * bytes ≤ 140737488355328) (hbase : base ≤ w.heap.size)
    (h : ∀ v' w', w'.ownsRow base e size v' (n + m) (xs ++ news) → w.grownBy w' v.ownBlock → (v'.ownBlock = v.ownBlock ∨ v'.ownBlock = some w.heap.size) → K (a.put o.dst v') w') :
    if Region.wanted o (yielded ops a.tmps) = true then Oper.wp P o a w K Q else E := by
  have hw : Region.wanted o (yielded ops a.tmps) = true := by simp [Region.wanted, hgd]
  rw [if_pos hw]
  obtain ⟨v', w', hr, h2, h3, _, h5⟩ := run_append_own_at (P := P) w base t o.type e i z size bytes ht hi hz hsize hby hzs hsz v n xs hown ad m c news hl hnews h1 h63 hbytes hbase
  unfold Oper.wp execOp
  simp only [ho, resolve, invoke, builtin, Sem.run_bind, Sem.run_pure, Result.andThen_ok, List.map_toArray, List.map_cons, List.map_nil, hs, hx, hr]
  exact h v' w' h2 h3 h5
end

end Go.Proofs.Ytjemciikdijokaa

/-
  Answers of chapter 15.
-/
set_option linter.unusedVariables false
set_option linter.unusedSimpArgs false
namespace Go.Proofs.Ytjemciikdijokaa
open Go.RowKit
set_option linter.unusedSectionVars false
variable [DecidableEq Leg] [Inhabited Leg] [DecidableEq Ses] [Inhabited Ses] [DecidableEq Cont] [Inhabited Cont] [DecidableEq Bal] [Inhabited Bal] [DecidableEq Mrk] [Inhabited Mrk] [DecidableEq Shd] [Inhabited Shd] [DecidableEq Vot] [Inhabited Vot] [DecidableEq Slt] [Inhabited Slt] [DecidableEq Acc] [Inhabited Acc] [DecidableEq Trr] [Inhabited Trr] [DecidableEq Hrd] [Inhabited Hrd] [DecidableEq Ldr] [Inhabited Ldr] [DecidableEq Msg] [Inhabited Msg] [DecidableEq Clu] [Inhabited Clu] [DecidableEq SesR] [Inhabited SesR] [DecidableEq Ledg] [Inhabited Ledg]
attribute [local go_sem ↓] Go.wp_at_zero Go.wp_at_succ

theorem no_nilZ {α : Type} [Inhabited α] (R : Rep α) (e size : Nat) (lv : Value → List Value) (w : World) (base : Nat) : NO R e size lv w base (fun _ => False) (.slice none 0 0) [] :=
  ⟨[], fun _ => default, fun _ _ => False, ⟨World.ownsRow_nil _ _ _ _, fun i hi => absurd hi (Nat.not_lt_zero _), fun i hi => absurd hi (Nat.not_lt_zero _), fun i hi => absurd hi (Nat.not_lt_zero _), fun i hi => absurd hi (Nat.not_lt_zero _), fun i j hi => absurd hi (Nat.not_lt_zero _)⟩, fun b => ⟨fun h => h.elim, fun h => h.elim (fun h => by simp [Value.ownBlock] at h) (fun ⟨i, hi, _⟩ => absurd hi (Nat.not_lt_zero _))⟩⟩
theorem msgs_nilZ (w : World) (base : Nat) : msgsR.O w base (fun b => (Value.slice none 0 0).ownBlock = some b) (.slice none 0 0) [] := ⟨World.ownsRow_nil _ _ _ _, rfl⟩
theorem noBlkZ {b : Nat} (h : (Value.slice none 0 0).ownBlock = some b) : False := by simp [Value.ownBlock] at h
theorem cluZ_O (w : World) (base : Nat) : ∃ F, cluR.O w base F (.agg #[.slice none 0 0, .slice none 0 0, .slice none 0 0, .slice none 0 0, .slice none 0 0]) cluZ ∧ ∀ b, ¬ F b :=
  ⟨_, ⟨_, _, _, _, _, (fun _ => False), (fun _ => False), (fun _ => False), (fun _ => False), _, rfl, no_nilZ _ _ _ _ w base, no_nilZ _ _ _ _ w base, no_nilZ _ _ _ _ w base, no_nilZ _ _ _ _ w base, msgs_nilZ w base, fun b h => h.elim, fun b h => h.elim, fun b h => h.elim, fun b h => h.elim, fun b h => h.elim, fun b h => h.elim, fun b h => h.elim, fun b h => h.elim, fun b h => h.elim, fun b h => h.elim, fun b => Iff.rfl⟩, fun b h => by
    first | (rcases h with h | h | h | h | h <;> first | exact h | exact noBlkZ h) | (rcases h with (((h | h) | h) | h) | h <;> first | exact h | exact noBlkZ h)⟩
theorem sesR_new {w : World} {base : Nat} {F : Nat → Prop} {v : Value} {l : List Ses} (c : Int) (h : sessR.O w base F v l) : ∃ F', sesRR.O w base F' (.agg #[.int .i64 c, .int .i64 0, v, .slice none 0 0, .slice none 0 0, .slice none 0 0, .slice none 0 0, .slice none 0 0]) ⟨c, 0, l, cluZ⟩ := by
  obtain ⟨Fc, hc, hn⟩ := cluZ_O w base
  exact ⟨_, _, _, _, _, _, _, F, Fc, rfl, h, hc, fun b _ h2 => hn b h2, fun b => Iff.rfl⟩
theorem sesR_err {w W : World} {Z : SesR} (c : Int) (hZ : Z = errZ c) (hb : Below w.heap.size w W) : ∃ v F, Ending.returned (.agg #[.int .i64 c, .int .i64 0, .slice none 0 0, .slice none 0 0, .slice none 0 0, .slice none 0 0, .slice none 0 0, .slice none 0 0]) = .returned v ∧ sesRR.O W w.heap.size F v Z ∧ Below w.heap.size w W := by
  subst hZ
  obtain ⟨F, h⟩ := sesR_new (w := W) (base := w.heap.size) c (no_nilZ _ _ _ _ W w.heap.size)
  exact ⟨_, F, rfl, h, hb⟩
theorem sesR_ret {w W : World} {Z : SesR} {l : List Ses} {v : Value} {F : Nat → Prop} (hZ : Z = ⟨0, 0, l, cluZ⟩) (h : sessR.O W w.heap.size F v l) (hb : Below w.heap.size w W) : ∃ u F, Ending.returned (.agg #[.int .i64 0, .int .i64 0, v, .slice none 0 0, .slice none 0 0, .slice none 0 0, .slice none 0 0, .slice none 0 0]) = .returned u ∧ sesRR.O W w.heap.size F u Z ∧ Below w.heap.size w W := by
  subst hZ
  obtain ⟨F, h⟩ := sesR_new 0 h
  exact ⟨_, F, rfl, h, hb⟩
theorem setZ {α : Type} (R : Rep α) {w : World} {base : Nat} {F : Nat → Prop} {v : Value} {x : α} (h : R.O w base F v x) {p : Addr} (u : Value) (hp : ¬ F p.block) : R.O (w.setCell p u) base F v x :=
  R.mod h (Mod.of_set w p u) (fun b hb e => hp (e ▸ hb))
theorem setZ8 {α : Type} (R : Rep α) {W : World} {base B : Nat} {F : Nat → Prop} {v : Value} {x : α} (h : R.O W base F v x) (hB : ¬ F B) (u0 u1 u2 u3 u4 u5 u6 u7 : Value) :
    R.O ((((((((W.setCell ⟨B, 0, none⟩ u0).setCell ⟨B, 1, none⟩ u1).setCell ⟨B, 2, none⟩ u2).setCell ⟨B, 3, none⟩ u3).setCell ⟨B, 4, none⟩ u4).setCell ⟨B, 5, none⟩ u5).setCell ⟨B, 6, none⟩ u6).setCell ⟨B, 7, none⟩ u7) base F v x :=
  setZ R (setZ R (setZ R (setZ R (setZ R (setZ R (setZ R (setZ R h _ hB) _ hB) _ hB) _ hB) _ hB) _ hB) _ hB) _ hB
theorem Mod.iceZ {F : Nat → Prop} {w w' : World} (h : Mod F w w') {b o : Nat} (hb : b < w.heap.size) (hn : ¬ F b) : w'.frozen? ⟨b, o, none⟩ = w.frozen? ⟨b, o, none⟩ := World.frozen?_of_block (h.block b hb hn)
theorem new_ses (W : World) (base : Nat) (c : Int) : sesR.O W base (fun b => (Value.slice none 0 0).ownBlock = some b) (.agg #[.int .i64 c, .int .i64 1, .slice none 0 0]) ⟨c, 1, []⟩ :=
  ⟨_, _, rfl, ⟨World.ownsRow_nil _ _ _ _, rfl⟩, fun b => Iff.rfl⟩
end Go.Proofs.Ytjemciikdijokaa


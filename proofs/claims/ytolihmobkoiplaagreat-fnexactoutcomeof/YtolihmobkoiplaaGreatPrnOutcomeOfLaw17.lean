import Derived.Test.YtolihmobkoiplaaGreatPrnOutcomeOfLaw4
import Derived.Test.YtolihmobkoiplaaGreatPrnOutcomeOfLaw8
import Derived.Test.YtolihmobkoiplaaGreatPrnOutcomeOfLaw16
import Derived.Test.YtolihmobkoiplaaGreatPrnOutcomeOfLaw11
import Derived.Test.YtolihmobkoiplaaGreatPrnOutcomeOfLaw15
import Derived.BigQuiet
import Derived.Deep.QuietTactic
import Derived.Deep.RegionHeld3

/-
  What is chosen: what both sides leave.
-/
namespace Go.Proofs.YtolihmobkoiplaaGreat
open Go.RowKit
set_option linter.unusedSectionVars false
variable [DecidableEq Vot] [Inhabited Vot] [DecidableEq Slt] [Inhabited Slt] [DecidableEq SltR] [Inhabited SltR] [DecidableEq Bal] [Inhabited Bal] [DecidableEq Ledg] [Inhabited Ledg] [DecidableEq Leg] [Inhabited Leg]

def ChE (D : List Slt) (w : World) (e : Ending) (w' : World) : Prop := ∃ v ys, e = .returned v ∧ votsR.V w' v ys ∧ Chs D ys ∧ Below w.heap.size w w'
end Go.Proofs.YtolihmobkoiplaaGreat

/-
  An operation that is skipped, and on which others' guards hang: what it would have yielded is nothing.
-/
namespace Go.Proofs.YtolihmobkoiplaaGreat
open Go.RowKit

theorem upto_skipU {P : Program} {ops : Array Oper} {Q : Exit → Act → World → Prop} {md : Region.Mode} {S : World → Prop} {t : Nat} {i : Nat} {oi : Oper} {f : Nat} {listed : Array Bool} {a : Act} {w : World} (hi : ops[i]? = some oi) (hsel : Region.noSelect ops = true) (ht : ops[t]? = none)
    (hf : Region.free md ops listed i = true) (hr : (Region.ready md ops listed).contains i = true) (hQ : ∀ c a w, Q (.panic c) (a.put oi.dst undef) w → Q (.panic c) a w)
    (hwd : Region.wanted oi (yielded ops a.tmps) = false) (hS : S w)
    (h : wpUpto P md ops Q S t f (listed.setIfInBounds i true) (a.put oi.dst undef) w) : wpUpto P md ops Q S t (f + 1) listed a w :=
  upto_firstN hi hsel ht hQ f listed a w (Region.free_spec hi hf) (by simpa using hr) (Or.inr ⟨hwd, rfl⟩) hS h
end Go.Proofs.YtolihmobkoiplaaGreat

/-
  l8Chosen: the votes that most cast, by rising ballots.
-/
set_option linter.unusedSimpArgs false
set_option linter.unusedVariables false
namespace Go.Proofs.YtolihmobkoiplaaGreat
open Go.RowKit
set_option linter.unusedSectionVars false
variable [DecidableEq Vot] [Inhabited Vot] [DecidableEq Slt] [Inhabited Slt] [DecidableEq SltR] [Inhabited SltR] [DecidableEq Bal] [Inhabited Bal] [DecidableEq Ledg] [Inhabited Ledg] [DecidableEq Leg] [Inhabited Leg]
attribute [local go_sem ↓] Go.wp_at_zero Go.wp_at_succ

def Done (D : List Slt) (i k : Nat) (v : Vot) : Prop := ∃ i' k', (i' < i ∨ (i' = i ∧ k' < k)) ∧ i' < D.length ∧ k' < (D.getD i' default).cast.length ∧ (D.getD i' default).cast.getD k' default = v
structure Inv (D : List Slt) (i k : Nat) (ys : List Vot) : Prop where
  rise : Rise ys
  mem : ∀ v, v ∈ ys ↔ isCh D v ∧ Done D i k v
theorem inv_start (D : List Slt) : Inv D 0 0 [] := ⟨by simp [Rise], fun v => ⟨fun h => by simp at h, fun ⟨_, i', k', h, _⟩ => by omega⟩⟩
theorem inv_row {D : List Slt} {i : Nat} {ys : List Vot} (h : Inv D i (D.getD i default).cast.length ys) (hi : i < D.length) : Inv D (i + 1) 0 ys := by
  refine ⟨h.rise, fun v => (h.mem v).trans ⟨fun ⟨h1, h2⟩ => ⟨h1, ?_⟩, fun ⟨h1, h2⟩ => ⟨h1, ?_⟩⟩⟩
  · obtain ⟨i', k', h3, h4⟩ := h2
    exact ⟨i', k', by omega, h4⟩
  · obtain ⟨i', k', h3, h4, h5, h6⟩ := h2
    refine ⟨i', k', ?_, h4, h5, h6⟩
    by_cases e : i' < i
    · exact .inl e
    · have e2 : i' = i := by omega
      subst e2
      exact .inr ⟨rfl, h5⟩
theorem done_succ {D : List Slt} {i k : Nat} {v u : Vot} (hi : i < D.length) (hk : k < (D.getD i default).cast.length) (hv : (D.getD i default).cast.getD k default = v) : Done D i (k + 1) u ↔ Done D i k u ∨ u = v := by
  constructor
  · rintro ⟨i', k', h3, h4, h5, h6⟩
    by_cases e : i' = i ∧ k' = k
    · obtain ⟨rfl, rfl⟩ := e
      exact .inr (h6.symm.trans hv)
    · exact .inl ⟨i', k', by omega, h4, h5, h6⟩
  · rintro (⟨i', k', h3, h4⟩ | h)
    · exact ⟨i', k', by omega, h4⟩
    · subst h
      exact ⟨i, k, by omega, hi, hk, hv⟩
theorem inv_skip {D : List Slt} {i k : Nat} {ys : List Vot} {v : Vot} (h : Inv D i k ys) (hi : i < D.length) (hk : k < (D.getD i default).cast.length) (hv : (D.getD i default).cast.getD k default = v) (hs : ¬ isCh D v ∨ v ∈ ys) : Inv D i (k + 1) ys := by
  refine ⟨h.rise, fun u => ?_⟩
  rw [done_succ hi hk hv]
  constructor
  · intro hu
    have := (h.mem u).1 hu
    exact ⟨this.1, .inl this.2⟩
  · rintro ⟨h1, h2 | h2⟩
    · exact (h.mem u).2 ⟨h1, h2⟩
    · subst h2
      rcases hs with hs | hs
      · exact absurd h1 hs
      · exact hs
theorem inv_ins {D : List Slt} {i k : Nat} {ys : List Vot} {v : Vot} (hok : AllOk D) (h : Inv D i k ys) (hi : i < D.length) (hk : k < (D.getD i default).cast.length) (hv : (D.getD i default).cast.getD k default = v) (hc : isCh D v) {a : Nat} (ha : a ≤ ys.length)
    (h1 : ∀ t, t < a → (ys.getD t default).bal < v.bal) (h2 : a < ys.length → ¬ (ys.getD a default).bal < v.bal ∧ ¬ ys.getD a default = v) : Inv D i (k + 1) (ys.take a ++ [v] ++ ys.drop a) := by
  refine ⟨rise_ins h.rise ha h1 (fun hl => ?_), fun u => ?_⟩
  · obtain ⟨h3, h4⟩ := h2 hl
    by_cases e : (ys.getD a default).bal = v.bal
    · exact absurd (ch_one hok ((h.mem _).1 (mem_getD hl)).1 hc e) h4
    · omega
  · rw [mem_take_drop, done_succ hi hk hv, h.mem]
    constructor
    · rintro (e | ⟨e1, e2⟩)
      · subst e
        exact ⟨hc, .inr rfl⟩
      · exact ⟨e1, .inl e2⟩
    · rintro ⟨e1, e2 | e2⟩
      · exact .inr ⟨e1, e2⟩
      · exact .inl e2
theorem inv_end {D : List Slt} {ys : List Vot} (h : Inv D D.length 0 ys) : Chs D ys := by
  refine ⟨h.rise, fun v => (h.mem v).trans ⟨fun h => h.1, fun h1 => ⟨h1, ?_⟩⟩⟩
  obtain ⟨k, hk, hv⟩ := ch_cast h1
  obtain ⟨j, hj, e⟩ := getD_of_mem hv
  exact ⟨k, j, .inl hk, hk, hj, e⟩
def insG (base : Nat) (p q : List Vot) (r : Vot) : Nat → (Nat → Value) → (Nat → Prop) → World → Prop
  | 0, y, F, w => votsR.O w base F (y 84) []
  | 4, y, F, w => votsR.O w base F (y 88) p
  | 6, y, F, w => votsR.O w base F (y 90) [r]
  | 7, y, F, w => votsR.O w base F (y 91) (p ++ [r])
  | 11, y, F, w => votsR.O w base F (y 95) (p ++ [r] ++ q)
  | _, _, _, _ => True
def insC : Nat → List Nat
  | 4 => [0]
  | 7 => [4]
  | 11 => [7]
  | _ => []
set_option maxRecDepth 20000 in
set_option maxHeartbeats 16000000 in
theorem l8Chosen_any (x : Value) (D : List Slt) (w : World) (hx : sltsR.V w x D) (hok0 : askF D = 0) :
    Calls Tryz.prog 52 #[x] w fun e w' => ChE D w e w' := by
  obtain ⟨hok1, h19⟩ := askF_ok hok0
  have hok : Hid (AllOk D) := hok1
  clear hok0 hok1
  obtain ⟨ax, cx, rfl, hcx, hmx, hx⟩ := hx
  unfold maxLen at hmx
  obtain ⟨n, hn'⟩ : ∃ n, n = D.length := ⟨_, rfl⟩
  have HN : Hid (D.length = n) := hn'.symm
  rw [← hn'] at hcx hx h19 ⊢
  clear hn'
  have hn9 : 1 ≤ n ∧ n ≤ 9 := by have := inBi.1 h19; omega
  have ho0 := World.ownsRow_lit (base := w.heap.size) (e := 63) (size := 2) w #[] 0 (Nat.le_refl _) (by unfold maxLen; omega) rfl
  go_enter Tryz.func52, Tryz.ntmps52
  go_wp2
  go_loopw [3, 4] (fun u ii w' => ∃ (i : Nat) (ys : List Vot) (g cap : Nat), i ≤ n ∧ ii = .int .i64 i ∧ u = .slice (some ⟨g, 0, none⟩) ys.length cap ∧ w'.ownsRow w.heap.size 63 2 (.slice (some ⟨g, 0, none⟩) ys.length cap) ys.length (votsC ys) ∧ Inv D i 0 ys ∧ ys.length ≤ i * 60 ∧ Below w.heap.size w w') (fun _ ii _ => n - (intOf ii).toNat)
  case atStart => exact ⟨0, [], _, _, Nat.zero_le _, rfl, rfl, ho0, inv_start D, by simp, by (repeat (first | exact Below.refl _ _ | assumption | refine Below.drew ?_ | refine balloc ?_ _ | refine bset ?_ (by simp; omega) _ | refine bset ?_ (by simp) _ | refine bstep ?_ (by assumption)))⟩
  case round =>
    clear ho0
    obtain ⟨i, ys, g, cap, hi, rfl, rfl, hO, hI, hL, hbl⟩ := hrel
    have HI : Hid (Inv D i 0 ys) := hI
    clear hI
    by_cases hlt : i < n
    · obtain ⟨bxa, oxa, ua, rfl, _, pa, hva⟩ := hx i hlt
      obtain ⟨l, hla⟩ : ∃ l, l = D.getD i default := ⟨_, rfl⟩
      rw [← hla] at hva
      have HLa : Hid (l = D.getD i default) := hla
      clear hla
      have hVa := hva
      obtain ⟨sa, rfl, hca⟩ := hva
      obtain ⟨aua, cua, rfl⟩ := vots_form hca
      obtain ⟨_, _, ee, hcc, hmc, hce⟩ := hca
      simp only [Value.slice.injEq, true_and] at ee
      obtain ⟨rfl, rfl⟩ := ee
      have ga0 : w.cell? ⟨bxa, oxa + i * 6, none⟩ = some (.int .i64 l.con) := pa 0 (by omega)
      have ga1 : w.cell? ⟨bxa, oxa + i * 6 + 1, none⟩ = some (.int .i64 l.sh) := pa 1 (by omega)
      have ga2 : w.cell? ⟨bxa, oxa + i * 6 + 2, none⟩ = some (.int .i64 l.pr) := pa 2 (by omega)
      have ga3 : w.cell? ⟨bxa, oxa + i * 6 + 3, none⟩ = some (.int .i64 l.lb) := pa 3 (by omega)
      have ga4 : w.cell? ⟨bxa, oxa + i * 6 + 4, none⟩ = some (.int .i64 l.lv) := pa 4 (by omega)
      have ga5 : w.cell? ⟨bxa, oxa + i * 6 + 5, none⟩ = some (.slice aua l.cast.length cua) := pa 5 (by omega)
      clear pa
      clear ga0 ga1 ga2 ga3 ga4 hVa
      unfold maxLen at hmc
      have h60 : l.cast.length ≤ 60 := by rw [HLa.out]; exact (hok.out i (by rw [HN.out]; exact hlt)).len
      have HC0 : Hid (l.cast = (D.getD i default).cast) := by show _ = _; rw [← HLa.out]
      obtain ⟨cs, hcs⟩ : ∃ cs, cs = l.cast := ⟨_, rfl⟩
      rw [← hcs] at hcc hce h60 ga5 HC0
      obtain ⟨m, hm'⟩ : ∃ m, m = cs.length := ⟨_, rfl⟩
      have HM : Hid (cs.length = m) := hm'.symm
      rw [← hm'] at hcc hce h60 ga5
      clear hm' hcs
      go_wp2
      go_loopw [3, 5] (fun u kk w' => ∃ (k : Nat) (ys : List Vot) (g cap : Nat), k ≤ m ∧ kk = .int .i64 k ∧ u = .slice (some ⟨g, 0, none⟩) ys.length cap ∧ w'.ownsRow w.heap.size 63 2 (.slice (some ⟨g, 0, none⟩) ys.length cap) ys.length (votsC ys) ∧ Inv D i k ys ∧ ys.length ≤ i * 60 + k ∧ Below w.heap.size w w') (fun _ kk _ => m - (intOf kk).toNat)
      case atStart => exact ⟨0, ys, g, cap, Nat.zero_le _, rfl, rfl, hO, HI.out, by omega, hbl⟩
      case round =>
        clear hO hL hbl HI
        obtain ⟨k, ys, g, cap, hk, rfl, rfl, hO, hI, hL, hbl⟩ := hrel
        have HI : Hid (Inv D i k ys) := hI
        clear hI
        have ga5' := cell_keep hbl ga5
        have zba : bxa < wr.heap.size := World.block_lt_of_cell? wr _ ga5'
        by_cases hkm : k < m
        · obtain ⟨bc, oc, rfl, g1⟩ := hce k hkm
          obtain ⟨v, hv⟩ : ∃ v, v = cs.getD k default := ⟨_, rfl⟩
          rw [← hv] at g1
          have HB : Hid (i < D.length ∧ k < (D.getD i default).cast.length ∧ (D.getD i default).cast.getD k default = v) := ⟨by rw [HN.out]; exact hlt, by rw [← HC0.out, HM.out]; exact hkm, by rw [← HC0.out]; exact hv.symm⟩
          clear hv hce
          obtain ⟨a1, a2⟩ := votCells_below hbl g1
          clear g1
          obtain ⟨L, hLn⟩ : ∃ L, L = ys.length := ⟨_, rfl⟩
          have HLn : Hid (ys.length = L) := hLn.symm
          have hLb : L ≤ 600 := by omega
          rw [← hLn] at hL ⊢
          clear hLn
          go_wp2
          have r0' : (wr.alloc (.cells #[.int .i64 v.bal, .int .i64 v.val] 63)).cell? ⟨wr.heap.size, 0, none⟩ = some (.int .i64 v.bal) := by simp [go_sem]
          have r1' : (wr.alloc (.cells #[.int .i64 v.bal, .int .i64 v.val] 63)).cell? ⟨wr.heap.size, 1, none⟩ = some (.int .i64 v.val) := by simp [go_sem]
          have hOY := owns_below hO (balloc (Below.refl _ wr) (.cells #[.int .i64 v.bal, .int .i64 v.val] 63))
          have hBY : Below w.heap.size w (wr.alloc (.cells #[.int .i64 v.bal, .int .i64 v.val] 63)) := balloc hbl _
          generalize wr.alloc (.cells #[.int .i64 v.bal, .int .i64 v.val] 63) = Y at *
          generalize wr.heap.size = B at *
          clear a1 a2 hO hbl ga5'
          have hfr := hOY.frozenAt
          go_loopw [7, 8] (fun cc jj w' => ∃ j : Nat, j ≤ n ∧ jj = .int .i64 j ∧ cc = .int .i64 (cntP (fun t => hasV (D.getD t default) v) j) ∧ Below Y.heap.size Y w') (fun _ jj _ => n - (intOf jj).toNat)
          case atStart => exact ⟨0, Nat.zero_le _, rfl, rfl, Below.refl _ _⟩
          case round =>
            obtain ⟨j, hj, rfl, rfl, hbY⟩ := hrel
            have r0 := cell_keep hbY r0'
            have r1 := cell_keep hbY r1'
            by_cases hjn : j < n
            · obtain ⟨bxb, oxb, ub, heb, _, pb, hvb⟩ := hx j hjn
              simp only [Option.some.injEq, Addr.mk.injEq, and_true] at heb
              obtain ⟨rfl, rfl⟩ := heb
              obtain ⟨l2, hlb⟩ : ∃ l, l = D.getD j default := ⟨_, rfl⟩
              rw [← hlb] at hvb
              have HLb : Hid (l2 = D.getD j default) := hlb
              clear hlb
              have hVb := hvb
              obtain ⟨sb, rfl, hcb⟩ := hvb
              obtain ⟨aub, cub, rfl⟩ := vots_form hcb
              clear hcb
              have gb0 : w.cell? ⟨bxa, oxa + j * 6, none⟩ = some (.int .i64 l2.con) := pb 0 (by omega)
              have gb1 : w.cell? ⟨bxa, oxa + j * 6 + 1, none⟩ = some (.int .i64 l2.sh) := pb 1 (by omega)
              have gb2 : w.cell? ⟨bxa, oxa + j * 6 + 2, none⟩ = some (.int .i64 l2.pr) := pb 2 (by omega)
              have gb3 : w.cell? ⟨bxa, oxa + j * 6 + 3, none⟩ = some (.int .i64 l2.lb) := pb 3 (by omega)
              have gb4 : w.cell? ⟨bxa, oxa + j * 6 + 4, none⟩ = some (.int .i64 l2.lv) := pb 4 (by omega)
              have gb5 : w.cell? ⟨bxa, oxa + j * 6 + 5, none⟩ = some (.slice aub l2.cast.length cub) := pb 5 (by omega)
              clear pb
              clear hx
              replace gb0 := cell_keep (bstep hBY hbY) gb0
              replace gb1 := cell_keep (bstep hBY hbY) gb1
              replace gb2 := cell_keep (bstep hBY hbY) gb2
              replace gb3 := cell_keep (bstep hBY hbY) gb3
              replace gb4 := cell_keep (bstep hBY hbY) gb4
              replace gb5 := cell_keep (bstep hBY hbY) gb5
              have HCs : Hid (∀ W, Below wr.heap.size wr W → Calls Tryz.prog 70 #[.agg #[.int .i64 l2.con, .int .i64 l2.sh, .int .i64 l2.pr, .int .i64 l2.lb, .int .i64 l2.lv, .slice aub l2.cast.length cub], .agg #[.int .i64 v.bal, .int .i64 v.val]] W fun e w' => e = .returned (.bool (hasV l2 v)) ∧ Below W.heap.size W w') := fun W h => l8Cast_any _ l2 v W (sltR.below hVb (bstep (bstep hBY hbY) h))
              clear hVb
              have hst : Hid (cntP (fun t => hasV (D.getD t default) v) (j + 1) = cntP (fun t => hasV (D.getD t default) v) j + if hasV l2 v then 1 else 0) := by show _ = _; rw [HLb.out]; rfl
              have hcb := cntP_le (fun t => hasV (D.getD t default) v) j
              obtain ⟨c, hc⟩ : ∃ c, c = cntP (fun t => hasV (D.getD t default) v) j := ⟨_, rfl⟩
              rw [← hc] at hst hcb ⊢
              clear hc
              go_wp2
              refine wp_region_noPanic ?_
              refine region_upto (fun W => Below wr.heap.size wr W ∧ (W.cell? ⟨bxa, oxa + j * 6, none⟩ = some (.int .i64 l2.con) ∧ W.cell? ⟨bxa, oxa + j * 6 + 1, none⟩ = some (.int .i64 l2.sh) ∧ W.cell? ⟨bxa, oxa + j * 6 + 2, none⟩ = some (.int .i64 l2.pr) ∧ W.cell? ⟨bxa, oxa + j * 6 + 3, none⟩ = some (.int .i64 l2.lb) ∧ W.cell? ⟨bxa, oxa + j * 6 + 4, none⟩ = some (.int .i64 l2.lv) ∧ W.cell? ⟨bxa, oxa + j * 6 + 5, none⟩ = some (.slice aub l2.cast.length cub)) ∧ W.cell? ⟨B, 0, none⟩ = some (.int .i64 v.bal) ∧ W.cell? ⟨B, 1, none⟩ = some (.int .i64 v.val)) 6 (by kernel_rfl) ⟨by (repeat (first | exact Below.refl _ _ | assumption | refine Below.drew ?_ | refine balloc ?_ _ | refine bset ?_ (by simp; omega) _ | refine bset ?_ (by simp) _ | refine bstep ?_ (by assumption))), ⟨cell_keep (by (repeat (first | exact Below.refl _ _ | assumption | refine Below.drew ?_ | refine balloc ?_ _ | refine bset ?_ (by simp; omega) _ | refine bset ?_ (by simp) _ | refine bstep ?_ (by assumption)))) gb0, cell_keep (by (repeat (first | exact Below.refl _ _ | assumption | refine Below.drew ?_ | refine balloc ?_ _ | refine bset ?_ (by simp; omega) _ | refine bset ?_ (by simp) _ | refine bstep ?_ (by assumption)))) gb1, cell_keep (by (repeat (first | exact Below.refl _ _ | assumption | refine Below.drew ?_ | refine balloc ?_ _ | refine bset ?_ (by simp; omega) _ | refine bset ?_ (by simp) _ | refine bstep ?_ (by assumption)))) gb2, cell_keep (by (repeat (first | exact Below.refl _ _ | assumption | refine Below.drew ?_ | refine balloc ?_ _ | refine bset ?_ (by simp; omega) _ | refine bset ?_ (by simp) _ | refine bstep ?_ (by assumption)))) gb3, cell_keep (by (repeat (first | exact Below.refl _ _ | assumption | refine Below.drew ?_ | refine balloc ?_ _ | refine bset ?_ (by simp; omega) _ | refine bset ?_ (by simp) _ | refine bstep ?_ (by assumption)))) gb4, cell_keep (by (repeat (first | exact Below.refl _ _ | assumption | refine Below.drew ?_ | refine balloc ?_ _ | refine bset ?_ (by simp; omega) _ | refine bset ?_ (by simp) _ | refine bstep ?_ (by assumption)))) gb5⟩, cell_keep (by (repeat (first | exact Below.refl _ _ | assumption | refine Below.drew ?_ | refine balloc ?_ _ | refine bset ?_ (by simp; omega) _ | refine bset ?_ (by simp) _ | refine bstep ?_ (by assumption)))) r0, cell_keep (by (repeat (first | exact Below.refl _ _ | assumption | refine Below.drew ?_ | refine balloc ?_ _ | refine bset ?_ (by simp; omega) _ | refine bset ?_ (by simp) _ | refine bstep ?_ (by assumption)))) r1⟩ (fun hS => ?_)
              refine upto_takeN (i := 0) (v := ?_) rfl (by kernel_rfl) (by kernel_rfl) (by kernel_rfl) (by kernel_rfl) (fun _ _ _ h => h) (by rfl) hS ?_ ?_
              rotate_left
              · intro wS hSw
                try dsimp only at hSw
                first | (go_simp; done) | (go_simp; with_reducible rfl)
              try simp only [Act.put, List.getElem_toArray, List.getElem_cons_zero, List.getElem_cons_succ, List.setIfInBounds_toArray, List.set_cons_zero, List.set_cons_succ]
              refine upto_takeN (i := 1) (v := ?_) rfl (by kernel_rfl) (by kernel_rfl) (by kernel_rfl) (by kernel_rfl) (fun _ _ _ h => h) (by rfl) hS ?_ ?_
              rotate_left
              · intro wS hSw
                try dsimp only at hSw
                first | (go_simp; done) | (go_simp; with_reducible rfl)
              try simp only [Act.put, List.getElem_toArray, List.getElem_cons_zero, List.getElem_cons_succ, List.setIfInBounds_toArray, List.set_cons_zero, List.set_cons_succ]
              refine upto_takeN (i := 2) (v := ?_) rfl (by kernel_rfl) (by kernel_rfl) (by kernel_rfl) (by kernel_rfl) (fun _ _ _ h => h) (by rfl) hS ?_ ?_
              rotate_left
              · intro wS hSw
                try dsimp only at hSw
                first | (go_simp; done) | (go_simp; with_reducible rfl)
              try simp only [Act.put, List.getElem_toArray, List.getElem_cons_zero, List.getElem_cons_succ, List.setIfInBounds_toArray, List.set_cons_zero, List.set_cons_succ]
              refine upto_takeN (i := 3) (v := ?_) rfl (by kernel_rfl) (by kernel_rfl) (by kernel_rfl) (by kernel_rfl) (fun _ _ _ h => h) (by rfl) hS ?_ ?_
              rotate_left
              · intro wS hSw
                try dsimp only at hSw
                first | (go_simp; done) | (go_simp; with_reducible rfl)
              try simp only [Act.put, List.getElem_toArray, List.getElem_cons_zero, List.getElem_cons_succ, List.setIfInBounds_toArray, List.set_cons_zero, List.set_cons_succ]
              refine upto_takeN (i := 4) (v := ?_) rfl (by kernel_rfl) (by kernel_rfl) (by kernel_rfl) (by kernel_rfl) (fun _ _ _ h => h) (by rfl) hS ?_ ?_
              rotate_left
              · intro wS hSw
                try dsimp only at hSw
                first | (go_simp; done) | (go_simp; with_reducible rfl)
              try simp only [Act.put, List.getElem_toArray, List.getElem_cons_zero, List.getElem_cons_succ, List.setIfInBounds_toArray, List.set_cons_zero, List.set_cons_succ]
              refine upto_step (i := 5) (by kernel_rfl) rfl ?_
              intro K hK
              go_simp
              refine (HCs.out _ hS.1).mono ?_
              rintro e w5 ⟨rfl, hb5⟩
              have hB5 : Below wr.heap.size wr w5 := bstep hS.1 hb5
              refine hK _ _ (fun _ => ⟨hB5, ⟨cell_keep hb5 hS.2.1.1, cell_keep hb5 hS.2.1.2.1, cell_keep hb5 hS.2.1.2.2.1, cell_keep hb5 hS.2.1.2.2.2.1, cell_keep hb5 hS.2.1.2.2.2.2.1, cell_keep hb5 hS.2.1.2.2.2.2.2⟩, cell_keep hb5 hS.2.2.1, cell_keep hb5 hS.2.2.2⟩) ?_
              clear hK K hS hb5
              try simp only [Act.put, List.getElem_toArray, List.getElem_cons_zero, List.getElem_cons_succ, List.setIfInBounds_toArray, List.set_cons_zero, List.set_cons_succ]
              refine upto_done (by kernel_rfl) ?_
              refine NoPanic.normal ?_
              have hbY5 := bstep hbY hB5
              cases hh : hasV l2 v
              · go_wp2
                exact ⟨⟨j + 1, by omega, by go_num, by rw [hst.out, hh]; rfl, hbY5⟩, by simp [intOf]; omega⟩
              · go_wp2
                exact ⟨⟨j + 1, by omega, by go_num, by rw [hst.out, hh]; rfl, hbY5⟩, by simp [intOf]; omega⟩
            · have hjn' : n = j := by omega
              subst hjn'
              have HCn : Hid (cntP (fun t => hasV (D.getD t default) v) n = cntV D v) := by show _ = _; unfold cntV; rw [HN.out]
              have hcb := cntP_le (fun t => hasV (D.getD t default) v) n
              generalize cntP (fun t => hasV (D.getD t default) v) n = c at *
              clear hx r0 r1
              go_wp2
              go_loopw [9] (fun aa w' => ∃ a : Nat, a ≤ L ∧ aa = .int .i64 a ∧ (∀ t, t < a → (ys.getD t default).bal < v.bal) ∧ Below Y.heap.size Y w') (fun aa _ => L - (intOf aa).toNat)
              case atStart => exact ⟨0, Nat.zero_le _, rfl, fun t h => absurd h (Nat.not_lt_zero _), hbY⟩
              case round =>
                clear hbY
                obtain ⟨a, ha, rfl, hA, hYt⟩ := hrel
                have HA1 : Hid (∀ t, t < a → (ys.getD t default).bal < v.bal) := hA
                clear hA
                have r0 := cell_keep hYt r0'
                have r1 := cell_keep hYt r1'
                have hcapL : L ≤ cap ∧ cap ≤ 9223372036854775807 := by
                  rcases hOY.2 with ⟨h, _⟩ | ⟨_, _, _, h, _, _, h1, h2, _⟩
                  · cases h
                  · simp only [Value.slice.injEq] at h
                    unfold maxLen at h2
                    have := HLn.out
                    omega
                obtain ⟨hc1, hc2⟩ := hcapL
                by_cases haL : a < L
                · obtain ⟨p, hp⟩ : ∃ p, p = ys.getD a default := ⟨_, rfl⟩
                  have HP : Hid (p = ys.getD a default) := hp
                  have hgv := get_votsC ys a (by rw [HLn.out]; exact haL)
                  rw [← hp] at hgv
                  clear hp
                  have p0 := cell_keep hYt ((hOY.cellAt (a * 2) (by rw [HLn.out]; omega)).trans hgv.1)
                  have p1 := cell_keep hYt ((hOY.cellAt (a * 2 + 1) (by rw [HLn.out]; omega)).trans hgv.2)
                  clear hgv
                  have zg : g < wr.heap.size := World.block_lt_of_cell? wr _ p0
                  have i1 : (a : Int) < (L : Int) := by omega
                  have hd1 : decide ((a : Int) < (L : Int)) = true := by simp; omega
                  by_cases hlt2 : p.bal < v.bal
                  · have hd2 : decide (p.bal < v.bal) = true := by simp [hlt2]
                    have HA2 : Hid (∀ t, t < a + 1 → (ys.getD t default).bal < v.bal) := fun t ht => by
                      by_cases h : t < a
                      · exact HA1.out t h
                      · have : t = a := by omega
                        subst this
                        rw [← HP.out]
                        exact hlt2
                    go_wp2
                    go_quiet (fail)
                    go_wp2
                    exact ⟨⟨a + 1, by omega, by go_num, HA2.out, bdrewN hYt _⟩, by simp [intOf]; omega⟩
                  · have hd2 : decide (p.bal < v.bal) = false := by simp [hlt2]
                    have HA2 : Hid (¬ (ys.getD a default).bal < v.bal) := by show ¬ _; rw [← HP.out]; exact hlt2
                    go_wp2
                    go_quiet (fail)
                    go_wp2
                    replace r0 := cell_keep (bdrewN (Below.refl _ wr) nq) r0
                    replace r1 := cell_keep (bdrewN (Below.refl _ wr) nq) r1
                    replace p0 := cell_keep (bdrewN (Below.refl _ wr) nq) p0
                    replace p1 := cell_keep (bdrewN (Below.refl _ wr) nq) p1
                    replace hYt := bdrewN hYt nq
                    generalize wr.drewN nq = wt at *
                    clear hd1 hd2
                    by_cases hch : quoV (n : Int) ≤ (c : Int)
                    · have hd : decide (quoV (n : Int) ≤ (c : Int)) = true := by simp [hch]
                      have HCh : Hid (isCh D v) := by show _ ≤ _; rw [HN.out, ← HCn.out]; exact hch
                      obtain ⟨qq, hqq⟩ : ∃ q, q = quoV (n : Int) := ⟨_, rfl⟩
                      have HQ : Hid (quoV (n : Int) = qq) := hqq.symm
                      rw [← hqq] at hch hd
                      clear hqq
                      have hel : ((a : Int) == (L : Int)) = false := by simp; omega
                      cases he : (decide (p.bal = v.bal) && decide (p.val = v.val))
                      · have heq : ∀ w, (binOp .neq 63 (.agg #[.int .i64 p.bal, .int .i64 p.val]) (.agg #[.int .i64 v.bal, .int .i64 v.val])).run Tryz.prog w = .ok (.bool true) w := fun w => by rw [neqVot, he]; rfl
                        have HA3 : Hid (¬ ys.getD a default = v) := fun h => by rw [← HP.out] at h; rw [vot_eq.2 h] at he; cases he
                        clear he
                        go_wp2
                        refine wp_region_noPanic ?_
                        refine region_upto (fun W => Below wt.heap.size wt W ∧ (W.cell? ⟨B, 0, none⟩ = some (.int .i64 v.bal) ∧ W.cell? ⟨B, 1, none⟩ = some (.int .i64 v.val)) ∧ W.cell? ⟨g, a * 2, none⟩ = some (.int .i64 p.bal) ∧ W.cell? ⟨g, a * 2 + 1, none⟩ = some (.int .i64 p.val)) 19 (by kernel_rfl) ⟨by (repeat (first | exact Below.refl _ _ | assumption | refine Below.drew ?_ | refine balloc ?_ _ | refine bset ?_ (by simp; omega) _ | refine bset ?_ (by simp) _ | refine bstep ?_ (by assumption))), ⟨cell_keep (by (repeat (first | exact Below.refl _ _ | assumption | refine Below.drew ?_ | refine balloc ?_ _ | refine bset ?_ (by simp; omega) _ | refine bset ?_ (by simp) _ | refine bstep ?_ (by assumption)))) r0, cell_keep (by (repeat (first | exact Below.refl _ _ | assumption | refine Below.drew ?_ | refine balloc ?_ _ | refine bset ?_ (by simp; omega) _ | refine bset ?_ (by simp) _ | refine bstep ?_ (by assumption)))) r1⟩, cell_keep (by (repeat (first | exact Below.refl _ _ | assumption | refine Below.drew ?_ | refine balloc ?_ _ | refine bset ?_ (by simp; omega) _ | refine bset ?_ (by simp) _ | refine bstep ?_ (by assumption)))) p0, cell_keep (by (repeat (first | exact Below.refl _ _ | assumption | refine Below.drew ?_ | refine balloc ?_ _ | refine bset ?_ (by simp; omega) _ | refine bset ?_ (by simp) _ | refine bstep ?_ (by assumption)))) p1⟩ (fun hS => ?_)
                        refine upto_takeN (i := 0) (v := ?_) rfl (by kernel_rfl) (by kernel_rfl) (by kernel_rfl) (by kernel_rfl) (fun _ _ _ h => h) (by rfl) hS ?_ ?_
                        rotate_left
                        · intro wS hSw
                          try dsimp only at hSw
                          first | (go_simp; done) | (go_simp; with_reducible rfl)
                        try simp only [Act.put, List.getElem_toArray, List.getElem_cons_zero, List.getElem_cons_succ, List.setIfInBounds_toArray, List.set_cons_zero, List.set_cons_succ]
                        refine upto_takeN (i := 1) (v := ?_) rfl (by kernel_rfl) (by kernel_rfl) (by kernel_rfl) (by kernel_rfl) (fun _ _ _ h => h) (by rfl) hS ?_ ?_
                        rotate_left
                        · intro wS hSw
                          try dsimp only at hSw
                          first | (go_simp; done) | (go_simp; with_reducible rfl)
                        try simp only [Act.put, List.getElem_toArray, List.getElem_cons_zero, List.getElem_cons_succ, List.setIfInBounds_toArray, List.set_cons_zero, List.set_cons_succ]
                        refine upto_takeN (i := 2) (v := ?_) rfl (by kernel_rfl) (by kernel_rfl) (by kernel_rfl) (by kernel_rfl) (fun _ _ _ h => h) (by rfl) hS ?_ ?_
                        rotate_left
                        · intro wS hSw
                          try dsimp only at hSw
                          first | (go_simp; done) | (go_simp; with_reducible rfl)
                        try simp only [Act.put, List.getElem_toArray, List.getElem_cons_zero, List.getElem_cons_succ, List.setIfInBounds_toArray, List.set_cons_zero, List.set_cons_succ]
                        refine upto_step (i := 3) (by kernel_rfl) rfl ?_
                        intro K hK
                        go_simp
                        refine (l8Quorum_any _ h19 _).mono ?_
                        rintro e w5 ⟨rfl, rfl⟩
                        refine hK _ _ (fun _ => hS) ?_
                        clear hK K
                        try simp only [Act.put, List.getElem_toArray, List.getElem_cons_zero, List.getElem_cons_succ, List.setIfInBounds_toArray, List.set_cons_zero, List.set_cons_succ]
                        rw [HQ.out]
                        refine upto_takeN (i := 4) (v := (.bool true)) rfl (by kernel_rfl) (by kernel_rfl) (by kernel_rfl) (by kernel_rfl) (fun _ _ _ h => h) (by rfl) hS ?_ ?_
                        · intro wS hSw
                          try dsimp only at hSw
                          go_simp
                        try simp only [Act.put, List.getElem_toArray, List.getElem_cons_zero, List.getElem_cons_succ, List.setIfInBounds_toArray, List.set_cons_zero, List.set_cons_succ]
                        refine upto_takeN (i := 5) (v := (.bool true)) rfl (by kernel_rfl) (by kernel_rfl) (by kernel_rfl) (by kernel_rfl) (fun _ _ _ h => h) (by rfl) hS ?_ ?_
                        · intro wS hSw
                          try dsimp only at hSw
                          go_simp
                        try simp only [Act.put, List.getElem_toArray, List.getElem_cons_zero, List.getElem_cons_succ, List.setIfInBounds_toArray, List.set_cons_zero, List.set_cons_succ]
                        refine upto_takeN (i := 6) (v := ?_) rfl (by kernel_rfl) (by kernel_rfl) (by kernel_rfl) (by kernel_rfl) (fun _ _ _ h => h) (by rfl) hS ?_ ?_
                        rotate_left
                        · intro wS hSw
                          try dsimp only at hSw
                          first | (go_simp; done) | (go_simp; with_reducible rfl)
                        try simp only [Act.put, List.getElem_toArray, List.getElem_cons_zero, List.getElem_cons_succ, List.setIfInBounds_toArray, List.set_cons_zero, List.set_cons_succ]
                        refine upto_takeN (i := 7) (v := ?_) rfl (by kernel_rfl) (by kernel_rfl) (by kernel_rfl) (by kernel_rfl) (fun _ _ _ h => h) (by rfl) hS ?_ ?_
                        rotate_left
                        · intro wS hSw
                          try dsimp only at hSw
                          first | (go_simp; done) | (go_simp; with_reducible rfl)
                        try simp only [Act.put, List.getElem_toArray, List.getElem_cons_zero, List.getElem_cons_succ, List.setIfInBounds_toArray, List.set_cons_zero, List.set_cons_succ]
                        refine upto_takeN (i := 8) (v := ?_) rfl (by kernel_rfl) (by kernel_rfl) (by kernel_rfl) (by kernel_rfl) (fun _ _ _ h => h) (by rfl) hS ?_ ?_
                        rotate_left
                        · intro wS hSw
                          try dsimp only at hSw
                          first | (go_simp; done) | (go_simp; with_reducible rfl)
                        try simp only [Act.put, List.getElem_toArray, List.getElem_cons_zero, List.getElem_cons_succ, List.setIfInBounds_toArray, List.set_cons_zero, List.set_cons_succ]
                        refine upto_takeN (i := 9) (v := (.bool false)) rfl (by kernel_rfl) (by kernel_rfl) (by kernel_rfl) (by kernel_rfl) (fun _ _ _ h => h) (by rfl) hS ?_ ?_
                        · intro wS hSw
                          try dsimp only at hSw
                          go_simp
                        try simp only [Act.put, List.getElem_toArray, List.getElem_cons_zero, List.getElem_cons_succ, List.setIfInBounds_toArray, List.set_cons_zero, List.set_cons_succ]
                        refine upto_takeN (i := 10) (v := (.bool false)) rfl (by kernel_rfl) (by kernel_rfl) (by kernel_rfl) (by kernel_rfl) (fun _ _ _ h => h) (by rfl) hS ?_ ?_
                        · intro wS hSw
                          try dsimp only at hSw
                          go_simp
                        try simp only [Act.put, List.getElem_toArray, List.getElem_cons_zero, List.getElem_cons_succ, List.setIfInBounds_toArray, List.set_cons_zero, List.set_cons_succ]
                        refine upto_takeN (i := 11) (v := ?_) rfl (by kernel_rfl) (by kernel_rfl) (by kernel_rfl) (by kernel_rfl) (fun _ _ _ h => h) (by rfl) hS ?_ ?_
                        rotate_left
                        · intro wS hSw
                          try dsimp only at hSw
                          first | (go_simp; done) | (go_simp; with_reducible rfl)
                        try simp only [Act.put, List.getElem_toArray, List.getElem_cons_zero, List.getElem_cons_succ, List.setIfInBounds_toArray, List.set_cons_zero, List.set_cons_succ]
                        refine upto_takeN (i := 12) (v := ?_) rfl (by kernel_rfl) (by kernel_rfl) (by kernel_rfl) (by kernel_rfl) (fun _ _ _ h => h) (by rfl) hS ?_ ?_
                        rotate_left
                        · intro wS hSw
                          try dsimp only at hSw
                          first | (go_simp; done) | (go_simp; with_reducible rfl)
                        try simp only [Act.put, List.getElem_toArray, List.getElem_cons_zero, List.getElem_cons_succ, List.setIfInBounds_toArray, List.set_cons_zero, List.set_cons_succ]
                        refine upto_takeN (i := 13) (v := ?_) rfl (by kernel_rfl) (by kernel_rfl) (by kernel_rfl) (by kernel_rfl) (fun _ _ _ h => h) (by rfl) hS ?_ ?_
                        rotate_left
                        · intro wS hSw
                          try dsimp only at hSw
                          first | (go_simp; done) | (go_simp; with_reducible rfl)
                        try simp only [Act.put, List.getElem_toArray, List.getElem_cons_zero, List.getElem_cons_succ, List.setIfInBounds_toArray, List.set_cons_zero, List.set_cons_succ]
                        refine upto_takeN (i := 14) (v := ?_) rfl (by kernel_rfl) (by kernel_rfl) (by kernel_rfl) (by kernel_rfl) (fun _ _ _ h => h) (by rfl) hS ?_ ?_
                        rotate_left
                        · intro wS hSw
                          try dsimp only at hSw
                          first | (go_simp; done) | (go_simp; with_reducible rfl)
                        try simp only [Act.put, List.getElem_toArray, List.getElem_cons_zero, List.getElem_cons_succ, List.setIfInBounds_toArray, List.set_cons_zero, List.set_cons_succ]
                        refine upto_takeN (i := 15) (v := ?_) rfl (by kernel_rfl) (by kernel_rfl) (by kernel_rfl) (by kernel_rfl) (fun _ _ _ h => h) (by rfl) hS ?_ ?_
                        rotate_left
                        · intro wS hSw
                          try dsimp only at hSw
                          first | (go_simp; done) | (go_simp; with_reducible rfl)
                        try simp only [Act.put, List.getElem_toArray, List.getElem_cons_zero, List.getElem_cons_succ, List.setIfInBounds_toArray, List.set_cons_zero, List.set_cons_succ]
                        refine upto_takeN (i := 16) (v := (.bool true)) rfl (by kernel_rfl) (by kernel_rfl) (by kernel_rfl) (by kernel_rfl) (fun _ _ _ h => h) (by rfl) hS ?_ ?_
                        · intro wS hSw
                          try dsimp only at hSw
                          go_simp
                        try simp only [Act.put, List.getElem_toArray, List.getElem_cons_zero, List.getElem_cons_succ, List.setIfInBounds_toArray, List.set_cons_zero, List.set_cons_succ]
                        refine upto_takeN (i := 17) (v := (.bool true)) rfl (by kernel_rfl) (by kernel_rfl) (by kernel_rfl) (by kernel_rfl) (fun _ _ _ h => h) (by rfl) hS ?_ ?_
                        · intro wS hSw
                          try dsimp only at hSw
                          go_simp
                        try simp only [Act.put, List.getElem_toArray, List.getElem_cons_zero, List.getElem_cons_succ, List.setIfInBounds_toArray, List.set_cons_zero, List.set_cons_succ]
                        refine upto_takeN (i := 18) (v := (.bool true)) rfl (by kernel_rfl) (by kernel_rfl) (by kernel_rfl) (by kernel_rfl) (fun _ _ _ h => h) (by rfl) hS ?_ ?_
                        · intro wS hSw
                          try dsimp only at hSw
                          go_simp
                        try simp only [Act.put, List.getElem_toArray, List.getElem_cons_zero, List.getElem_cons_succ, List.setIfInBounds_toArray, List.set_cons_zero, List.set_cons_succ]
                        refine upto_done (by kernel_rfl) ?_
                        refine NoPanic.normal ?_
                        clear hS
                        clear p0 p1 heq
                        have hca : ¬ cap = a := by omega
                        have hac1 : a ≤ cap := by omega
                        have hac2 : a ≤ L := by omega
                        have hac3 : (a : Int) ≤ (L : Int) := by omega
                        have hac4 : (a : Int) ≤ (cap : Int) := by omega
                        have hac5 : (0 : Int) ≤ (a : Int) := by omega
                        go_wp2
                        refine wp_region_noPanic ?_
                        refine region_upto (fun W => Below wt.heap.size wt W ∧ W.cell? ⟨B, 0, none⟩ = some (.int .i64 v.bal) ∧ W.cell? ⟨B, 1, none⟩ = some (.int .i64 v.val)) 12 (by kernel_rfl) ⟨by (repeat (first | exact Below.refl _ _ | assumption | refine Below.drew ?_ | refine balloc ?_ _ | refine bset ?_ (by simp; omega) _ | refine bset ?_ (by simp) _ | refine bstep ?_ (by assumption))), cell_keep (by (repeat (first | exact Below.refl _ _ | assumption | refine Below.drew ?_ | refine balloc ?_ _ | refine bset ?_ (by simp; omega) _ | refine bset ?_ (by simp) _ | refine bstep ?_ (by assumption)))) r0, cell_keep (by (repeat (first | exact Below.refl _ _ | assumption | refine Below.drew ?_ | refine balloc ?_ _ | refine bset ?_ (by simp; omega) _ | refine bset ?_ (by simp) _ | refine bstep ?_ (by assumption)))) r1⟩ (fun hS => ?_)
                        refine upto_take (i := 1) (v := ?_) rfl (by kernel_rfl) (by kernel_rfl) (by kernel_rfl) (by kernel_rfl) (fun _ _ _ h => h) (by rfl) hS ?_ ?_
                        rotate_left
                        · intro wS hSw
                          try dsimp only at hSw
                          first | (go_simp; done) | (go_simp; with_reducible rfl)
                        try simp only [Act.put, List.getElem_toArray, List.getElem_cons_zero, List.getElem_cons_succ, List.setIfInBounds_toArray, List.set_cons_zero, List.set_cons_succ]
                        refine upto_take (i := 2) (v := ?_) rfl (by kernel_rfl) (by kernel_rfl) (by kernel_rfl) (by kernel_rfl) (fun _ _ _ h => h) (by rfl) hS ?_ ?_
                        rotate_left
                        · intro wS hSw
                          try dsimp only at hSw
                          first | (go_simp; done) | (go_simp; with_reducible rfl)
                        try simp only [Act.put, List.getElem_toArray, List.getElem_cons_zero, List.getElem_cons_succ, List.setIfInBounds_toArray, List.set_cons_zero, List.set_cons_succ]
                        refine upto_take (i := 3) (v := ?_) rfl (by kernel_rfl) (by kernel_rfl) (by kernel_rfl) (by kernel_rfl) (fun _ _ _ h => h) (by rfl) hS ?_ ?_
                        rotate_left
                        · intro wS hSw
                          try dsimp only at hSw
                          first | (go_simp; done) | (go_simp; with_reducible rfl)
                        try simp only [Act.put, List.getElem_toArray, List.getElem_cons_zero, List.getElem_cons_succ, List.setIfInBounds_toArray, List.set_cons_zero, List.set_cons_succ]
                        refine upto_take (i := 5) (v := ?_) rfl (by kernel_rfl) (by kernel_rfl) (by kernel_rfl) (by kernel_rfl) (fun _ _ _ h => h) (by rfl) hS ?_ ?_
                        rotate_left
                        · intro wS hSw
                          try dsimp only at hSw
                          first | (go_simp; done) | (go_simp; with_reducible rfl)
                        try simp only [Act.put, List.getElem_toArray, List.getElem_cons_zero, List.getElem_cons_succ, List.setIfInBounds_toArray, List.set_cons_zero, List.set_cons_succ]
                        refine upto_take (i := 8) (v := ?_) rfl (by kernel_rfl) (by kernel_rfl) (by kernel_rfl) (by kernel_rfl) (fun _ _ _ h => h) (by rfl) hS ?_ ?_
                        rotate_left
                        · intro wS hSw
                          try dsimp only at hSw
                          first | (go_simp; done) | (go_simp; with_reducible rfl)
                        try simp only [Act.put, List.getElem_toArray, List.getElem_cons_zero, List.getElem_cons_succ, List.setIfInBounds_toArray, List.set_cons_zero, List.set_cons_succ]
                        refine upto_take (i := 9) (v := ?_) rfl (by kernel_rfl) (by kernel_rfl) (by kernel_rfl) (by kernel_rfl) (fun _ _ _ h => h) (by rfl) hS ?_ ?_
                        rotate_left
                        · intro wS hSw
                          try dsimp only at hSw
                          first | (go_simp; done) | (go_simp; with_reducible rfl)
                        try simp only [Act.put, List.getElem_toArray, List.getElem_cons_zero, List.getElem_cons_succ, List.setIfInBounds_toArray, List.set_cons_zero, List.set_cons_succ]
                        refine upto_take (i := 10) (v := ?_) rfl (by kernel_rfl) (by kernel_rfl) (by kernel_rfl) (by kernel_rfl) (fun _ _ _ h => h) (by rfl) hS ?_ ?_
                        rotate_left
                        · intro wS hSw
                          try dsimp only at hSw
                          first | (go_simp; done) | (go_simp; with_reducible rfl)
                        try simp only [Act.put, List.getElem_toArray, List.getElem_cons_zero, List.getElem_cons_succ, List.setIfInBounds_toArray, List.set_cons_zero, List.set_cons_succ]
                        have hB3 : Below w.heap.size w wt.drew.drew := Below.drew (Below.drew (bstep hBY hYt))
                        have HO3 : Hid (∀ W : World, Below wt.drew.drew.heap.size wt.drew.drew W → W.ownsRow w.heap.size 63 2 (.slice (some ⟨g, 0, none⟩) ys.length cap) ys.length (votsC ys)) := fun W hW => owns_below (owns_below hOY (Below.drew (Below.drew hYt))) hW
                        have HS1 : Hid (∀ W : World, Below wt.drew.drew.heap.size wt.drew.drew W → AppAny W (.slice (some ⟨g, 0, none⟩) a cap) a (votsC (ys.take a))) := fun W hW => by
                          have := votsAny_piece (HO3.out W hW) 0 a (by rw [HLn.out]; omega) cap
                          simpa using this
                        have HS2 : Hid (∀ W : World, Below wt.drew.drew.heap.size wt.drew.drew W → ∀ c, AppAny W (.slice (some ⟨g, a * 2, none⟩) (L - a) c) (L - a) (votsC (ys.drop a))) := fun W hW c => by
                          have := votsAny_piece (HO3.out W hW) a (L - a) (by rw [HLn.out]; omega) c
                          rw [List.take_of_length_le (by rw [List.length_drop, HLn.out]; omega)] at this
                          exact this
                        have HL1 : Hid ((ys.take a).length = a) := by rw [Hid, List.length_take, HLn.out]; omega
                        have HL2 : Hid ((ys.drop a).length = L - a) := by rw [Hid, List.length_drop, HLn.out]
                        have HInv : Hid (Inv D i (k + 1) (ys.take a ++ [v] ++ ys.drop a)) := inv_ins hok.out HI.out HB.out.1 HB.out.2.1 HB.out.2.2 HCh.out (by rw [HLn.out]; omega) HA1.out (fun h => ⟨by have := HA2.out; omega, HA3.out⟩)
                        have hzB : B < wt.drew.drew.heap.size := World.block_lt_of_cell? wt _ r0
                        have hwW : w.heap.size ≤ wt.drew.drew.heap.size := hB3.size
                        have hwt0 : wt.heap.size ≤ wt.drew.drew.heap.size := Nat.le_refl _
                        generalize wt.drew.drew = W0 at *
                        obtain ⟨P1, hP1⟩ : ∃ P, ys.take a = P := ⟨_, rfl⟩
                        obtain ⟨P2, hP2⟩ : ∃ P, ys.drop a = P := ⟨_, rfl⟩
                        rw [hP1] at HS1 HL1 HInv
                        rw [hP2] at HS2 HL2 HInv
                        clear hP1 hP2 HO3
                        refine upto_cons' [(0, 84), (4, 88), (6, 90), (7, 91), (11, 95)] insC (insG W0.heap.size P1 P2 v) (by kernel_rfl) hS ?_ ?_ ?_ ?_
                        · intro F' W W' h hm hF
                          obtain ⟨h1, h3, h4⟩ := h
                          exact ⟨hm.below h1 h1.size (fun b hb => by have := hF b hb; omega), hm.cell h3 (fun e => by have := hF _ e; dsimp only at this; omega), hm.cell h4 (fun e => by have := hF _ e; dsimp only at this; omega)⟩
                        · intro pp hp
                          simp only [List.mem_cons, List.not_mem_nil, or_false] at hp
                          rcases hp with rfl | rfl | rfl | rfl | rfl
                          all_goals
                            intro y y' F F' W W' h hi hm hap hF e _
                            simp only [insG] at h ⊢
                            rw [e]
                            exact votsR.mod h hm (fun b h1 h2 => hap b h2 h1)
                        · intro pp hp
                          simp only [List.mem_cons, List.not_mem_nil, or_false] at hp
                          rcases hp with rfl | rfl | rfl | rfl | rfl
                          all_goals
                            refine ⟨_, rfl, rfl, ?_⟩
                            intro y W Φ hSW hBW hd K hK
                          · clear hd
                            refine ⟨?_⟩
                            simp only [over, Act.put, List.getElem_toArray, List.getElem_cons_zero, List.getElem_cons_succ, List.map_cons, List.map_nil, List.foldl_cons, List.foldl_nil, List.setIfInBounds_toArray, List.set_cons_zero, List.set_cons_succ] at hK ⊢
                            go_simp
                            refine hK _ _ (fun b => b = W.heap.size) (Mod.of_below (by (repeat (first | exact Below.refl _ _ | assumption | refine Below.drew ?_ | refine balloc ?_ _ | refine bset ?_ (by simp; omega) _ | refine bset ?_ (by simp) _ | refine bstep ?_ (by assumption))))) (fun b hb => .inr (by first | omega | (dsimp only at hb; omega) | (simp; omega))) ?_
                            simp only [insG, updV]
                            refine ⟨World.ownsRow_lit (base := W0.heap.size) (e := 63) (size := 2) W #[] 0 hBW.size (by unfold maxLen; omega) rfl, ?_⟩
                            funext b
                            simp [Value.ownBlock, eq_comm]
                          · have g0 := (hd (0, 84) (by simp) (by kernel_rfl) (.inl (by simp [insC]))).2
                            clear hd
                            simp only [insG] at g0
                            refine ⟨?_⟩
                            have hsrc := HS1.out W hBW
                            refine step_appW W rfl (.tmp 84) (.tmp 87) rfl W0.heap.size (y 84) (Φ 0) [] rfl (.slice (some ⟨g, 0, none⟩) a cap) P1 rfl g0 (by rw [HL1.out]; exact hsrc) (by rw [HL1.out]; simp; omega) hBW.size ?_
                            intro v' w' hO hm hl
                            refine hK _ _ (fun b => v'.ownBlock = some b) (hm.mono (fun b hb => ⟨0, by simp [insC], hb⟩)) (fun b hb => (hl b hb).imp (fun h => ⟨0, by simp [insC], h⟩) (fun h => h)) ?_
                            simp only [insG, updV]
                            simpa using hO
                          · clear hd
                            obtain ⟨h1, h3, h4⟩ := hSW
                            refine ⟨?_⟩
                            simp only [over, Act.put, List.getElem_toArray, List.getElem_cons_zero, List.getElem_cons_succ, List.map_cons, List.map_nil, List.foldl_cons, List.foldl_nil, List.setIfInBounds_toArray, List.set_cons_zero, List.set_cons_succ] at hK ⊢
                            go_simp
                            refine hK _ _ (fun b => b = W.heap.size) (Mod.of_below (by (repeat (first | exact Below.refl _ _ | assumption | refine Below.drew ?_ | refine balloc ?_ _ | refine bset ?_ (by simp; omega) _ | refine bset ?_ (by simp) _ | refine bstep ?_ (by assumption))))) (fun b hb => .inr (by first | omega | (dsimp only at hb; omega) | (simp; omega))) ?_
                            simp only [insG, updV]
                            refine ⟨World.ownsRow_lit (base := W0.heap.size) (e := 63) (size := 2) W #[.int .i64 v.bal, .int .i64 v.val] 1 hBW.size (by unfold maxLen; omega) rfl, ?_⟩
                            funext b
                            simp [Value.ownBlock, eq_comm]
                          · have g0 := (hd (4, 88) (by simp) (by kernel_rfl) (.inl (by simp [insC]))).2
                            have g1 := (hd (6, 90) (by simp) (by kernel_rfl) (.inr (by simp [insC]))).2
                            clear hd
                            simp only [insG] at g0 g1
                            refine ⟨?_⟩
                            refine step_appW W rfl (.tmp 88) (.tmp 90) rfl W0.heap.size (y 88) (Φ 4) P1 rfl (y 90) [v] rfl g0 (votsAny_own g1.1) (by rw [HL1.out]; simp; omega) hBW.size ?_
                            intro v' w' hO hm hl
                            refine hK _ _ (fun b => v'.ownBlock = some b) (hm.mono (fun b hb => ⟨4, by simp [insC], hb⟩)) (fun b hb => (hl b hb).imp (fun h => ⟨4, by simp [insC], h⟩) (fun h => h)) ?_
                            simp only [insG, updV]
                            simpa using hO
                          · have g0 := (hd (7, 91) (by simp) (by kernel_rfl) (.inl (by simp [insC]))).2
                            clear hd
                            simp only [insG] at g0
                            refine ⟨?_⟩
                            have hsrc := HS2.out W hBW (cap - a)
                            refine step_appW W rfl (.tmp 91) (.tmp 94) rfl W0.heap.size (y 91) (Φ 7) (P1 ++ [v]) rfl (.slice (some ⟨g, a * 2, none⟩) (L - a) (cap - a)) P2 rfl g0 (by rw [HL2.out]; exact hsrc) (by rw [List.length_append, HL1.out, HL2.out]; simp; omega) hBW.size ?_
                            intro v' w' hO hm hl
                            refine hK _ _ (fun b => v'.ownBlock = some b) (hm.mono (fun b hb => ⟨7, by simp [insC], hb⟩)) (fun b hb => (hl b hb).imp (fun h => ⟨7, by simp [insC], h⟩) (fun h => h)) ?_
                            simp only [insG, updV]
                            simpa using hO
                        · refine ⟨_, rfl, ?_⟩
                          intro y W Φ hSW hBW hd hap K hK
                          have g11 := (hd (11, 95) (by simp) (by simp [insC])).2
                          clear hd hap
                          simp only [insG] at g11
                          have g11' := g11.1
                          have HN9 : Hid ((P1 ++ [v] ++ P2).length = L + 1) := by rw [Hid, List.length_append, List.length_append, HL1.out, HL2.out]; simp <;> omega
                          rw [HN9.out] at g11'
                          clear g11
                          have hform : ∃ g9 c9, y 95 = .slice (some ⟨g9, 0, none⟩) (L + 1) c9 := by
                            rcases g11'.2 with ⟨_, h⟩ | ⟨g9, c9, _, h, _⟩
                            · omega
                            · exact ⟨g9, c9, h⟩
                          obtain ⟨g9, c9, e9⟩ := hform
                          have hBw : Below w.heap.size w W := bstep hB3 hBW
                          refine ⟨?_⟩
                          simp only [over, Act.put, List.getElem_toArray, List.getElem_cons_zero, List.getElem_cons_succ, List.map_cons, List.map_nil, List.foldl_cons, List.foldl_nil, List.setIfInBounds_toArray, List.set_cons_zero, List.set_cons_succ]
                          simp only [e9] at g11' ⊢
                          go_simp
                          refine hK _ _ ?_
                          clear hK K hSW
                          refine NoPanic.normal ?_
                          have hOf : W.ownsRow w.heap.size 63 2 (.slice (some ⟨g9, 0, none⟩) (P1 ++ [v] ++ P2).length c9) (P1 ++ [v] ++ P2).length (votsC (P1 ++ [v] ++ P2)) := by rw [HN9.out]; exact owns_base g11' hwW
                          clear g11' hBW hB3 r0 r1 hS hYt hOY
                          go_wp2
                          exact ⟨⟨k + 1, P1 ++ [v] ++ P2, g9, c9, by omega, by go_num, by rw [HN9.out], hOf, HInv.out, by rw [HN9.out]; omega, hBw⟩, by simp [intOf]; omega⟩
                      · have heq : ∀ w, (binOp .neq 63 (.agg #[.int .i64 p.bal, .int .i64 p.val]) (.agg #[.int .i64 v.bal, .int .i64 v.val])).run Tryz.prog w = .ok (.bool false) w := fun w => by rw [neqVot, he]; rfl
                        have HA3 : Hid (v ∈ ys) := by have h := vot_eq.1 he; rw [HP.out] at h; rw [← h]; exact mem_getD (by rw [HLn.out]; omega)
                        clear he
                        go_wp2
                        refine wp_region_noPanic ?_
                        refine region_upto (fun W => Below wt.heap.size wt W ∧ (W.cell? ⟨B, 0, none⟩ = some (.int .i64 v.bal) ∧ W.cell? ⟨B, 1, none⟩ = some (.int .i64 v.val)) ∧ W.cell? ⟨g, a * 2, none⟩ = some (.int .i64 p.bal) ∧ W.cell? ⟨g, a * 2 + 1, none⟩ = some (.int .i64 p.val)) 19 (by kernel_rfl) ⟨by (repeat (first | exact Below.refl _ _ | assumption | refine Below.drew ?_ | refine balloc ?_ _ | refine bset ?_ (by simp; omega) _ | refine bset ?_ (by simp) _ | refine bstep ?_ (by assumption))), ⟨cell_keep (by (repeat (first | exact Below.refl _ _ | assumption | refine Below.drew ?_ | refine balloc ?_ _ | refine bset ?_ (by simp; omega) _ | refine bset ?_ (by simp) _ | refine bstep ?_ (by assumption)))) r0, cell_keep (by (repeat (first | exact Below.refl _ _ | assumption | refine Below.drew ?_ | refine balloc ?_ _ | refine bset ?_ (by simp; omega) _ | refine bset ?_ (by simp) _ | refine bstep ?_ (by assumption)))) r1⟩, cell_keep (by (repeat (first | exact Below.refl _ _ | assumption | refine Below.drew ?_ | refine balloc ?_ _ | refine bset ?_ (by simp; omega) _ | refine bset ?_ (by simp) _ | refine bstep ?_ (by assumption)))) p0, cell_keep (by (repeat (first | exact Below.refl _ _ | assumption | refine Below.drew ?_ | refine balloc ?_ _ | refine bset ?_ (by simp; omega) _ | refine bset ?_ (by simp) _ | refine bstep ?_ (by assumption)))) p1⟩ (fun hS => ?_)
                        refine upto_takeN (i := 0) (v := ?_) rfl (by kernel_rfl) (by kernel_rfl) (by kernel_rfl) (by kernel_rfl) (fun _ _ _ h => h) (by rfl) hS ?_ ?_
                        rotate_left
                        · intro wS hSw
                          try dsimp only at hSw
                          first | (go_simp; done) | (go_simp; with_reducible rfl)
                        try simp only [Act.put, List.getElem_toArray, List.getElem_cons_zero, List.getElem_cons_succ, List.setIfInBounds_toArray, List.set_cons_zero, List.set_cons_succ]
                        refine upto_takeN (i := 1) (v := ?_) rfl (by kernel_rfl) (by kernel_rfl) (by kernel_rfl) (by kernel_rfl) (fun _ _ _ h => h) (by rfl) hS ?_ ?_
                        rotate_left
                        · intro wS hSw
                          try dsimp only at hSw
                          first | (go_simp; done) | (go_simp; with_reducible rfl)
                        try simp only [Act.put, List.getElem_toArray, List.getElem_cons_zero, List.getElem_cons_succ, List.setIfInBounds_toArray, List.set_cons_zero, List.set_cons_succ]
                        refine upto_takeN (i := 2) (v := ?_) rfl (by kernel_rfl) (by kernel_rfl) (by kernel_rfl) (by kernel_rfl) (fun _ _ _ h => h) (by rfl) hS ?_ ?_
                        rotate_left
                        · intro wS hSw
                          try dsimp only at hSw
                          first | (go_simp; done) | (go_simp; with_reducible rfl)
                        try simp only [Act.put, List.getElem_toArray, List.getElem_cons_zero, List.getElem_cons_succ, List.setIfInBounds_toArray, List.set_cons_zero, List.set_cons_succ]
                        refine upto_step (i := 3) (by kernel_rfl) rfl ?_
                        intro K hK
                        go_simp
                        refine (l8Quorum_any _ h19 _).mono ?_
                        rintro e w5 ⟨rfl, rfl⟩
                        refine hK _ _ (fun _ => hS) ?_
                        clear hK K
                        try simp only [Act.put, List.getElem_toArray, List.getElem_cons_zero, List.getElem_cons_succ, List.setIfInBounds_toArray, List.set_cons_zero, List.set_cons_succ]
                        rw [HQ.out]
                        refine upto_takeN (i := 4) (v := (.bool true)) rfl (by kernel_rfl) (by kernel_rfl) (by kernel_rfl) (by kernel_rfl) (fun _ _ _ h => h) (by rfl) hS ?_ ?_
                        · intro wS hSw
                          try dsimp only at hSw
                          go_simp
                        try simp only [Act.put, List.getElem_toArray, List.getElem_cons_zero, List.getElem_cons_succ, List.setIfInBounds_toArray, List.set_cons_zero, List.set_cons_succ]
                        refine upto_takeN (i := 5) (v := (.bool true)) rfl (by kernel_rfl) (by kernel_rfl) (by kernel_rfl) (by kernel_rfl) (fun _ _ _ h => h) (by rfl) hS ?_ ?_
                        · intro wS hSw
                          try dsimp only at hSw
                          go_simp
                        try simp only [Act.put, List.getElem_toArray, List.getElem_cons_zero, List.getElem_cons_succ, List.setIfInBounds_toArray, List.set_cons_zero, List.set_cons_succ]
                        refine upto_takeN (i := 6) (v := ?_) rfl (by kernel_rfl) (by kernel_rfl) (by kernel_rfl) (by kernel_rfl) (fun _ _ _ h => h) (by rfl) hS ?_ ?_
                        rotate_left
                        · intro wS hSw
                          try dsimp only at hSw
                          first | (go_simp; done) | (go_simp; with_reducible rfl)
                        try simp only [Act.put, List.getElem_toArray, List.getElem_cons_zero, List.getElem_cons_succ, List.setIfInBounds_toArray, List.set_cons_zero, List.set_cons_succ]
                        refine upto_takeN (i := 7) (v := ?_) rfl (by kernel_rfl) (by kernel_rfl) (by kernel_rfl) (by kernel_rfl) (fun _ _ _ h => h) (by rfl) hS ?_ ?_
                        rotate_left
                        · intro wS hSw
                          try dsimp only at hSw
                          first | (go_simp; done) | (go_simp; with_reducible rfl)
                        try simp only [Act.put, List.getElem_toArray, List.getElem_cons_zero, List.getElem_cons_succ, List.setIfInBounds_toArray, List.set_cons_zero, List.set_cons_succ]
                        refine upto_takeN (i := 8) (v := ?_) rfl (by kernel_rfl) (by kernel_rfl) (by kernel_rfl) (by kernel_rfl) (fun _ _ _ h => h) (by rfl) hS ?_ ?_
                        rotate_left
                        · intro wS hSw
                          try dsimp only at hSw
                          first | (go_simp; done) | (go_simp; with_reducible rfl)
                        try simp only [Act.put, List.getElem_toArray, List.getElem_cons_zero, List.getElem_cons_succ, List.setIfInBounds_toArray, List.set_cons_zero, List.set_cons_succ]
                        refine upto_takeN (i := 9) (v := (.bool false)) rfl (by kernel_rfl) (by kernel_rfl) (by kernel_rfl) (by kernel_rfl) (fun _ _ _ h => h) (by rfl) hS ?_ ?_
                        · intro wS hSw
                          try dsimp only at hSw
                          go_simp
                        try simp only [Act.put, List.getElem_toArray, List.getElem_cons_zero, List.getElem_cons_succ, List.setIfInBounds_toArray, List.set_cons_zero, List.set_cons_succ]
                        refine upto_takeN (i := 10) (v := (.bool false)) rfl (by kernel_rfl) (by kernel_rfl) (by kernel_rfl) (by kernel_rfl) (fun _ _ _ h => h) (by rfl) hS ?_ ?_
                        · intro wS hSw
                          try dsimp only at hSw
                          go_simp
                        try simp only [Act.put, List.getElem_toArray, List.getElem_cons_zero, List.getElem_cons_succ, List.setIfInBounds_toArray, List.set_cons_zero, List.set_cons_succ]
                        refine upto_takeN (i := 11) (v := ?_) rfl (by kernel_rfl) (by kernel_rfl) (by kernel_rfl) (by kernel_rfl) (fun _ _ _ h => h) (by rfl) hS ?_ ?_
                        rotate_left
                        · intro wS hSw
                          try dsimp only at hSw
                          first | (go_simp; done) | (go_simp; with_reducible rfl)
                        try simp only [Act.put, List.getElem_toArray, List.getElem_cons_zero, List.getElem_cons_succ, List.setIfInBounds_toArray, List.set_cons_zero, List.set_cons_succ]
                        refine upto_takeN (i := 12) (v := ?_) rfl (by kernel_rfl) (by kernel_rfl) (by kernel_rfl) (by kernel_rfl) (fun _ _ _ h => h) (by rfl) hS ?_ ?_
                        rotate_left
                        · intro wS hSw
                          try dsimp only at hSw
                          first | (go_simp; done) | (go_simp; with_reducible rfl)
                        try simp only [Act.put, List.getElem_toArray, List.getElem_cons_zero, List.getElem_cons_succ, List.setIfInBounds_toArray, List.set_cons_zero, List.set_cons_succ]
                        refine upto_takeN (i := 13) (v := ?_) rfl (by kernel_rfl) (by kernel_rfl) (by kernel_rfl) (by kernel_rfl) (fun _ _ _ h => h) (by rfl) hS ?_ ?_
                        rotate_left
                        · intro wS hSw
                          try dsimp only at hSw
                          first | (go_simp; done) | (go_simp; with_reducible rfl)
                        try simp only [Act.put, List.getElem_toArray, List.getElem_cons_zero, List.getElem_cons_succ, List.setIfInBounds_toArray, List.set_cons_zero, List.set_cons_succ]
                        refine upto_takeN (i := 14) (v := ?_) rfl (by kernel_rfl) (by kernel_rfl) (by kernel_rfl) (by kernel_rfl) (fun _ _ _ h => h) (by rfl) hS ?_ ?_
                        rotate_left
                        · intro wS hSw
                          try dsimp only at hSw
                          first | (go_simp; done) | (go_simp; with_reducible rfl)
                        try simp only [Act.put, List.getElem_toArray, List.getElem_cons_zero, List.getElem_cons_succ, List.setIfInBounds_toArray, List.set_cons_zero, List.set_cons_succ]
                        refine upto_takeN (i := 15) (v := ?_) rfl (by kernel_rfl) (by kernel_rfl) (by kernel_rfl) (by kernel_rfl) (fun _ _ _ h => h) (by rfl) hS ?_ ?_
                        rotate_left
                        · intro wS hSw
                          try dsimp only at hSw
                          first | (go_simp; done) | (go_simp; with_reducible rfl)
                        try simp only [Act.put, List.getElem_toArray, List.getElem_cons_zero, List.getElem_cons_succ, List.setIfInBounds_toArray, List.set_cons_zero, List.set_cons_succ]
                        refine upto_takeN (i := 16) (v := (.bool false)) rfl (by kernel_rfl) (by kernel_rfl) (by kernel_rfl) (by kernel_rfl) (fun _ _ _ h => h) (by rfl) hS ?_ ?_
                        · intro wS hSw
                          try dsimp only at hSw
                          go_simp
                        try simp only [Act.put, List.getElem_toArray, List.getElem_cons_zero, List.getElem_cons_succ, List.setIfInBounds_toArray, List.set_cons_zero, List.set_cons_succ]
                        refine upto_takeN (i := 17) (v := (.bool false)) rfl (by kernel_rfl) (by kernel_rfl) (by kernel_rfl) (by kernel_rfl) (fun _ _ _ h => h) (by rfl) hS ?_ ?_
                        · intro wS hSw
                          try dsimp only at hSw
                          go_simp
                        try simp only [Act.put, List.getElem_toArray, List.getElem_cons_zero, List.getElem_cons_succ, List.setIfInBounds_toArray, List.set_cons_zero, List.set_cons_succ]
                        refine upto_takeN (i := 18) (v := (.bool false)) rfl (by kernel_rfl) (by kernel_rfl) (by kernel_rfl) (by kernel_rfl) (fun _ _ _ h => h) (by rfl) hS ?_ ?_
                        · intro wS hSw
                          try dsimp only at hSw
                          go_simp
                        try simp only [Act.put, List.getElem_toArray, List.getElem_cons_zero, List.getElem_cons_succ, List.setIfInBounds_toArray, List.set_cons_zero, List.set_cons_succ]
                        refine upto_done (by kernel_rfl) ?_
                        refine NoPanic.normal ?_
                        clear hS
                        clear p0 p1 heq
                        have hBt : Below w.heap.size w wt.drew := Below.drew (bstep hBY hYt)
                        have hOt := owns_below hOY (Below.drew hYt)
                        clear r0 r1
                        go_wp2
                        exact ⟨⟨k + 1, ys, g, cap, by omega, by go_num, by rw [HLn.out], hOt, inv_skip HI.out HB.out.1 HB.out.2.1 HB.out.2.2 (.inr HA3.out), by rw [HLn.out]; omega, hBt⟩, by simp [intOf]; omega⟩
                    · have hd : decide (quoV (n : Int) ≤ (c : Int)) = false := by simp [hch]
                      have HCh : Hid (¬ isCh D v) := fun h => hch (by have h' : _ ≤ _ := h; rw [HN.out, ← HCn.out] at h'; exact h')
                      obtain ⟨qq, hqq⟩ : ∃ q, q = quoV (n : Int) := ⟨_, rfl⟩
                      have HQ : Hid (quoV (n : Int) = qq) := hqq.symm
                      rw [← hqq] at hch hd
                      clear hqq
                      have hel : ((a : Int) == (L : Int)) = false := by simp; omega
                      go_wp2
                      refine wp_region_noPanic ?_
                      refine region_upto (fun W => Below wt.heap.size wt W ∧ (W.cell? ⟨B, 0, none⟩ = some (.int .i64 v.bal) ∧ W.cell? ⟨B, 1, none⟩ = some (.int .i64 v.val)) ∧ W.cell? ⟨g, a * 2, none⟩ = some (.int .i64 p.bal) ∧ W.cell? ⟨g, a * 2 + 1, none⟩ = some (.int .i64 p.val)) 19 (by kernel_rfl) ⟨by (repeat (first | exact Below.refl _ _ | assumption | refine Below.drew ?_ | refine balloc ?_ _ | refine bset ?_ (by simp; omega) _ | refine bset ?_ (by simp) _ | refine bstep ?_ (by assumption))), ⟨cell_keep (by (repeat (first | exact Below.refl _ _ | assumption | refine Below.drew ?_ | refine balloc ?_ _ | refine bset ?_ (by simp; omega) _ | refine bset ?_ (by simp) _ | refine bstep ?_ (by assumption)))) r0, cell_keep (by (repeat (first | exact Below.refl _ _ | assumption | refine Below.drew ?_ | refine balloc ?_ _ | refine bset ?_ (by simp; omega) _ | refine bset ?_ (by simp) _ | refine bstep ?_ (by assumption)))) r1⟩, cell_keep (by (repeat (first | exact Below.refl _ _ | assumption | refine Below.drew ?_ | refine balloc ?_ _ | refine bset ?_ (by simp; omega) _ | refine bset ?_ (by simp) _ | refine bstep ?_ (by assumption)))) p0, cell_keep (by (repeat (first | exact Below.refl _ _ | assumption | refine Below.drew ?_ | refine balloc ?_ _ | refine bset ?_ (by simp; omega) _ | refine bset ?_ (by simp) _ | refine bstep ?_ (by assumption)))) p1⟩ (fun hS => ?_)
                      refine upto_takeN (i := 0) (v := ?_) rfl (by kernel_rfl) (by kernel_rfl) (by kernel_rfl) (by kernel_rfl) (fun _ _ _ h => h) (by rfl) hS ?_ ?_
                      rotate_left
                      · intro wS hSw
                        try dsimp only at hSw
                        first | (go_simp; done) | (go_simp; with_reducible rfl)
                      try simp only [Act.put, List.getElem_toArray, List.getElem_cons_zero, List.getElem_cons_succ, List.setIfInBounds_toArray, List.set_cons_zero, List.set_cons_succ]
                      refine upto_takeN (i := 1) (v := ?_) rfl (by kernel_rfl) (by kernel_rfl) (by kernel_rfl) (by kernel_rfl) (fun _ _ _ h => h) (by rfl) hS ?_ ?_
                      rotate_left
                      · intro wS hSw
                        try dsimp only at hSw
                        first | (go_simp; done) | (go_simp; with_reducible rfl)
                      try simp only [Act.put, List.getElem_toArray, List.getElem_cons_zero, List.getElem_cons_succ, List.setIfInBounds_toArray, List.set_cons_zero, List.set_cons_succ]
                      refine upto_takeN (i := 2) (v := ?_) rfl (by kernel_rfl) (by kernel_rfl) (by kernel_rfl) (by kernel_rfl) (fun _ _ _ h => h) (by rfl) hS ?_ ?_
                      rotate_left
                      · intro wS hSw
                        try dsimp only at hSw
                        first | (go_simp; done) | (go_simp; with_reducible rfl)
                      try simp only [Act.put, List.getElem_toArray, List.getElem_cons_zero, List.getElem_cons_succ, List.setIfInBounds_toArray, List.set_cons_zero, List.set_cons_succ]
                      refine upto_step (i := 3) (by kernel_rfl) rfl ?_
                      intro K hK
                      go_simp
                      refine (l8Quorum_any _ h19 _).mono ?_
                      rintro e w5 ⟨rfl, rfl⟩
                      refine hK _ _ (fun _ => hS) ?_
                      clear hK K
                      try simp only [Act.put, List.getElem_toArray, List.getElem_cons_zero, List.getElem_cons_succ, List.setIfInBounds_toArray, List.set_cons_zero, List.set_cons_succ]
                      rw [HQ.out]
                      refine upto_takeN (i := 4) (v := (.bool false)) rfl (by kernel_rfl) (by kernel_rfl) (by kernel_rfl) (by kernel_rfl) (fun _ _ _ h => h) (by rfl) hS ?_ ?_
                      · intro wS hSw
                        try dsimp only at hSw
                        go_simp
                      try simp only [Act.put, List.getElem_toArray, List.getElem_cons_zero, List.getElem_cons_succ, List.setIfInBounds_toArray, List.set_cons_zero, List.set_cons_succ]
                      refine upto_takeN (i := 5) (v := (.bool false)) rfl (by kernel_rfl) (by kernel_rfl) (by kernel_rfl) (by kernel_rfl) (fun _ _ _ h => h) (by rfl) hS ?_ ?_
                      · intro wS hSw
                        try dsimp only at hSw
                        go_simp
                      try simp only [Act.put, List.getElem_toArray, List.getElem_cons_zero, List.getElem_cons_succ, List.setIfInBounds_toArray, List.set_cons_zero, List.set_cons_succ]
                      refine upto_skipU (i := 6) rfl (by kernel_rfl) (by kernel_rfl) (by kernel_rfl) (by kernel_rfl) (fun _ _ _ h => h) (by rfl) hS ?_
                      try simp only [Act.put, List.getElem_toArray, List.getElem_cons_zero, List.getElem_cons_succ, List.setIfInBounds_toArray, List.set_cons_zero, List.set_cons_succ]
                      refine upto_skipU (i := 7) rfl (by kernel_rfl) (by kernel_rfl) (by kernel_rfl) (by kernel_rfl) (fun _ _ _ h => h) (by rfl) hS ?_
                      try simp only [Act.put, List.getElem_toArray, List.getElem_cons_zero, List.getElem_cons_succ, List.setIfInBounds_toArray, List.set_cons_zero, List.set_cons_succ]
                      refine upto_skipU (i := 8) rfl (by kernel_rfl) (by kernel_rfl) (by kernel_rfl) (by kernel_rfl) (fun _ _ _ h => h) (by rfl) hS ?_
                      try simp only [Act.put, List.getElem_toArray, List.getElem_cons_zero, List.getElem_cons_succ, List.setIfInBounds_toArray, List.set_cons_zero, List.set_cons_succ]
                      refine upto_skipU (i := 9) rfl (by kernel_rfl) (by kernel_rfl) (by kernel_rfl) (by kernel_rfl) (fun _ _ _ h => h) (by rfl) hS ?_
                      try simp only [Act.put, List.getElem_toArray, List.getElem_cons_zero, List.getElem_cons_succ, List.setIfInBounds_toArray, List.set_cons_zero, List.set_cons_succ]
                      refine upto_skipU (i := 10) rfl (by kernel_rfl) (by kernel_rfl) (by kernel_rfl) (by kernel_rfl) (fun _ _ _ h => h) (by rfl) hS ?_
                      try simp only [Act.put, List.getElem_toArray, List.getElem_cons_zero, List.getElem_cons_succ, List.setIfInBounds_toArray, List.set_cons_zero, List.set_cons_succ]
                      refine upto_skipU (i := 11) rfl (by kernel_rfl) (by kernel_rfl) (by kernel_rfl) (by kernel_rfl) (fun _ _ _ h => h) (by rfl) hS ?_
                      try simp only [Act.put, List.getElem_toArray, List.getElem_cons_zero, List.getElem_cons_succ, List.setIfInBounds_toArray, List.set_cons_zero, List.set_cons_succ]
                      refine upto_skipU (i := 12) rfl (by kernel_rfl) (by kernel_rfl) (by kernel_rfl) (by kernel_rfl) (fun _ _ _ h => h) (by rfl) hS ?_
                      try simp only [Act.put, List.getElem_toArray, List.getElem_cons_zero, List.getElem_cons_succ, List.setIfInBounds_toArray, List.set_cons_zero, List.set_cons_succ]
                      refine upto_skipU (i := 13) rfl (by kernel_rfl) (by kernel_rfl) (by kernel_rfl) (by kernel_rfl) (fun _ _ _ h => h) (by rfl) hS ?_
                      try simp only [Act.put, List.getElem_toArray, List.getElem_cons_zero, List.getElem_cons_succ, List.setIfInBounds_toArray, List.set_cons_zero, List.set_cons_succ]
                      refine upto_skipU (i := 14) rfl (by kernel_rfl) (by kernel_rfl) (by kernel_rfl) (by kernel_rfl) (fun _ _ _ h => h) (by rfl) hS ?_
                      try simp only [Act.put, List.getElem_toArray, List.getElem_cons_zero, List.getElem_cons_succ, List.setIfInBounds_toArray, List.set_cons_zero, List.set_cons_succ]
                      refine upto_skipU (i := 15) rfl (by kernel_rfl) (by kernel_rfl) (by kernel_rfl) (by kernel_rfl) (fun _ _ _ h => h) (by rfl) hS ?_
                      try simp only [Act.put, List.getElem_toArray, List.getElem_cons_zero, List.getElem_cons_succ, List.setIfInBounds_toArray, List.set_cons_zero, List.set_cons_succ]
                      refine upto_skipU (i := 16) rfl (by kernel_rfl) (by kernel_rfl) (by kernel_rfl) (by kernel_rfl) (fun _ _ _ h => h) (by rfl) hS ?_
                      try simp only [Act.put, List.getElem_toArray, List.getElem_cons_zero, List.getElem_cons_succ, List.setIfInBounds_toArray, List.set_cons_zero, List.set_cons_succ]
                      refine upto_skipU (i := 17) rfl (by kernel_rfl) (by kernel_rfl) (by kernel_rfl) (by kernel_rfl) (fun _ _ _ h => h) (by rfl) hS ?_
                      try simp only [Act.put, List.getElem_toArray, List.getElem_cons_zero, List.getElem_cons_succ, List.setIfInBounds_toArray, List.set_cons_zero, List.set_cons_succ]
                      refine upto_takeN (i := 18) (v := (.bool false)) rfl (by kernel_rfl) (by kernel_rfl) (by kernel_rfl) (by kernel_rfl) (fun _ _ _ h => h) (by rfl) hS ?_ ?_
                      · intro wS hSw
                        try dsimp only at hSw
                        go_simp
                      try simp only [Act.put, List.getElem_toArray, List.getElem_cons_zero, List.getElem_cons_succ, List.setIfInBounds_toArray, List.set_cons_zero, List.set_cons_succ]
                      refine upto_done (by kernel_rfl) ?_
                      refine NoPanic.normal ?_
                      clear hS
                      clear p0 p1
                      have hBt : Below w.heap.size w wt.drew := Below.drew (bstep hBY hYt)
                      have hOt := owns_below hOY (Below.drew hYt)
                      clear r0 r1
                      go_wp2
                      exact ⟨⟨k + 1, ys, g, cap, by omega, by go_num, by rw [HLn.out], hOt, inv_skip HI.out HB.out.1 HB.out.2.1 HB.out.2.2 (.inl HCh.out), by rw [HLn.out]; omega, hBt⟩, by simp [intOf]; omega⟩
                · have haL' : a = L := by omega
                  have hd1 : decide ((a : Int) < (L : Int)) = false := by simp; omega
                  go_wp2
                  go_quiet (fail)
                  go_wp2
                  replace r0 := cell_keep (bdrewN (Below.refl _ wr) nq) r0
                  replace r1 := cell_keep (bdrewN (Below.refl _ wr) nq) r1
                  replace hYt := bdrewN hYt nq
                  generalize wr.drewN nq = wt at *
                  clear hd1
                  by_cases hch : quoV (n : Int) ≤ (c : Int)
                  · have hd : decide (quoV (n : Int) ≤ (c : Int)) = true := by simp [hch]
                    have HCh : Hid (isCh D v) := by show _ ≤ _; rw [HN.out, ← HCn.out]; exact hch
                    obtain ⟨qq, hqq⟩ : ∃ q, q = quoV (n : Int) := ⟨_, rfl⟩
                    have HQ : Hid (quoV (n : Int) = qq) := hqq.symm
                    rw [← hqq] at hch hd
                    clear hqq
                    have hel : ((a : Int) == (L : Int)) = true := by simp; omega
                    go_wp2
                    refine wp_region_noPanic ?_
                    refine region_upto (fun W => Below wt.heap.size wt W ∧ (W.cell? ⟨B, 0, none⟩ = some (.int .i64 v.bal) ∧ W.cell? ⟨B, 1, none⟩ = some (.int .i64 v.val))) 19 (by kernel_rfl) ⟨by (repeat (first | exact Below.refl _ _ | assumption | refine Below.drew ?_ | refine balloc ?_ _ | refine bset ?_ (by simp; omega) _ | refine bset ?_ (by simp) _ | refine bstep ?_ (by assumption))), ⟨cell_keep (by (repeat (first | exact Below.refl _ _ | assumption | refine Below.drew ?_ | refine balloc ?_ _ | refine bset ?_ (by simp; omega) _ | refine bset ?_ (by simp) _ | refine bstep ?_ (by assumption)))) r0, cell_keep (by (repeat (first | exact Below.refl _ _ | assumption | refine Below.drew ?_ | refine balloc ?_ _ | refine bset ?_ (by simp; omega) _ | refine bset ?_ (by simp) _ | refine bstep ?_ (by assumption)))) r1⟩⟩ (fun hS => ?_)
                    refine upto_takeN (i := 0) (v := ?_) rfl (by kernel_rfl) (by kernel_rfl) (by kernel_rfl) (by kernel_rfl) (fun _ _ _ h => h) (by rfl) hS ?_ ?_
                    rotate_left
                    · intro wS hSw
                      try dsimp only at hSw
                      first | (go_simp; done) | (go_simp; with_reducible rfl)
                    try simp only [Act.put, List.getElem_toArray, List.getElem_cons_zero, List.getElem_cons_succ, List.setIfInBounds_toArray, List.set_cons_zero, List.set_cons_succ]
                    refine upto_takeN (i := 1) (v := ?_) rfl (by kernel_rfl) (by kernel_rfl) (by kernel_rfl) (by kernel_rfl) (fun _ _ _ h => h) (by rfl) hS ?_ ?_
                    rotate_left
                    · intro wS hSw
                      try dsimp only at hSw
                      first | (go_simp; done) | (go_simp; with_reducible rfl)
                    try simp only [Act.put, List.getElem_toArray, List.getElem_cons_zero, List.getElem_cons_succ, List.setIfInBounds_toArray, List.set_cons_zero, List.set_cons_succ]
                    refine upto_takeN (i := 2) (v := ?_) rfl (by kernel_rfl) (by kernel_rfl) (by kernel_rfl) (by kernel_rfl) (fun _ _ _ h => h) (by rfl) hS ?_ ?_
                    rotate_left
                    · intro wS hSw
                      try dsimp only at hSw
                      first | (go_simp; done) | (go_simp; with_reducible rfl)
                    try simp only [Act.put, List.getElem_toArray, List.getElem_cons_zero, List.getElem_cons_succ, List.setIfInBounds_toArray, List.set_cons_zero, List.set_cons_succ]
                    refine upto_step (i := 3) (by kernel_rfl) rfl ?_
                    intro K hK
                    go_simp
                    refine (l8Quorum_any _ h19 _).mono ?_
                    rintro e w5 ⟨rfl, rfl⟩
                    refine hK _ _ (fun _ => hS) ?_
                    clear hK K
                    try simp only [Act.put, List.getElem_toArray, List.getElem_cons_zero, List.getElem_cons_succ, List.setIfInBounds_toArray, List.set_cons_zero, List.set_cons_succ]
                    rw [HQ.out]
                    refine upto_takeN (i := 4) (v := (.bool true)) rfl (by kernel_rfl) (by kernel_rfl) (by kernel_rfl) (by kernel_rfl) (fun _ _ _ h => h) (by rfl) hS ?_ ?_
                    · intro wS hSw
                      try dsimp only at hSw
                      go_simp
                    try simp only [Act.put, List.getElem_toArray, List.getElem_cons_zero, List.getElem_cons_succ, List.setIfInBounds_toArray, List.set_cons_zero, List.set_cons_succ]
                    refine upto_takeN (i := 5) (v := (.bool true)) rfl (by kernel_rfl) (by kernel_rfl) (by kernel_rfl) (by kernel_rfl) (fun _ _ _ h => h) (by rfl) hS ?_ ?_
                    · intro wS hSw
                      try dsimp only at hSw
                      go_simp
                    try simp only [Act.put, List.getElem_toArray, List.getElem_cons_zero, List.getElem_cons_succ, List.setIfInBounds_toArray, List.set_cons_zero, List.set_cons_succ]
                    refine upto_takeN (i := 6) (v := ?_) rfl (by kernel_rfl) (by kernel_rfl) (by kernel_rfl) (by kernel_rfl) (fun _ _ _ h => h) (by rfl) hS ?_ ?_
                    rotate_left
                    · intro wS hSw
                      try dsimp only at hSw
                      first | (go_simp; done) | (go_simp; with_reducible rfl)
                    try simp only [Act.put, List.getElem_toArray, List.getElem_cons_zero, List.getElem_cons_succ, List.setIfInBounds_toArray, List.set_cons_zero, List.set_cons_succ]
                    refine upto_takeN (i := 7) (v := ?_) rfl (by kernel_rfl) (by kernel_rfl) (by kernel_rfl) (by kernel_rfl) (fun _ _ _ h => h) (by rfl) hS ?_ ?_
                    rotate_left
                    · intro wS hSw
                      try dsimp only at hSw
                      first | (go_simp; done) | (go_simp; with_reducible rfl)
                    try simp only [Act.put, List.getElem_toArray, List.getElem_cons_zero, List.getElem_cons_succ, List.setIfInBounds_toArray, List.set_cons_zero, List.set_cons_succ]
                    refine upto_takeN (i := 8) (v := ?_) rfl (by kernel_rfl) (by kernel_rfl) (by kernel_rfl) (by kernel_rfl) (fun _ _ _ h => h) (by rfl) hS ?_ ?_
                    rotate_left
                    · intro wS hSw
                      try dsimp only at hSw
                      first | (go_simp; done) | (go_simp; with_reducible rfl)
                    try simp only [Act.put, List.getElem_toArray, List.getElem_cons_zero, List.getElem_cons_succ, List.setIfInBounds_toArray, List.set_cons_zero, List.set_cons_succ]
                    refine upto_takeN (i := 9) (v := (.bool true)) rfl (by kernel_rfl) (by kernel_rfl) (by kernel_rfl) (by kernel_rfl) (fun _ _ _ h => h) (by rfl) hS ?_ ?_
                    · intro wS hSw
                      try dsimp only at hSw
                      go_simp
                    try simp only [Act.put, List.getElem_toArray, List.getElem_cons_zero, List.getElem_cons_succ, List.setIfInBounds_toArray, List.set_cons_zero, List.set_cons_succ]
                    refine upto_takeN (i := 10) (v := (.bool true)) rfl (by kernel_rfl) (by kernel_rfl) (by kernel_rfl) (by kernel_rfl) (fun _ _ _ h => h) (by rfl) hS ?_ ?_
                    · intro wS hSw
                      try dsimp only at hSw
                      go_simp
                    try simp only [Act.put, List.getElem_toArray, List.getElem_cons_zero, List.getElem_cons_succ, List.setIfInBounds_toArray, List.set_cons_zero, List.set_cons_succ]
                    refine upto_skipU (i := 11) rfl (by kernel_rfl) (by kernel_rfl) (by kernel_rfl) (by kernel_rfl) (fun _ _ _ h => h) (by rfl) hS ?_
                    try simp only [Act.put, List.getElem_toArray, List.getElem_cons_zero, List.getElem_cons_succ, List.setIfInBounds_toArray, List.set_cons_zero, List.set_cons_succ]
                    refine upto_skipU (i := 12) rfl (by kernel_rfl) (by kernel_rfl) (by kernel_rfl) (by kernel_rfl) (fun _ _ _ h => h) (by rfl) hS ?_
                    try simp only [Act.put, List.getElem_toArray, List.getElem_cons_zero, List.getElem_cons_succ, List.setIfInBounds_toArray, List.set_cons_zero, List.set_cons_succ]
                    refine upto_skipU (i := 13) rfl (by kernel_rfl) (by kernel_rfl) (by kernel_rfl) (by kernel_rfl) (fun _ _ _ h => h) (by rfl) hS ?_
                    try simp only [Act.put, List.getElem_toArray, List.getElem_cons_zero, List.getElem_cons_succ, List.setIfInBounds_toArray, List.set_cons_zero, List.set_cons_succ]
                    refine upto_skipU (i := 14) rfl (by kernel_rfl) (by kernel_rfl) (by kernel_rfl) (by kernel_rfl) (fun _ _ _ h => h) (by rfl) hS ?_
                    try simp only [Act.put, List.getElem_toArray, List.getElem_cons_zero, List.getElem_cons_succ, List.setIfInBounds_toArray, List.set_cons_zero, List.set_cons_succ]
                    refine upto_skipU (i := 15) rfl (by kernel_rfl) (by kernel_rfl) (by kernel_rfl) (by kernel_rfl) (fun _ _ _ h => h) (by rfl) hS ?_
                    try simp only [Act.put, List.getElem_toArray, List.getElem_cons_zero, List.getElem_cons_succ, List.setIfInBounds_toArray, List.set_cons_zero, List.set_cons_succ]
                    refine upto_skipU (i := 16) rfl (by kernel_rfl) (by kernel_rfl) (by kernel_rfl) (by kernel_rfl) (fun _ _ _ h => h) (by rfl) hS ?_
                    try simp only [Act.put, List.getElem_toArray, List.getElem_cons_zero, List.getElem_cons_succ, List.setIfInBounds_toArray, List.set_cons_zero, List.set_cons_succ]
                    refine upto_takeN (i := 17) (v := (.bool true)) rfl (by kernel_rfl) (by kernel_rfl) (by kernel_rfl) (by kernel_rfl) (fun _ _ _ h => h) (by rfl) hS ?_ ?_
                    · intro wS hSw
                      try dsimp only at hSw
                      go_simp
                    try simp only [Act.put, List.getElem_toArray, List.getElem_cons_zero, List.getElem_cons_succ, List.setIfInBounds_toArray, List.set_cons_zero, List.set_cons_succ]
                    refine upto_takeN (i := 18) (v := (.bool true)) rfl (by kernel_rfl) (by kernel_rfl) (by kernel_rfl) (by kernel_rfl) (fun _ _ _ h => h) (by rfl) hS ?_ ?_
                    · intro wS hSw
                      try dsimp only at hSw
                      go_simp
                    try simp only [Act.put, List.getElem_toArray, List.getElem_cons_zero, List.getElem_cons_succ, List.setIfInBounds_toArray, List.set_cons_zero, List.set_cons_succ]
                    refine upto_done (by kernel_rfl) ?_
                    refine NoPanic.normal ?_
                    clear hS
                    have haL9 : L = a := by omega
                    clear haL' hel
                    subst haL9
                    by_cases hca : cap = L
                    · have hca9 : L = cap := hca.symm
                      clear hca
                      subst hca9
                      have hac1 : L ≤ L := by omega
                      have hac2 : L ≤ L := by omega
                      have hac3 : (L : Int) ≤ (L : Int) := by omega
                      have hac4 : (L : Int) ≤ (L : Int) := by omega
                      have hac5 : (0 : Int) ≤ (L : Int) := by omega
                      go_wp2
                      refine wp_region_noPanic ?_
                      refine region_upto (fun W => Below wt.heap.size wt W ∧ W.cell? ⟨B, 0, none⟩ = some (.int .i64 v.bal) ∧ W.cell? ⟨B, 1, none⟩ = some (.int .i64 v.val)) 12 (by kernel_rfl) ⟨by (repeat (first | exact Below.refl _ _ | assumption | refine Below.drew ?_ | refine balloc ?_ _ | refine bset ?_ (by simp; omega) _ | refine bset ?_ (by simp) _ | refine bstep ?_ (by assumption))), cell_keep (by (repeat (first | exact Below.refl _ _ | assumption | refine Below.drew ?_ | refine balloc ?_ _ | refine bset ?_ (by simp; omega) _ | refine bset ?_ (by simp) _ | refine bstep ?_ (by assumption)))) r0, cell_keep (by (repeat (first | exact Below.refl _ _ | assumption | refine Below.drew ?_ | refine balloc ?_ _ | refine bset ?_ (by simp; omega) _ | refine bset ?_ (by simp) _ | refine bstep ?_ (by assumption)))) r1⟩ (fun hS => ?_)
                      refine upto_take (i := 1) (v := ?_) rfl (by kernel_rfl) (by kernel_rfl) (by kernel_rfl) (by kernel_rfl) (fun _ _ _ h => h) (by rfl) hS ?_ ?_
                      rotate_left
                      · intro wS hSw
                        try dsimp only at hSw
                        first | (go_simp; done) | (go_simp; with_reducible rfl)
                      try simp only [Act.put, List.getElem_toArray, List.getElem_cons_zero, List.getElem_cons_succ, List.setIfInBounds_toArray, List.set_cons_zero, List.set_cons_succ]
                      refine upto_take (i := 2) (v := ?_) rfl (by kernel_rfl) (by kernel_rfl) (by kernel_rfl) (by kernel_rfl) (fun _ _ _ h => h) (by rfl) hS ?_ ?_
                      rotate_left
                      · intro wS hSw
                        try dsimp only at hSw
                        first | (go_simp; done) | (go_simp; with_reducible rfl)
                      try simp only [Act.put, List.getElem_toArray, List.getElem_cons_zero, List.getElem_cons_succ, List.setIfInBounds_toArray, List.set_cons_zero, List.set_cons_succ]
                      refine upto_take (i := 3) (v := ?_) rfl (by kernel_rfl) (by kernel_rfl) (by kernel_rfl) (by kernel_rfl) (fun _ _ _ h => h) (by rfl) hS ?_ ?_
                      rotate_left
                      · intro wS hSw
                        try dsimp only at hSw
                        first | (go_simp; done) | (go_simp; with_reducible rfl)
                      try simp only [Act.put, List.getElem_toArray, List.getElem_cons_zero, List.getElem_cons_succ, List.setIfInBounds_toArray, List.set_cons_zero, List.set_cons_succ]
                      refine upto_take (i := 5) (v := ?_) rfl (by kernel_rfl) (by kernel_rfl) (by kernel_rfl) (by kernel_rfl) (fun _ _ _ h => h) (by rfl) hS ?_ ?_
                      rotate_left
                      · intro wS hSw
                        try dsimp only at hSw
                        first | (go_simp; done) | (go_simp; with_reducible rfl)
                      try simp only [Act.put, List.getElem_toArray, List.getElem_cons_zero, List.getElem_cons_succ, List.setIfInBounds_toArray, List.set_cons_zero, List.set_cons_succ]
                      refine upto_take (i := 8) (v := ?_) rfl (by kernel_rfl) (by kernel_rfl) (by kernel_rfl) (by kernel_rfl) (fun _ _ _ h => h) (by rfl) hS ?_ ?_
                      rotate_left
                      · intro wS hSw
                        try dsimp only at hSw
                        first | (go_simp; done) | (go_simp; with_reducible rfl)
                      try simp only [Act.put, List.getElem_toArray, List.getElem_cons_zero, List.getElem_cons_succ, List.setIfInBounds_toArray, List.set_cons_zero, List.set_cons_succ]
                      refine upto_take (i := 9) (v := ?_) rfl (by kernel_rfl) (by kernel_rfl) (by kernel_rfl) (by kernel_rfl) (fun _ _ _ h => h) (by rfl) hS ?_ ?_
                      rotate_left
                      · intro wS hSw
                        try dsimp only at hSw
                        first | (go_simp; done) | (go_simp; with_reducible rfl)
                      try simp only [Act.put, List.getElem_toArray, List.getElem_cons_zero, List.getElem_cons_succ, List.setIfInBounds_toArray, List.set_cons_zero, List.set_cons_succ]
                      refine upto_take (i := 10) (v := ?_) rfl (by kernel_rfl) (by kernel_rfl) (by kernel_rfl) (by kernel_rfl) (fun _ _ _ h => h) (by rfl) hS ?_ ?_
                      rotate_left
                      · intro wS hSw
                        try dsimp only at hSw
                        first | (go_simp; done) | (go_simp; with_reducible rfl)
                      try simp only [Act.put, List.getElem_toArray, List.getElem_cons_zero, List.getElem_cons_succ, List.setIfInBounds_toArray, List.set_cons_zero, List.set_cons_succ]
                      have hB3 : Below w.heap.size w wt.drew.drew := Below.drew (Below.drew (bstep hBY hYt))
                      have HO3 : Hid (∀ W : World, Below wt.drew.drew.heap.size wt.drew.drew W → W.ownsRow w.heap.size 63 2 (.slice (some ⟨g, 0, none⟩) ys.length L) ys.length (votsC ys)) := fun W hW => owns_below (owns_below hOY (Below.drew (Below.drew hYt))) hW
                      have HS1 : Hid (∀ W : World, Below wt.drew.drew.heap.size wt.drew.drew W → AppAny W (.slice (some ⟨g, 0, none⟩) L L) L (votsC (ys.take L))) := fun W hW => by
                        have := votsAny_piece (HO3.out W hW) 0 L (by rw [HLn.out]; omega) L
                        simpa using this
                      have HS2 : Hid (∀ W : World, Below wt.drew.drew.heap.size wt.drew.drew W → ∀ c, AppAny W (.slice (some ⟨g, L * 2, none⟩) (L - L) c) (L - L) (votsC (ys.drop L))) := fun W hW c => by
                        have := votsAny_piece (HO3.out W hW) L (L - L) (by rw [HLn.out]; omega) c
                        rw [List.take_of_length_le (by rw [List.length_drop, HLn.out]; omega)] at this
                        exact this
                      have HL1 : Hid ((ys.take L).length = L) := by rw [Hid, List.length_take, HLn.out]; omega
                      have HL2 : Hid ((ys.drop L).length = L - L) := by rw [Hid, List.length_drop, HLn.out]
                      have HInv : Hid (Inv D i (k + 1) (ys.take L ++ [v] ++ ys.drop L)) := inv_ins hok.out HI.out HB.out.1 HB.out.2.1 HB.out.2.2 HCh.out (by rw [HLn.out]; omega) HA1.out (fun h => absurd h (by rw [HLn.out]; omega))
                      have hzB : B < wt.drew.drew.heap.size := World.block_lt_of_cell? wt _ r0
                      have hwW : w.heap.size ≤ wt.drew.drew.heap.size := hB3.size
                      have hwt0 : wt.heap.size ≤ wt.drew.drew.heap.size := Nat.le_refl _
                      generalize wt.drew.drew = W0 at *
                      obtain ⟨P1, hP1⟩ : ∃ P, ys.take L = P := ⟨_, rfl⟩
                      obtain ⟨P2, hP2⟩ : ∃ P, ys.drop L = P := ⟨_, rfl⟩
                      rw [hP1] at HS1 HL1 HInv
                      rw [hP2] at HS2 HL2 HInv
                      clear hP1 hP2 HO3
                      refine upto_cons' [(0, 84), (4, 88), (6, 90), (7, 91), (11, 95)] insC (insG W0.heap.size P1 P2 v) (by kernel_rfl) hS ?_ ?_ ?_ ?_
                      · intro F' W W' h hm hF
                        obtain ⟨h1, h3, h4⟩ := h
                        exact ⟨hm.below h1 h1.size (fun b hb => by have := hF b hb; omega), hm.cell h3 (fun e => by have := hF _ e; dsimp only at this; omega), hm.cell h4 (fun e => by have := hF _ e; dsimp only at this; omega)⟩
                      · intro pp hp
                        simp only [List.mem_cons, List.not_mem_nil, or_false] at hp
                        rcases hp with rfl | rfl | rfl | rfl | rfl
                        all_goals
                          intro y y' F F' W W' h hi hm hap hF e _
                          simp only [insG] at h ⊢
                          rw [e]
                          exact votsR.mod h hm (fun b h1 h2 => hap b h2 h1)
                      · intro pp hp
                        simp only [List.mem_cons, List.not_mem_nil, or_false] at hp
                        rcases hp with rfl | rfl | rfl | rfl | rfl
                        all_goals
                          refine ⟨_, rfl, rfl, ?_⟩
                          intro y W Φ hSW hBW hd K hK
                        · clear hd
                          refine ⟨?_⟩
                          simp only [over, Act.put, List.getElem_toArray, List.getElem_cons_zero, List.getElem_cons_succ, List.map_cons, List.map_nil, List.foldl_cons, List.foldl_nil, List.setIfInBounds_toArray, List.set_cons_zero, List.set_cons_succ] at hK ⊢
                          go_simp
                          refine hK _ _ (fun b => b = W.heap.size) (Mod.of_below (by (repeat (first | exact Below.refl _ _ | assumption | refine Below.drew ?_ | refine balloc ?_ _ | refine bset ?_ (by simp; omega) _ | refine bset ?_ (by simp) _ | refine bstep ?_ (by assumption))))) (fun b hb => .inr (by first | omega | (dsimp only at hb; omega) | (simp; omega))) ?_
                          simp only [insG, updV]
                          refine ⟨World.ownsRow_lit (base := W0.heap.size) (e := 63) (size := 2) W #[] 0 hBW.size (by unfold maxLen; omega) rfl, ?_⟩
                          funext b
                          simp [Value.ownBlock, eq_comm]
                        · have g0 := (hd (0, 84) (by simp) (by kernel_rfl) (.inl (by simp [insC]))).2
                          clear hd
                          simp only [insG] at g0
                          refine ⟨?_⟩
                          have hsrc := HS1.out W hBW
                          refine step_appW W rfl (.tmp 84) (.tmp 87) rfl W0.heap.size (y 84) (Φ 0) [] rfl (.slice (some ⟨g, 0, none⟩) L L) P1 rfl g0 (by rw [HL1.out]; exact hsrc) (by rw [HL1.out]; simp; omega) hBW.size ?_
                          intro v' w' hO hm hl
                          refine hK _ _ (fun b => v'.ownBlock = some b) (hm.mono (fun b hb => ⟨0, by simp [insC], hb⟩)) (fun b hb => (hl b hb).imp (fun h => ⟨0, by simp [insC], h⟩) (fun h => h)) ?_
                          simp only [insG, updV]
                          simpa using hO
                        · clear hd
                          obtain ⟨h1, h3, h4⟩ := hSW
                          refine ⟨?_⟩
                          simp only [over, Act.put, List.getElem_toArray, List.getElem_cons_zero, List.getElem_cons_succ, List.map_cons, List.map_nil, List.foldl_cons, List.foldl_nil, List.setIfInBounds_toArray, List.set_cons_zero, List.set_cons_succ] at hK ⊢
                          go_simp
                          refine hK _ _ (fun b => b = W.heap.size) (Mod.of_below (by (repeat (first | exact Below.refl _ _ | assumption | refine Below.drew ?_ | refine balloc ?_ _ | refine bset ?_ (by simp; omega) _ | refine bset ?_ (by simp) _ | refine bstep ?_ (by assumption))))) (fun b hb => .inr (by first | omega | (dsimp only at hb; omega) | (simp; omega))) ?_
                          simp only [insG, updV]
                          refine ⟨World.ownsRow_lit (base := W0.heap.size) (e := 63) (size := 2) W #[.int .i64 v.bal, .int .i64 v.val] 1 hBW.size (by unfold maxLen; omega) rfl, ?_⟩
                          funext b
                          simp [Value.ownBlock, eq_comm]
                        · have g0 := (hd (4, 88) (by simp) (by kernel_rfl) (.inl (by simp [insC]))).2
                          have g1 := (hd (6, 90) (by simp) (by kernel_rfl) (.inr (by simp [insC]))).2
                          clear hd
                          simp only [insG] at g0 g1
                          refine ⟨?_⟩
                          refine step_appW W rfl (.tmp 88) (.tmp 90) rfl W0.heap.size (y 88) (Φ 4) P1 rfl (y 90) [v] rfl g0 (votsAny_own g1.1) (by rw [HL1.out]; simp; omega) hBW.size ?_
                          intro v' w' hO hm hl
                          refine hK _ _ (fun b => v'.ownBlock = some b) (hm.mono (fun b hb => ⟨4, by simp [insC], hb⟩)) (fun b hb => (hl b hb).imp (fun h => ⟨4, by simp [insC], h⟩) (fun h => h)) ?_
                          simp only [insG, updV]
                          simpa using hO
                        · have g0 := (hd (7, 91) (by simp) (by kernel_rfl) (.inl (by simp [insC]))).2
                          clear hd
                          simp only [insG] at g0
                          refine ⟨?_⟩
                          have hsrc : AppAny W (.slice (some ⟨g, 0, none⟩) 0 0) 0 (votsC P2) := by
                            have e0 : P2 = [] := List.eq_nil_of_length_eq_zero (by rw [HL2.out]; omega)
                            rw [e0]
                            exact .inr ⟨_, _, rfl, fun j x hj => by simp [votsC] at hj⟩
                          refine step_appW W rfl (.tmp 91) (.tmp 94) rfl W0.heap.size (y 91) (Φ 7) (P1 ++ [v]) rfl (.slice (some ⟨g, 0, none⟩) 0 0) P2 rfl g0 (by rw [HL2.out, show L - L = 0 by omega]; exact hsrc) (by rw [List.length_append, HL1.out, HL2.out]; simp; omega) hBW.size ?_
                          intro v' w' hO hm hl
                          refine hK _ _ (fun b => v'.ownBlock = some b) (hm.mono (fun b hb => ⟨7, by simp [insC], hb⟩)) (fun b hb => (hl b hb).imp (fun h => ⟨7, by simp [insC], h⟩) (fun h => h)) ?_
                          simp only [insG, updV]
                          simpa using hO
                      · refine ⟨_, rfl, ?_⟩
                        intro y W Φ hSW hBW hd hap K hK
                        have g11 := (hd (11, 95) (by simp) (by simp [insC])).2
                        clear hd hap
                        simp only [insG] at g11
                        have g11' := g11.1
                        have HN9 : Hid ((P1 ++ [v] ++ P2).length = L + 1) := by rw [Hid, List.length_append, List.length_append, HL1.out, HL2.out]; simp <;> omega
                        rw [HN9.out] at g11'
                        clear g11
                        have hform : ∃ g9 c9, y 95 = .slice (some ⟨g9, 0, none⟩) (L + 1) c9 := by
                          rcases g11'.2 with ⟨_, h⟩ | ⟨g9, c9, _, h, _⟩
                          · omega
                          · exact ⟨g9, c9, h⟩
                        obtain ⟨g9, c9, e9⟩ := hform
                        have hBw : Below w.heap.size w W := bstep hB3 hBW
                        refine ⟨?_⟩
                        simp only [over, Act.put, List.getElem_toArray, List.getElem_cons_zero, List.getElem_cons_succ, List.map_cons, List.map_nil, List.foldl_cons, List.foldl_nil, List.setIfInBounds_toArray, List.set_cons_zero, List.set_cons_succ]
                        simp only [e9] at g11' ⊢
                        go_simp
                        refine hK _ _ ?_
                        clear hK K hSW
                        refine NoPanic.normal ?_
                        have hOf : W.ownsRow w.heap.size 63 2 (.slice (some ⟨g9, 0, none⟩) (P1 ++ [v] ++ P2).length c9) (P1 ++ [v] ++ P2).length (votsC (P1 ++ [v] ++ P2)) := by rw [HN9.out]; exact owns_base g11' hwW
                        clear g11' hBW hB3 r0 r1 hS hYt hOY
                        go_wp2
                        exact ⟨⟨k + 1, P1 ++ [v] ++ P2, g9, c9, by omega, by go_num, by rw [HN9.out], hOf, HInv.out, by rw [HN9.out]; omega, hBw⟩, by simp [intOf]; omega⟩
                    · have hac1 : L ≤ cap := by omega
                      have hac2 : L ≤ L := by omega
                      have hac3 : (L : Int) ≤ (L : Int) := by omega
                      have hac4 : (L : Int) ≤ (cap : Int) := by omega
                      have hac5 : (0 : Int) ≤ (L : Int) := by omega
                      go_wp2
                      refine wp_region_noPanic ?_
                      refine region_upto (fun W => Below wt.heap.size wt W ∧ W.cell? ⟨B, 0, none⟩ = some (.int .i64 v.bal) ∧ W.cell? ⟨B, 1, none⟩ = some (.int .i64 v.val)) 12 (by kernel_rfl) ⟨by (repeat (first | exact Below.refl _ _ | assumption | refine Below.drew ?_ | refine balloc ?_ _ | refine bset ?_ (by simp; omega) _ | refine bset ?_ (by simp) _ | refine bstep ?_ (by assumption))), cell_keep (by (repeat (first | exact Below.refl _ _ | assumption | refine Below.drew ?_ | refine balloc ?_ _ | refine bset ?_ (by simp; omega) _ | refine bset ?_ (by simp) _ | refine bstep ?_ (by assumption)))) r0, cell_keep (by (repeat (first | exact Below.refl _ _ | assumption | refine Below.drew ?_ | refine balloc ?_ _ | refine bset ?_ (by simp; omega) _ | refine bset ?_ (by simp) _ | refine bstep ?_ (by assumption)))) r1⟩ (fun hS => ?_)
                      refine upto_take (i := 1) (v := ?_) rfl (by kernel_rfl) (by kernel_rfl) (by kernel_rfl) (by kernel_rfl) (fun _ _ _ h => h) (by rfl) hS ?_ ?_
                      rotate_left
                      · intro wS hSw
                        try dsimp only at hSw
                        first | (go_simp; done) | (go_simp; with_reducible rfl)
                      try simp only [Act.put, List.getElem_toArray, List.getElem_cons_zero, List.getElem_cons_succ, List.setIfInBounds_toArray, List.set_cons_zero, List.set_cons_succ]
                      refine upto_take (i := 2) (v := ?_) rfl (by kernel_rfl) (by kernel_rfl) (by kernel_rfl) (by kernel_rfl) (fun _ _ _ h => h) (by rfl) hS ?_ ?_
                      rotate_left
                      · intro wS hSw
                        try dsimp only at hSw
                        first | (go_simp; done) | (go_simp; with_reducible rfl)
                      try simp only [Act.put, List.getElem_toArray, List.getElem_cons_zero, List.getElem_cons_succ, List.setIfInBounds_toArray, List.set_cons_zero, List.set_cons_succ]
                      refine upto_take (i := 3) (v := ?_) rfl (by kernel_rfl) (by kernel_rfl) (by kernel_rfl) (by kernel_rfl) (fun _ _ _ h => h) (by rfl) hS ?_ ?_
                      rotate_left
                      · intro wS hSw
                        try dsimp only at hSw
                        first | (go_simp; done) | (go_simp; with_reducible rfl)
                      try simp only [Act.put, List.getElem_toArray, List.getElem_cons_zero, List.getElem_cons_succ, List.setIfInBounds_toArray, List.set_cons_zero, List.set_cons_succ]
                      refine upto_take (i := 5) (v := ?_) rfl (by kernel_rfl) (by kernel_rfl) (by kernel_rfl) (by kernel_rfl) (fun _ _ _ h => h) (by rfl) hS ?_ ?_
                      rotate_left
                      · intro wS hSw
                        try dsimp only at hSw
                        first | (go_simp; done) | (go_simp; with_reducible rfl)
                      try simp only [Act.put, List.getElem_toArray, List.getElem_cons_zero, List.getElem_cons_succ, List.setIfInBounds_toArray, List.set_cons_zero, List.set_cons_succ]
                      refine upto_take (i := 8) (v := ?_) rfl (by kernel_rfl) (by kernel_rfl) (by kernel_rfl) (by kernel_rfl) (fun _ _ _ h => h) (by rfl) hS ?_ ?_
                      rotate_left
                      · intro wS hSw
                        try dsimp only at hSw
                        first | (go_simp; done) | (go_simp; with_reducible rfl)
                      try simp only [Act.put, List.getElem_toArray, List.getElem_cons_zero, List.getElem_cons_succ, List.setIfInBounds_toArray, List.set_cons_zero, List.set_cons_succ]
                      refine upto_take (i := 9) (v := ?_) rfl (by kernel_rfl) (by kernel_rfl) (by kernel_rfl) (by kernel_rfl) (fun _ _ _ h => h) (by rfl) hS ?_ ?_
                      rotate_left
                      · intro wS hSw
                        try dsimp only at hSw
                        first | (go_simp; done) | (go_simp; with_reducible rfl)
                      try simp only [Act.put, List.getElem_toArray, List.getElem_cons_zero, List.getElem_cons_succ, List.setIfInBounds_toArray, List.set_cons_zero, List.set_cons_succ]
                      refine upto_take (i := 10) (v := ?_) rfl (by kernel_rfl) (by kernel_rfl) (by kernel_rfl) (by kernel_rfl) (fun _ _ _ h => h) (by rfl) hS ?_ ?_
                      rotate_left
                      · intro wS hSw
                        try dsimp only at hSw
                        first | (go_simp; done) | (go_simp; with_reducible rfl)
                      try simp only [Act.put, List.getElem_toArray, List.getElem_cons_zero, List.getElem_cons_succ, List.setIfInBounds_toArray, List.set_cons_zero, List.set_cons_succ]
                      have hB3 : Below w.heap.size w wt.drew.drew := Below.drew (Below.drew (bstep hBY hYt))
                      have HO3 : Hid (∀ W : World, Below wt.drew.drew.heap.size wt.drew.drew W → W.ownsRow w.heap.size 63 2 (.slice (some ⟨g, 0, none⟩) ys.length cap) ys.length (votsC ys)) := fun W hW => owns_below (owns_below hOY (Below.drew (Below.drew hYt))) hW
                      have HS1 : Hid (∀ W : World, Below wt.drew.drew.heap.size wt.drew.drew W → AppAny W (.slice (some ⟨g, 0, none⟩) L cap) L (votsC (ys.take L))) := fun W hW => by
                        have := votsAny_piece (HO3.out W hW) 0 L (by rw [HLn.out]; omega) cap
                        simpa using this
                      have HS2 : Hid (∀ W : World, Below wt.drew.drew.heap.size wt.drew.drew W → ∀ c, AppAny W (.slice (some ⟨g, L * 2, none⟩) (L - L) c) (L - L) (votsC (ys.drop L))) := fun W hW c => by
                        have := votsAny_piece (HO3.out W hW) L (L - L) (by rw [HLn.out]; omega) c
                        rw [List.take_of_length_le (by rw [List.length_drop, HLn.out]; omega)] at this
                        exact this
                      have HL1 : Hid ((ys.take L).length = L) := by rw [Hid, List.length_take, HLn.out]; omega
                      have HL2 : Hid ((ys.drop L).length = L - L) := by rw [Hid, List.length_drop, HLn.out]
                      have HInv : Hid (Inv D i (k + 1) (ys.take L ++ [v] ++ ys.drop L)) := inv_ins hok.out HI.out HB.out.1 HB.out.2.1 HB.out.2.2 HCh.out (by rw [HLn.out]; omega) HA1.out (fun h => absurd h (by rw [HLn.out]; omega))
                      have hzB : B < wt.drew.drew.heap.size := World.block_lt_of_cell? wt _ r0
                      have hwW : w.heap.size ≤ wt.drew.drew.heap.size := hB3.size
                      have hwt0 : wt.heap.size ≤ wt.drew.drew.heap.size := Nat.le_refl _
                      generalize wt.drew.drew = W0 at *
                      obtain ⟨P1, hP1⟩ : ∃ P, ys.take L = P := ⟨_, rfl⟩
                      obtain ⟨P2, hP2⟩ : ∃ P, ys.drop L = P := ⟨_, rfl⟩
                      rw [hP1] at HS1 HL1 HInv
                      rw [hP2] at HS2 HL2 HInv
                      clear hP1 hP2 HO3
                      refine upto_cons' [(0, 84), (4, 88), (6, 90), (7, 91), (11, 95)] insC (insG W0.heap.size P1 P2 v) (by kernel_rfl) hS ?_ ?_ ?_ ?_
                      · intro F' W W' h hm hF
                        obtain ⟨h1, h3, h4⟩ := h
                        exact ⟨hm.below h1 h1.size (fun b hb => by have := hF b hb; omega), hm.cell h3 (fun e => by have := hF _ e; dsimp only at this; omega), hm.cell h4 (fun e => by have := hF _ e; dsimp only at this; omega)⟩
                      · intro pp hp
                        simp only [List.mem_cons, List.not_mem_nil, or_false] at hp
                        rcases hp with rfl | rfl | rfl | rfl | rfl
                        all_goals
                          intro y y' F F' W W' h hi hm hap hF e _
                          simp only [insG] at h ⊢
                          rw [e]
                          exact votsR.mod h hm (fun b h1 h2 => hap b h2 h1)
                      · intro pp hp
                        simp only [List.mem_cons, List.not_mem_nil, or_false] at hp
                        rcases hp with rfl | rfl | rfl | rfl | rfl
                        all_goals
                          refine ⟨_, rfl, rfl, ?_⟩
                          intro y W Φ hSW hBW hd K hK
                        · clear hd
                          refine ⟨?_⟩
                          simp only [over, Act.put, List.getElem_toArray, List.getElem_cons_zero, List.getElem_cons_succ, List.map_cons, List.map_nil, List.foldl_cons, List.foldl_nil, List.setIfInBounds_toArray, List.set_cons_zero, List.set_cons_succ] at hK ⊢
                          go_simp
                          refine hK _ _ (fun b => b = W.heap.size) (Mod.of_below (by (repeat (first | exact Below.refl _ _ | assumption | refine Below.drew ?_ | refine balloc ?_ _ | refine bset ?_ (by simp; omega) _ | refine bset ?_ (by simp) _ | refine bstep ?_ (by assumption))))) (fun b hb => .inr (by first | omega | (dsimp only at hb; omega) | (simp; omega))) ?_
                          simp only [insG, updV]
                          refine ⟨World.ownsRow_lit (base := W0.heap.size) (e := 63) (size := 2) W #[] 0 hBW.size (by unfold maxLen; omega) rfl, ?_⟩
                          funext b
                          simp [Value.ownBlock, eq_comm]
                        · have g0 := (hd (0, 84) (by simp) (by kernel_rfl) (.inl (by simp [insC]))).2
                          clear hd
                          simp only [insG] at g0
                          refine ⟨?_⟩
                          have hsrc := HS1.out W hBW
                          refine step_appW W rfl (.tmp 84) (.tmp 87) rfl W0.heap.size (y 84) (Φ 0) [] rfl (.slice (some ⟨g, 0, none⟩) L cap) P1 rfl g0 (by rw [HL1.out]; exact hsrc) (by rw [HL1.out]; simp; omega) hBW.size ?_
                          intro v' w' hO hm hl
                          refine hK _ _ (fun b => v'.ownBlock = some b) (hm.mono (fun b hb => ⟨0, by simp [insC], hb⟩)) (fun b hb => (hl b hb).imp (fun h => ⟨0, by simp [insC], h⟩) (fun h => h)) ?_
                          simp only [insG, updV]
                          simpa using hO
                        · clear hd
                          obtain ⟨h1, h3, h4⟩ := hSW
                          refine ⟨?_⟩
                          simp only [over, Act.put, List.getElem_toArray, List.getElem_cons_zero, List.getElem_cons_succ, List.map_cons, List.map_nil, List.foldl_cons, List.foldl_nil, List.setIfInBounds_toArray, List.set_cons_zero, List.set_cons_succ] at hK ⊢
                          go_simp
                          refine hK _ _ (fun b => b = W.heap.size) (Mod.of_below (by (repeat (first | exact Below.refl _ _ | assumption | refine Below.drew ?_ | refine balloc ?_ _ | refine bset ?_ (by simp; omega) _ | refine bset ?_ (by simp) _ | refine bstep ?_ (by assumption))))) (fun b hb => .inr (by first | omega | (dsimp only at hb; omega) | (simp; omega))) ?_
                          simp only [insG, updV]
                          refine ⟨World.ownsRow_lit (base := W0.heap.size) (e := 63) (size := 2) W #[.int .i64 v.bal, .int .i64 v.val] 1 hBW.size (by unfold maxLen; omega) rfl, ?_⟩
                          funext b
                          simp [Value.ownBlock, eq_comm]
                        · have g0 := (hd (4, 88) (by simp) (by kernel_rfl) (.inl (by simp [insC]))).2
                          have g1 := (hd (6, 90) (by simp) (by kernel_rfl) (.inr (by simp [insC]))).2
                          clear hd
                          simp only [insG] at g0 g1
                          refine ⟨?_⟩
                          refine step_appW W rfl (.tmp 88) (.tmp 90) rfl W0.heap.size (y 88) (Φ 4) P1 rfl (y 90) [v] rfl g0 (votsAny_own g1.1) (by rw [HL1.out]; simp; omega) hBW.size ?_
                          intro v' w' hO hm hl
                          refine hK _ _ (fun b => v'.ownBlock = some b) (hm.mono (fun b hb => ⟨4, by simp [insC], hb⟩)) (fun b hb => (hl b hb).imp (fun h => ⟨4, by simp [insC], h⟩) (fun h => h)) ?_
                          simp only [insG, updV]
                          simpa using hO
                        · have g0 := (hd (7, 91) (by simp) (by kernel_rfl) (.inl (by simp [insC]))).2
                          clear hd
                          simp only [insG] at g0
                          refine ⟨?_⟩
                          have hsrc := HS2.out W hBW (cap - L)
                          rw [show L - L = 0 by omega] at hsrc
                          refine step_appW W rfl (.tmp 91) (.tmp 94) rfl W0.heap.size (y 91) (Φ 7) (P1 ++ [v]) rfl (.slice (some ⟨g, L * 2, none⟩) 0 (cap - L)) P2 rfl g0 (by rw [HL2.out, show L - L = 0 by omega]; exact hsrc) (by rw [List.length_append, HL1.out, HL2.out]; simp; omega) hBW.size ?_
                          intro v' w' hO hm hl
                          refine hK _ _ (fun b => v'.ownBlock = some b) (hm.mono (fun b hb => ⟨7, by simp [insC], hb⟩)) (fun b hb => (hl b hb).imp (fun h => ⟨7, by simp [insC], h⟩) (fun h => h)) ?_
                          simp only [insG, updV]
                          simpa using hO
                      · refine ⟨_, rfl, ?_⟩
                        intro y W Φ hSW hBW hd hap K hK
                        have g11 := (hd (11, 95) (by simp) (by simp [insC])).2
                        clear hd hap
                        simp only [insG] at g11
                        have g11' := g11.1
                        have HN9 : Hid ((P1 ++ [v] ++ P2).length = L + 1) := by rw [Hid, List.length_append, List.length_append, HL1.out, HL2.out]; simp <;> omega
                        rw [HN9.out] at g11'
                        clear g11
                        have hform : ∃ g9 c9, y 95 = .slice (some ⟨g9, 0, none⟩) (L + 1) c9 := by
                          rcases g11'.2 with ⟨_, h⟩ | ⟨g9, c9, _, h, _⟩
                          · omega
                          · exact ⟨g9, c9, h⟩
                        obtain ⟨g9, c9, e9⟩ := hform
                        have hBw : Below w.heap.size w W := bstep hB3 hBW
                        refine ⟨?_⟩
                        simp only [over, Act.put, List.getElem_toArray, List.getElem_cons_zero, List.getElem_cons_succ, List.map_cons, List.map_nil, List.foldl_cons, List.foldl_nil, List.setIfInBounds_toArray, List.set_cons_zero, List.set_cons_succ]
                        simp only [e9] at g11' ⊢
                        go_simp
                        refine hK _ _ ?_
                        clear hK K hSW
                        refine NoPanic.normal ?_
                        have hOf : W.ownsRow w.heap.size 63 2 (.slice (some ⟨g9, 0, none⟩) (P1 ++ [v] ++ P2).length c9) (P1 ++ [v] ++ P2).length (votsC (P1 ++ [v] ++ P2)) := by rw [HN9.out]; exact owns_base g11' hwW
                        clear g11' hBW hB3 r0 r1 hS hYt hOY
                        go_wp2
                        exact ⟨⟨k + 1, P1 ++ [v] ++ P2, g9, c9, by omega, by go_num, by rw [HN9.out], hOf, HInv.out, by rw [HN9.out]; omega, hBw⟩, by simp [intOf]; omega⟩
                  · have hd : decide (quoV (n : Int) ≤ (c : Int)) = false := by simp [hch]
                    have HCh : Hid (¬ isCh D v) := fun h => hch (by have h' : _ ≤ _ := h; rw [HN.out, ← HCn.out] at h'; exact h')
                    obtain ⟨qq, hqq⟩ : ∃ q, q = quoV (n : Int) := ⟨_, rfl⟩
                    have HQ : Hid (quoV (n : Int) = qq) := hqq.symm
                    rw [← hqq] at hch hd
                    clear hqq
                    go_wp2
                    refine wp_region_noPanic ?_
                    refine region_upto (fun W => Below wt.heap.size wt W ∧ (W.cell? ⟨B, 0, none⟩ = some (.int .i64 v.bal) ∧ W.cell? ⟨B, 1, none⟩ = some (.int .i64 v.val))) 19 (by kernel_rfl) ⟨by (repeat (first | exact Below.refl _ _ | assumption | refine Below.drew ?_ | refine balloc ?_ _ | refine bset ?_ (by simp; omega) _ | refine bset ?_ (by simp) _ | refine bstep ?_ (by assumption))), ⟨cell_keep (by (repeat (first | exact Below.refl _ _ | assumption | refine Below.drew ?_ | refine balloc ?_ _ | refine bset ?_ (by simp; omega) _ | refine bset ?_ (by simp) _ | refine bstep ?_ (by assumption)))) r0, cell_keep (by (repeat (first | exact Below.refl _ _ | assumption | refine Below.drew ?_ | refine balloc ?_ _ | refine bset ?_ (by simp; omega) _ | refine bset ?_ (by simp) _ | refine bstep ?_ (by assumption)))) r1⟩⟩ (fun hS => ?_)
                    refine upto_takeN (i := 0) (v := ?_) rfl (by kernel_rfl) (by kernel_rfl) (by kernel_rfl) (by kernel_rfl) (fun _ _ _ h => h) (by rfl) hS ?_ ?_
                    rotate_left
                    · intro wS hSw
                      try dsimp only at hSw
                      first | (go_simp; done) | (go_simp; with_reducible rfl)
                    try simp only [Act.put, List.getElem_toArray, List.getElem_cons_zero, List.getElem_cons_succ, List.setIfInBounds_toArray, List.set_cons_zero, List.set_cons_succ]
                    refine upto_takeN (i := 1) (v := ?_) rfl (by kernel_rfl) (by kernel_rfl) (by kernel_rfl) (by kernel_rfl) (fun _ _ _ h => h) (by rfl) hS ?_ ?_
                    rotate_left
                    · intro wS hSw
                      try dsimp only at hSw
                      first | (go_simp; done) | (go_simp; with_reducible rfl)
                    try simp only [Act.put, List.getElem_toArray, List.getElem_cons_zero, List.getElem_cons_succ, List.setIfInBounds_toArray, List.set_cons_zero, List.set_cons_succ]
                    refine upto_takeN (i := 2) (v := ?_) rfl (by kernel_rfl) (by kernel_rfl) (by kernel_rfl) (by kernel_rfl) (fun _ _ _ h => h) (by rfl) hS ?_ ?_
                    rotate_left
                    · intro wS hSw
                      try dsimp only at hSw
                      first | (go_simp; done) | (go_simp; with_reducible rfl)
                    try simp only [Act.put, List.getElem_toArray, List.getElem_cons_zero, List.getElem_cons_succ, List.setIfInBounds_toArray, List.set_cons_zero, List.set_cons_succ]
                    refine upto_step (i := 3) (by kernel_rfl) rfl ?_
                    intro K hK
                    go_simp
                    refine (l8Quorum_any _ h19 _).mono ?_
                    rintro e w5 ⟨rfl, rfl⟩
                    refine hK _ _ (fun _ => hS) ?_
                    clear hK K
                    try simp only [Act.put, List.getElem_toArray, List.getElem_cons_zero, List.getElem_cons_succ, List.setIfInBounds_toArray, List.set_cons_zero, List.set_cons_succ]
                    rw [HQ.out]
                    refine upto_takeN (i := 4) (v := (.bool false)) rfl (by kernel_rfl) (by kernel_rfl) (by kernel_rfl) (by kernel_rfl) (fun _ _ _ h => h) (by rfl) hS ?_ ?_
                    · intro wS hSw
                      try dsimp only at hSw
                      go_simp
                    try simp only [Act.put, List.getElem_toArray, List.getElem_cons_zero, List.getElem_cons_succ, List.setIfInBounds_toArray, List.set_cons_zero, List.set_cons_succ]
                    refine upto_takeN (i := 5) (v := (.bool false)) rfl (by kernel_rfl) (by kernel_rfl) (by kernel_rfl) (by kernel_rfl) (fun _ _ _ h => h) (by rfl) hS ?_ ?_
                    · intro wS hSw
                      try dsimp only at hSw
                      go_simp
                    try simp only [Act.put, List.getElem_toArray, List.getElem_cons_zero, List.getElem_cons_succ, List.setIfInBounds_toArray, List.set_cons_zero, List.set_cons_succ]
                    refine upto_skipU (i := 6) rfl (by kernel_rfl) (by kernel_rfl) (by kernel_rfl) (by kernel_rfl) (fun _ _ _ h => h) (by rfl) hS ?_
                    try simp only [Act.put, List.getElem_toArray, List.getElem_cons_zero, List.getElem_cons_succ, List.setIfInBounds_toArray, List.set_cons_zero, List.set_cons_succ]
                    refine upto_skipU (i := 7) rfl (by kernel_rfl) (by kernel_rfl) (by kernel_rfl) (by kernel_rfl) (fun _ _ _ h => h) (by rfl) hS ?_
                    try simp only [Act.put, List.getElem_toArray, List.getElem_cons_zero, List.getElem_cons_succ, List.setIfInBounds_toArray, List.set_cons_zero, List.set_cons_succ]
                    refine upto_skipU (i := 8) rfl (by kernel_rfl) (by kernel_rfl) (by kernel_rfl) (by kernel_rfl) (fun _ _ _ h => h) (by rfl) hS ?_
                    try simp only [Act.put, List.getElem_toArray, List.getElem_cons_zero, List.getElem_cons_succ, List.setIfInBounds_toArray, List.set_cons_zero, List.set_cons_succ]
                    refine upto_skipU (i := 9) rfl (by kernel_rfl) (by kernel_rfl) (by kernel_rfl) (by kernel_rfl) (fun _ _ _ h => h) (by rfl) hS ?_
                    try simp only [Act.put, List.getElem_toArray, List.getElem_cons_zero, List.getElem_cons_succ, List.setIfInBounds_toArray, List.set_cons_zero, List.set_cons_succ]
                    refine upto_skipU (i := 10) rfl (by kernel_rfl) (by kernel_rfl) (by kernel_rfl) (by kernel_rfl) (fun _ _ _ h => h) (by rfl) hS ?_
                    try simp only [Act.put, List.getElem_toArray, List.getElem_cons_zero, List.getElem_cons_succ, List.setIfInBounds_toArray, List.set_cons_zero, List.set_cons_succ]
                    refine upto_skipU (i := 11) rfl (by kernel_rfl) (by kernel_rfl) (by kernel_rfl) (by kernel_rfl) (fun _ _ _ h => h) (by rfl) hS ?_
                    try simp only [Act.put, List.getElem_toArray, List.getElem_cons_zero, List.getElem_cons_succ, List.setIfInBounds_toArray, List.set_cons_zero, List.set_cons_succ]
                    refine upto_skipU (i := 12) rfl (by kernel_rfl) (by kernel_rfl) (by kernel_rfl) (by kernel_rfl) (fun _ _ _ h => h) (by rfl) hS ?_
                    try simp only [Act.put, List.getElem_toArray, List.getElem_cons_zero, List.getElem_cons_succ, List.setIfInBounds_toArray, List.set_cons_zero, List.set_cons_succ]
                    refine upto_skipU (i := 13) rfl (by kernel_rfl) (by kernel_rfl) (by kernel_rfl) (by kernel_rfl) (fun _ _ _ h => h) (by rfl) hS ?_
                    try simp only [Act.put, List.getElem_toArray, List.getElem_cons_zero, List.getElem_cons_succ, List.setIfInBounds_toArray, List.set_cons_zero, List.set_cons_succ]
                    refine upto_skipU (i := 14) rfl (by kernel_rfl) (by kernel_rfl) (by kernel_rfl) (by kernel_rfl) (fun _ _ _ h => h) (by rfl) hS ?_
                    try simp only [Act.put, List.getElem_toArray, List.getElem_cons_zero, List.getElem_cons_succ, List.setIfInBounds_toArray, List.set_cons_zero, List.set_cons_succ]
                    refine upto_skipU (i := 15) rfl (by kernel_rfl) (by kernel_rfl) (by kernel_rfl) (by kernel_rfl) (fun _ _ _ h => h) (by rfl) hS ?_
                    try simp only [Act.put, List.getElem_toArray, List.getElem_cons_zero, List.getElem_cons_succ, List.setIfInBounds_toArray, List.set_cons_zero, List.set_cons_succ]
                    refine upto_skipU (i := 16) rfl (by kernel_rfl) (by kernel_rfl) (by kernel_rfl) (by kernel_rfl) (fun _ _ _ h => h) (by rfl) hS ?_
                    try simp only [Act.put, List.getElem_toArray, List.getElem_cons_zero, List.getElem_cons_succ, List.setIfInBounds_toArray, List.set_cons_zero, List.set_cons_succ]
                    refine upto_skipU (i := 17) rfl (by kernel_rfl) (by kernel_rfl) (by kernel_rfl) (by kernel_rfl) (fun _ _ _ h => h) (by rfl) hS ?_
                    try simp only [Act.put, List.getElem_toArray, List.getElem_cons_zero, List.getElem_cons_succ, List.setIfInBounds_toArray, List.set_cons_zero, List.set_cons_succ]
                    refine upto_takeN (i := 18) (v := (.bool false)) rfl (by kernel_rfl) (by kernel_rfl) (by kernel_rfl) (by kernel_rfl) (fun _ _ _ h => h) (by rfl) hS ?_ ?_
                    · intro wS hSw
                      try dsimp only at hSw
                      go_simp
                    try simp only [Act.put, List.getElem_toArray, List.getElem_cons_zero, List.getElem_cons_succ, List.setIfInBounds_toArray, List.set_cons_zero, List.set_cons_succ]
                    refine upto_done (by kernel_rfl) ?_
                    refine NoPanic.normal ?_
                    clear hS
                    have hBt : Below w.heap.size w wt.drew := Below.drew (bstep hBY hYt)
                    have hOt := owns_below hOY (Below.drew hYt)
                    clear r0 r1
                    go_wp2
                    exact ⟨⟨k + 1, ys, g, cap, by omega, by go_num, by rw [HLn.out], hOt, inv_skip HI.out HB.out.1 HB.out.2.1 HB.out.2.2 (.inl HCh.out), by rw [HLn.out]; omega, hBt⟩, by simp [intOf]; omega⟩
        · have hkm' : k = m := by omega
          subst hkm'
          have HIn : Hid (Inv D (i + 1) 0 ys) := inv_row (by rw [← HC0.out, HM.out]; exact HI.out) (by rw [HN.out]; exact hlt)
          clear hce
          go_wp2
          exact ⟨⟨i + 1, ys, g, cap, by omega, by go_num, rfl, hO, HIn.out, by omega, hbl⟩, by simp [intOf]; omega⟩
    · have hin : i = n := by omega
      subst hin
      have HCh : Hid (Chs D ys) := inv_end (by rw [HN.out]; exact HI.out)
      clear hx
      go_wp2
      go_ret
      exact ⟨_, ys, rfl, VotsV_of_owns hO, HCh.out, hbl⟩
end Go.Proofs.YtolihmobkoiplaaGreat

/-
  ChosenAt, the document's.
-/
set_option linter.unusedSimpArgs false
set_option linter.unusedVariables false
namespace Go.Proofs.YtolihmobkoiplaaGreat
open Go.RowKit
set_option linter.unusedSectionVars false
variable [DecidableEq Vot] [Inhabited Vot] [DecidableEq Slt] [Inhabited Slt] [DecidableEq SltR] [Inhabited SltR] [DecidableEq Bal] [Inhabited Bal] [DecidableEq Ledg] [Inhabited Ledg] [DecidableEq Leg] [Inhabited Leg] [DecidableEq Acc] [Inhabited Acc] [DecidableEq AccR] [Inhabited AccR] [DecidableEq AccsR] [Inhabited AccsR] [DecidableEq SltsR] [Inhabited SltsR]
attribute [local go_sem ↓] Go.wp_at_zero Go.wp_at_succ

set_option maxHeartbeats 2000000 in
theorem l9Chosen_any (x : Value) (l : List Acc) (c s : Int) (ys : List Vot) (w : World) (hx : accsR.V w x l) (hl : ListOk l) (hid : idOk c s = true) (hys : Chs (slotsL l c s) ys) :
    Calls Tryz.prog 33 #[x, .int .i64 c, .int .i64 s] w fun e w' => e = .returned (.int .i64 (hdV ys)) ∧ Below w.heap.size w w' := by
  have HSl : Hid (∀ W, Below w.heap.size w W → Calls Tryz.prog 53 #[x, .int .i64 c, .int .i64 s] W fun e w' => ∃ v F, e = .returned v ∧ sltsR.O w' W.heap.size F v (slotsL l c s) ∧ Below W.heap.size W w') := fun W hW => l9Slots_u x l c s W (accsR.below hx hW) hl hid
  have HA : Hid (askF (slotsL l c s) = 0) := ask_slots hl hid
  have HU : Hid (∀ zs, Chs (slotsL l c s) zs → zs = ys) := fun zs h => chs_unique h hys
  obtain ⟨a, cx, rfl⟩ := accs_form hx
  clear hx hl hid hys
  generalize l.length = n at *
  generalize slotsL l c s = D at *
  go_enter Tryz.func33, Tryz.ntmps33
  go_wp2_with fail
  refine (HSl.out _ (by (repeat (first | exact Below.refl _ _ | assumption | refine Below.drew ?_ | refine balloc ?_ _ | refine bset ?_ (by simp; omega) _ | refine bset ?_ (by simp) _ | refine bstep ?_ (by assumption))))).mono ?_
  rintro e w1 ⟨v1, F1, rfl, o1, hb1⟩
  have HC : Hid (∀ W, Below w1.heap.size w1 W → Calls Tryz.prog 52 #[v1] W fun e w' => ChE D W e w') := fun W hW => l8Chosen_any v1 D W (sltsR.below (sltsR.ofO o1) hW) HA.out
  have hB1 : Below w.heap.size w w1 := by (repeat (first | exact Below.refl _ _ | assumption | refine Below.drew ?_ | refine balloc ?_ _ | refine bset ?_ (by simp; omega) _ | refine bset ?_ (by simp) _ | refine bstep ?_ (by assumption)))
  clear o1 hb1 HSl
  go_wp2_with fail
  refine (HC.out _ (by (repeat (first | exact Below.refl _ _ | assumption | refine Below.drew ?_ | refine balloc ?_ _ | refine bset ?_ (by simp; omega) _ | refine bset ?_ (by simp) _ | refine bstep ?_ (by assumption))))).mono ?_
  rintro e w2 ⟨v2, zs, rfl, hv2, hz, hb2⟩
  have hB2 : Below w.heap.size w w2 := bstep hB1 hb2
  obtain rfl := HU.out zs hz
  clear hz hb2 HC
  obtain ⟨a2, c2, rfl, hc2, hm2, hv2⟩ := hv2
  unfold maxLen at hm2
  by_cases h0 : zs.length = 0
  · have HR : Hid (hdV zs = 0) := by show _ = _; unfold hdV; rw [if_pos h0]
    rw [h0]
    clear hv2
    go_wp2
    go_ret
    exact ⟨by rw [HR.out]; rfl, hB2⟩
  · have HR : Hid (hdV zs = (zs.getD 0 default).val) := by show _ = _; unfold hdV; rw [if_neg h0]
    obtain ⟨b, o, rfl, g⟩ := hv2 0 (by omega)
    simp only [Nat.zero_mul, Nat.add_zero] at g
    have g1 := g.1
    have g2 := g.2
    clear g hv2
    generalize (zs.getD 0 default).val = y at *
    generalize (zs.getD 0 default).bal = y' at *
    generalize zs.length = m at *
    have h0' : ((m : Int) == 0) = false := by simp; omega
    have i0 : (0 : Int) < m := by omega
    go_wp2
    go_ret
    exact ⟨by rw [HR.out]; rfl, hB2⟩
end Go.Proofs.YtolihmobkoiplaaGreat


import Derived.Test.YtncmdeijimgchaaPrnNewShardLaw5
import Derived.Test.YtncmdeijimgchaaPrnNewShardLaw6
import Derived.Shelf.Abstract
import Derived.BigQuiet
import Derived.Deep.QuietTactic
import Derived.Deep.RegionHeld3
import Derived.Test.YtncmdeijimgchaaPrnNewShardLaw4
import Derived.Test.YtncmdeijimgchaaPrnNewShardLaw2
import Derived.Deep.DrawnRows
import Derived.Test.YtncmdeijimgchaaPrnNewShardLaw1

/-
  A shard copied, the program's.
-/
set_option linter.unusedSimpArgs false
set_option linter.unusedVariables false
namespace Go.Proofs.Ytncmdeijimgchaa
open Go.RowKit
set_option linter.unusedSectionVars false
variable [DecidableEq Leg] [Inhabited Leg] [DecidableEq Mrk] [Inhabited Mrk] [DecidableEq Bal] [Inhabited Bal] [DecidableEq Cont] [Inhabited Cont] [DecidableEq Shd] [Inhabited Shd]
attribute [local go_sem ↓] Go.wp_at_zero Go.wp_at_succ

theorem conts_at10 {w : World} {v : Value} {xs : List Cont} (hx : contsR.V w v xs) : ∃ a c, v = .slice a xs.length c ∧ xs.length ≤ c ∧ c ≤ maxLen ∧ ∀ k, k < xs.length → ∃ b o p q, a = some ⟨b, o, none⟩ ∧ w.cell? ⟨b, o + k * 2, none⟩ = some (.int .i64 (xs.getD k default).id) ∧ w.cell? ⟨b, o + k * 2 + 1, none⟩ = some (.slice p (xs.getD k default).legs.length q) ∧ contR.V w (.agg #[.int .i64 (xs.getD k default).id, .slice p (xs.getD k default).legs.length q]) (xs.getD k default) := by
  obtain ⟨a, c, rfl, h1, h2, h3⟩ := hx
  refine ⟨a, c, rfl, h1, h2, fun k hk => ?_⟩
  obtain ⟨b, o, u, e, _, p, hv⟩ := h3 k hk
  have hV := hv
  obtain ⟨s, rfl, hc⟩ := hv
  obtain ⟨au, cu, rfl⟩ := legs_form hc
  exact ⟨b, o, au, cu, e, p 0 (by omega), p 1 (by omega), hV⟩
theorem wpl_appC (w : World) {ops : Array Oper} {rest : List Oper} {o : Oper} {a : Act} {Q : Exit → Act → World → Prop} (hgd : o.guard = none) (s x : Operand)
    (ho : o.op = .call { callee := .builtin .append, args := #[s, x], argTypes := #[73, 73] })
    (base : Nat) (F Fu : Nat → Prop) (v : Value) (xs : List Cont) (y : Cont) (g : Nat) (p : Option Addr) (q : Nat) (hs : a.eval s = v) (hx : a.eval x = .slice (some ⟨g, 0, none⟩) 1 1) (hown : contsR.O w base F v xs) (hu : contR.O w base Fu (.agg #[.int .i64 y.id, .slice p y.legs.length q]) y) (hd : ∀ b, F b → ¬ Fu b)
    (hc : w.cell? ⟨g, 0, none⟩ = some (.int .i64 y.id) ∧ w.cell? ⟨g, 1, none⟩ = some (.slice p y.legs.length q)) (hn : xs.length ≤ 2000000) (hbase : base ≤ w.heap.size)
    (h : ∀ v' w' F', contsR.O w' base F' v' (xs ++ [y]) → Below base w w' → (∀ b, F' b → F b ∨ Fu b ∨ w.heap.size ≤ b) → wpList Try.prog ops Q rest (a.put o.dst v') w') : wpList Try.prog ops Q (o :: rest) a w := by
  obtain ⟨i0, hi, hz0, hz1, hz2⟩ := info_parts infoConts
  exact wpl_appN w hgd s x 73 ho 26 i0 _ 2 32 Try.underlying73 hi hz0 hz1 hz2 rfl (by decide) (by decide) base F Fu v _ xs y ⟨g, 0, none⟩ 1 hs hx hown hu rfl (fun z hz => by
    simp [lvCont, one] at hz
    rcases hz with rfl | rfl <;> rfl) hd (fun j y' hj => by
    match j, hj with
    | 0, hj => simp [lvCont, one] at hj; subst hj; simpa [Addr.add] using hc.1
    | 1, hj => simp [lvCont, one] at hj; subst hj; simpa [Addr.add] using hc.2
    | j + 2, hj => simp [lvCont, one] at hj) hn hbase h
theorem conts_nil (w : World) (base : Nat) : contsR.O w base (fun _ => False) (.slice none 0 0) [] :=
  ⟨[], fun _ => default, fun _ _ => False, ⟨World.ownsRow_nil _ _ _ _, fun i hi => absurd hi (Nat.not_lt_zero _), fun i hi => absurd hi (Nat.not_lt_zero _), fun i hi => absurd hi (Nat.not_lt_zero _), fun i hi => absurd hi (Nat.not_lt_zero _), fun i j hi => absurd hi (Nat.not_lt_zero _)⟩, fun b => ⟨fun h => h.elim, fun h => h.elim (fun h => by simp [Value.ownBlock] at h) (fun ⟨i, hi, _⟩ => absurd hi (Nat.not_lt_zero _))⟩⟩
theorem cont_cells {w : World} {base : Nat} {F : Nat → Prop} {v : Value} {x : Cont} (h : contR.O w base F v x) : ∃ a c, v = .agg #[.int .i64 x.id, .slice a x.legs.length c] := by
  obtain ⟨u1, F1, rfl, h1, _⟩ := h
  obtain ⟨a, c, rfl⟩ := legs_form (legsR.ofO h1)
  exact ⟨a, c, rfl⟩
theorem set6 {α : Type} (R : Rep α) {W : World} {base B : Nat} {F : Nat → Prop} {v : Value} {x : α} (h : R.O W base F v x) (hB : B < base) (u0 u1 u2 u3 u4 u5 : Value) :
    R.O ((((((W.setCell ⟨B, 0, none⟩ u0).setCell ⟨B, 1, none⟩ u1).setCell ⟨B, 2, none⟩ u2).setCell ⟨B, 3, none⟩ u3).setCell ⟨B, 4, none⟩ u4).setCell ⟨B, 5, none⟩ u5) base F v x :=
  R.set (R.set (R.set (R.set (R.set (R.set h _ hB) _ hB) _ hB) _ hB) _ hB) _ hB
def copG (d : Shd) : Nat → (Nat → Value) → Nat → Nat → World → Prop
  | 4, y, lo, hi, w => (∃ a c, y 7 = .slice a d.bals.length c) ∧ w.ownsRow lo 129 3 (y 7) d.bals.length (balsC d.bals) ∧ ∀ b, (y 7).ownBlock = some b → b < hi
  | 7, y, lo, hi, w => (∃ a c, y 10 = .slice a d.votes.length c) ∧ w.ownsRow lo 193 2 (y 10) d.votes.length (mrksC d.votes) ∧ ∀ b, (y 10).ownBlock = some b → b < hi
  | 10, y, lo, hi, w => (∃ a c, y 13 = .slice a d.held.length c) ∧ ∃ F, contsR.O w lo F (y 13) d.held ∧ ∀ b, F b → b < hi
  | 13, y, lo, hi, w => (∃ a c, y 16 = .slice a d.done.length c) ∧ w.ownsRow lo 193 2 (y 16) d.done.length (mrksC d.done) ∧ ∀ b, (y 16).ownBlock = some b → b < hi
  | 16, y, lo, hi, w => (∃ a c, y 19 = .slice a d.appl.length c) ∧ w.ownsRow lo 2 1 (y 19) d.appl.length (intsC d.appl) ∧ ∀ b, (y 19).ownBlock = some b → b < hi
  | 17, y, _, _, _ => y 20 = .agg #[.int .i64 d.idx, y 7, y 10, y 13, y 16, y 19]
  | _, _, _, _, _ => True
set_option maxRecDepth 20000 in
set_option maxHeartbeats 8000000 in
theorem copEachC_u (x : Value) (xs : List Cont) (w : World) (hx : contsR.V w x xs) (hn : xs.length ≤ 1048576) (hll : ∀ k, k < xs.length → (xs.getD k default).legs.length ≤ 1048576) :
    Calls Try.prog 115 #[x, .func (.func 116) #[] #[]] w fun e w' => ∃ v F, e = .returned v ∧ contsR.O w' w.heap.size F v xs ∧ Below w.heap.size w w' := by
  obtain ⟨a3, c3, e3, hc3, hm3, hx3⟩ := conts_at10 hx
  subst e3
  unfold maxLen at hm3
  have HX : Hid (∀ k, k < xs.length → ∃ b o p q, a3 = some ⟨b, o, none⟩ ∧ w.cell? ⟨b, o + k * 2, none⟩ = some (.int .i64 (xs.getD k default).id) ∧ w.cell? ⟨b, o + k * 2 + 1, none⟩ = some (.slice p (xs.getD k default).legs.length q) ∧ contR.V w (.agg #[.int .i64 (xs.getD k default).id, .slice p (xs.getD k default).legs.length q]) (xs.getD k default)) := hx3
  have HLl : Hid (∀ k, k < xs.length → (xs.getD k default).legs.length ≤ 1048576) := hll
  clear hx3 hll hx
  obtain ⟨n3, hn3⟩ : ∃ n3, n3 = xs.length := ⟨_, rfl⟩
  have HN : Hid (xs.length = n3) := hn3.symm
  rw [← hn3] at hc3 HX HLl hn ⊢
  clear hn3
  have eg := enters_of Try.func116 (by kernel_rfl) rfl
  go_enter Try.func115, Try.ntmps115
  go_wp2
  go_loopw [5, 10] (fun s i w' => ∃ (k : Nat) (a : Option Addr) (c : Nat) (F : Nat → Prop), k ≤ n3 ∧ i = .int .i64 k ∧ s = .slice a k c ∧ Hid (contsR.O w' w.heap.size F (.slice a k c) (xs.take k)) ∧ Below w.heap.size w w') (fun s i _ => n3 - (intOf i).toNat)
  case atStart => exact ⟨0, none, 0, _, Nat.zero_le _, rfl, rfl, conts_nil _ _, by (repeat (first | exact Below.refl _ _ | assumption | refine Below.drew ?_ | refine balloc ?_ _ | refine bset ?_ (by simp; omega) _ | refine bset ?_ (by simp) _ | refine bstep ?_ (by assumption)))⟩
  case round =>
    obtain ⟨k, as_, cs_, F, hk, rfl, rfl, HO, hbl⟩ := hrel
    have zr := hbl.size
    by_cases hlt : k < n3
    · obtain ⟨bx, ox, pp, qq, rfl, g0, g1, hV⟩ := HX.out k hlt
      have hcw := HLl.out k hlt
      obtain ⟨l, hl⟩ : ∃ l, l = xs.getD k default := ⟨_, rfl⟩
      rw [← hl] at g0 g1 hV hcw
      have HL : Hid (xs.take (k + 1) = xs.take k ++ [l]) := by
        show _ = _
        rw [List.take_succ_eq_append_getElem (by rw [HN.out]; exact hlt), hl]
        simp [List.getD, show k < xs.length by rw [HN.out]; exact hlt]
      clear hl
      have HCp : Hid (∀ W, Below w.heap.size w W → Calls Try.prog 116 #[.agg #[.int .i64 l.id, .slice pp l.legs.length qq]] W fun e w' => ∃ v F, e = .returned v ∧ contR.O w' W.heap.size F v l ∧ Below W.heap.size W w') := fun W hW => copiedCon_u _ l W (contR.below hV hW) hcw
      clear hV
      replace g0 := cell_keep hbl g0
      replace g1 := cell_keep hbl g1
      have zb : bx < wr.heap.size := World.block_lt_of_cell? wr _ g0
      go_wp2_with fail
      refine (HCp.out _ (by (repeat (first | exact Below.refl _ _ | assumption | refine Below.drew ?_ | refine balloc ?_ _ | refine bset ?_ (by simp; omega) _ | refine bset ?_ (by simp) _ | refine bstep ?_ (by assumption))))).mono ?_
      rintro e w2 ⟨v2, F2, rfl, o2, hb2⟩
      obtain ⟨a2', c2', rfl⟩ := cont_cells o2
      have hz2 := hb2.size
      simp at hz2
      have hB2 : Below wr.heap.size wr w2 := by (repeat (first | exact Below.refl _ _ | assumption | refine Below.drew ?_ | refine balloc ?_ _ | refine bset ?_ (by simp; omega) _ | refine bset ?_ (by simp) _ | refine bstep ?_ (by assumption)))
      have HO2 : Hid (contsR.O w2 w.heap.size F (.slice as_ k cs_) (xs.take k)) := contsR.keep HO.out hB2
      have HFl : Hid (∀ b, F b → b < wr.heap.size) := fun b hb => (contsR.rng HO.out b hb).2
      have HF2 : Hid (∀ b, F2 b → wr.heap.size + 1 ≤ b) := fun b hb => by have := (contR.rng o2 b hb).1; simpa using this
      have HU : Hid (contR.O w2 w.heap.size F2 (.agg #[.int .i64 l.id, .slice a2' l.legs.length c2']) l) := contR.base o2 (by simp; omega)
      have hB3 : Below w.heap.size w w2 := bstep hbl hB2
      clear hb2 o2 HCp HO g0 g1 hB2
      go_wp2_with (at_builtin; refine wpl_appC _ rfl _ _ rfl w.heap.size F F2 _ (xs.take k) l w2.heap.size a2' c2' rfl rfl ?a1 ?a2 ?a3 ?a4 ?a5 ?a6 ?_)
      case a1 => exact contsR.alloc HO2.out _
      case a2 => exact contR.alloc HU.out _
      case a3 => exact fun b h1 h2 => by have := HFl.out b h1; have := HF2.out b h2; omega
      case a4 => simp [go_sem]
      case a5 => rw [List.length_take, HN.out]; omega
      case a6 => simp; omega
      intro v3 w3 F3 o3 hb3 _
      rw [← HL.out] at o3
      obtain ⟨a3', c3', e3⟩ := conts_form (contsR.ofO o3)
      rw [show (xs.take (k + 1)).length = k + 1 by rw [List.length_take, HN.out]; omega] at e3
      subst e3
      have HO3 : Hid (contsR.O w3 w.heap.size F3 (.slice a3' (k + 1) c3') (xs.take (k + 1))) := o3
      have hB5 : Below w.heap.size w w3 := Below.trans (balloc hB3 _) hb3
      clear o3 hb3
      go_wp2
      exact ⟨⟨k + 1, a3', c3', F3, by omega, by go_num, rfl, HO3, hB5⟩, by simp [intOf]; omega⟩
    · have hkn : k = n3 := by omega
      subst hkn
      have ho := HO.out
      rw [List.take_of_length_le (by rw [HN.out]; exact Nat.le_refl _)] at ho
      go_wp2
      go_ret
      exact ⟨_, F, rfl, ho, hbl⟩
set_option maxRecDepth 20000 in
set_option maxHeartbeats 8000000 in
theorem copiedShd_u (x : Value) (d : Shd) (w : World) (hx : shdR.V w x d) (hn : d.bals.length ≤ 1048576 ∧ d.votes.length ≤ 1048576 ∧ d.held.length ≤ 1048576 ∧ d.done.length ≤ 1048576 ∧ d.appl.length ≤ 1048576) (hll : ∀ k, k < d.held.length → (d.held.getD k default).legs.length ≤ 1048576) :
    Calls Try.prog 78 #[x] w fun e w' => ∃ v F, e = .returned v ∧ shdR.O w' w.heap.size F v d ∧ Below w.heap.size w w' := by
  obtain ⟨u1, u2, u3, u4, u5, rfl, h1, h2, h3, h4, h5⟩ := hx
  have HA1 : Hid (∀ W, Below w.heap.size w W → AppAny W u1 d.bals.length (balsC d.bals)) := fun W hW => appAny_bals (balsR.below h1 hW)
  have HA2 : Hid (∀ W, Below w.heap.size w W → AppAny W u2 d.votes.length (mrksC d.votes)) := fun W hW => appAny_mrks10 (mrksR.below h2 hW)
  have HA4 : Hid (∀ W, Below w.heap.size w W → AppAny W u4 d.done.length (mrksC d.done)) := fun W hW => appAny_mrks10 (mrksR.below h4 hW)
  have HA5 : Hid (∀ W, Below w.heap.size w W → AppAny W u5 d.appl.length (intsC d.appl)) := fun W hW => appAny_ints (intsR.below h5 hW)
  have HC3 : Hid (∀ W, Below w.heap.size w W → Calls Try.prog 115 #[u3, .func (.func 116) #[] #[]] W fun e w' => ∃ v F, e = .returned v ∧ contsR.O w' W.heap.size F v d.held ∧ Below W.heap.size W w') := fun W hW => copEachC_u _ d.held W (contsR.below h3 hW) hn.2.2.1 hll
  obtain ⟨a1, c1, rfl⟩ := bals_form h1
  obtain ⟨a2, c2, rfl⟩ := mrks_form h2
  obtain ⟨a3, c3, rfl⟩ := conts_form h3
  obtain ⟨a4, c4, rfl⟩ := mrks_form h4
  obtain ⟨a5, c5, rfl⟩ := ints_form h5
  have HLn : Hid (d.bals.length ≤ 1048576 ∧ d.votes.length ≤ 1048576 ∧ d.held.length ≤ 1048576 ∧ d.done.length ≤ 1048576 ∧ d.appl.length ≤ 1048576) := hn
  clear h1 h2 h3 h4 h5 hn hll
  go_enter Try.func78, Try.ntmps78
  go_wp2
  obtain ⟨wq, hwq⟩ : ∃ wq, wq = (w.alloc (.cells #[.int .i64 d.idx, .slice a1 d.bals.length c1, .slice a2 d.votes.length c2, .slice a3 d.held.length c3, .slice a4 d.done.length c4, .slice a5 d.appl.length c5] 75)).alloc (.cells #[.int .i64 0, .slice none 0 0, .slice none 0 0, .slice none 0 0, .slice none 0 0, .slice none 0 0] 75) := ⟨_, rfl⟩
  have y0 : wq.cell? ⟨w.heap.size, 0, none⟩ = some (.int .i64 d.idx) := by rw [hwq]; simp [go_sem]
  have y1 : wq.cell? ⟨w.heap.size, 1, none⟩ = some (.slice a1 d.bals.length c1) := by rw [hwq]; simp [go_sem]
  have y2 : wq.cell? ⟨w.heap.size, 2, none⟩ = some (.slice a2 d.votes.length c2) := by rw [hwq]; simp [go_sem]
  have y3 : wq.cell? ⟨w.heap.size, 3, none⟩ = some (.slice a3 d.held.length c3) := by rw [hwq]; simp [go_sem]
  have y4 : wq.cell? ⟨w.heap.size, 4, none⟩ = some (.slice a4 d.done.length c4) := by rw [hwq]; simp [go_sem]
  have y5 : wq.cell? ⟨w.heap.size, 5, none⟩ = some (.slice a5 d.appl.length c5) := by rw [hwq]; simp [go_sem]
  have r0 : wq.cell? ⟨w.heap.size + 1, 0, none⟩ = some (.int .i64 0) := by rw [hwq]; simp [go_sem]
  have r1 : wq.cell? ⟨w.heap.size + 1, 1, none⟩ = some (.slice none 0 0) := by rw [hwq]; simp [go_sem]
  have r2 : wq.cell? ⟨w.heap.size + 1, 2, none⟩ = some (.slice none 0 0) := by rw [hwq]; simp [go_sem]
  have r3 : wq.cell? ⟨w.heap.size + 1, 3, none⟩ = some (.slice none 0 0) := by rw [hwq]; simp [go_sem]
  have r4 : wq.cell? ⟨w.heap.size + 1, 4, none⟩ = some (.slice none 0 0) := by rw [hwq]; simp [go_sem]
  have r5 : wq.cell? ⟨w.heap.size + 1, 5, none⟩ = some (.slice none 0 0) := by rw [hwq]; simp [go_sem]
  have rf : ∀ o, wq.frozen? ⟨w.heap.size + 1, o, none⟩ = false := fun o => by rw [hwq]; simp [go_sem]
  have hBq : Below w.heap.size w wq := by rw [hwq]; (repeat (first | exact Below.refl _ _ | assumption | refine Below.drew ?_ | refine balloc ?_ _ | refine bset ?_ (by simp; omega) _ | refine bset ?_ (by simp) _ | refine bstep ?_ (by assumption)))
  have zq : w.heap.size + 1 < wq.heap.size := by rw [hwq]; simp
  rw [← hwq]
  clear hwq
  refine wp_region_noPanic ?_
  refine region_upto (fun W => Below wq.heap.size wq W ∧ W.cell? ⟨w.heap.size, 0, none⟩ = some (.int .i64 d.idx) ∧ W.cell? ⟨w.heap.size, 1, none⟩ = some (.slice a1 d.bals.length c1) ∧ W.cell? ⟨w.heap.size, 2, none⟩ = some (.slice a2 d.votes.length c2) ∧ W.cell? ⟨w.heap.size, 3, none⟩ = some (.slice a3 d.held.length c3) ∧ W.cell? ⟨w.heap.size, 4, none⟩ = some (.slice a4 d.done.length c4) ∧ W.cell? ⟨w.heap.size, 5, none⟩ = some (.slice a5 d.appl.length c5)) 18 (by kernel_rfl) ⟨by (repeat (first | exact Below.refl _ _ | assumption | refine Below.drew ?_ | refine balloc ?_ _ | refine bset ?_ (by simp; omega) _ | refine bset ?_ (by simp) _ | refine bstep ?_ (by assumption))), cell_keep (by (repeat (first | exact Below.refl _ _ | assumption | refine Below.drew ?_ | refine balloc ?_ _ | refine bset ?_ (by simp; omega) _ | refine bset ?_ (by simp) _ | refine bstep ?_ (by assumption)))) y0, cell_keep (by (repeat (first | exact Below.refl _ _ | assumption | refine Below.drew ?_ | refine balloc ?_ _ | refine bset ?_ (by simp; omega) _ | refine bset ?_ (by simp) _ | refine bstep ?_ (by assumption)))) y1, cell_keep (by (repeat (first | exact Below.refl _ _ | assumption | refine Below.drew ?_ | refine balloc ?_ _ | refine bset ?_ (by simp; omega) _ | refine bset ?_ (by simp) _ | refine bstep ?_ (by assumption)))) y2, cell_keep (by (repeat (first | exact Below.refl _ _ | assumption | refine Below.drew ?_ | refine balloc ?_ _ | refine bset ?_ (by simp; omega) _ | refine bset ?_ (by simp) _ | refine bstep ?_ (by assumption)))) y3, cell_keep (by (repeat (first | exact Below.refl _ _ | assumption | refine Below.drew ?_ | refine balloc ?_ _ | refine bset ?_ (by simp; omega) _ | refine bset ?_ (by simp) _ | refine bstep ?_ (by assumption)))) y4, cell_keep (by (repeat (first | exact Below.refl _ _ | assumption | refine Below.drew ?_ | refine balloc ?_ _ | refine bset ?_ (by simp; omega) _ | refine bset ?_ (by simp) _ | refine bstep ?_ (by assumption)))) y5⟩ (fun hS => ?_)
  refine upto_take (i := 0) (v := ?_) rfl (by kernel_rfl) (by kernel_rfl) (by kernel_rfl) (by kernel_rfl) (fun _ _ _ h => h) (by rfl) hS ?_ ?_
  rotate_left
  · intro wS hSw
    try dsimp only at hSw
    first | (go_simp; done) | (go_simp; with_reducible rfl)
  try simp only [Act.put, List.getElem_toArray, List.getElem_cons_zero, List.getElem_cons_succ, List.setIfInBounds_toArray, List.set_cons_zero, List.set_cons_succ]
  refine upto_take (i := 1) (v := ?_) rfl (by kernel_rfl) (by kernel_rfl) (by kernel_rfl) (by kernel_rfl) (fun _ _ _ h => h) (by rfl) hS ?_ ?_
  rotate_left
  · intro wS hSw
    try dsimp only at hSw
    first | (go_simp; done) | (go_simp; with_reducible rfl)
  try simp only [Act.put, List.getElem_toArray, List.getElem_cons_zero, List.getElem_cons_succ, List.setIfInBounds_toArray, List.set_cons_zero, List.set_cons_succ]
  refine upto_take (i := 2) (v := ?_) rfl (by kernel_rfl) (by kernel_rfl) (by kernel_rfl) (by kernel_rfl) (fun _ _ _ h => h) (by rfl) hS ?_ ?_
  rotate_left
  · intro wS hSw
    try dsimp only at hSw
    first | (go_simp; done) | (go_simp; with_reducible rfl)
  try simp only [Act.put, List.getElem_toArray, List.getElem_cons_zero, List.getElem_cons_succ, List.setIfInBounds_toArray, List.set_cons_zero, List.set_cons_succ]
  refine upto_take (i := 3) (v := ?_) rfl (by kernel_rfl) (by kernel_rfl) (by kernel_rfl) (by kernel_rfl) (fun _ _ _ h => h) (by rfl) hS ?_ ?_
  rotate_left
  · intro wS hSw
    try dsimp only at hSw
    first | (go_simp; done) | (go_simp; with_reducible rfl)
  try simp only [Act.put, List.getElem_toArray, List.getElem_cons_zero, List.getElem_cons_succ, List.setIfInBounds_toArray, List.set_cons_zero, List.set_cons_succ]
  refine upto_take (i := 5) (v := ?_) rfl (by kernel_rfl) (by kernel_rfl) (by kernel_rfl) (by kernel_rfl) (fun _ _ _ h => h) (by rfl) hS ?_ ?_
  rotate_left
  · intro wS hSw
    try dsimp only at hSw
    first | (go_simp; done) | (go_simp; with_reducible rfl)
  try simp only [Act.put, List.getElem_toArray, List.getElem_cons_zero, List.getElem_cons_succ, List.setIfInBounds_toArray, List.set_cons_zero, List.set_cons_succ]
  refine upto_take (i := 6) (v := ?_) rfl (by kernel_rfl) (by kernel_rfl) (by kernel_rfl) (by kernel_rfl) (fun _ _ _ h => h) (by rfl) hS ?_ ?_
  rotate_left
  · intro wS hSw
    try dsimp only at hSw
    first | (go_simp; done) | (go_simp; with_reducible rfl)
  try simp only [Act.put, List.getElem_toArray, List.getElem_cons_zero, List.getElem_cons_succ, List.setIfInBounds_toArray, List.set_cons_zero, List.set_cons_succ]
  refine upto_take (i := 8) (v := ?_) rfl (by kernel_rfl) (by kernel_rfl) (by kernel_rfl) (by kernel_rfl) (fun _ _ _ h => h) (by rfl) hS ?_ ?_
  rotate_left
  · intro wS hSw
    try dsimp only at hSw
    first | (go_simp; done) | (go_simp; with_reducible rfl)
  try simp only [Act.put, List.getElem_toArray, List.getElem_cons_zero, List.getElem_cons_succ, List.setIfInBounds_toArray, List.set_cons_zero, List.set_cons_succ]
  refine upto_take (i := 9) (v := ?_) rfl (by kernel_rfl) (by kernel_rfl) (by kernel_rfl) (by kernel_rfl) (fun _ _ _ h => h) (by rfl) hS ?_ ?_
  rotate_left
  · intro wS hSw
    try dsimp only at hSw
    first | (go_simp; done) | (go_simp; with_reducible rfl)
  try simp only [Act.put, List.getElem_toArray, List.getElem_cons_zero, List.getElem_cons_succ, List.setIfInBounds_toArray, List.set_cons_zero, List.set_cons_succ]
  refine upto_take (i := 11) (v := ?_) rfl (by kernel_rfl) (by kernel_rfl) (by kernel_rfl) (by kernel_rfl) (fun _ _ _ h => h) (by rfl) hS ?_ ?_
  rotate_left
  · intro wS hSw
    try dsimp only at hSw
    first | (go_simp; done) | (go_simp; with_reducible rfl)
  try simp only [Act.put, List.getElem_toArray, List.getElem_cons_zero, List.getElem_cons_succ, List.setIfInBounds_toArray, List.set_cons_zero, List.set_cons_succ]
  refine upto_take (i := 12) (v := ?_) rfl (by kernel_rfl) (by kernel_rfl) (by kernel_rfl) (by kernel_rfl) (fun _ _ _ h => h) (by rfl) hS ?_ ?_
  rotate_left
  · intro wS hSw
    try dsimp only at hSw
    first | (go_simp; done) | (go_simp; with_reducible rfl)
  try simp only [Act.put, List.getElem_toArray, List.getElem_cons_zero, List.getElem_cons_succ, List.setIfInBounds_toArray, List.set_cons_zero, List.set_cons_succ]
  refine upto_take (i := 14) (v := ?_) rfl (by kernel_rfl) (by kernel_rfl) (by kernel_rfl) (by kernel_rfl) (fun _ _ _ h => h) (by rfl) hS ?_ ?_
  rotate_left
  · intro wS hSw
    try dsimp only at hSw
    first | (go_simp; done) | (go_simp; with_reducible rfl)
  try simp only [Act.put, List.getElem_toArray, List.getElem_cons_zero, List.getElem_cons_succ, List.setIfInBounds_toArray, List.set_cons_zero, List.set_cons_succ]
  refine upto_take (i := 15) (v := ?_) rfl (by kernel_rfl) (by kernel_rfl) (by kernel_rfl) (by kernel_rfl) (fun _ _ _ h => h) (by rfl) hS ?_ ?_
  rotate_left
  · intro wS hSw
    try dsimp only at hSw
    first | (go_simp; done) | (go_simp; with_reducible rfl)
  try simp only [Act.put, List.getElem_toArray, List.getElem_cons_zero, List.getElem_cons_succ, List.setIfInBounds_toArray, List.set_cons_zero, List.set_cons_succ]
  have hb0 : Below wq.heap.size wq wq.drew := by (repeat (first | exact Below.refl _ _ | assumption | refine Below.drew ?_ | refine balloc ?_ _ | refine bset ?_ (by simp; omega) _ | refine bset ?_ (by simp) _ | refine bstep ?_ (by assumption)))
  have zw0 : w.heap.size + 1 < wq.drew.heap.size := by simp; omega
  replace r0 := cell_keep hb0 r0
  replace r1 := cell_keep hb0 r1
  replace r2 := cell_keep hb0 r2
  replace r3 := cell_keep hb0 r3
  replace r4 := cell_keep hb0 r4
  replace r5 := cell_keep hb0 r5
  replace rf : ∀ o, wq.drew.frozen? ⟨w.heap.size + 1, o, none⟩ = false := fun o => by rw [(bcell hb0).2 _ _ (by omega)]; exact rf o
  have hBd : Below w.heap.size w wq.drew := bstep hBq hb0
  clear hb0
  generalize wq.drew = W0 at *
  refine upto_stable' [(4, 7), (7, 10), (10, 13), (13, 16), (16, 19), (17, 20)] (copG d) (by kernel_rfl) hS (fun W W' h hb => ⟨bstep h.1 hb, cell_keep hb h.2.1, cell_keep hb h.2.2.1, cell_keep hb h.2.2.2.1, cell_keep hb h.2.2.2.2.1, cell_keep hb h.2.2.2.2.2.1, cell_keep hb h.2.2.2.2.2.2⟩) ?_ ?_ ?_
  · intro p hp
    simp only [List.mem_cons, List.not_mem_nil, or_false] at hp
    rcases hp with rfl | rfl | rfl | rfl | rfl | rfl
    all_goals intro y y' lo hi W W' h hi' hb e he
    · simp only [copG] at h ⊢
      rw [e]
      exact ⟨h.1, owns_below h.2.1 hb, h.2.2⟩
    · simp only [copG] at h ⊢
      rw [e]
      exact ⟨h.1, owns_below h.2.1 hb, h.2.2⟩
    · simp only [copG] at h ⊢
      rw [e]
      obtain ⟨h1, F, h2, h3⟩ := h
      exact ⟨h1, F, contsR.keep h2 hb, h3⟩
    · simp only [copG] at h ⊢
      rw [e]
      exact ⟨h.1, owns_below h.2.1 hb, h.2.2⟩
    · simp only [copG] at h ⊢
      rw [e]
      exact ⟨h.1, owns_below h.2.1 hb, h.2.2⟩
    · have e1 := he (4, 7) (by simp) (by kernel_rfl)
      have e2 := he (7, 10) (by simp) (by kernel_rfl)
      have e3 := he (10, 13) (by simp) (by kernel_rfl)
      have e4 := he (13, 16) (by simp) (by kernel_rfl)
      have e5 := he (16, 19) (by simp) (by kernel_rfl)
      simp only [copG] at h ⊢
      rw [e, e1, e2, e3, e4, e5]
      exact h
  · intro p hp
    simp only [List.mem_cons, List.not_mem_nil, or_false] at hp
    rcases hp with rfl | rfl | rfl | rfl | rfl | rfl
    all_goals
      refine ⟨_, rfl, rfl, ?_⟩
      intro y W lo hi hSW hBW hd hap K hK
      clear hap
    · clear hd
      refine ⟨?_⟩
      refine step_app10B W rfl (.const (.slice none 0 0)) (.tmp 6) rfl W.heap.size (.slice none 0 0) [] rfl (.slice a1 d.bals.length c1) d.bals rfl (World.ownsRow_nil _ _ _ _) (HA1.out W (bstep hBq hSW.1)) (by have := HLn.out; simp; omega) (Nat.le_refl _) ?_
      intro v' w' ho _ hB
      have hb := hB W (Below.refl _ _)
      simp only [List.nil_append] at ho
      refine hK _ _ hb ?_
      simp only [copG, updV]
      obtain ⟨av, cv, hv⟩ := owns_form ho
      refine ⟨⟨av, cv, by simpa using hv⟩, by simpa using ho, fun b hb' => ?_⟩
      exact (ho.lt b (by simpa using hb')).2
    · clear hd
      refine ⟨?_⟩
      refine step_app10M W rfl (.const (.slice none 0 0)) (.tmp 9) rfl W.heap.size (.slice none 0 0) [] rfl (.slice a2 d.votes.length c2) d.votes rfl (World.ownsRow_nil _ _ _ _) (HA2.out W (bstep hBq hSW.1)) (by have := HLn.out; simp; omega) (Nat.le_refl _) ?_
      intro v' w' ho _ hB
      have hb := hB W (Below.refl _ _)
      simp only [List.nil_append] at ho
      refine hK _ _ hb ?_
      simp only [copG, updV]
      obtain ⟨av, cv, hv⟩ := owns_form ho
      refine ⟨⟨av, cv, by simpa using hv⟩, by simpa using ho, fun b hb' => ?_⟩
      exact (ho.lt b (by simpa using hb')).2
    · clear hd
      refine ⟨?_⟩
      simp only [over, Act.put, List.getElem_toArray, List.getElem_cons_zero, List.getElem_cons_succ, List.map_cons, List.map_nil, List.foldl_cons, List.foldl_nil, List.setIfInBounds_toArray, List.set_cons_zero, List.set_cons_succ] at hK ⊢
      go_simp
      refine (HC3.out _ (bstep hBq hSW.1)).mono ?_
      rintro e w' ⟨v, F, rfl, o3, hb3⟩
      refine hK _ _ hb3 ?_
      simp only [copG, updV]
      obtain ⟨av, cv, hv⟩ := conts_form (contsR.ofO o3)
      exact ⟨⟨av, cv, by simpa using hv⟩, F, by simpa using o3, fun b hb' => (contsR.rng o3 b hb').2⟩
    · clear hd
      refine ⟨?_⟩
      refine step_app10M W rfl (.const (.slice none 0 0)) (.tmp 15) rfl W.heap.size (.slice none 0 0) [] rfl (.slice a4 d.done.length c4) d.done rfl (World.ownsRow_nil _ _ _ _) (HA4.out W (bstep hBq hSW.1)) (by have := HLn.out; simp; omega) (Nat.le_refl _) ?_
      intro v' w' ho _ hB
      have hb := hB W (Below.refl _ _)
      simp only [List.nil_append] at ho
      refine hK _ _ hb ?_
      simp only [copG, updV]
      obtain ⟨av, cv, hv⟩ := owns_form ho
      refine ⟨⟨av, cv, by simpa using hv⟩, by simpa using ho, fun b hb' => ?_⟩
      exact (ho.lt b (by simpa using hb')).2
    · clear hd
      refine ⟨?_⟩
      refine step_app10I W rfl (.const (.slice none 0 0)) (.tmp 18) rfl W.heap.size (.slice none 0 0) [] rfl (.slice a5 d.appl.length c5) d.appl rfl (World.ownsRow_nil _ _ _ _) (HA5.out W (bstep hBq hSW.1)) (by have := HLn.out; simp; omega) (Nat.le_refl _) ?_
      intro v' w' ho _ hB
      have hb := hB W (Below.refl _ _)
      simp only [List.nil_append] at ho
      refine hK _ _ hb ?_
      simp only [copG, updV]
      obtain ⟨av, cv, hv⟩ := owns_form ho
      refine ⟨⟨av, cv, by simpa using hv⟩, by simpa using ho, fun b hb' => ?_⟩
      exact (ho.lt b (by simpa using hb')).2
    · have g1 := (hd (4, 7) (by simp) (by kernel_rfl)).2
      have g2 := (hd (7, 10) (by simp) (by kernel_rfl)).2
      have g3 := (hd (10, 13) (by simp) (by kernel_rfl)).2
      have g4 := (hd (13, 16) (by simp) (by kernel_rfl)).2
      have g5 := (hd (16, 19) (by simp) (by kernel_rfl)).2
      clear hd
      simp only [copG] at g1 g2 g3 g4 g5
      obtain ⟨⟨q1, s1, e1⟩, _⟩ := g1
      obtain ⟨⟨q2, s2, e2⟩, _⟩ := g2
      obtain ⟨⟨q3, s3, e3⟩, _⟩ := g3
      obtain ⟨⟨q4, s4, e4⟩, _⟩ := g4
      obtain ⟨⟨q5, s5, e5⟩, _⟩ := g5
      refine ⟨?_⟩
      simp only [over, Act.put, List.getElem_toArray, List.getElem_cons_zero, List.getElem_cons_succ, List.map_cons, List.map_nil, List.foldl_cons, List.foldl_nil, List.setIfInBounds_toArray, List.set_cons_zero, List.set_cons_succ] at hK ⊢
      simp only [e1, e2, e3, e4, e5] at hK ⊢
      go_simp
      refine hK _ _ (Below.refl _ _) ?_
      simp only [copG, updV]
      simp [e1, e2, e3, e4, e5]
  · refine ⟨_, rfl, ?_⟩
    intro y W lo hi hSW hBW hd hap K hK
    have h1 := hd (4, 7) (by simp)
    have h2 := hd (7, 10) (by simp)
    have h3 := hd (10, 13) (by simp)
    have h4 := hd (13, 16) (by simp)
    have h5 := hd (16, 19) (by simp)
    have h6 := hd (17, 20) (by simp)
    clear hd
    simp only [copG] at h1 h2 h3 h4 h5 h6
    obtain ⟨b1, ⟨q1, s1, e1⟩, o1, l1⟩ := h1
    obtain ⟨b2, ⟨q2, s2, e2⟩, o2, l2⟩ := h2
    obtain ⟨b3, ⟨q3, s3, e3⟩, F3, o3, l3⟩ := h3
    obtain ⟨b4, ⟨q4, s4, e4⟩, o4, l4⟩ := h4
    obtain ⟨b5, ⟨q5, s5, e5⟩, o5, l5⟩ := h5
    obtain ⟨_, g6⟩ := h6
    have p1_2 := hap (4, 7) (by simp) (7, 10) (by simp) (by simp)
    have p1_3 := hap (4, 7) (by simp) (10, 13) (by simp) (by simp)
    have p1_4 := hap (4, 7) (by simp) (13, 16) (by simp) (by simp)
    have p1_5 := hap (4, 7) (by simp) (16, 19) (by simp) (by simp)
    have p2_3 := hap (7, 10) (by simp) (10, 13) (by simp) (by simp)
    have p2_4 := hap (7, 10) (by simp) (13, 16) (by simp) (by simp)
    have p2_5 := hap (7, 10) (by simp) (16, 19) (by simp) (by simp)
    have p3_4 := hap (10, 13) (by simp) (13, 16) (by simp) (by simp)
    have p3_5 := hap (10, 13) (by simp) (16, 19) (by simp) (by simp)
    have p4_5 := hap (13, 16) (by simp) (16, 19) (by simp) (by simp)
    clear hap
    simp only [ApartB] at p1_2 p1_3 p1_4 p1_5 p2_3 p2_4 p2_5 p3_4 p3_5 p4_5
    rw [e1] at o1 l1 g6
    have t1 : ∀ b, (Value.slice q1 _ s1).ownBlock = some b → lo 4 ≤ b ∧ b < hi 4 := fun b h => ⟨(o1.lt b h).1, l1 b h⟩
    have z1 : W0.heap.size ≤ lo 4 := b1.1
    rw [e2] at o2 l2 g6
    have t2 : ∀ b, (Value.slice q2 _ s2).ownBlock = some b → lo 7 ≤ b ∧ b < hi 7 := fun b h => ⟨(o2.lt b h).1, l2 b h⟩
    have z2 : W0.heap.size ≤ lo 7 := b2.1
    rw [e3] at o3 g6
    have t3 : ∀ b, F3 b → lo 10 ≤ b ∧ b < hi 10 := fun b h => ⟨(contsR.rng o3 b h).1, l3 b h⟩
    have z3 : W0.heap.size ≤ lo 10 := b3.1
    rw [e4] at o4 l4 g6
    have t4 : ∀ b, (Value.slice q4 _ s4).ownBlock = some b → lo 13 ≤ b ∧ b < hi 13 := fun b h => ⟨(o4.lt b h).1, l4 b h⟩
    have z4 : W0.heap.size ≤ lo 13 := b4.1
    rw [e5] at o5 l5 g6
    have t5 : ∀ b, (Value.slice q5 _ s5).ownBlock = some b → lo 16 ≤ b ∧ b < hi 16 := fun b h => ⟨(o5.lt b h).1, l5 b h⟩
    have z5 : W0.heap.size ≤ lo 16 := b5.1
    replace r0 := cell_keep hBW r0
    replace r1 := cell_keep hBW r1
    replace r2 := cell_keep hBW r2
    replace r3 := cell_keep hBW r3
    replace r4 := cell_keep hBW r4
    replace r5 := cell_keep hBW r5
    replace rf : ∀ o, W.frozen? ⟨w.heap.size + 1, o, none⟩ = false := fun o => by rw [(bcell hBW).2 _ _ zw0]; exact rf o
    have hBB : Below w.heap.size w W := bstep hBd hBW
    have P1 : Hid (balsR.O W (lo 4) (fun b => (Value.slice q1 d.bals.length s1).ownBlock = some b) (.slice q1 d.bals.length s1) d.bals) := ⟨o1, rfl⟩
    have P2 : Hid (mrksR.O W (lo 7) (fun b => (Value.slice q2 d.votes.length s2).ownBlock = some b) (.slice q2 d.votes.length s2) d.votes) := ⟨o2, rfl⟩
    have P3 : Hid (contsR.O W (lo 10) F3 (.slice q3 d.held.length s3) d.held) := o3
    have P4 : Hid (mrksR.O W (lo 13) (fun b => (Value.slice q4 d.done.length s4).ownBlock = some b) (.slice q4 d.done.length s4) d.done) := ⟨o4, rfl⟩
    have P5 : Hid (intsR.O W (lo 16) (fun b => (Value.slice q5 d.appl.length s5).ownBlock = some b) (.slice q5 d.appl.length s5) d.appl) := ⟨o5, rfl⟩
    have HT : Hid ((∀ b, (Value.slice q1 d.bals.length s1).ownBlock = some b → lo 4 ≤ b ∧ b < hi 4) ∧ (∀ b, (Value.slice q2 d.votes.length s2).ownBlock = some b → lo 7 ≤ b ∧ b < hi 7) ∧ (∀ b, F3 b → lo 10 ≤ b ∧ b < hi 10) ∧ (∀ b, (Value.slice q4 d.done.length s4).ownBlock = some b → lo 13 ≤ b ∧ b < hi 13) ∧ (∀ b, (Value.slice q5 d.appl.length s5).ownBlock = some b → lo 16 ≤ b ∧ b < hi 16)) := ⟨t1, t2, t3, t4, t5⟩
    clear o1 o2 o3 o4 o5 l1 l2 l3 l4 l5 t1 t2 t3 t4 t5 e1 e2 e3 e4 e5 b1 b2 b3 b4 b5 hSW
    refine ⟨?_⟩
    simp only [over, Act.put, List.getElem_toArray, List.getElem_cons_zero, List.getElem_cons_succ, List.map_cons, List.map_nil, List.foldl_cons, List.foldl_nil, List.setIfInBounds_toArray, List.set_cons_zero, List.set_cons_succ]
    simp only [g6]
    clear g6 hS
    go_simp
    refine hK _ _ ?_
    clear hK K
    refine NoPanic.normal ?_
    go_wp2
    refine bodyPost_ret (v := .agg #[.int .i64 d.idx, .slice q1 d.bals.length s1, .slice q2 d.votes.length s2, .slice q3 d.held.length s3, .slice q4 d.done.length s4, .slice q5 d.appl.length s5]) (by simp [results, Try.results78, go_sem, r0, r1, r2, r3, r4, r5, rf]) rfl ⟨_, _, rfl, ⟨_, _, _, _, _, _, _, F3, _, _, rfl, balsR.base (set6 balsR P1.out (by omega) _ _ _ _ _ _) (by omega), mrksR.base (set6 mrksR P2.out (by omega) _ _ _ _ _ _) (by omega), contsR.base (set6 contsR P3.out (by omega) _ _ _ _ _ _) (by omega), mrksR.base (set6 mrksR P4.out (by omega) _ _ _ _ _ _) (by omega), intsR.base (set6 intsR P5.out (by omega) _ _ _ _ _ _) (by omega), ?_, ?_, ?_, ?_, ?_, ?_, ?_, ?_, ?_, ?_, fun b => Iff.rfl⟩, by (repeat (first | refine bset ?_ (by simp; omega) _ | refine bset ?_ (by simp) _ | refine balloc ?_ _ | assumption))⟩
    all_goals
      intro b h h'
      obtain ⟨t1, t2, t3, t4, t5⟩ := HT.out
      first | (have := t1 b h; have := t2 b h'; omega) | (have := t1 b h; have := t3 b h'; omega) | (have := t1 b h; have := t4 b h'; omega) | (have := t1 b h; have := t5 b h'; omega) | (have := t2 b h; have := t3 b h'; omega) | (have := t2 b h; have := t4 b h'; omega) | (have := t2 b h; have := t5 b h'; omega) | (have := t3 b h; have := t4 b h'; omega) | (have := t3 b h; have := t5 b h'; omega) | (have := t4 b h; have := t5 b h'; omega)
end Go.Proofs.Ytncmdeijimgchaa

/-
  Ledger. (Written by program: nest.py.)
-/
namespace Go.Proofs.Ytncmdeijimgchaa
open Go.RowKit
set_option linter.unusedSectionVars false
variable [DecidableEq Bal] [Inhabited Bal]
attribute [local go_sem ↓] Go.wp_at_zero Go.wp_at_succ

structure Ledg where
  shards : List (List Bal)
variable [DecidableEq Ledg] [Inhabited Ledg]

end Go.Proofs.Ytncmdeijimgchaa

/-
  Contracts of the small functions of chapter 1: a number within bounds, what is asked of one leg, on both sides (specification and program).
-/
namespace Go.Proofs.Ytncmdeijimgchaa
open Go.RowKit
set_option linter.unusedSectionVars false
variable [DecidableEq Leg] [Inhabited Leg]

def inB (n lo hi : Int) : Bool := decide (lo ≤ n) && decide (n ≤ hi)
set_option maxHeartbeats 400000 in
theorem l1In_any (n lo hi : Int) (w : World) :
    Calls Try.prog 99 #[.int .i64 n, .int .i64 lo, .int .i64 hi] w fun e w' => e = .returned (.bool (inB n lo hi)) ∧ w' = w := by
  by_cases h1 : lo ≤ n
  all_goals
    go_enter Try.func99, Try.ntmps99
    go_wp2
    go_ret
    exact ⟨by first | (simp [inB, h1]; done) | (simp [inB]; omega), rfl⟩
set_option maxHeartbeats 400000 in
theorem within_any (n lo hi : Int) (w : World) :
    Calls Try.prog 90 #[.int .i64 n, .int .i64 lo, .int .i64 hi] w fun e w' => e = .returned (.bool (inB n lo hi)) ∧ w' = w := by
  by_cases h1 : lo ≤ n
  all_goals
    go_enter Try.func90, Try.ntmps90
    go_wp2
    go_ret
    exact ⟨by first | (simp [inB, h1]; done) | (simp [inB]; omega), rfl⟩
set_option maxHeartbeats 400000 in
theorem isShard_any (n : Int) (w : World) :
    Calls Try.prog 97 #[.int .i64 n] w fun e w' => e = .returned (.bool (inB n 0 2)) ∧ w' = w := by
  go_enter Try.func97, Try.ntmps97
  go_wp2_with (go_at_call 90; refine (within_any _ _ _ _).mono ?_; rintro e w' ⟨rfl, rfl⟩)
  go_ret
  exact ⟨rfl, rfl⟩
set_option maxHeartbeats 400000 in
theorem isAccount_any (n : Int) (w : World) :
    Calls Try.prog 152 #[.int .i64 n] w fun e w' => e = .returned (.bool (inB n 0 5)) ∧ w' = w := by
  go_enter Try.func152, Try.ntmps152
  go_wp2_with (go_at_call 90; refine (within_any _ _ _ _).mono ?_; rintro e w' ⟨rfl, rfl⟩)
  go_ret
  exact ⟨rfl, rfl⟩
set_option maxHeartbeats 400000 in
theorem isAsset_any (n : Int) (w : World) :
    Calls Try.prog 153 #[.int .i64 n] w fun e w' => e = .returned (.bool (inB n 0 2)) ∧ w' = w := by
  go_enter Try.func153, Try.ntmps153
  go_wp2_with (go_at_call 90; refine (within_any _ _ _ _).mono ?_; rintro e w' ⟨rfl, rfl⟩)
  go_ret
  exact ⟨rfl, rfl⟩
end Go.Proofs.Ytncmdeijimgchaa

/-
  Chapter 2 in plain mathematics: faults of balances and ledgers, what is had, totals, what can be settled.
-/
namespace Go.Proofs.Ytncmdeijimgchaa
open Go.RowKit
set_option linter.unusedSectionVars false
variable [DecidableEq Bal] [Inhabited Bal] [DecidableEq Ledg] [Inhabited Ledg] [DecidableEq Leg] [Inhabited Leg]

theorem wrapId {n : Int} (h0 : -9223372036854775808 ≤ n) (h1 : n ≤ 9223372036854775807) : IntKind.i64.wrap n = n := by
  rw [IntKind.wrap_i64]; omega
theorem bdrewN {B : Nat} {w Y : World} (h : Below B w Y) (n : Nat) : Below B w (Y.drewN n) := h.trans ⟨rfl, rfl, rfl, Nat.le_refl _, fun _ _ => rfl⟩
def scanI (f : Nat → Int) : Nat → Int
  | 0 => 0
  | n + 1 => if scanI f n = 0 then f n else scanI f n
theorem scanI_succ {f : Nat → Int} {k : Nat} (h : scanI f k = 0) (h' : f k = 0) : scanI f (k + 1) = 0 := by simp [scanI, h, h']
theorem scanI_hit {f : Nat → Int} {k : Nat} (h : scanI f k = 0) (h' : f k ≠ 0) : ∀ n, k < n → scanI f n = f k
  | 0, hn => by omega
  | n + 1, hn => by
    by_cases e : k = n
    · subst e; simp [scanI, h]
    · have := scanI_hit h h' n (by omega)
      simp [scanI, this, h']
theorem scanI_zero {f : Nat → Int} : ∀ {n : Nat}, scanI f n = 0 → ∀ k, k < n → f k = 0
  | 0, _, k, hk => by omega
  | n + 1, h, k, hk => by
    unfold scanI at h
    split at h
    · rename_i h1
      by_cases e : k = n
      · subst e; exact h
      · exact scanI_zero h1 k (by omega)
    · exact absurd h (by assumption)
def keyOk (ac ast : Int) : Bool := inB ac 0 5 && inB ast 0 2
def balOk (x : Bal) : Bool := keyOk x.ac x.ast && inB x.am 1 1000000000000
def behind (b a : Bal) : Bool := if b.ac = a.ac then decide (a.ast < b.ast) else decide (a.ac < b.ac)
def balAt (xs : List Bal) (k : Nat) : Int := if balOk (xs.getD k default) then (if 0 < k ∧ behind (xs.getD k default) (xs.getD (k - 1) default) = false then 1 else 0) else 3
def balFault (xs : List Bal) : Int := if 18 < xs.length then 2 else scanI (balAt xs) xs.length
theorem inBi {n lo hi : Int} : inB n lo hi = true ↔ lo ≤ n ∧ n ≤ hi := by simp [inB]
theorem keyOk_iff {a s : Int} : keyOk a s = true ↔ (0 ≤ a ∧ a ≤ 5) ∧ (0 ≤ s ∧ s ≤ 2) := by simp [keyOk, inBi]
theorem balOk_iff {x : Bal} : balOk x = true ↔ ((0 ≤ x.ac ∧ x.ac ≤ 5) ∧ (0 ≤ x.ast ∧ x.ast ≤ 2)) ∧ (1 ≤ x.am ∧ x.am ≤ 1000000000000) := by simp [balOk, keyOk_iff, inBi]
theorem behind_iff {b a : Bal} (hb : keyOk b.ac b.ast = true) (ha : keyOk a.ac a.ast = true) : behind b a = false ↔ b.ac * 3 + b.ast ≤ a.ac * 3 + a.ast := by
  obtain ⟨⟨_, _⟩, _, _⟩ := keyOk_iff.1 hb
  obtain ⟨⟨_, _⟩, _, _⟩ := keyOk_iff.1 ha
  unfold behind
  split <;> simp <;> omega
theorem balOk_key {x : Bal} (h : balOk x = true) : keyOk x.ac x.ast = true := by
  rw [balOk, Bool.and_eq_true] at h; exact h.1
end Go.Proofs.Ytncmdeijimgchaa


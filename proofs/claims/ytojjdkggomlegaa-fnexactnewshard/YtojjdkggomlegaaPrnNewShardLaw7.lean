import Derived.Test.YtojjdkggomlegaaPrnNewShardLaw5
import Derived.Test.YtojjdkggomlegaaPrnNewShardLaw6
import Derived.BigQuiet
import Derived.Deep.QuietTactic
import Derived.Deep.RegionHeld3
import Derived.Test.YtojjdkggomlegaaPrnNewShardLaw4
import Derived.Test.YtojjdkggomlegaaPrnNewShardLaw2
import Derived.Deep.DrawnRows
import Derived.Test.YtojjdkggomlegaaPrnNewShardLaw1

/-
  A shard copied, the program's.
-/
set_option linter.unusedSimpArgs false
set_option linter.unusedVariables false
namespace Go.Proofs.Ytojjdkggomlegaa
open Go.RowKit
set_option linter.unusedSectionVars false
variable [DecidableEq Leg] [Inhabited Leg] [DecidableEq Mrk] [Inhabited Mrk] [DecidableEq Bal] [Inhabited Bal] [DecidableEq Cont] [Inhabited Cont] [DecidableEq Shd] [Inhabited Shd]
attribute [local go_sem ↓] Go.wp_at_zero Go.wp_at_succ

theorem conts_at10 {w : World} {v : Value} {xs : List Cont} (hx : contsR.V w v xs) : ∃ a c, v = .slice a xs.length c ∧ xs.length ≤ c ∧ c ≤ maxLen ∧ ∀ k, k < xs.length → ∃ b o p q, a = some ⟨b, o, none⟩ ∧ w.cell? ⟨b, o + k * 2, none⟩ = some (.int .i64 (xs.getD k default).id) ∧ w.cell? ⟨b, o + k * 2 + 1, none⟩ = some (.slice p (xs.getD k default).legs.length q) ∧ contR.V w (.agg #[.int .i64 (xs.getD k default).id, .slice p (xs.getD k default).legs.length q]) (xs.getD k default) := by
  obtain ⟨a, c, rfl, h1, h2, h3⟩ := hx
  refine ⟨a, c, rfl, h1, h2, fun k hk => ?_⟩
  obtain ⟨b, o, u, e, _, p, hv⟩ := h3 k hk
  have hV := hv
  obtain ⟨s, rfl, hc⟩ := hv
  obtain ⟨au, cu, rfl⟩ := legs_form hc
  exact ⟨b, o, au, cu, e, p 0 (by omega), p 1 (by omega), hV⟩
theorem wpl_appC (w : World) {ops : Array Oper} {rest : List Oper} {o : Oper} {a : Act} {Q : Exit → Act → World → Prop} (hgd : o.guard = none) (s x : Operand)
    (ho : o.op = .call { callee := .builtin .append, args := #[s, x], argTypes := #[26, 26] })
    (base : Nat) (F Fu : Nat → Prop) (v : Value) (xs : List Cont) (y : Cont) (g : Nat) (p : Option Addr) (q : Nat) (hs : a.eval s = v) (hx : a.eval x = .slice (some ⟨g, 0, none⟩) 1 1) (hown : contsR.O w base F v xs) (hu : contR.O w base Fu (.agg #[.int .i64 y.id, .slice p y.legs.length q]) y) (hd : ∀ b, F b → ¬ Fu b)
    (hc : w.cell? ⟨g, 0, none⟩ = some (.int .i64 y.id) ∧ w.cell? ⟨g, 1, none⟩ = some (.slice p y.legs.length q)) (hn : xs.length ≤ 2000000) (hbase : base ≤ w.heap.size)
    (h : ∀ v' w' F', contsR.O w' base F' v' (xs ++ [y]) → Below base w w' → (∀ b, F' b → F b ∨ Fu b ∨ w.heap.size ≤ b) → wpList Try.prog ops Q rest (a.put o.dst v') w') : wpList Try.prog ops Q (o :: rest) a w := by
  obtain ⟨i0, hi, hz0, hz1, hz2⟩ := info_parts infoConts
  exact wpl_appN w hgd s x 26 ho 53 i0 _ 2 32 Try.underlying26 hi hz0 hz1 hz2 rfl (by decide) (by decide) base F Fu v _ xs y ⟨g, 0, none⟩ 1 hs hx hown hu rfl (fun z hz => by
    simp [lvCont, one] at hz
    rcases hz with rfl | rfl <;> rfl) hd (fun j y' hj => by
    match j, hj with
    | 0, hj => simp [lvCont, one] at hj; subst hj; simpa [Addr.add] using hc.1
    | 1, hj => simp [lvCont, one] at hj; subst hj; simpa [Addr.add] using hc.2
    | j + 2, hj => simp [lvCont, one] at hj) hn hbase h
theorem conts_nil (w : World) (base : Nat) : contsR.O w base (fun _ => False) (.slice none 0 0) [] :=
  ⟨[], fun _ => default, fun _ _ => False, ⟨World.ownsRow_nil _ _ _ _, fun i hi => absurd hi (Nat.not_lt_zero _), fun i hi => absurd hi (Nat.not_lt_zero _), fun i hi => absurd hi (Nat.not_lt_zero _), fun i hi => absurd hi (Nat.not_lt_zero _), fun i j hi => absurd hi (Nat.not_lt_zero _)⟩, fun b => ⟨fun h => h.elim, fun h => h.elim (fun h => by simp [Value.ownBlock] at h) (fun ⟨i, hi, _⟩ => absurd hi (Nat.not_lt_zero _))⟩⟩
theorem cont_cells {w : World} {base : Nat} {F : Nat → Prop} {v : Value} {x : Cont} (h : contR.O w base F v x) : ∃ a c, v = .agg #[.int .i64 x.id, .slice a x.legs.length c] := by
  obtain ⟨u1, F1, rfl, h1, _⟩ := h
  obtain ⟨a, c, rfl⟩ := legs_form (legsR.ofO h1)
  exact ⟨a, c, rfl⟩
theorem set6 {α : Type} (R : Rep α) {W : World} {base B : Nat} {F : Nat → Prop} {v : Value} {x : α} (h : R.O W base F v x) (hB : B < base) (u0 u1 u2 u3 u4 u5 : Value) :
    R.O ((((((W.setCell ⟨B, 0, none⟩ u0).setCell ⟨B, 1, none⟩ u1).setCell ⟨B, 2, none⟩ u2).setCell ⟨B, 3, none⟩ u3).setCell ⟨B, 4, none⟩ u4).setCell ⟨B, 5, none⟩ u5) base F v x :=
  R.set (R.set (R.set (R.set (R.set (R.set h _ hB) _ hB) _ hB) _ hB) _ hB) _ hB
def copG (d : Shd) (hv : Value) : Nat → (Nat → Value) → Nat → Nat → World → Prop
  | 4, y, lo, hi, w => (∃ a c, y 23 = .slice a d.bals.length c) ∧ w.ownsRow lo 41 3 (y 23) d.bals.length (balsC d.bals) ∧ ∀ b, (y 23).ownBlock = some b → b < hi
  | 7, y, lo, hi, w => (∃ a c, y 26 = .slice a d.votes.length c) ∧ w.ownsRow lo 65 2 (y 26) d.votes.length (mrksC d.votes) ∧ ∀ b, (y 26).ownBlock = some b → b < hi
  | 11, y, lo, hi, w => (∃ a c, y 30 = .slice a d.done.length c) ∧ w.ownsRow lo 65 2 (y 30) d.done.length (mrksC d.done) ∧ ∀ b, (y 30).ownBlock = some b → b < hi
  | 14, y, lo, hi, w => (∃ a c, y 33 = .slice a d.appl.length c) ∧ w.ownsRow lo 2 1 (y 33) d.appl.length (intsC d.appl) ∧ ∀ b, (y 33).ownBlock = some b → b < hi
  | 15, y, _, _, _ => y 34 = .agg #[.int .i64 d.idx, y 23, y 26, hv, y 30, y 33]
  | _, _, _, _, _ => True
set_option maxRecDepth 20000 in
set_option maxHeartbeats 8000000 in
theorem copiedShd_u (x : Value) (d : Shd) (w : World) (hx : shdR.V w x d) (hn : d.bals.length ≤ 1048576 ∧ d.votes.length ≤ 1048576 ∧ d.held.length ≤ 1048576 ∧ d.done.length ≤ 1048576 ∧ d.appl.length ≤ 1048576) (hll : ∀ k, k < d.held.length → (d.held.getD k default).legs.length ≤ 1048576) :
    Calls Try.prog 16 #[x] w fun e w' => ∃ v F, e = .returned v ∧ shdR.O w' w.heap.size F v d ∧ Below w.heap.size w w' := by
  obtain ⟨u1, u2, u3, u4, u5, rfl, h1, h2, h3, h4, h5⟩ := hx
  have HX3 : Hid (∃ a c, u3 = .slice a d.held.length c ∧ d.held.length ≤ c ∧ c ≤ maxLen ∧ ∀ k, k < d.held.length → ∃ b o p q, a = some ⟨b, o, none⟩ ∧ w.cell? ⟨b, o + k * 2, none⟩ = some (.int .i64 (d.held.getD k default).id) ∧ w.cell? ⟨b, o + k * 2 + 1, none⟩ = some (.slice p (d.held.getD k default).legs.length q) ∧ contR.V w (.agg #[.int .i64 (d.held.getD k default).id, .slice p (d.held.getD k default).legs.length q]) (d.held.getD k default)) := conts_at10 h3
  have HA1 : Hid (∀ W, Below w.heap.size w W → AppAny W u1 d.bals.length (balsC d.bals)) := fun W hW => appAny_bals (balsR.below h1 hW)
  have HA2 : Hid (∀ W, Below w.heap.size w W → AppAny W u2 d.votes.length (mrksC d.votes)) := fun W hW => appAny_mrks10 (mrksR.below h2 hW)
  have HA4 : Hid (∀ W, Below w.heap.size w W → AppAny W u4 d.done.length (mrksC d.done)) := fun W hW => appAny_mrks10 (mrksR.below h4 hW)
  have HA5 : Hid (∀ W, Below w.heap.size w W → AppAny W u5 d.appl.length (intsC d.appl)) := fun W hW => appAny_ints (intsR.below h5 hW)
  obtain ⟨a1, c1, rfl⟩ := bals_form h1
  obtain ⟨a2, c2, rfl⟩ := mrks_form h2
  obtain ⟨a3, c3, rfl⟩ := conts_form h3
  obtain ⟨a4, c4, rfl⟩ := mrks_form h4
  obtain ⟨a5, c5, rfl⟩ := ints_form h5
  obtain ⟨_, _, e3, hc3, hm3, hx3⟩ := HX3.out
  simp only [Value.slice.injEq, true_and] at e3
  obtain ⟨rfl, rfl⟩ := e3
  unfold maxLen at hm3
  have HX : Hid (∀ k, k < d.held.length → ∃ b o p q, a3 = some ⟨b, o, none⟩ ∧ w.cell? ⟨b, o + k * 2, none⟩ = some (.int .i64 (d.held.getD k default).id) ∧ w.cell? ⟨b, o + k * 2 + 1, none⟩ = some (.slice p (d.held.getD k default).legs.length q) ∧ contR.V w (.agg #[.int .i64 (d.held.getD k default).id, .slice p (d.held.getD k default).legs.length q]) (d.held.getD k default)) := hx3
  clear h1 h2 h3 h4 h5 HX3 hx3
  have HLl : Hid (∀ k, k < d.held.length → (d.held.getD k default).legs.length ≤ 1048576) := hll
  have HLn : Hid (d.bals.length ≤ 1048576 ∧ d.votes.length ≤ 1048576 ∧ d.held.length ≤ 1048576 ∧ d.done.length ≤ 1048576 ∧ d.appl.length ≤ 1048576) := hn
  clear hll hn
  obtain ⟨n3, hn3⟩ : ∃ n3, n3 = d.held.length := ⟨_, rfl⟩
  have HN : Hid (d.held.length = n3) := hn3.symm
  rw [← hn3] at hc3 HX HLl ⊢
  clear hn3
  have h3n : n3 ≤ 1048576 := by rw [← HN.out]; exact HLn.out.2.2.1
  go_enter Try.func16, Try.ntmps16
  go_wp2
  obtain ⟨wq, hwq⟩ : ∃ wq, wq = (w.alloc (.cells #[.int .i64 d.idx, .slice a1 d.bals.length c1, .slice a2 d.votes.length c2, .slice a3 n3 c3, .slice a4 d.done.length c4, .slice a5 d.appl.length c5] 29)).alloc (.cells #[.int .i64 0, .slice none 0 0, .slice none 0 0, .slice none 0 0, .slice none 0 0, .slice none 0 0] 29) := ⟨_, rfl⟩
  have y0 : wq.cell? ⟨w.heap.size, 0, none⟩ = some (.int .i64 d.idx) := by rw [hwq]; simp [go_sem]
  have y1 : wq.cell? ⟨w.heap.size, 1, none⟩ = some (.slice a1 d.bals.length c1) := by rw [hwq]; simp [go_sem]
  have y2 : wq.cell? ⟨w.heap.size, 2, none⟩ = some (.slice a2 d.votes.length c2) := by rw [hwq]; simp [go_sem]
  have y3 : wq.cell? ⟨w.heap.size, 3, none⟩ = some (.slice a3 n3 c3) := by rw [hwq]; simp [go_sem]
  have y4 : wq.cell? ⟨w.heap.size, 4, none⟩ = some (.slice a4 d.done.length c4) := by rw [hwq]; simp [go_sem]
  have y5 : wq.cell? ⟨w.heap.size, 5, none⟩ = some (.slice a5 d.appl.length c5) := by rw [hwq]; simp [go_sem]
  have r0 : wq.cell? ⟨w.heap.size + 1, 0, none⟩ = some (.int .i64 0) := by rw [hwq]; simp [go_sem]
  have r1 : wq.cell? ⟨w.heap.size + 1, 1, none⟩ = some (.slice none 0 0) := by rw [hwq]; simp [go_sem]
  have r2 : wq.cell? ⟨w.heap.size + 1, 2, none⟩ = some (.slice none 0 0) := by rw [hwq]; simp [go_sem]
  have r3 : wq.cell? ⟨w.heap.size + 1, 3, none⟩ = some (.slice none 0 0) := by rw [hwq]; simp [go_sem]
  have r4 : wq.cell? ⟨w.heap.size + 1, 4, none⟩ = some (.slice none 0 0) := by rw [hwq]; simp [go_sem]
  have r5 : wq.cell? ⟨w.heap.size + 1, 5, none⟩ = some (.slice none 0 0) := by rw [hwq]; simp [go_sem]
  have rf : ∀ o, wq.frozen? ⟨w.heap.size + 1, o, none⟩ = false := fun o => by rw [hwq]; simp [go_sem]
  have hBq : Below w.heap.size w wq := by rw [hwq]; (repeat (first | exact Below.refl _ _ | assumption | refine Below.drew ?_ | refine balloc ?_ _ | refine bset ?_ (by simp; omega) _ | refine bset ?_ (by simp) _ | refine bstep ?_ (by assumption)))
  have zq : w.heap.size + 1 < wq.heap.size := by rw [hwq]; simp
  rw [← hwq]
  clear hwq
  go_loopw [3, 9] (fun s i w' => ∃ (k : Nat) (a : Option Addr) (c : Nat) (F : Nat → Prop), k ≤ n3 ∧ i = .int .i64 k ∧ s = .slice a k c ∧ Hid (contsR.O w' wq.heap.size F (.slice a k c) (d.held.take k)) ∧ Below wq.heap.size wq w') (fun s i _ => n3 - (intOf i).toNat)
  case atStart => exact ⟨0, none, 0, _, Nat.zero_le _, rfl, rfl, conts_nil _ _, by (repeat (first | exact Below.refl _ _ | assumption | refine Below.drew ?_ | refine balloc ?_ _ | refine bset ?_ (by simp; omega) _ | refine bset ?_ (by simp) _ | refine bstep ?_ (by assumption)))⟩
  case round =>
    obtain ⟨k, as_, cs_, F, hk, rfl, rfl, HO, hbl⟩ := hrel
    have hBr : Below w.heap.size w wr := bstep hBq hbl
    have zr := hbl.size
    by_cases hlt : k < n3
    · obtain ⟨bx, ox, pp, qq, rfl, g0, g1, hV⟩ := HX.out k hlt
      have hcw := HLl.out k hlt
      obtain ⟨l, hl⟩ : ∃ l, l = d.held.getD k default := ⟨_, rfl⟩
      rw [← hl] at g0 g1 hV hcw
      have HL : Hid (d.held.take (k + 1) = d.held.take k ++ [l]) := by
        show _ = _
        rw [List.take_succ_eq_append_getElem (by rw [HN.out]; exact hlt), hl]
        simp [List.getD, show k < d.held.length by rw [HN.out]; exact hlt]
      clear hl
      have HCp : Hid (∀ W, Below w.heap.size w W → Calls Try.prog 25 #[.agg #[.int .i64 l.id, .slice pp l.legs.length qq]] W fun e w' => ∃ v F, e = .returned v ∧ contR.O w' W.heap.size F v l ∧ Below W.heap.size W w') := fun W hW => copiedCon_u _ l W (contR.below hV hW) hcw
      clear hV
      replace g0 := cell_keep hBr g0
      replace g1 := cell_keep hBr g1
      have zb : bx < wr.heap.size := World.block_lt_of_cell? wr _ g0
      go_wp2_with fail
      refine (HCp.out _ (by (repeat (first | exact Below.refl _ _ | assumption | refine Below.drew ?_ | refine balloc ?_ _ | refine bset ?_ (by simp; omega) _ | refine bset ?_ (by simp) _ | refine bstep ?_ (by assumption))))).mono ?_
      rintro e w2 ⟨v2, F2, rfl, o2, hb2⟩
      obtain ⟨a2', c2', rfl⟩ := cont_cells o2
      have hz2 := hb2.size
      simp at hz2
      have hB2 : Below wr.heap.size wr w2 := by (repeat (first | exact Below.refl _ _ | assumption | refine Below.drew ?_ | refine balloc ?_ _ | refine bset ?_ (by simp; omega) _ | refine bset ?_ (by simp) _ | refine bstep ?_ (by assumption)))
      have HO2 : Hid (contsR.O w2 wq.heap.size F (.slice as_ k cs_) (d.held.take k)) := contsR.keep HO.out hB2
      have HFl : Hid (∀ b, F b → b < wr.heap.size) := fun b hb => (contsR.rng HO.out b hb).2
      have HF2 : Hid (∀ b, F2 b → wr.heap.size + 1 ≤ b) := fun b hb => by have := (contR.rng o2 b hb).1; simpa using this
      have HU : Hid (contR.O w2 wq.heap.size F2 (.agg #[.int .i64 l.id, .slice a2' l.legs.length c2']) l) := contR.base o2 (by simp; omega)
      have hB3 : Below wq.heap.size wq w2 := bstep hbl hB2
      clear hb2 o2 HCp HO g0 g1 hB2
      go_wp2_with (at_builtin; refine wpl_appC _ rfl _ _ rfl wq.heap.size F F2 _ (d.held.take k) l w2.heap.size a2' c2' rfl rfl ?a1 ?a2 ?a3 ?a4 ?a5 ?a6 ?_)
      case a1 => exact contsR.alloc HO2.out _
      case a2 => exact contR.alloc HU.out _
      case a3 => exact fun b h1 h2 => by have := HFl.out b h1; have := HF2.out b h2; omega
      case a4 => simp [go_sem]
      case a5 => rw [List.length_take, HN.out]; omega
      case a6 => simp; omega
      intro v3 w3 F3 o3 hb3 _
      rw [← HL.out] at o3
      obtain ⟨a3', c3', e3⟩ := conts_form (contsR.ofO o3)
      rw [show (d.held.take (k + 1)).length = k + 1 by rw [List.length_take, HN.out]; omega] at e3
      subst e3
      have HO3 : Hid (contsR.O w3 wq.heap.size F3 (.slice a3' (k + 1) c3') (d.held.take (k + 1))) := o3
      have hB5 : Below wq.heap.size wq w3 := Below.trans (balloc hB3 _) hb3
      clear o3 hb3
      go_wp2
      exact ⟨⟨k + 1, a3', c3', F3, by omega, by go_num, rfl, HO3, hB5⟩, by simp [intOf]; omega⟩
    · have hkn : k = n3 := by omega
      subst hkn
      have ho := HO.out
      rw [List.take_of_length_le (by rw [HN.out]; exact Nat.le_refl _)] at ho
      have HO2 : Hid (contsR.O wr wq.heap.size F (.slice as_ k cs_) d.held) := ho
      clear ho HO
      replace y0 := cell_keep hbl y0
      replace y1 := cell_keep hbl y1
      replace y2 := cell_keep hbl y2
      replace y3 := cell_keep hbl y3
      replace y4 := cell_keep hbl y4
      replace y5 := cell_keep hbl y5
      replace r0 := cell_keep hbl r0
      replace r1 := cell_keep hbl r1
      replace r2 := cell_keep hbl r2
      replace r3 := cell_keep hbl r3
      replace r4 := cell_keep hbl r4
      replace r5 := cell_keep hbl r5
      replace rf : ∀ o, wr.frozen? ⟨w.heap.size + 1, o, none⟩ = false := fun o => by rw [(bcell hbl).2 _ _ zq]; exact rf o
      go_wp2
      refine wp_region_noPanic ?_
      refine region_upto (fun W => Below wr.heap.size wr W ∧ W.cell? ⟨w.heap.size, 0, none⟩ = some (.int .i64 d.idx) ∧ W.cell? ⟨w.heap.size, 1, none⟩ = some (.slice a1 d.bals.length c1) ∧ W.cell? ⟨w.heap.size, 2, none⟩ = some (.slice a2 d.votes.length c2) ∧ W.cell? ⟨w.heap.size, 3, none⟩ = some (.slice a3 k c3) ∧ W.cell? ⟨w.heap.size, 4, none⟩ = some (.slice a4 d.done.length c4) ∧ W.cell? ⟨w.heap.size, 5, none⟩ = some (.slice a5 d.appl.length c5)) 16 (by kernel_rfl) ⟨by (repeat (first | exact Below.refl _ _ | assumption | refine Below.drew ?_ | refine balloc ?_ _ | refine bset ?_ (by simp; omega) _ | refine bset ?_ (by simp) _ | refine bstep ?_ (by assumption))), cell_keep (by (repeat (first | exact Below.refl _ _ | assumption | refine Below.drew ?_ | refine balloc ?_ _ | refine bset ?_ (by simp; omega) _ | refine bset ?_ (by simp) _ | refine bstep ?_ (by assumption)))) y0, cell_keep (by (repeat (first | exact Below.refl _ _ | assumption | refine Below.drew ?_ | refine balloc ?_ _ | refine bset ?_ (by simp; omega) _ | refine bset ?_ (by simp) _ | refine bstep ?_ (by assumption)))) y1, cell_keep (by (repeat (first | exact Below.refl _ _ | assumption | refine Below.drew ?_ | refine balloc ?_ _ | refine bset ?_ (by simp; omega) _ | refine bset ?_ (by simp) _ | refine bstep ?_ (by assumption)))) y2, cell_keep (by (repeat (first | exact Below.refl _ _ | assumption | refine Below.drew ?_ | refine balloc ?_ _ | refine bset ?_ (by simp; omega) _ | refine bset ?_ (by simp) _ | refine bstep ?_ (by assumption)))) y3, cell_keep (by (repeat (first | exact Below.refl _ _ | assumption | refine Below.drew ?_ | refine balloc ?_ _ | refine bset ?_ (by simp; omega) _ | refine bset ?_ (by simp) _ | refine bstep ?_ (by assumption)))) y4, cell_keep (by (repeat (first | exact Below.refl _ _ | assumption | refine Below.drew ?_ | refine balloc ?_ _ | refine bset ?_ (by simp; omega) _ | refine bset ?_ (by simp) _ | refine bstep ?_ (by assumption)))) y5⟩ (fun hS => ?_)
      refine upto_take (i := 0) (v := ?_) rfl (by kernel_rfl) (by kernel_rfl) (by kernel_rfl) (by kernel_rfl) (fun _ _ _ h => h) (by rfl) hS ?_ ?_
      rotate_left
      · intro wS hSw
        try dsimp only at hSw
        first | (go_simp; done) | (go_simp; with_reducible rfl)
      try simp only [Act.put, List.getElem_toArray, List.getElem_cons_zero, List.getElem_cons_succ, List.setIfInBounds_toArray, List.set_cons_zero, List.set_cons_succ]
      refine upto_take (i := 1) (v := ?_) rfl (by kernel_rfl) (by kernel_rfl) (by kernel_rfl) (by kernel_rfl) (fun _ _ _ h => h) (by rfl) hS ?_ ?_
      rotate_left
      · intro wS hSw
        try dsimp only at hSw
        first | (go_simp; done) | (go_simp; with_reducible rfl)
      try simp only [Act.put, List.getElem_toArray, List.getElem_cons_zero, List.getElem_cons_succ, List.setIfInBounds_toArray, List.set_cons_zero, List.set_cons_succ]
      refine upto_take (i := 2) (v := ?_) rfl (by kernel_rfl) (by kernel_rfl) (by kernel_rfl) (by kernel_rfl) (fun _ _ _ h => h) (by rfl) hS ?_ ?_
      rotate_left
      · intro wS hSw
        try dsimp only at hSw
        first | (go_simp; done) | (go_simp; with_reducible rfl)
      try simp only [Act.put, List.getElem_toArray, List.getElem_cons_zero, List.getElem_cons_succ, List.setIfInBounds_toArray, List.set_cons_zero, List.set_cons_succ]
      refine upto_take (i := 3) (v := ?_) rfl (by kernel_rfl) (by kernel_rfl) (by kernel_rfl) (by kernel_rfl) (fun _ _ _ h => h) (by rfl) hS ?_ ?_
      rotate_left
      · intro wS hSw
        try dsimp only at hSw
        first | (go_simp; done) | (go_simp; with_reducible rfl)
      try simp only [Act.put, List.getElem_toArray, List.getElem_cons_zero, List.getElem_cons_succ, List.setIfInBounds_toArray, List.set_cons_zero, List.set_cons_succ]
      refine upto_take (i := 5) (v := ?_) rfl (by kernel_rfl) (by kernel_rfl) (by kernel_rfl) (by kernel_rfl) (fun _ _ _ h => h) (by rfl) hS ?_ ?_
      rotate_left
      · intro wS hSw
        try dsimp only at hSw
        first | (go_simp; done) | (go_simp; with_reducible rfl)
      try simp only [Act.put, List.getElem_toArray, List.getElem_cons_zero, List.getElem_cons_succ, List.setIfInBounds_toArray, List.set_cons_zero, List.set_cons_succ]
      refine upto_take (i := 6) (v := ?_) rfl (by kernel_rfl) (by kernel_rfl) (by kernel_rfl) (by kernel_rfl) (fun _ _ _ h => h) (by rfl) hS ?_ ?_
      rotate_left
      · intro wS hSw
        try dsimp only at hSw
        first | (go_simp; done) | (go_simp; with_reducible rfl)
      try simp only [Act.put, List.getElem_toArray, List.getElem_cons_zero, List.getElem_cons_succ, List.setIfInBounds_toArray, List.set_cons_zero, List.set_cons_succ]
      refine upto_take (i := 8) (v := ?_) rfl (by kernel_rfl) (by kernel_rfl) (by kernel_rfl) (by kernel_rfl) (fun _ _ _ h => h) (by rfl) hS ?_ ?_
      rotate_left
      · intro wS hSw
        try dsimp only at hSw
        first | (go_simp; done) | (go_simp; with_reducible rfl)
      try simp only [Act.put, List.getElem_toArray, List.getElem_cons_zero, List.getElem_cons_succ, List.setIfInBounds_toArray, List.set_cons_zero, List.set_cons_succ]
      refine upto_take (i := 9) (v := ?_) rfl (by kernel_rfl) (by kernel_rfl) (by kernel_rfl) (by kernel_rfl) (fun _ _ _ h => h) (by rfl) hS ?_ ?_
      rotate_left
      · intro wS hSw
        try dsimp only at hSw
        first | (go_simp; done) | (go_simp; with_reducible rfl)
      try simp only [Act.put, List.getElem_toArray, List.getElem_cons_zero, List.getElem_cons_succ, List.setIfInBounds_toArray, List.set_cons_zero, List.set_cons_succ]
      refine upto_take (i := 10) (v := ?_) rfl (by kernel_rfl) (by kernel_rfl) (by kernel_rfl) (by kernel_rfl) (fun _ _ _ h => h) (by rfl) hS ?_ ?_
      rotate_left
      · intro wS hSw
        try dsimp only at hSw
        first | (go_simp; done) | (go_simp; with_reducible rfl)
      try simp only [Act.put, List.getElem_toArray, List.getElem_cons_zero, List.getElem_cons_succ, List.setIfInBounds_toArray, List.set_cons_zero, List.set_cons_succ]
      refine upto_take (i := 12) (v := ?_) rfl (by kernel_rfl) (by kernel_rfl) (by kernel_rfl) (by kernel_rfl) (fun _ _ _ h => h) (by rfl) hS ?_ ?_
      rotate_left
      · intro wS hSw
        try dsimp only at hSw
        first | (go_simp; done) | (go_simp; with_reducible rfl)
      try simp only [Act.put, List.getElem_toArray, List.getElem_cons_zero, List.getElem_cons_succ, List.setIfInBounds_toArray, List.set_cons_zero, List.set_cons_succ]
      refine upto_take (i := 13) (v := ?_) rfl (by kernel_rfl) (by kernel_rfl) (by kernel_rfl) (by kernel_rfl) (fun _ _ _ h => h) (by rfl) hS ?_ ?_
      rotate_left
      · intro wS hSw
        try dsimp only at hSw
        first | (go_simp; done) | (go_simp; with_reducible rfl)
      try simp only [Act.put, List.getElem_toArray, List.getElem_cons_zero, List.getElem_cons_succ, List.setIfInBounds_toArray, List.set_cons_zero, List.set_cons_succ]
      have hb0 : Below wr.heap.size wr wr.drew := by (repeat (first | exact Below.refl _ _ | assumption | refine Below.drew ?_ | refine balloc ?_ _ | refine bset ?_ (by simp; omega) _ | refine bset ?_ (by simp) _ | refine bstep ?_ (by assumption)))
      have HO3 : Hid (contsR.O wr.drew wq.heap.size F (.slice as_ k cs_) d.held) := contsR.keep HO2.out hb0
      have zw0 : w.heap.size + 1 < wr.drew.heap.size := by simp; omega
      replace r0 := cell_keep hb0 r0
      replace r1 := cell_keep hb0 r1
      replace r2 := cell_keep hb0 r2
      replace r3 := cell_keep hb0 r3
      replace r4 := cell_keep hb0 r4
      replace r5 := cell_keep hb0 r5
      replace rf : ∀ o, wr.drew.frozen? ⟨w.heap.size + 1, o, none⟩ = false := fun o => by rw [(bcell hb0).2 _ _ (by omega)]; exact rf o
      have hBd : Below w.heap.size w wr.drew := bstep hBr hb0
      clear hb0 HO2
      generalize wr.drew = W0 at *
      refine upto_stable' [(4, 23), (7, 26), (11, 30), (14, 33), (15, 34)] (copG d (.slice as_ k cs_)) (by kernel_rfl) hS (fun W W' h hb => ⟨bstep h.1 hb, cell_keep hb h.2.1, cell_keep hb h.2.2.1, cell_keep hb h.2.2.2.1, cell_keep hb h.2.2.2.2.1, cell_keep hb h.2.2.2.2.2.1, cell_keep hb h.2.2.2.2.2.2⟩) ?_ ?_ ?_
      · intro p hp
        simp only [List.mem_cons, List.not_mem_nil, or_false] at hp
        rcases hp with rfl | rfl | rfl | rfl | rfl
        all_goals intro y y' lo hi W W' h hi' hb e he
        · simp only [copG] at h ⊢
          rw [e]
          exact ⟨h.1, owns_below h.2.1 hb, h.2.2⟩
        · simp only [copG] at h ⊢
          rw [e]
          exact ⟨h.1, owns_below h.2.1 hb, h.2.2⟩
        · simp only [copG] at h ⊢
          rw [e]
          exact ⟨h.1, owns_below h.2.1 hb, h.2.2⟩
        · simp only [copG] at h ⊢
          rw [e]
          exact ⟨h.1, owns_below h.2.1 hb, h.2.2⟩
        · have e0 := he (4, 23) (by simp) (by kernel_rfl)
          have e1 := he (7, 26) (by simp) (by kernel_rfl)
          have e2 := he (11, 30) (by simp) (by kernel_rfl)
          have e3 := he (14, 33) (by simp) (by kernel_rfl)
          simp only [copG] at h ⊢
          rw [e, e0, e1, e2, e3]
          exact h
      · intro p hp
        simp only [List.mem_cons, List.not_mem_nil, or_false] at hp
        rcases hp with rfl | rfl | rfl | rfl | rfl
        all_goals
          refine ⟨_, rfl, rfl, ?_⟩
          intro y W lo hi hSW hBW hd hap K hK
          clear hap
        · clear hd
          refine ⟨?_⟩
          refine step_app10B W rfl (.const (.slice none 0 0)) (.tmp 22) rfl W.heap.size (.slice none 0 0) [] rfl (.slice a1 d.bals.length c1) d.bals rfl (World.ownsRow_nil _ _ _ _) (HA1.out W (bstep hBr hSW.1)) (by have := HLn.out; simp; omega) (Nat.le_refl _) ?_
          intro v' w' ho _ hB
          have hb := hB W (Below.refl _ _)
          simp only [List.nil_append] at ho
          refine hK _ _ hb ?_
          simp only [copG, updV]
          obtain ⟨av, cv, hv⟩ := owns_form ho
          refine ⟨⟨av, cv, by simpa using hv⟩, by simpa using ho, fun b hb' => ?_⟩
          exact (ho.lt b (by simpa using hb')).2
        · clear hd
          refine ⟨?_⟩
          refine step_app10M W rfl (.const (.slice none 0 0)) (.tmp 25) rfl W.heap.size (.slice none 0 0) [] rfl (.slice a2 d.votes.length c2) d.votes rfl (World.ownsRow_nil _ _ _ _) (HA2.out W (bstep hBr hSW.1)) (by have := HLn.out; simp; omega) (Nat.le_refl _) ?_
          intro v' w' ho _ hB
          have hb := hB W (Below.refl _ _)
          simp only [List.nil_append] at ho
          refine hK _ _ hb ?_
          simp only [copG, updV]
          obtain ⟨av, cv, hv⟩ := owns_form ho
          refine ⟨⟨av, cv, by simpa using hv⟩, by simpa using ho, fun b hb' => ?_⟩
          exact (ho.lt b (by simpa using hb')).2
        · clear hd
          refine ⟨?_⟩
          refine step_app10M W rfl (.const (.slice none 0 0)) (.tmp 29) rfl W.heap.size (.slice none 0 0) [] rfl (.slice a4 d.done.length c4) d.done rfl (World.ownsRow_nil _ _ _ _) (HA4.out W (bstep hBr hSW.1)) (by have := HLn.out; simp; omega) (Nat.le_refl _) ?_
          intro v' w' ho _ hB
          have hb := hB W (Below.refl _ _)
          simp only [List.nil_append] at ho
          refine hK _ _ hb ?_
          simp only [copG, updV]
          obtain ⟨av, cv, hv⟩ := owns_form ho
          refine ⟨⟨av, cv, by simpa using hv⟩, by simpa using ho, fun b hb' => ?_⟩
          exact (ho.lt b (by simpa using hb')).2
        · clear hd
          refine ⟨?_⟩
          refine step_app10I W rfl (.const (.slice none 0 0)) (.tmp 32) rfl W.heap.size (.slice none 0 0) [] rfl (.slice a5 d.appl.length c5) d.appl rfl (World.ownsRow_nil _ _ _ _) (HA5.out W (bstep hBr hSW.1)) (by have := HLn.out; simp; omega) (Nat.le_refl _) ?_
          intro v' w' ho _ hB
          have hb := hB W (Below.refl _ _)
          simp only [List.nil_append] at ho
          refine hK _ _ hb ?_
          simp only [copG, updV]
          obtain ⟨av, cv, hv⟩ := owns_form ho
          refine ⟨⟨av, cv, by simpa using hv⟩, by simpa using ho, fun b hb' => ?_⟩
          exact (ho.lt b (by simpa using hb')).2
        · have g4 := (hd (4, 23) (by simp) (by kernel_rfl)).2
          have g7 := (hd (7, 26) (by simp) (by kernel_rfl)).2
          have g11 := (hd (11, 30) (by simp) (by kernel_rfl)).2
          have g14 := (hd (14, 33) (by simp) (by kernel_rfl)).2
          clear hd
          simp only [copG] at g4 g7 g11 g14
          obtain ⟨⟨q1, s1, e1⟩, _⟩ := g4
          obtain ⟨⟨q2, s2, e2⟩, _⟩ := g7
          obtain ⟨⟨q3, s3, e3⟩, _⟩ := g11
          obtain ⟨⟨q4, s4, e4⟩, _⟩ := g14
          refine ⟨?_⟩
          simp only [over, Act.put, List.getElem_toArray, List.getElem_cons_zero, List.getElem_cons_succ, List.map_cons, List.map_nil, List.foldl_cons, List.foldl_nil, List.setIfInBounds_toArray, List.set_cons_zero, List.set_cons_succ] at hK ⊢
          simp only [e1, e2, e3, e4] at hK ⊢
          go_simp
          refine hK _ _ (Below.refl _ _) ?_
          simp only [copG, updV]
          simp [e1, e2, e3, e4]
      · refine ⟨_, rfl, ?_⟩
        intro y W lo hi hSW hBW hd hap K hK
        have h4 := hd (4, 23) (by simp)
        have h7 := hd (7, 26) (by simp)
        have h11 := hd (11, 30) (by simp)
        have h14 := hd (14, 33) (by simp)
        have h15 := hd (15, 34) (by simp)
        clear hd
        simp only [copG] at h4 h7 h11 h14 h15
        obtain ⟨b4, ⟨q4, s4, e4⟩, o4, l4⟩ := h4
        obtain ⟨b7, ⟨q7, s7, e7⟩, o7, l7⟩ := h7
        obtain ⟨b11, ⟨q11, s11, e11⟩, o11, l11⟩ := h11
        obtain ⟨b14, ⟨q14, s14, e14⟩, o14, l14⟩ := h14
        obtain ⟨_, g15⟩ := h15
        have p4_7 := hap (4, 23) (by simp) (7, 26) (by simp) (by simp)
        have p4_11 := hap (4, 23) (by simp) (11, 30) (by simp) (by simp)
        have p4_14 := hap (4, 23) (by simp) (14, 33) (by simp) (by simp)
        have p7_11 := hap (7, 26) (by simp) (11, 30) (by simp) (by simp)
        have p7_14 := hap (7, 26) (by simp) (14, 33) (by simp) (by simp)
        have p11_14 := hap (11, 30) (by simp) (14, 33) (by simp) (by simp)
        clear hap
        simp only [ApartB] at p4_7 p4_11 p4_14 p7_11 p7_14 p11_14
        rw [e4] at o4 l4 g15
        have t4 : ∀ b, (Value.slice q4 _ s4).ownBlock = some b → lo 4 ≤ b ∧ b < hi 4 := fun b h => ⟨(o4.lt b h).1, l4 b h⟩
        rw [e7] at o7 l7 g15
        have t7 : ∀ b, (Value.slice q7 _ s7).ownBlock = some b → lo 7 ≤ b ∧ b < hi 7 := fun b h => ⟨(o7.lt b h).1, l7 b h⟩
        rw [e11] at o11 l11 g15
        have t11 : ∀ b, (Value.slice q11 _ s11).ownBlock = some b → lo 11 ≤ b ∧ b < hi 11 := fun b h => ⟨(o11.lt b h).1, l11 b h⟩
        rw [e14] at o14 l14 g15
        have t14 : ∀ b, (Value.slice q14 _ s14).ownBlock = some b → lo 14 ≤ b ∧ b < hi 14 := fun b h => ⟨(o14.lt b h).1, l14 b h⟩
        have z4 : W0.heap.size ≤ lo 4 := b4.1
        have z7 : W0.heap.size ≤ lo 7 := b7.1
        have z11 : W0.heap.size ≤ lo 11 := b11.1
        have z14 : W0.heap.size ≤ lo 14 := b14.1
        have HOw : Hid (contsR.O W wq.heap.size F (.slice as_ k cs_) d.held) := contsR.keep HO3.out hBW
        have HFl : Hid (∀ b, F b → wq.heap.size ≤ b ∧ b < W0.heap.size) := fun b hb => contsR.rng HO3.out b hb
        replace r0 := cell_keep hBW r0
        replace r1 := cell_keep hBW r1
        replace r2 := cell_keep hBW r2
        replace r3 := cell_keep hBW r3
        replace r4 := cell_keep hBW r4
        replace r5 := cell_keep hBW r5
        replace rf : ∀ o, W.frozen? ⟨w.heap.size + 1, o, none⟩ = false := fun o => by rw [(bcell hBW).2 _ _ zw0]; exact rf o
        have hBB : Below w.heap.size w W := bstep hBd hBW
        have P1 : Hid (balsR.O W (lo 4) (fun b => (Value.slice q4 d.bals.length s4).ownBlock = some b) (.slice q4 d.bals.length s4) d.bals) := ⟨o4, rfl⟩
        have P2 : Hid (mrksR.O W (lo 7) (fun b => (Value.slice q7 d.votes.length s7).ownBlock = some b) (.slice q7 d.votes.length s7) d.votes) := ⟨o7, rfl⟩
        have P4 : Hid (mrksR.O W (lo 11) (fun b => (Value.slice q11 d.done.length s11).ownBlock = some b) (.slice q11 d.done.length s11) d.done) := ⟨o11, rfl⟩
        have P5 : Hid (intsR.O W (lo 14) (fun b => (Value.slice q14 d.appl.length s14).ownBlock = some b) (.slice q14 d.appl.length s14) d.appl) := ⟨o14, rfl⟩
        have HT : Hid ((∀ b, (Value.slice q4 d.bals.length s4).ownBlock = some b → lo 4 ≤ b ∧ b < hi 4) ∧ (∀ b, (Value.slice q7 d.votes.length s7).ownBlock = some b → lo 7 ≤ b ∧ b < hi 7) ∧ (∀ b, (Value.slice q11 d.done.length s11).ownBlock = some b → lo 11 ≤ b ∧ b < hi 11) ∧ (∀ b, (Value.slice q14 d.appl.length s14).ownBlock = some b → lo 14 ≤ b ∧ b < hi 14)) := ⟨t4, t7, t11, t14⟩
        clear o4 o7 o11 o14 l4 l7 l11 l14 t4 t7 t11 t14 e4 e7 e11 e14 b4 b7 b11 b14 hSW
        refine ⟨?_⟩
        simp only [over, Act.put, List.getElem_toArray, List.getElem_cons_zero, List.getElem_cons_succ, List.map_cons, List.map_nil, List.foldl_cons, List.foldl_nil, List.setIfInBounds_toArray, List.set_cons_zero, List.set_cons_succ]
        simp only [g15]
        clear g15 hS
        go_simp
        refine hK _ _ ?_
        clear hK K
        refine NoPanic.normal ?_
        go_wp2
        refine bodyPost_ret (v := .agg #[.int .i64 d.idx, .slice q4 d.bals.length s4, .slice q7 d.votes.length s7, .slice as_ k cs_, .slice q11 d.done.length s11, .slice q14 d.appl.length s14]) (by simp [results, Try.results16, go_sem, r0, r1, r2, r3, r4, r5, rf]) rfl ⟨_, _, rfl, ⟨_, _, _, _, _, _, _, F, _, _, rfl, balsR.base (set6 balsR P1.out (by omega) _ _ _ _ _ _) (by omega), mrksR.base (set6 mrksR P2.out (by omega) _ _ _ _ _ _) (by omega), contsR.base (set6 contsR HOw.out (by omega) _ _ _ _ _ _) (by omega), mrksR.base (set6 mrksR P4.out (by omega) _ _ _ _ _ _) (by omega), intsR.base (set6 intsR P5.out (by omega) _ _ _ _ _ _) (by omega), ?_, ?_, ?_, ?_, ?_, ?_, ?_, ?_, ?_, ?_, fun b => Iff.rfl⟩, by (repeat (first | refine bset ?_ (by simp; omega) _ | refine bset ?_ (by simp) _ | refine balloc ?_ _ | assumption))⟩
        all_goals
          intro b h h'
          obtain ⟨t4, t7, t11, t14⟩ := HT.out
          first | (have := t4 b h; have := t7 b h'; omega) | (have := t4 b h; have := HFl.out b h'; omega) | (have := t4 b h; have := t11 b h'; omega) | (have := t4 b h; have := t14 b h'; omega) | (have := t7 b h; have := HFl.out b h'; omega) | (have := t7 b h; have := t11 b h'; omega) | (have := t7 b h; have := t14 b h'; omega) | (have := HFl.out b h; have := t11 b h'; omega) | (have := HFl.out b h; have := t14 b h'; omega) | (have := t11 b h; have := t14 b h'; omega)
end Go.Proofs.Ytojjdkggomlegaa

/-
  Ledger. (Written by program: nest.py.)
-/
namespace Go.Proofs.Ytojjdkggomlegaa
open Go.RowKit
set_option linter.unusedSectionVars false
variable [DecidableEq Bal] [Inhabited Bal]
attribute [local go_sem ↓] Go.wp_at_zero Go.wp_at_succ

structure Ledg where
  shards : List (List Bal)
variable [DecidableEq Ledg] [Inhabited Ledg]

end Go.Proofs.Ytojjdkggomlegaa

/-
  Contracts of the small functions of chapter 1: a number within bounds, what is asked of one leg, on both sides (specification and program).
-/
namespace Go.Proofs.Ytojjdkggomlegaa
open Go.RowKit
set_option linter.unusedSectionVars false
variable [DecidableEq Leg] [Inhabited Leg]

def inB (n lo hi : Int) : Bool := decide (lo ≤ n) && decide (n ≤ hi)
set_option maxHeartbeats 400000 in
theorem l1In_any (n lo hi : Int) (w : World) :
    Calls Try.prog 21 #[.int .i64 n, .int .i64 lo, .int .i64 hi] w fun e w' => e = .returned (.bool (inB n lo hi)) ∧ w' = w := by
  by_cases h1 : lo ≤ n
  all_goals
    go_enter Try.func21, Try.ntmps21
    go_wp2
    go_ret
    exact ⟨by first | (simp [inB, h1]; done) | (simp [inB]; omega), rfl⟩
set_option maxHeartbeats 400000 in
theorem within_any (n lo hi : Int) (w : World) :
    Calls Try.prog 37 #[.int .i64 n, .int .i64 lo, .int .i64 hi] w fun e w' => e = .returned (.bool (inB n lo hi)) ∧ w' = w := by
  by_cases h1 : lo ≤ n
  all_goals
    go_enter Try.func37, Try.ntmps37
    go_wp2
    go_ret
    exact ⟨by first | (simp [inB, h1]; done) | (simp [inB]; omega), rfl⟩
set_option maxHeartbeats 400000 in
theorem isShard_any (n : Int) (w : World) :
    Calls Try.prog 23 #[.int .i64 n] w fun e w' => e = .returned (.bool (inB n 0 2)) ∧ w' = w := by
  go_enter Try.func23, Try.ntmps23
  go_wp2_with (go_at_call 37; refine (within_any _ _ _ _).mono ?_; rintro e w' ⟨rfl, rfl⟩)
  go_ret
  exact ⟨rfl, rfl⟩
set_option maxHeartbeats 400000 in
theorem isAccount_any (n : Int) (w : World) :
    Calls Try.prog 44 #[.int .i64 n] w fun e w' => e = .returned (.bool (inB n 0 5)) ∧ w' = w := by
  go_enter Try.func44, Try.ntmps44
  go_wp2_with (go_at_call 37; refine (within_any _ _ _ _).mono ?_; rintro e w' ⟨rfl, rfl⟩)
  go_ret
  exact ⟨rfl, rfl⟩
set_option maxHeartbeats 400000 in
theorem isAsset_any (n : Int) (w : World) :
    Calls Try.prog 45 #[.int .i64 n] w fun e w' => e = .returned (.bool (inB n 0 2)) ∧ w' = w := by
  go_enter Try.func45, Try.ntmps45
  go_wp2_with (go_at_call 37; refine (within_any _ _ _ _).mono ?_; rintro e w' ⟨rfl, rfl⟩)
  go_ret
  exact ⟨rfl, rfl⟩
end Go.Proofs.Ytojjdkggomlegaa

/-
  Chapter 2 in plain mathematics: faults of balances and ledgers, what is had, totals, what can be settled.
-/
namespace Go.Proofs.Ytojjdkggomlegaa
open Go.RowKit
set_option linter.unusedSectionVars false
variable [DecidableEq Bal] [Inhabited Bal] [DecidableEq Ledg] [Inhabited Ledg] [DecidableEq Leg] [Inhabited Leg]

theorem wrapId {n : Int} (h0 : -9223372036854775808 ≤ n) (h1 : n ≤ 9223372036854775807) : IntKind.i64.wrap n = n := by
  rw [IntKind.wrap_i64]; omega
theorem bdrewN {B : Nat} {w Y : World} (h : Below B w Y) (n : Nat) : Below B w (Y.drewN n) := h.trans ⟨rfl, rfl, rfl, Nat.le_refl _, fun _ _ => rfl⟩
def scanI (f : Nat → Int) : Nat → Int
  | 0 => 0
  | n + 1 => if scanI f n = 0 then f n else scanI f n
theorem scanI_succ {f : Nat → Int} {k : Nat} (h : scanI f k = 0) (h' : f k = 0) : scanI f (k + 1) = 0 := by simp [scanI, h, h']
theorem scanI_hit {f : Nat → Int} {k : Nat} (h : scanI f k = 0) (h' : f k ≠ 0) : ∀ n, k < n → scanI f n = f k
  | 0, hn => by omega
  | n + 1, hn => by
    by_cases e : k = n
    · subst e; simp [scanI, h]
    · have := scanI_hit h h' n (by omega)
      simp [scanI, this, h']
theorem scanI_zero {f : Nat → Int} : ∀ {n : Nat}, scanI f n = 0 → ∀ k, k < n → f k = 0
  | 0, _, k, hk => by omega
  | n + 1, h, k, hk => by
    unfold scanI at h
    split at h
    · rename_i h1
      by_cases e : k = n
      · subst e; exact h
      · exact scanI_zero h1 k (by omega)
    · exact absurd h (by assumption)
def keyOk (ac ast : Int) : Bool := inB ac 0 5 && inB ast 0 2
def balOk (x : Bal) : Bool := keyOk x.ac x.ast && inB x.am 1 1000000000000
def behind (b a : Bal) : Bool := if b.ac = a.ac then decide (a.ast < b.ast) else decide (a.ac < b.ac)
def balAt (xs : List Bal) (k : Nat) : Int := if balOk (xs.getD k default) then (if 0 < k ∧ behind (xs.getD k default) (xs.getD (k - 1) default) = false then 1 else 0) else 3
def balFault (xs : List Bal) : Int := if 18 < xs.length then 2 else scanI (balAt xs) xs.length
theorem inBi {n lo hi : Int} : inB n lo hi = true ↔ lo ≤ n ∧ n ≤ hi := by simp [inB]
theorem keyOk_iff {a s : Int} : keyOk a s = true ↔ (0 ≤ a ∧ a ≤ 5) ∧ (0 ≤ s ∧ s ≤ 2) := by simp [keyOk, inBi]
theorem balOk_iff {x : Bal} : balOk x = true ↔ ((0 ≤ x.ac ∧ x.ac ≤ 5) ∧ (0 ≤ x.ast ∧ x.ast ≤ 2)) ∧ (1 ≤ x.am ∧ x.am ≤ 1000000000000) := by simp [balOk, keyOk_iff, inBi]
theorem behind_iff {b a : Bal} (hb : keyOk b.ac b.ast = true) (ha : keyOk a.ac a.ast = true) : behind b a = false ↔ b.ac * 3 + b.ast ≤ a.ac * 3 + a.ast := by
  obtain ⟨⟨_, _⟩, _, _⟩ := keyOk_iff.1 hb
  obtain ⟨⟨_, _⟩, _, _⟩ := keyOk_iff.1 ha
  unfold behind
  split <;> simp <;> omega
theorem balOk_key {x : Bal} (h : balOk x = true) : keyOk x.ac x.ast = true := by
  rw [balOk, Bool.and_eq_true] at h; exact h.1
end Go.Proofs.Ytojjdkggomlegaa


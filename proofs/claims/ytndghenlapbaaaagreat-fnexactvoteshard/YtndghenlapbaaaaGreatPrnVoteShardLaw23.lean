import Derived.Test.YtndghenlapbaaaaGreatPrnVoteShardLaw22
import Derived.Test.YtndghenlapbaaaaGreatPrnVoteShardLaw13
import Derived.Test.YtndghenlapbaaaaGreatPrnVoteShardLaw2
import Derived.Shelf.Abstract
import Derived.BigQuiet
import Derived.Deep.QuietTactic
import Derived.Deep.RegionHeld3
import Derived.Test.YtndghenlapbaaaaGreatPrnVoteShardLaw1
import Derived.Test.YtndghenlapbaaaaGreatPrnVoteShardLaw11
set_option linter.unusedSimpArgs false
set_option linter.unusedVariables false
set_option linter.unusedSectionVars false

/-
 A shard copied, the program's.
-/
namespace Go.Proofs.YtndghenlapbaaaaGreat
open Go.RowKit
variable [DecidableEq Leg] [Inhabited Leg] [DecidableEq Mrk] [Inhabited Mrk] [DecidableEq Bal] [Inhabited Bal] [DecidableEq Cont] [Inhabited Cont] [DecidableEq Shd] [Inhabited Shd]
attribute [local go_sem ↓] Go.wp_at_zero Go.wp_at_succ

theorem conts_at10 {w : World} {v : Value} {xs : List Cont} (hx : contsR.V w v xs) : ∃ a c, v = .slice a xs.length c ∧ xs.length ≤ c ∧ c ≤ maxLen ∧ ∀ k, k < xs.length → ∃ b o p q, a = some ⟨b, o, none⟩ ∧ w.cell? ⟨b, o + k * 2, none⟩ = some (.int .i64 (xs.getD k default).id) ∧ w.cell? ⟨b, o + k * 2 + 1, none⟩ = some (.slice p (xs.getD k default).legs.length q) ∧ contR.V w (.agg #[.int .i64 (xs.getD k default).id, .slice p (xs.getD k default).legs.length q]) (xs.getD k default) := by
 obtain ⟨a, c, rfl, h1, h2, h3⟩ := hx
 refine ⟨a, c, rfl, h1, h2, fun k hk => ?_⟩
 obtain ⟨b, o, u, e, _, p, hv⟩ := h3 k hk
 have hV := hv
 obtain ⟨s, rfl, hc⟩ := hv
 obtain ⟨au, cu, rfl⟩ := legs_form hc
 exact ⟨b, o, au, cu, e, p 0 (by omega), p 1 (by omega), hV⟩
theorem wpl_appC (w : World) {ops : Array Oper} {rest : List Oper} {o : Oper} {a : Act} {Q : Exit → Act → World → Prop} (hgd : o.guard = none) (s x : Operand)
  (ho : o.op = .call { callee := .builtin .append, args := #[s, x], argTypes := #[35, 35] })
  (base : Nat) (F Fu : Nat → Prop) (v : Value) (xs : List Cont) (y : Cont) (g : Nat) (p : Option Addr) (q : Nat) (hs : a.eval s = v) (hx : a.eval x = .slice (some ⟨g, 0, none⟩) 1 1) (hown : contsR.O w base F v xs) (hu : contR.O w base Fu (.agg #[.int .i64 y.id, .slice p y.legs.length q]) y) (hd : ∀ b, F b → ¬ Fu b)
  (hc : w.cell? ⟨g, 0, none⟩ = some (.int .i64 y.id) ∧ w.cell? ⟨g, 1, none⟩ = some (.slice p y.legs.length q)) (hn : xs.length ≤ 2000000) (hbase : base ≤ w.heap.size)
  (h : ∀ v' w' F', contsR.O w' base F' v' (xs ++ [y]) → Below base w w' → (∀ b, F' b → F b ∨ Fu b ∨ w.heap.size ≤ b) → wpList Tryz.prog ops Q rest (a.put o.dst v') w') : wpList Tryz.prog ops Q (o :: rest) a w := by
 obtain ⟨i0, hi, hz0, hz1, hz2⟩ := info_parts infoConts
 exact wpl_appN w hgd s x 35 ho 44 i0 _ 2 32 Tryz.underlying35 hi hz0 hz1 hz2 rfl (by decide) (by decide) base F Fu v _ xs y ⟨g, 0, none⟩ 1 hs hx hown hu rfl (fun z hz => by
  simp [lvCont, one] at hz
  rcases hz with rfl | rfl <;> rfl) hd (fun j y' hj => by
  match j, hj with
  | 0, hj => simp [lvCont, one] at hj; subst hj; simpa [Addr.add] using hc.1
  | 1, hj => simp [lvCont, one] at hj; subst hj; simpa [Addr.add] using hc.2
  | j + 2, hj => simp [lvCont, one] at hj) hn hbase h
theorem conts_nil (w : World) (base : Nat) : contsR.O w base (fun _ => False) (.slice none 0 0) [] :=
 ⟨[], fun _ => default, fun _ _ => False, ⟨World.ownsRow_nil _ _ _ _, fun i hi => absurd hi (Nat.not_lt_zero _), fun i hi => absurd hi (Nat.not_lt_zero _), fun i hi => absurd hi (Nat.not_lt_zero _), fun i hi => absurd hi (Nat.not_lt_zero _), fun i j hi => absurd hi (Nat.not_lt_zero _)⟩, fun b => ⟨fun h => h.elim, fun h => h.elim (fun h => by simp [Value.ownBlock] at h) (fun ⟨i, hi, _⟩ => absurd hi (Nat.not_lt_zero _))⟩⟩
theorem cont_cells {w : World} {base : Nat} {F : Nat → Prop} {v : Value} {x : Cont} (h : contR.O w base F v x) : ∃ a c, v = .agg #[.int .i64 x.id, .slice a x.legs.length c] := by
 obtain ⟨u1, F1, rfl, h1, _⟩ := h
 obtain ⟨a, c, rfl⟩ := legs_form (legsR.ofO h1)
 exact ⟨a, c, rfl⟩
theorem set6 {α : Type} (R : Rep α) {W : World} {base B : Nat} {F : Nat → Prop} {v : Value} {x : α} (h : R.O W base F v x) (hB : B < base) (u0 u1 u2 u3 u4 u5 : Value) :
  R.O ((((((W.setCell ⟨B, 0, none⟩ u0).setCell ⟨B, 1, none⟩ u1).setCell ⟨B, 2, none⟩ u2).setCell ⟨B, 3, none⟩ u3).setCell ⟨B, 4, none⟩ u4).setCell ⟨B, 5, none⟩ u5) base F v x :=
 R.set (R.set (R.set (R.set (R.set (R.set h _ hB) _ hB) _ hB) _ hB) _ hB) _ hB
def copG (d : Shd) : Nat → (Nat → Value) → Nat → Nat → World → Prop
 | 4, y, lo, hi, w => (∃ a c, y 7 = .slice a d.bals.length c) ∧ w.ownsRow lo 99 3 (y 7) d.bals.length (balsC d.bals) ∧ ∀ b, (y 7).ownBlock = some b → b < hi
 | 7, y, lo, hi, w => (∃ a c, y 10 = .slice a d.votes.length c) ∧ w.ownsRow lo 89 2 (y 10) d.votes.length (mrksC d.votes) ∧ ∀ b, (y 10).ownBlock = some b → b < hi
 | 10, y, lo, hi, w => (∃ a c, y 13 = .slice a d.held.length c) ∧ ∃ F, contsR.O w lo F (y 13) d.held ∧ ∀ b, F b → b < hi
 | 13, y, lo, hi, w => (∃ a c, y 16 = .slice a d.done.length c) ∧ w.ownsRow lo 89 2 (y 16) d.done.length (mrksC d.done) ∧ ∀ b, (y 16).ownBlock = some b → b < hi
 | 16, y, lo, hi, w => (∃ a c, y 19 = .slice a d.appl.length c) ∧ w.ownsRow lo 2 1 (y 19) d.appl.length (intsC d.appl) ∧ ∀ b, (y 19).ownBlock = some b → b < hi
 | 17, y, _, _, _ => y 20 = .agg #[.int .i64 d.idx, y 7, y 10, y 13, y 16, y 19]
 | _, _, _, _, _ => True
set_option maxRecDepth 20000 in
set_option maxHeartbeats 8000000 in
theorem copEachC_u (x : Value) (xs : List Cont) (w : World) (hx : contsR.V w x xs) (hn : xs.length ≤ 1048576) (hll : ∀ k, k < xs.length → (xs.getD k default).legs.length ≤ 1048576) :
  Calls Tryz.prog 75 #[x, .func (.func 76) #[] #[]] w fun e w' => ∃ v F, e = .returned v ∧ contsR.O w' w.heap.size F v xs ∧ Below w.heap.size w w' := by
 obtain ⟨a3, c3, e3, hc3, hm3, hx3⟩ := conts_at10 hx
 subst e3
 unfold maxLen at hm3
 have HX : Hid (∀ k, k < xs.length → ∃ b o p q, a3 = some ⟨b, o, none⟩ ∧ w.cell? ⟨b, o + k * 2, none⟩ = some (.int .i64 (xs.getD k default).id) ∧ w.cell? ⟨b, o + k * 2 + 1, none⟩ = some (.slice p (xs.getD k default).legs.length q) ∧ contR.V w (.agg #[.int .i64 (xs.getD k default).id, .slice p (xs.getD k default).legs.length q]) (xs.getD k default)) := hx3
 have HLl : Hid (∀ k, k < xs.length → (xs.getD k default).legs.length ≤ 1048576) := hll
 clear hx3 hll hx
 obtain ⟨n3, hn3⟩ : ∃ n3, n3 = xs.length := ⟨_, rfl⟩
 have HN : Hid (xs.length = n3) := hn3.symm
 rw [← hn3] at hc3 HX HLl hn ⊢
 clear hn3
 have eg := enters_of Tryz.func76 (by kernel_rfl) rfl
 go_enter Tryz.func75, Tryz.ntmps75
 go_wp2
 go_loopw [5, 10] (fun s i w' => ∃ (k : Nat) (a : Option Addr) (c : Nat) (F : Nat → Prop), k ≤ n3 ∧ i = .int .i64 k ∧ s = .slice a k c ∧ Hid (contsR.O w' w.heap.size F (.slice a k c) (xs.take k)) ∧ Below w.heap.size w w') (fun s i _ => n3 - (intOf i).toNat)
 case atStart => exact ⟨0, none, 0, _, Nat.zero_le _, rfl, rfl, conts_nil _ _, qBq⟩
 case round =>
  obtain ⟨k, as_, cs_, F, hk, rfl, rfl, HO, hbl⟩ := hrel
  have zr := hbl.size
  by_cases hlt : k < n3
  ·
   obtain ⟨bx, ox, pp, qq, rfl, g0, g1, hV⟩ := HX.out k hlt
   have hcw := HLl.out k hlt
   obtain ⟨l, hl⟩ : ∃ l, l = xs.getD k default := ⟨_, rfl⟩
   rw [← hl] at g0 g1 hV hcw
   have HL : Hid (xs.take (k + 1) = xs.take k ++ [l]) := by
    show _ = _
    rw [List.take_succ_eq_append_getElem (by rw [HN.out]; exact hlt), hl]
    simp [List.getD, show k < xs.length by rw [HN.out]; exact hlt]
   clear hl
   have HCp : Hid (∀ W, Below w.heap.size w W → Calls Tryz.prog 76 #[.agg #[.int .i64 l.id, .slice pp l.legs.length qq]] W fun e w' => ∃ v F, e = .returned v ∧ contR.O w' W.heap.size F v l ∧ Below W.heap.size W w') := fun W hW => copiedCon_u _ l W (contR.below hV hW) hcw
   clear hV
   replace g0 := cK hbl g0
   replace g1 := cK hbl g1
   have zb : bx < wr.heap.size := wL wr _ g0
   go_wp2_with fail
   refine (HCp.out _ (qBq)).mono ?_
   rintro e w2 ⟨v2, F2, rfl, o2, hb2⟩
   obtain ⟨a2', c2', rfl⟩ := cont_cells o2
   have hz2 := hb2.size
   simp at hz2
   have hB2 : Below wr.heap.size wr w2 := qBq
   have HO2 : Hid (contsR.O w2 w.heap.size F (.slice as_ k cs_) (xs.take k)) := contsR.keep HO.out hB2
   have HFl : Hid (∀ b, F b → b < wr.heap.size) := fun b hb => (contsR.rng HO.out b hb).2
   have HF2 : Hid (∀ b, F2 b → wr.heap.size + 1 ≤ b) := fun b hb => by have := (contR.rng o2 b hb).1; simpa using this
   have HU : Hid (contR.O w2 w.heap.size F2 (.agg #[.int .i64 l.id, .slice a2' l.legs.length c2']) l) := contR.base o2 (by simp; omega)
   have hB3 : Below w.heap.size w w2 := bS hbl hB2
   clear hb2 o2 HCp HO g0 g1 hB2
   go_wp2_with (at_builtin; refine wpl_appC _ rfl _ _ rfl w.heap.size F F2 _ (xs.take k) l w2.heap.size a2' c2' rfl rfl ?a1 ?a2 ?a3 ?a4 ?a5 ?a6 ?_)
   case a1 => exact contsR.alloc HO2.out _
   case a2 => exact contR.alloc HU.out _
   case a3 => exact fun b h1 h2 => by have := HFl.out b h1; have := HF2.out b h2; omega
   case a4 => simp [go_sem]
   case a5 => rw [List.length_take, HN.out]; omega
   case a6 => simp; omega
   intro v3 w3 F3 o3 hb3 _
   rw [← HL.out] at o3
   obtain ⟨a3', c3', e3⟩ := conts_form (contsR.ofO o3)
   rw [show (xs.take (k + 1)).length = k + 1 by rw [List.length_take, HN.out]; omega] at e3
   subst e3
   have HO3 : Hid (contsR.O w3 w.heap.size F3 (.slice a3' (k + 1) c3') (xs.take (k + 1))) := o3
   have hB5 : Below w.heap.size w w3 := Below.trans (bA hB3 _) hb3
   clear o3 hb3
   go_wp2
   exact ⟨⟨k + 1, a3', c3', F3, by omega, by go_num, rfl, HO3, hB5⟩, by simp [intOf]; omega⟩
  ·
   have hkn : k = n3 := by omega
   subst hkn
   have ho := HO.out
   rw [List.take_of_length_le (by rw [HN.out]; exact Nat.le_refl _)] at ho
   go_wp2
   go_ret
   exact ⟨_, F, rfl, ho, hbl⟩
set_option maxRecDepth 20000 in
set_option maxHeartbeats 8000000 in
theorem copiedShd_u (x : Value) (d : Shd) (w : World) (hx : shdR.V w x d) (hn : d.bals.length ≤ 1048576 ∧ d.votes.length ≤ 1048576 ∧ d.held.length ≤ 1048576 ∧ d.done.length ≤ 1048576 ∧ d.appl.length ≤ 1048576) (hll : ∀ k, k < d.held.length → (d.held.getD k default).legs.length ≤ 1048576) :
  Calls Tryz.prog 36 #[x] w fun e w' => ∃ v F, e = .returned v ∧ shdR.O w' w.heap.size F v d ∧ Below w.heap.size w w' := by
 obtain ⟨u1, u2, u3, u4, u5, rfl, h1, h2, h3, h4, h5⟩ := hx
 have HA1 : Hid (∀ W, Below w.heap.size w W → AppAny W u1 d.bals.length (balsC d.bals)) := fun W hW => appAny_bals (balsR.below h1 hW)
 have HA2 : Hid (∀ W, Below w.heap.size w W → AppAny W u2 d.votes.length (mrksC d.votes)) := fun W hW => appAny_mrks10 (mrksR.below h2 hW)
 have HA4 : Hid (∀ W, Below w.heap.size w W → AppAny W u4 d.done.length (mrksC d.done)) := fun W hW => appAny_mrks10 (mrksR.below h4 hW)
 have HA5 : Hid (∀ W, Below w.heap.size w W → AppAny W u5 d.appl.length (intsC d.appl)) := fun W hW => appAny_ints (intsR.below h5 hW)
 have HC3 : Hid (∀ W, Below w.heap.size w W → Calls Tryz.prog 75 #[u3, .func (.func 76) #[] #[]] W fun e w' => ∃ v F, e = .returned v ∧ contsR.O w' W.heap.size F v d.held ∧ Below W.heap.size W w') := fun W hW => copEachC_u _ d.held W (contsR.below h3 hW) hn.2.2.1 hll
 obtain ⟨a1, c1, rfl⟩ := bals_form h1
 obtain ⟨a2, c2, rfl⟩ := mrks_form h2
 obtain ⟨a3, c3, rfl⟩ := conts_form h3
 obtain ⟨a4, c4, rfl⟩ := mrks_form h4
 obtain ⟨a5, c5, rfl⟩ := ints_form h5
 have HLn : Hid (d.bals.length ≤ 1048576 ∧ d.votes.length ≤ 1048576 ∧ d.held.length ≤ 1048576 ∧ d.done.length ≤ 1048576 ∧ d.appl.length ≤ 1048576) := hn
 clear h1 h2 h3 h4 h5 hn hll
 go_enter Tryz.func36, Tryz.ntmps36
 go_wp2
 obtain ⟨wq, hwq⟩ : ∃ wq, wq = (w.alloc (.cells #[.int .i64 d.idx, .slice a1 d.bals.length c1, .slice a2 d.votes.length c2, .slice a3 d.held.length c3, .slice a4 d.done.length c4, .slice a5 d.appl.length c5] 37)).alloc (.cells #[.int .i64 0, .slice none 0 0, .slice none 0 0, .slice none 0 0, .slice none 0 0, .slice none 0 0] 37) := ⟨_, rfl⟩
 have y0 : wq.cell? ⟨w.heap.size, 0, none⟩ = some (.int .i64 d.idx) := by rw [hwq]; simp [go_sem]
 have y1 : wq.cell? ⟨w.heap.size, 1, none⟩ = some (.slice a1 d.bals.length c1) := by rw [hwq]; simp [go_sem]
 have y2 : wq.cell? ⟨w.heap.size, 2, none⟩ = some (.slice a2 d.votes.length c2) := by rw [hwq]; simp [go_sem]
 have y3 : wq.cell? ⟨w.heap.size, 3, none⟩ = some (.slice a3 d.held.length c3) := by rw [hwq]; simp [go_sem]
 have y4 : wq.cell? ⟨w.heap.size, 4, none⟩ = some (.slice a4 d.done.length c4) := by rw [hwq]; simp [go_sem]
 have y5 : wq.cell? ⟨w.heap.size, 5, none⟩ = some (.slice a5 d.appl.length c5) := by rw [hwq]; simp [go_sem]
 have r0 : wq.cell? ⟨w.heap.size + 1, 0, none⟩ = some (.int .i64 0) := by rw [hwq]; simp [go_sem]
 have r1 : wq.cell? ⟨w.heap.size + 1, 1, none⟩ = some (.slice none 0 0) := by rw [hwq]; simp [go_sem]
 have r2 : wq.cell? ⟨w.heap.size + 1, 2, none⟩ = some (.slice none 0 0) := by rw [hwq]; simp [go_sem]
 have r3 : wq.cell? ⟨w.heap.size + 1, 3, none⟩ = some (.slice none 0 0) := by rw [hwq]; simp [go_sem]
 have r4 : wq.cell? ⟨w.heap.size + 1, 4, none⟩ = some (.slice none 0 0) := by rw [hwq]; simp [go_sem]
 have r5 : wq.cell? ⟨w.heap.size + 1, 5, none⟩ = some (.slice none 0 0) := by rw [hwq]; simp [go_sem]
 have rf : ∀ o, wq.frozen? ⟨w.heap.size + 1, o, none⟩ = false := fun o => by rw [hwq]; simp [go_sem]
 have hBq : Below w.heap.size w wq := by rw [hwq]; (repeat (first | exact bR _ _ | assumption | refine bD ?_ | refine bA ?_ _ | refine bset ?_ (by simp; omega) _ | refine bset ?_ (by simp) _ | refine bS ?_ (by assumption)))
 have zq : w.heap.size + 1 < wq.heap.size := by rw [hwq]; simp
 rw [← hwq]
 clear hwq
 refine wp_region_noPanic ?_
 refine region_upto (fun W => Below wq.heap.size wq W ∧ W.cell? ⟨w.heap.size, 0, none⟩ = some (.int .i64 d.idx) ∧ W.cell? ⟨w.heap.size, 1, none⟩ = some (.slice a1 d.bals.length c1) ∧ W.cell? ⟨w.heap.size, 2, none⟩ = some (.slice a2 d.votes.length c2) ∧ W.cell? ⟨w.heap.size, 3, none⟩ = some (.slice a3 d.held.length c3) ∧ W.cell? ⟨w.heap.size, 4, none⟩ = some (.slice a4 d.done.length c4) ∧ W.cell? ⟨w.heap.size, 5, none⟩ = some (.slice a5 d.appl.length c5)) 18 (by kernel_rfl) ⟨qBq, cK (qBq) y0, cK (qBq) y1, cK (qBq) y2, cK (qBq) y3, cK (qBq) y4, cK (qBq) y5⟩ (fun hS => ?_)
 refine tK (i := 0) (v := ?_) rfl (by kernel_rfl) hS ?_ ?_
 rotate_left
 ·
  intro wS hSw; (try dsimp only at hSw); go_simp; try with_reducible rfl
 try simp only [Act.put, jA, jB, jC, jD, jE, jF]
 refine tK (i := 1) (v := ?_) rfl (by kernel_rfl) hS ?_ ?_
 rotate_left
 ·
  intro wS hSw; (try dsimp only at hSw); go_simp; try with_reducible rfl
 try simp only [Act.put, jA, jB, jC, jD, jE, jF]
 refine tK (i := 2) (v := ?_) rfl (by kernel_rfl) hS ?_ ?_
 rotate_left
 ·
  intro wS hSw; (try dsimp only at hSw); go_simp; try with_reducible rfl
 try simp only [Act.put, jA, jB, jC, jD, jE, jF]
 refine tK (i := 3) (v := ?_) rfl (by kernel_rfl) hS ?_ ?_
 rotate_left
 ·
  intro wS hSw; (try dsimp only at hSw); go_simp; try with_reducible rfl
 try simp only [Act.put, jA, jB, jC, jD, jE, jF]
 refine tK (i := 5) (v := ?_) rfl (by kernel_rfl) hS ?_ ?_
 rotate_left
 ·
  intro wS hSw; (try dsimp only at hSw); go_simp; try with_reducible rfl
 try simp only [Act.put, jA, jB, jC, jD, jE, jF]
 refine tK (i := 6) (v := ?_) rfl (by kernel_rfl) hS ?_ ?_
 rotate_left
 ·
  intro wS hSw; (try dsimp only at hSw); go_simp; try with_reducible rfl
 try simp only [Act.put, jA, jB, jC, jD, jE, jF]
 refine tK (i := 8) (v := ?_) rfl (by kernel_rfl) hS ?_ ?_
 rotate_left
 ·
  intro wS hSw; (try dsimp only at hSw); go_simp; try with_reducible rfl
 try simp only [Act.put, jA, jB, jC, jD, jE, jF]
 refine tK (i := 9) (v := ?_) rfl (by kernel_rfl) hS ?_ ?_
 rotate_left
 ·
  intro wS hSw; (try dsimp only at hSw); go_simp; try with_reducible rfl
 try simp only [Act.put, jA, jB, jC, jD, jE, jF]
 refine tK (i := 11) (v := ?_) rfl (by kernel_rfl) hS ?_ ?_
 rotate_left
 ·
  intro wS hSw; (try dsimp only at hSw); go_simp; try with_reducible rfl
 try simp only [Act.put, jA, jB, jC, jD, jE, jF]
 refine tK (i := 12) (v := ?_) rfl (by kernel_rfl) hS ?_ ?_
 rotate_left
 ·
  intro wS hSw; (try dsimp only at hSw); go_simp; try with_reducible rfl
 try simp only [Act.put, jA, jB, jC, jD, jE, jF]
 refine tK (i := 14) (v := ?_) rfl (by kernel_rfl) hS ?_ ?_
 rotate_left
 ·
  intro wS hSw; (try dsimp only at hSw); go_simp; try with_reducible rfl
 try simp only [Act.put, jA, jB, jC, jD, jE, jF]
 refine tK (i := 15) (v := ?_) rfl (by kernel_rfl) hS ?_ ?_
 rotate_left
 ·
  intro wS hSw; (try dsimp only at hSw); go_simp; try with_reducible rfl
 try simp only [Act.put, jA, jB, jC, jD, jE, jF]
 have hb0 : Below wq.heap.size wq wq.drew := qBq
 have zw0 : w.heap.size + 1 < wq.drew.heap.size := by simp; omega
 replace r0 := cK hb0 r0
 replace r1 := cK hb0 r1
 replace r2 := cK hb0 r2
 replace r3 := cK hb0 r3
 replace r4 := cK hb0 r4
 replace r5 := cK hb0 r5
 replace rf : ∀ o, wq.drew.frozen? ⟨w.heap.size + 1, o, none⟩ = false := fun o => by rw [(bcell hb0).2 _ _ (by omega)]; exact rf o
 have hBd : Below w.heap.size w wq.drew := bS hBq hb0
 clear hb0
 generalize wq.drew = W0 at *
 refine upto_stable' [(4, 7), (7, 10), (10, 13), (13, 16), (16, 19), (17, 20)] (copG d) (by kernel_rfl) hS (fun W W' h hb => ⟨bS h.1 hb, cK hb h.2.1, cK hb h.2.2.1, cK hb h.2.2.2.1, cK hb h.2.2.2.2.1, cK hb h.2.2.2.2.2.1, cK hb h.2.2.2.2.2.2⟩) ?_ ?_ ?_
 ·
  intro p hp
  simp only [List.mem_cons, List.not_mem_nil, or_false] at hp
  rcases hp with rfl | rfl | rfl | rfl | rfl | rfl
  all_goals intro y y' lo hi W W' h hi' hb e he
  ·
   simp only [copG] at h ⊢
   rw [e]
   exact ⟨h.1, owns_below h.2.1 hb, h.2.2⟩
  ·
   simp only [copG] at h ⊢
   rw [e]
   exact ⟨h.1, owns_below h.2.1 hb, h.2.2⟩
  ·
   simp only [copG] at h ⊢
   rw [e]
   obtain ⟨h1, F, h2, h3⟩ := h
   exact ⟨h1, F, contsR.keep h2 hb, h3⟩
  ·
   simp only [copG] at h ⊢
   rw [e]
   exact ⟨h.1, owns_below h.2.1 hb, h.2.2⟩
  ·
   simp only [copG] at h ⊢
   rw [e]
   exact ⟨h.1, owns_below h.2.1 hb, h.2.2⟩
  ·
   have e1 := he (4, 7) (by simp) (by kernel_rfl)
   have e2 := he (7, 10) (by simp) (by kernel_rfl)
   have e3 := he (10, 13) (by simp) (by kernel_rfl)
   have e4 := he (13, 16) (by simp) (by kernel_rfl)
   have e5 := he (16, 19) (by simp) (by kernel_rfl)
   simp only [copG] at h ⊢
   rw [e, e1, e2, e3, e4, e5]
   exact h
 ·
  intro p hp
  simp only [List.mem_cons, List.not_mem_nil, or_false] at hp
  rcases hp with rfl | rfl | rfl | rfl | rfl | rfl
  all_goals
   refine ⟨_, rfl, rfl, ?_⟩
   intro y W lo hi hSW hBW hd hap K hK
   clear hap
  ·
   clear hd
   refine ⟨?_⟩
   refine step_app10B W rfl (.const (.slice none 0 0)) (.tmp 6) rfl W.heap.size (.slice none 0 0) [] rfl (.slice a1 d.bals.length c1) d.bals rfl (World.ownsRow_nil _ _ _ _) (HA1.out W (bS hBq hSW.1)) (by have := HLn.out; simp; omega) (Nat.le_refl _) ?_
   intro v' w' ho _ hB
   have hb := hB W (Below.refl _ _)
   simp only [List.nil_append] at ho
   refine hK _ _ hb ?_
   simp only [copG, updV]
   obtain ⟨av, cv, hv⟩ := owns_form ho
   refine ⟨⟨av, cv, by simpa using hv⟩, by simpa using ho, fun b hb' => ?_⟩
   exact (ho.lt b (by simpa using hb')).2
  ·
   clear hd
   refine ⟨?_⟩
   refine step_app10M W rfl (.const (.slice none 0 0)) (.tmp 9) rfl W.heap.size (.slice none 0 0) [] rfl (.slice a2 d.votes.length c2) d.votes rfl (World.ownsRow_nil _ _ _ _) (HA2.out W (bS hBq hSW.1)) (by have := HLn.out; simp; omega) (Nat.le_refl _) ?_
   intro v' w' ho _ hB
   have hb := hB W (Below.refl _ _)
   simp only [List.nil_append] at ho
   refine hK _ _ hb ?_
   simp only [copG, updV]
   obtain ⟨av, cv, hv⟩ := owns_form ho
   refine ⟨⟨av, cv, by simpa using hv⟩, by simpa using ho, fun b hb' => ?_⟩
   exact (ho.lt b (by simpa using hb')).2
  ·
   clear hd
   refine ⟨?_⟩
   simp only [over, Act.put, jA, jB, jC, List.map_cons, List.map_nil, List.foldl_cons, List.foldl_nil, jD, jE, jF] at hK ⊢
   go_simp
   refine (HC3.out _ (bS hBq hSW.1)).mono ?_
   rintro e w' ⟨v, F, rfl, o3, hb3⟩
   refine hK _ _ hb3 ?_
   simp only [copG, updV]
   obtain ⟨av, cv, hv⟩ := conts_form (contsR.ofO o3)
   exact ⟨⟨av, cv, by simpa using hv⟩, F, by simpa using o3, fun b hb' => (contsR.rng o3 b hb').2⟩
  ·
   clear hd
   refine ⟨?_⟩
   refine step_app10M W rfl (.const (.slice none 0 0)) (.tmp 15) rfl W.heap.size (.slice none 0 0) [] rfl (.slice a4 d.done.length c4) d.done rfl (World.ownsRow_nil _ _ _ _) (HA4.out W (bS hBq hSW.1)) (by have := HLn.out; simp; omega) (Nat.le_refl _) ?_
   intro v' w' ho _ hB
   have hb := hB W (Below.refl _ _)
   simp only [List.nil_append] at ho
   refine hK _ _ hb ?_
   simp only [copG, updV]
   obtain ⟨av, cv, hv⟩ := owns_form ho
   refine ⟨⟨av, cv, by simpa using hv⟩, by simpa using ho, fun b hb' => ?_⟩
   exact (ho.lt b (by simpa using hb')).2
  ·
   clear hd
   refine ⟨?_⟩
   refine step_app10I W rfl (.const (.slice none 0 0)) (.tmp 18) rfl W.heap.size (.slice none 0 0) [] rfl (.slice a5 d.appl.length c5) d.appl rfl (World.ownsRow_nil _ _ _ _) (HA5.out W (bS hBq hSW.1)) (by have := HLn.out; simp; omega) (Nat.le_refl _) ?_
   intro v' w' ho _ hB
   have hb := hB W (Below.refl _ _)
   simp only [List.nil_append] at ho
   refine hK _ _ hb ?_
   simp only [copG, updV]
   obtain ⟨av, cv, hv⟩ := owns_form ho
   refine ⟨⟨av, cv, by simpa using hv⟩, by simpa using ho, fun b hb' => ?_⟩
   exact (ho.lt b (by simpa using hb')).2
  ·
   have g1 := (hd (4, 7) (by simp) (by kernel_rfl)).2
   have g2 := (hd (7, 10) (by simp) (by kernel_rfl)).2
   have g3 := (hd (10, 13) (by simp) (by kernel_rfl)).2
   have g4 := (hd (13, 16) (by simp) (by kernel_rfl)).2
   have g5 := (hd (16, 19) (by simp) (by kernel_rfl)).2
   clear hd
   simp only [copG] at g1 g2 g3 g4 g5
   obtain ⟨⟨q1, s1, e1⟩, _⟩ := g1
   obtain ⟨⟨q2, s2, e2⟩, _⟩ := g2
   obtain ⟨⟨q3, s3, e3⟩, _⟩ := g3
   obtain ⟨⟨q4, s4, e4⟩, _⟩ := g4
   obtain ⟨⟨q5, s5, e5⟩, _⟩ := g5
   refine ⟨?_⟩
   simp only [over, Act.put, jA, jB, jC, List.map_cons, List.map_nil, List.foldl_cons, List.foldl_nil, jD, jE, jF] at hK ⊢
   simp only [e1, e2, e3, e4, e5] at hK ⊢
   go_simp
   refine hK _ _ (Below.refl _ _) ?_
   simp only [copG, updV]
   simp [e1, e2, e3, e4, e5]
 ·
  refine ⟨_, rfl, ?_⟩
  intro y W lo hi hSW hBW hd hap K hK
  have h1 := hd (4, 7) (by simp)
  have h2 := hd (7, 10) (by simp)
  have h3 := hd (10, 13) (by simp)
  have h4 := hd (13, 16) (by simp)
  have h5 := hd (16, 19) (by simp)
  have h6 := hd (17, 20) (by simp)
  clear hd
  simp only [copG] at h1 h2 h3 h4 h5 h6
  obtain ⟨b1, ⟨q1, s1, e1⟩, o1, l1⟩ := h1
  obtain ⟨b2, ⟨q2, s2, e2⟩, o2, l2⟩ := h2
  obtain ⟨b3, ⟨q3, s3, e3⟩, F3, o3, l3⟩ := h3
  obtain ⟨b4, ⟨q4, s4, e4⟩, o4, l4⟩ := h4
  obtain ⟨b5, ⟨q5, s5, e5⟩, o5, l5⟩ := h5
  obtain ⟨_, g6⟩ := h6
  have p1_2 := hap (4, 7) (by simp) (7, 10) (by simp) (by simp)
  have p1_3 := hap (4, 7) (by simp) (10, 13) (by simp) (by simp)
  have p1_4 := hap (4, 7) (by simp) (13, 16) (by simp) (by simp)
  have p1_5 := hap (4, 7) (by simp) (16, 19) (by simp) (by simp)
  have p2_3 := hap (7, 10) (by simp) (10, 13) (by simp) (by simp)
  have p2_4 := hap (7, 10) (by simp) (13, 16) (by simp) (by simp)
  have p2_5 := hap (7, 10) (by simp) (16, 19) (by simp) (by simp)
  have p3_4 := hap (10, 13) (by simp) (13, 16) (by simp) (by simp)
  have p3_5 := hap (10, 13) (by simp) (16, 19) (by simp) (by simp)
  have p4_5 := hap (13, 16) (by simp) (16, 19) (by simp) (by simp)
  clear hap
  simp only [ApartB] at p1_2 p1_3 p1_4 p1_5 p2_3 p2_4 p2_5 p3_4 p3_5 p4_5
  rw [e1] at o1 l1 g6
  have t1 : ∀ b, (Value.slice q1 _ s1).ownBlock = some b → lo 4 ≤ b ∧ b < hi 4 := fun b h => ⟨(o1.lt b h).1, l1 b h⟩
  have z1 : W0.heap.size ≤ lo 4 := b1.1
  rw [e2] at o2 l2 g6
  have t2 : ∀ b, (Value.slice q2 _ s2).ownBlock = some b → lo 7 ≤ b ∧ b < hi 7 := fun b h => ⟨(o2.lt b h).1, l2 b h⟩
  have z2 : W0.heap.size ≤ lo 7 := b2.1
  rw [e3] at o3 g6
  have t3 : ∀ b, F3 b → lo 10 ≤ b ∧ b < hi 10 := fun b h => ⟨(contsR.rng o3 b h).1, l3 b h⟩
  have z3 : W0.heap.size ≤ lo 10 := b3.1
  rw [e4] at o4 l4 g6
  have t4 : ∀ b, (Value.slice q4 _ s4).ownBlock = some b → lo 13 ≤ b ∧ b < hi 13 := fun b h => ⟨(o4.lt b h).1, l4 b h⟩
  have z4 : W0.heap.size ≤ lo 13 := b4.1
  rw [e5] at o5 l5 g6
  have t5 : ∀ b, (Value.slice q5 _ s5).ownBlock = some b → lo 16 ≤ b ∧ b < hi 16 := fun b h => ⟨(o5.lt b h).1, l5 b h⟩
  have z5 : W0.heap.size ≤ lo 16 := b5.1
  replace r0 := cK hBW r0
  replace r1 := cK hBW r1
  replace r2 := cK hBW r2
  replace r3 := cK hBW r3
  replace r4 := cK hBW r4
  replace r5 := cK hBW r5
  replace rf : ∀ o, W.frozen? ⟨w.heap.size + 1, o, none⟩ = false := fun o => by rw [(bcell hBW).2 _ _ zw0]; exact rf o
  have hBB : Below w.heap.size w W := bS hBd hBW
  have P1 : Hid (balsR.O W (lo 4) (fun b => (Value.slice q1 d.bals.length s1).ownBlock = some b) (.slice q1 d.bals.length s1) d.bals) := ⟨o1, rfl⟩
  have P2 : Hid (mrksR.O W (lo 7) (fun b => (Value.slice q2 d.votes.length s2).ownBlock = some b) (.slice q2 d.votes.length s2) d.votes) := ⟨o2, rfl⟩
  have P3 : Hid (contsR.O W (lo 10) F3 (.slice q3 d.held.length s3) d.held) := o3
  have P4 : Hid (mrksR.O W (lo 13) (fun b => (Value.slice q4 d.done.length s4).ownBlock = some b) (.slice q4 d.done.length s4) d.done) := ⟨o4, rfl⟩
  have P5 : Hid (intsR.O W (lo 16) (fun b => (Value.slice q5 d.appl.length s5).ownBlock = some b) (.slice q5 d.appl.length s5) d.appl) := ⟨o5, rfl⟩
  have HT : Hid ((∀ b, (Value.slice q1 d.bals.length s1).ownBlock = some b → lo 4 ≤ b ∧ b < hi 4) ∧ (∀ b, (Value.slice q2 d.votes.length s2).ownBlock = some b → lo 7 ≤ b ∧ b < hi 7) ∧ (∀ b, F3 b → lo 10 ≤ b ∧ b < hi 10) ∧ (∀ b, (Value.slice q4 d.done.length s4).ownBlock = some b → lo 13 ≤ b ∧ b < hi 13) ∧ (∀ b, (Value.slice q5 d.appl.length s5).ownBlock = some b → lo 16 ≤ b ∧ b < hi 16)) := ⟨t1, t2, t3, t4, t5⟩
  clear o1 o2 o3 o4 o5 l1 l2 l3 l4 l5 t1 t2 t3 t4 t5 e1 e2 e3 e4 e5 b1 b2 b3 b4 b5 hSW
  refine ⟨?_⟩
  simp only [over, Act.put, jA, jB, jC, List.map_cons, List.map_nil, List.foldl_cons, List.foldl_nil, jD, jE, jF]
  simp only [g6]
  clear g6 hS
  go_simp
  refine hK _ _ ?_
  clear hK K
  refine NoPanic.normal ?_
  go_wp2
  refine bodyPost_ret (v := .agg #[.int .i64 d.idx, .slice q1 d.bals.length s1, .slice q2 d.votes.length s2, .slice q3 d.held.length s3, .slice q4 d.done.length s4, .slice q5 d.appl.length s5]) (by simp [results, Tryz.results36, go_sem, r0, r1, r2, r3, r4, r5, rf]) rfl ⟨_, _, rfl, ⟨_, _, _, _, _, _, _, F3, _, _, rfl, balsR.base (set6 balsR P1.out (by omega) _ _ _ _ _ _) (by omega), mrksR.base (set6 mrksR P2.out (by omega) _ _ _ _ _ _) (by omega), contsR.base (set6 contsR P3.out (by omega) _ _ _ _ _ _) (by omega), mrksR.base (set6 mrksR P4.out (by omega) _ _ _ _ _ _) (by omega), intsR.base (set6 intsR P5.out (by omega) _ _ _ _ _ _) (by omega), ?_, ?_, ?_, ?_, ?_, ?_, ?_, ?_, ?_, ?_, fun b => Iff.rfl⟩, by (repeat (first | refine bset ?_ (by simp; omega) _ | refine bset ?_ (by simp) _ | refine bA ?_ _ | assumption))⟩
  all_goals
   intro b h h'
   obtain ⟨t1, t2, t3, t4, t5⟩ := HT.out
   first | (have := t1 b h; have := t2 b h'; omega) | (have := t1 b h; have := t3 b h'; omega) | (have := t1 b h; have := t4 b h'; omega) | (have := t1 b h; have := t5 b h'; omega) | (have := t2 b h; have := t3 b h'; omega) | (have := t2 b h; have := t4 b h'; omega) | (have := t2 b h; have := t5 b h'; omega) | (have := t3 b h; have := t4 b h'; omega) | (have := t3 b h; have := t5 b h'; omega) | (have := t4 b h; have := t5 b h'; omega)
end Go.Proofs.YtndghenlapbaaaaGreat

/-
 As RegS, where an operation may also write into what another one made, and takes it over (an append to what was just made).
-/
namespace Go.Proofs.YtndghenlapbaaaaGreat
open Go.RowKit

section
variable {P : Program} {ops : Array Oper} {Q : Exit → Act → World → Prop} {md : Region.Mode} {S : World → Prop} {t : Nat}

def Alive (L : List (Nat × Nat)) (cons : Nat → List Nat) (listed : Array Bool) (j : Nat) : Prop := listed.getD j true = true ∧ ∀ p ∈ L, listed.getD p.1 true = true → j ∉ cons p.1
def Taken (cons : Nat → List Nat) (Φ : Nat → Nat → Prop) (i b : Nat) : Prop := ∃ j ∈ cons i, Φ j b
def FIn (w0 w : World) (F : Nat → Prop) : Prop := ∀ b, F b → w0.heap.size ≤ b ∧ b < w.heap.size
def FApart (F F' : Nat → Prop) : Prop := ∀ b, F b → ¬ F' b
def StepC (P : Program) (md : Region.Mode) (ops : Array Oper) (Q : Exit → Act → World → Prop) (S : World → Prop) (L : List (Nat × Nat)) (cons : Nat → List Nat) (G : Nat → (Nat → Value) → (Nat → Prop) → World → Prop) (a0 : Act) (w0 : World) (p : Nat × Nat) : Prop :=
 ∃ o, ops[p.1]? = some o ∧ o.dst = some p.2 ∧ ∀ (y : Nat → Value) (w : World) (Φ : Nat → Nat → Prop), S w → Below w0.heap.size w0 w →
  (∀ q ∈ L, waitsFor md ops p.1 q.1 = true → (q.1 ∈ cons p.1 ∨ ∀ r ∈ L, q.1 ∉ cons r.1) → FIn w0 w (Φ q.1) ∧ G q.1 y (Φ q.1) w) →
  ∀ K : Act → World → Prop, (∀ v w' F', Mod (Taken cons Φ p.1) w w' → (∀ b, F' b → Taken cons Φ p.1 b ∨ (w.heap.size ≤ b ∧ b < w'.heap.size)) → G p.1 (updV y p.2 v) F' w' → K ((over a0 (L.map Prod.snd) y).put (some p.2) v) w') →
   Shut (if Region.wanted o (yielded ops (over a0 (L.map Prod.snd) y).tmps) = true then Oper.wp P o (over a0 (L.map Prod.snd) y) w K Q else K ((over a0 (L.map Prod.snd) y).put o.dst undef) w)
theorem upto_cons (L : List (Nat × Nat)) (cons : Nat → List Nat) (G : Nat → (Nat → Value) → (Nat → Prop) → World → Prop) {f : Nat} {listed : Array Bool} {a0 : Act} {w0 : World}
  (hrise : risesB md ops = true) (hsz : listed.size = ops.size) (hot : ∃ ot, ops[t]? = some ot)
  (hall : ∀ i, i < ops.size → listed.getD i true = false → i = t ∨ ∃ p ∈ L, p.1 = i)
  (hun : listed.getD t true = false ∧ ∀ p ∈ L, listed.getD p.1 true = false)
  (hno : (L.map Prod.fst).Nodup) (hnd : (L.map Prod.snd).Nodup) (htl : ∀ p ∈ L, p.1 ≠ t ∧ waitsFor md ops t p.1 = true) (hf : f = L.length + 1)
  (hcons : ∀ p ∈ L, ∀ j ∈ cons p.1, waitsFor md ops p.1 j = true ∧ ∃ q ∈ L, q.1 = j) (huniq : ∀ p ∈ L, ∀ r ∈ L, p.1 ≠ r.1 → ∀ j ∈ cons p.1, j ∉ cons r.1)
  (hS : S w0) (hSst : ∀ (F : Nat → Prop) (w w' : World), S w → Mod F w w' → (∀ b, F b → w0.heap.size ≤ b) → S w')
  (hG : ∀ p ∈ L, ∀ (y y' : Nat → Value) (F F' : Nat → Prop) (w w' : World), G p.1 y F w → FIn w0 w F → Mod F' w w' → FApart F' F → (∀ b, F' b → w0.heap.size ≤ b) → y' p.2 = y p.2 → (∀ q ∈ L, waitsFor md ops p.1 q.1 = true → y' q.2 = y q.2) → G p.1 y' F w')
  (hstep : ∀ p ∈ L, StepC P md ops Q S L cons G a0 w0 p)
  (hlast : ∃ o, ops[t]? = some o ∧ ∀ (y : Nat → Value) (w : World) (Φ : Nat → Nat → Prop), S w → Below w0.heap.size w0 w → (∀ q ∈ L, (∀ r ∈ L, q.1 ∉ cons r.1) → FIn w0 w (Φ q.1) ∧ G q.1 y (Φ q.1) w) → (∀ q ∈ L, ∀ r ∈ L, q.1 ≠ r.1 → (∀ p ∈ L, q.1 ∉ cons p.1) → (∀ p ∈ L, r.1 ∉ cons p.1) → FApart (Φ q.1) (Φ r.1)) →
   ∀ K : Act → World → Prop, (∀ a' w', Q .normal a' w' → K a' w') → Shut (if Region.wanted o (yielded ops (over a0 (L.map Prod.snd) y).tmps) = true then Oper.wp P o (over a0 (L.map Prod.snd) y) w K Q else K ((over a0 (L.map Prod.snd) y).put o.dst undef) w)) :
  wpUpto P md ops Q S t f listed a0 w0 := by
 have H : ∀ (n f : Nat) (listed : Array Bool) (y : Nat → Value) (w : World) (Φ : Nat → Nat → Prop),
   f = (L.filter fun p => !listed.getD p.1 true).length + 1 → listed.size = ops.size → listed.getD t true = false →
   (∀ i, i < ops.size → listed.getD i true = false → i = t ∨ ∃ p ∈ L, p.1 = i) →
   (∀ p ∈ L, listed.getD p.1 true = true → ∀ q ∈ L, waitsFor md ops p.1 q.1 = true → listed.getD q.1 true = true) →
   S w → Below w0.heap.size w0 w → (∀ q ∈ L, Alive L cons listed q.1 → FIn w0 w (Φ q.1) ∧ G q.1 y (Φ q.1) w) →
   (∀ q ∈ L, ∀ r ∈ L, q.1 ≠ r.1 → Alive L cons listed q.1 → Alive L cons listed r.1 → FApart (Φ q.1) (Φ r.1)) →
   f ≤ n → wpUpto P md ops Q S t f listed (over a0 (L.map Prod.snd) y) w := by
  intro n
  induction n with
  | zero => intro f listed y w Φ hf _ _ _ _ _ _ _ _ hn; omega
  | succ n ih =>
   intro f listed y w Φ hf hsz htun hall hdown hS hB hGs hAp hn
   obtain ⟨ot, hot⟩ := hot
   have htlt : t < ops.size := by
    rcases Nat.lt_or_ge t ops.size with h | h
    ·
     exact h
    ·
     rw [Array.getElem?_eq_none h] at hot; cases hot
   obtain ⟨g, rfl⟩ : ∃ g, f = g + 1 := ⟨_, hf⟩
   have hg : g = (L.filter fun p => !listed.getD p.1 true).length := by omega
   refine ⟨fun h => ?_, fun i hi' => ?_⟩
   ·
    obtain ⟨j, hj⟩ := ready_some hrise hsz (t + 1) t (by omega) htlt htun
    rw [h] at hj
    cases hj
   obtain ⟨hiun, o, hio, hdeps⟩ := mem_ready.1 hi'
   have hilt : i < ops.size := by
    rcases Nat.lt_or_ge i ops.size with h | h
    ·
     exact h
    ·
     rw [Array.getElem?_eq_none h] at hio; cases hio
   have hdep : ∀ k, k < ops.size → waitsFor md ops i k = true → listed.getD k true = true := by
    intro k hk hw
    unfold waitsFor at hw
    rw [hio] at hw
    obtain ⟨e, he, hb⟩ := Array.any_eq_true'.1 hw
    simp only [Bool.and_eq_true, beq_iff_eq] at hb
    have h1 := hdeps e he hb.1
    rw [hb.2] at h1
    have hk' : k < listed.size := by omega
    simp [hk'] at h1 ⊢
    exact h1
   have hLlt : ∀ p ∈ L, p.1 < ops.size := by
    intro p hp
    obtain ⟨o', ho', _⟩ := hstep p hp
    rcases Nat.lt_or_ge p.1 ops.size with h | h
    ·
     exact h
    ·
     rw [Array.getElem?_eq_none h] at ho'; cases ho'
   have key : ∀ K : Act → World → Prop, (if Region.wanted o (yielded ops (over a0 (L.map Prod.snd) y).tmps) = true then Oper.wp P o (over a0 (L.map Prod.snd) y) w K Q else K ((over a0 (L.map Prod.snd) y).put o.dst undef) w) → wpOp P ops Q i K (over a0 (L.map Prod.snd) y) w := by
    intro K h1
    unfold wpOp
    simp only [hio]
    split
    ·
     rename_i hw
     rw [if_pos hw] at h1
     exact .inl h1
    ·
     rename_i hw
     rw [if_neg hw] at h1
     exact h1
   refine key _ ?_
   by_cases hit : i = t
   ·
    subst hit
    have hl : ∀ p ∈ L, listed.getD p.1 true = true := fun p hp => hdep p.1 (hLlt p hp) (htl p hp).2
    obtain ⟨o2, ho2, hlst⟩ := hlast
    rw [hio] at ho2
    cases ho2
    refine (hlst y w Φ hS hB (fun q hq hc => hGs q hq ⟨hl q hq, fun p hp _ => hc p hp⟩) (fun q hq r hr hne h1 h2 => hAp q hq r hr hne ⟨hl q hq, fun p hp _ => h1 p hp⟩ ⟨hl r hr, fun p hp _ => h2 p hp⟩) _ (fun a' w' hq => ⟨fun h => absurd rfl h, upto_done ?_ hq⟩)).out
    rw [List.eq_nil_iff_forall_not_mem]
    intro j hj
    obtain ⟨hjun, oj, hjo, _⟩ := mem_ready.1 hj
    have hjl : j < ops.size := by
     rcases Nat.lt_or_ge j ops.size with h | h
     ·
      exact h
     ·
      rw [Array.getElem?_eq_none h] at hjo; cases hjo
    by_cases hji : i = j
    ·
     subst hji
     have hk' : i < listed.size := by omega
     simp [hk'] at hjun
    ·
     rw [getD_set_ne true hji] at hjun
     rcases hall j hjl hjun with h | ⟨p, hp, h⟩
     ·
      exact hji h.symm
     ·
      rw [← h, hl p hp] at hjun; cases hjun
   ·
    obtain ⟨p, hp, hpi⟩ := (hall i hilt hiun).resolve_left hit
    subst hpi
    obtain ⟨o', ho', hdst, hst⟩ := hstep p hp
    rw [hio] at ho'
    cases ho'
    -- what p takes over is there
    have hcal : ∀ q ∈ L, q.1 ∈ cons p.1 → Alive L cons listed q.1 := fun q hq hc => ⟨hdep q.1 (hLlt q hq) (hcons p hp _ hc).1, fun r hr hrl hcr => by
     by_cases e : r.1 = p.1
     ·
      rw [e, hiun] at hrl; cases hrl
     ·
      exact huniq p hp r hr (Ne.symm e) q.1 hc hcr⟩
    refine (hst y w Φ hS hB (fun q hq hw hc => ?_) _ (fun v w' F' hm hF' hGp => ⟨fun _ => hSst _ _ _ hS hm ?_, ?_⟩)).out
    ·
     rcases hc with hc | hc
     ·
      exact hGs q hq (hcal q hq hc)
     ·
      exact hGs q hq ⟨hdep q.1 (hLlt q hq) hw, fun r hr _ => hc r hr⟩
    ·
     rintro b ⟨j, hj, hb⟩
     obtain ⟨_, q, hq, rfl⟩ := hcons p hp j hj
     exact ((hGs q hq (hcal q hq hj)).1 b hb).1
    have hTk : ∀ b, Taken cons Φ p.1 b → w0.heap.size ≤ b ∧ b < w.heap.size := by
     rintro b ⟨j, hj, hb⟩
     obtain ⟨_, q, hq, rfl⟩ := hcons p hp j hj
     exact (hGs q hq (hcal q hq hj)).1 b hb
    rw [over_put (List.mem_map_of_mem hp) hnd]
    have hlt : p.1 < listed.size := by omega
    have hself' : (listed.setIfInBounds p.1 true).getD p.1 true = true := by simp [hlt]
    have hoth : ∀ j, p.1 ≠ j → (listed.setIfInBounds p.1 true).getD j true = listed.getD j true := fun j h => getD_set_ne true h
    have hinj : ∀ q ∈ L, q.1 = p.1 → q = p := fun q hq h => inj_fst L hno q hq p hp h
    have hinj2 : ∀ q ∈ L, q.2 = p.2 → q = p := fun q hq h => inj_snd L hnd q hq p hp h
    -- who is alive behind p, and is not p, was alive ahead of it, and is not taken over
    have hback : ∀ q ∈ L, q.1 ≠ p.1 → Alive L cons (listed.setIfInBounds p.1 true) q.1 → Alive L cons listed q.1 ∧ q.1 ∉ cons p.1 := fun q hq e ha => by
     refine ⟨⟨by rw [← hoth _ (Ne.symm e)]; exact ha.1, fun r hr hrl => ?_⟩, ha.2 p hp hself'⟩
     by_cases e2 : r.1 = p.1
     ·
      rw [e2, hiun] at hrl; cases hrl
     ·
      exact ha.2 r hr (by rw [hoth _ (Ne.symm e2)]; exact hrl)
    have hTq : ∀ q ∈ L, Alive L cons listed q.1 → q.1 ∉ cons p.1 → FApart (Taken cons Φ p.1) (Φ q.1) := by
     rintro q hq ha hn b ⟨j, hj, hb⟩
     obtain ⟨_, r, hr, rfl⟩ := hcons p hp j hj
     exact hAp r hr q hq (fun e => hn (e ▸ hj)) (hcal r hr hj) ha b hb
    refine ih g (listed.setIfInBounds p.1 true) (updV y p.2 v) w' (fun j => if j = p.1 then F' else Φ j) ?_ (by simpa using hsz) ?_ ?_ ?_ (hSst _ _ _ hS hm (fun b hb => (hTk b hb).1)) (hm.below hB hB.size (fun b hb => (hTk b hb).1)) ?_ ?_ (by omega)
    ·
     rw [hg]
     refine filter_less hno hp (by rw [hiun]; rfl) (by rw [hself']; rfl) (fun q hq hne => ?_)
     rw [hoth _ (fun c => hne (hinj q hq c.symm))]
    ·
     rw [hoth _ (fun h => hit h)]; exact htun
    ·
     intro j hj hju
     by_cases e : p.1 = j
     ·
      subst e; rw [hself'] at hju; cases hju
     ·
      rw [hoth _ e] at hju; exact hall j hj hju
    ·
     intro q hq hql r hr hw
     by_cases e : p.1 = r.1
     ·
      rw [← e]; exact hself'
     ·
      rw [hoth _ e]
      by_cases e2 : p.1 = q.1
      ·
       rw [← e2] at hw; exact hdep r.1 (hLlt r hr) hw
      ·
       rw [hoth _ e2] at hql; exact hdown q hq hql r hr hw
    ·
     intro q hq ha
     by_cases e : q.1 = p.1
     ·
      have e2 := hinj q hq e
      subst e2
      simp only [if_true]
      refine ⟨fun b hb => ?_, hGp⟩
      rcases hF' b hb with h | h
      ·
       have := hTk b h; have := hm.size; omega
      ·
       have := hB.size; omega
     ·
      obtain ⟨h1, h2⟩ := hback q hq e ha
      simp only [if_neg e]
      obtain ⟨g1, g2⟩ := hGs q hq h1
      refine ⟨fun b hb => ⟨(g1 b hb).1, Nat.lt_of_lt_of_le (g1 b hb).2 hm.size⟩, hG q hq y (updV y p.2 v) _ _ w w' g2 g1 hm (hTq q hq h1 h2) (fun b hb => (hTk b hb).1) ?_ ?_⟩
      ·
       exact if_neg (fun c => e (by rw [hinj2 q hq c]))
      ·
       intro r hr hw
       refine if_neg (fun c => ?_)
       have e3 := hinj2 r hr c
       subst e3
       rw [hdown q hq h1.1 _ hr hw] at hiun
       cases hiun
    ·
     intro q hq r hr hne hqa hra
     by_cases e : q.1 = p.1
     ·
      have e' : r.1 ≠ p.1 := fun c => hne (e.trans c.symm)
      obtain ⟨h1, h2⟩ := hback r hr e' hra
      simp only [if_pos e, if_neg e']
      intro b hb hb2
      rcases hF' b hb with h | h
      ·
       exact hTq r hr h1 h2 b h hb2
      ·
       have := ((hGs r hr h1).1 b hb2).2; omega
     ·
      obtain ⟨h1, h2⟩ := hback q hq e hqa
      by_cases e' : r.1 = p.1
      ·
       simp only [if_neg e, if_pos e']
       intro b hb hb2
       rcases hF' b hb2 with h | h
       ·
        exact hTq q hq h1 h2 b h hb
       ·
        have := ((hGs q hq h1).1 b hb).2; omega
      ·
       obtain ⟨h3, _⟩ := hback r hr e' hra
       simp only [if_neg e, if_neg e']
       exact hAp q hq r hr hne h1 h3
 have h0 := H f f listed (fun s => a0.tmps.getD s undef) w0 (fun _ _ => False) (by
  rw [hf, List.filter_eq_self.2 (fun p hp => by rw [hun.2 p hp]; rfl)]) hsz hun.1 hall (fun p hp h => by rw [hun.2 p hp] at h; cases h) hS (Below.refl _ _) (fun q hq h => by have h := h.1; rw [hun.2 q hq] at h; cases h) (fun q hq r hr hne h => by have h := h.1; rw [hun.2 q hq] at h; cases h) (Nat.le_refl _)
 rw [over_self] at h0
 exact h0
def checkC (md : Region.Mode) (ops : Array Oper) (listed : Array Bool) (t f : Nat) (L : List (Nat × Nat)) (cons : Nat → List Nat) : Bool :=
 checkS md ops listed t f L && (L.all fun p => (cons p.1).all fun j => waitsFor md ops p.1 j && L.any fun q => decide (q.1 = j)) && (L.all fun p => L.all fun r => decide (p.1 = r.1) || (cons p.1).all fun j => decide (j ∉ cons r.1))
theorem upto_cons' (L : List (Nat × Nat)) (cons : Nat → List Nat) (G : Nat → (Nat → Value) → (Nat → Prop) → World → Prop) {f : Nat} {listed : Array Bool} {a0 : Act} {w0 : World} (hc : checkC md ops listed t f L cons = true)
  (hS : S w0) (hSst : ∀ (F : Nat → Prop) (w w' : World), S w → Mod F w w' → (∀ b, F b → w0.heap.size ≤ b) → S w')
  (hG : ∀ p ∈ L, ∀ (y y' : Nat → Value) (F F' : Nat → Prop) (w w' : World), G p.1 y F w → FIn w0 w F → Mod F' w w' → FApart F' F → (∀ b, F' b → w0.heap.size ≤ b) → y' p.2 = y p.2 → (∀ q ∈ L, waitsFor md ops p.1 q.1 = true → y' q.2 = y q.2) → G p.1 y' F w')
  (hstep : ∀ p ∈ L, StepC P md ops Q S L cons G a0 w0 p)
  (hlast : ∃ o, ops[t]? = some o ∧ ∀ (y : Nat → Value) (w : World) (Φ : Nat → Nat → Prop), S w → Below w0.heap.size w0 w → (∀ q ∈ L, (∀ r ∈ L, q.1 ∉ cons r.1) → FIn w0 w (Φ q.1) ∧ G q.1 y (Φ q.1) w) → (∀ q ∈ L, ∀ r ∈ L, q.1 ≠ r.1 → (∀ p ∈ L, q.1 ∉ cons p.1) → (∀ p ∈ L, r.1 ∉ cons p.1) → FApart (Φ q.1) (Φ r.1)) →
   ∀ K : Act → World → Prop, (∀ a' w', Q .normal a' w' → K a' w') → Shut (if Region.wanted o (yielded ops (over a0 (L.map Prod.snd) y).tmps) = true then Oper.wp P o (over a0 (L.map Prod.snd) y) w K Q else K ((over a0 (L.map Prod.snd) y).put o.dst undef) w)) :
  wpUpto P md ops Q S t f listed a0 w0 := by
 unfold checkC checkS at hc
 simp only [Bool.and_eq_true, decide_eq_true_eq, List.all_eq_true, List.any_eq_true, Bool.or_eq_true, Bool.not_eq_true', List.mem_range] at hc
 obtain ⟨⟨⟨⟨⟨⟨⟨⟨⟨⟨⟨h1, h2⟩, h3⟩, h4⟩, h5⟩, h6⟩, h7⟩, h8⟩, h9⟩, h10⟩, h11⟩, h13⟩ := hc
 refine upto_cons L cons G h1 h2 (Option.isSome_iff_exists.1 h3) (fun i hi hu => ?_) ⟨h5, h6⟩ h7 h8 h9 h10 h11 (fun p hp r hr hne => (h13 p hp r hr).resolve_left hne) hS hSst hG hstep hlast
 rcases h4 i hi with (h | h) | h
 ·
  rw [hu] at h; cases h
 ·
  exact .inl h
 ·
  exact .inr h
end

end Go.Proofs.YtndghenlapbaaaaGreat

/-
 Appends, with what they turn.
-/
namespace Go.Proofs.YtndghenlapbaaaaGreat
open Go.RowKit
variable [DecidableEq Leg] [Inhabited Leg] [DecidableEq Mrk] [Inhabited Mrk] [DecidableEq Bal] [Inhabited Bal]
attribute [local go_sem ↓] Go.wp_at_zero Go.wp_at_succ

theorem wp_appG (Y : World) {o : Oper} {a : Act} {K : Act → World → Prop} {Q : Exit → Act → World → Prop} (hgd : o.guard = none) (s x : Operand) (t : TypeId)
  (ho : o.op = .call { callee := .builtin .append, args := #[s, x], argTypes := #[t, t] })
  (e : TypeId) (i : TypeInfo) (z : Value) (size bytes : Nat) (ht : Tryz.prog.underlying t = some (.slice e)) (hi : Tryz.prog.info? e = some i) (hz : i.zero = some z)
  (hsize : i.size = size) (hby : i.bytes = bytes) (hzs : z.cells.size = size) (hsz : 0 < size) (hbs : bytes ≤ 64)
  (base : Nat) (v : Value) (F1 : Nat → Prop) (n : Nat) (cs : List Value) (hs : a.eval s = v) (u : Value) (m : Nat) (ds : List Value) (hx : a.eval x = u)
  (hown : Y.ownsRow base e size v n cs ∧ F1 = (fun b => v.ownBlock = some b)) (hsrc : AppAny Y u m ds) (hl : ds.length = m * size) (h1 : ∀ y ∈ ds, y.oneCell' = true) (hlen : n + m ≤ 1073741824) (hbase : base ≤ Y.heap.size)
  (h : ∀ v' w', (w'.ownsRow base e size v' (n + m) (cs ++ ds) ∧ (fun b => v'.ownBlock = some b) = (fun b => v'.ownBlock = some b)) → Mod F1 Y w' → (∀ b, v'.ownBlock = some b → F1 b ∨ (Y.heap.size ≤ b ∧ b < w'.heap.size)) → K (a.put o.dst v') w') : Oper.wp Tryz.prog o a Y K Q := by
 obtain ⟨hown, hF1⟩ := hown
 rcases hsrc with ⟨c, rfl, hm, hd⟩ | ⟨ad, c, rfl, hc⟩
 ·
  subst hm hd
  have hr := run_append_none_any (P := Tryz.prog) Y base t o.type e i size c ht hi v n cs hown
  unfold Oper.wp execOp
  simp only [ho, resolve, invoke, builtin, Sem.run_bind, Sem.run_pure, Result.andThen_ok, List.map_toArray, List.map_cons, List.map_nil, hs, hx, hr]
  refine h v Y ⟨?_, rfl⟩ (Mod.refl _ _) (fun b hb => .inl (by rw [hF1]; exact hb))
  rw [List.append_nil, Nat.add_zero]
  exact hown
 ·
  have h0 := step_append_at (E := True) (ops := #[]) (Q := Q) (K := K) Y hgd s x t ho base e i z size bytes ht hi hz hsize hby hzs hsz v n cs hs hown ad m c ds hx hl hc h1 (by unfold maxLen; omega) (Nat.le_trans (Nat.mul_le_mul hlen hbs) (by decide)) hbase (by
   intro v' w' h1 h2 h3
   refine h v' w' ⟨h1, rfl⟩ (by rw [hF1]; exact Mod.of_grown h2) (fun b hb => ?_)
   rcases h3 with h3 | h3
   ·
    exact .inl (by rw [hF1]; exact h3 ▸ hb)
   ·
    rw [h3] at hb
    simp only [Option.some.injEq] at hb
    have := (h1.lt b (by rw [h3, hb])).2
    exact .inr ⟨by omega, this⟩)
  rwa [if_pos (by simp [Region.wanted, hgd])] at h0
theorem ite_wantedG {c : Bool} {A B : Prop} (hc : c = true) (h : A) : if c = true then A else B := by rw [if_pos hc]; exact h
theorem wp_app12M (Y : World) {o : Oper} {a : Act} {K : Act → World → Prop} {Q : Exit → Act → World → Prop} (hgd : o.guard = none) (s x : Operand)
  (ho : o.op = .call { callee := .builtin .append, args := #[s, x], argTypes := #[34, 34] })
  (base : Nat) (v : Value) (F1 : Nat → Prop) (xs : List Mrk) (hs : a.eval s = v) (u : Value) (ys : List Mrk) (hx : a.eval x = u)
  (hown : mrksR.O Y base F1 v xs) (hsrc : AppAny Y u ys.length (mrksC ys)) (hlen : xs.length + ys.length ≤ 1073741824) (hbase : base ≤ Y.heap.size)
  (h : ∀ v' w' F', mrksR.O w' base F' v' (xs ++ ys) → Mod F1 Y w' → (∀ b, F' b → F1 b ∨ (Y.heap.size ≤ b ∧ b < w'.heap.size)) → K (a.put o.dst v') w') : Oper.wp Tryz.prog o a Y K Q := by
 obtain ⟨i0, hi, hz0, hz1, hz2⟩ := info_parts infoMrk
 refine wp_appG Y hgd s x 34 ho 89 i0 _ 2 16 Tryz.underlying34 hi hz0 hz1 hz2 rfl (by decide) (by decide) base v F1 xs.length (mrksC xs) hs u ys.length (mrksC ys) hx hown hsrc (by rw [length_mrksC]) (mrks_one10 ys) hlen hbase ?_
 intro v' w' h1 h2 h3
 refine h v' w' _ ⟨?_, rfl⟩ h2 h3
 rw [List.length_append, mrks_app10]
 exact h1.1
theorem wp_app12B (Y : World) {o : Oper} {a : Act} {K : Act → World → Prop} {Q : Exit → Act → World → Prop} (hgd : o.guard = none) (s x : Operand)
  (ho : o.op = .call { callee := .builtin .append, args := #[s, x], argTypes := #[33, 33] })
  (base : Nat) (v : Value) (F1 : Nat → Prop) (xs : List Bal) (hs : a.eval s = v) (u : Value) (ys : List Bal) (hx : a.eval x = u)
  (hown : balsR.O Y base F1 v xs) (hsrc : AppAny Y u ys.length (balsC ys)) (hlen : xs.length + ys.length ≤ 1073741824) (hbase : base ≤ Y.heap.size)
  (h : ∀ v' w' F', balsR.O w' base F' v' (xs ++ ys) → Mod F1 Y w' → (∀ b, F' b → F1 b ∨ (Y.heap.size ≤ b ∧ b < w'.heap.size)) → K (a.put o.dst v') w') : Oper.wp Tryz.prog o a Y K Q := by
 obtain ⟨i0, hi, hz0, hz1, hz2⟩ := info_parts infoBal
 refine wp_appG Y hgd s x 33 ho 99 i0 _ 3 24 Tryz.underlying33 hi hz0 hz1 hz2 rfl (by decide) (by decide) base v F1 xs.length (balsC xs) hs u ys.length (balsC ys) hx hown hsrc (by rw [length_balsC]) (bals_one10 ys) hlen hbase ?_
 intro v' w' h1 h2 h3
 refine h v' w' _ ⟨?_, rfl⟩ h2 h3
 rw [List.length_append, bals_app10]
 exact h1.1
theorem wp_app12I (Y : World) {o : Oper} {a : Act} {K : Act → World → Prop} {Q : Exit → Act → World → Prop} (hgd : o.guard = none) (s x : Operand)
  (ho : o.op = .call { callee := .builtin .append, args := #[s, x], argTypes := #[25, 25] })
  (base : Nat) (v : Value) (F1 : Nat → Prop) (xs : List Int) (hs : a.eval s = v) (u : Value) (ys : List Int) (hx : a.eval x = u)
  (hown : intsR.O Y base F1 v xs) (hsrc : AppAny Y u ys.length (intsC ys)) (hlen : xs.length + ys.length ≤ 1073741824) (hbase : base ≤ Y.heap.size)
  (h : ∀ v' w' F', intsR.O w' base F' v' (xs ++ ys) → Mod F1 Y w' → (∀ b, F' b → F1 b ∨ (Y.heap.size ≤ b ∧ b < w'.heap.size)) → K (a.put o.dst v') w') : Oper.wp Tryz.prog o a Y K Q := by
 obtain ⟨i0, hi, hz0, hz1, hz2⟩ := info_parts infoInt
 refine wp_appG Y hgd s x 25 ho 2 i0 _ 1 8 Tryz.underlying25 hi hz0 hz1 hz2 rfl (by decide) (by decide) base v F1 xs.length (intsC xs) hs u ys.length (intsC ys) hx hown hsrc (by rw [length_intsC', Nat.mul_one]) (ints_one10 ys) hlen hbase ?_
 intro v' w' h1 h2 h3
 refine h v' w' _ ⟨?_, rfl⟩ h2 h3
 rw [List.length_append, ints_app10]
 exact h1.1
theorem lit12M (Y : World) (base : Nat) (hb : base ≤ Y.heap.size) : mrksR.O (Y.alloc (.cells #[] 89)) base (fun b => b = Y.heap.size) (.slice (some ⟨Y.heap.size, 0, none⟩) 0 0) [] :=
 ⟨World.ownsRow_lit (base := base) (e := 89) (size := 2) Y #[] 0 hb (by decide) rfl, by funext b; simp [Value.ownBlock, eq_comm]⟩
theorem lit12B (Y : World) (base : Nat) (hb : base ≤ Y.heap.size) : balsR.O (Y.alloc (.cells #[] 99)) base (fun b => b = Y.heap.size) (.slice (some ⟨Y.heap.size, 0, none⟩) 0 0) [] :=
 ⟨World.ownsRow_lit (base := base) (e := 99) (size := 3) Y #[] 0 hb (by decide) rfl, by funext b; simp [Value.ownBlock, eq_comm]⟩
theorem lit12I (Y : World) (base : Nat) (hb : base ≤ Y.heap.size) : intsR.O (Y.alloc (.cells #[] 2)) base (fun b => b = Y.heap.size) (.slice (some ⟨Y.heap.size, 0, none⟩) 0 0) [] :=
 ⟨World.ownsRow_lit (base := base) (e := 2) (size := 1) Y #[] 0 hb (by decide) rfl, by funext b; simp [Value.ownBlock, eq_comm]⟩
end Go.Proofs.YtndghenlapbaaaaGreat

/-
 A shard copied, the document's.
-/
namespace Go.Proofs.YtndghenlapbaaaaGreat
open Go.RowKit
variable [DecidableEq Leg] [Inhabited Leg] [DecidableEq Mrk] [Inhabited Mrk] [DecidableEq Bal] [Inhabited Bal] [DecidableEq Cont] [Inhabited Cont] [DecidableEq Shd] [Inhabited Shd]
attribute [local go_sem ↓] Go.wp_at_zero Go.wp_at_succ

theorem Mod.frz10 {F : Nat → Prop} {w w' : World} (h : Mod F w w') {a : Addr} (hl : a.block < w.heap.size) (hn : ¬ F a.block) : w'.frozen? a = w.frozen? a := World.frozen?_of_block (h.block a.block hl hn)
theorem Mod.low {F : Nat → Prop} {w w1 w2 : World} (h : Mod F w w1) (k : Below w.heap.size w1 w2) : Mod F w w2 :=
 ⟨k.os.trans h.os, k.tape.trans h.tape, k.output.trans h.output, Nat.le_trans h.size k.size, fun i hi hn => (k.block i hi).trans (h.block i hi hn)⟩
theorem low10 {n : Nat} {w w' : World} {a : Addr} {v : Value} (h : Below n w w') (hb : a.block < n) (hc : w.cell? a = some v) : w'.cell? a = some v := (h.cell (p := a) hb).trans hc
theorem step_appC12 (w : World) {ops : Array Oper} {o : Oper} {a : Act} {K : Act → World → Prop} {Q : Exit → Act → World → Prop} {E : Prop} (hgd : o.guard = none) (s x : Operand)
  (ho : o.op = .call { callee := .builtin .append, args := #[s, x], argTypes := #[35, 35] })
  (base : Nat) (F Fu : Nat → Prop) (v : Value) (xs : List Cont) (y : Cont) (g : Nat) (p : Option Addr) (q : Nat) (hs : a.eval s = v) (hx : a.eval x = .slice (some ⟨g, 0, none⟩) 1 1) (hown : contsR.O w base F v xs) (hu : contR.O w base Fu (.agg #[.int .i64 y.id, .slice p y.legs.length q]) y) (hd : ∀ b, F b → ¬ Fu b)
  (hc : w.cell? ⟨g, 0, none⟩ = some (.int .i64 y.id) ∧ w.cell? ⟨g, 1, none⟩ = some (.slice p y.legs.length q)) (hn : xs.length ≤ 2000000) (hbase : base ≤ w.heap.size)
  (h : ∀ v' w' F', contsR.O w' base F' v' (xs ++ [y]) → Below base w w' → (∀ b, F' b → F b ∨ Fu b ∨ w.heap.size ≤ b) → K (a.put o.dst v') w') :
  if Region.wanted o (yielded ops a.tmps) = true then Oper.wp Tryz.prog o a w K Q else E := by
 obtain ⟨i0, hi, hz0, hz1, hz2⟩ := info_parts infoConts
 exact step_appN w hgd s x 35 ho 44 i0 _ 2 32 Tryz.underlying35 hi hz0 hz1 hz2 rfl (by decide) (by decide) base F Fu v _ xs y ⟨g, 0, none⟩ 1 hs hx hown hu rfl (fun z hz => by
  simp [lvCont, one] at hz
  rcases hz with rfl | rfl <;> rfl) hd (fun j y' hj => by
  match j, hj with
  | 0, hj => simp [lvCont, one] at hj; subst hj; simpa [Addr.add] using hc.1
  | 1, hj => simp [lvCont, one] at hj; subst hj; simpa [Addr.add] using hc.2
  | j + 2, hj => simp [lvCont, one] at hj) hn hbase h
def cp10C : Nat → List Nat
 | 5 => [2]
 | 9 => [6]
 | 13 => [10]
 | 17 => [14]
 | _ => []
def cp10G (base : Nat) (d : Shd) : Nat → (Nat → Value) → (Nat → Prop) → World → Prop
 | 2, y, F, w => balsR.O w base F (y 7) []
 | 5, y, F, w => (∃ a c, y 10 = .slice a d.bals.length c) ∧ balsR.O w base F (y 10) d.bals
 | 6, y, F, w => mrksR.O w base F (y 11) []
 | 9, y, F, w => (∃ a c, y 14 = .slice a d.votes.length c) ∧ mrksR.O w base F (y 14) d.votes
 | 10, y, F, w => mrksR.O w base F (y 15) []
 | 13, y, F, w => (∃ a c, y 18 = .slice a d.done.length c) ∧ mrksR.O w base F (y 18) d.done
 | 14, y, F, w => intsR.O w base F (y 19) []
 | 17, y, F, w => (∃ a c, y 22 = .slice a d.appl.length c) ∧ intsR.O w base F (y 22) d.appl
 | 18, y, F, w => y 23 = .agg #[.int .i64 d.idx, y 10, y 14, .slice none 0 0, y 18, y 22]
 | 19, y, F, w => ∃ B, y 3 = .pointer (some ⟨B, 0, none⟩) ∧ F B ∧ base ≤ B ∧ B < w.heap.size ∧ (w.cell? ⟨B, 0, none⟩ = some (.int .i64 0) ∧ w.cell? ⟨B, 1, none⟩ = some (.slice none 0 0) ∧ w.cell? ⟨B, 2, none⟩ = some (.slice none 0 0) ∧ w.cell? ⟨B, 3, none⟩ = some (.slice none 0 0) ∧ w.cell? ⟨B, 4, none⟩ = some (.slice none 0 0) ∧ w.cell? ⟨B, 5, none⟩ = some (.slice none 0 0)) ∧ ∀ o, w.frozen? ⟨B, o, none⟩ = false
 | _, _, _, _ => True
set_option maxRecDepth 20000 in
set_option maxHeartbeats 8000000 in
theorem l10Copy_u (x : Value) (d : Shd) (w : World) (hx : shdR.V w x d) (hn : d.bals.length ≤ 1048576 ∧ d.votes.length ≤ 1048576 ∧ d.held.length ≤ 1048576 ∧ d.done.length ≤ 1048576 ∧ d.appl.length ≤ 1048576) (hll : ∀ k, k < d.held.length → (d.held.getD k default).legs.length ≤ 1048576) :
  Calls Tryz.prog 64 #[x] w fun e w' => ∃ v F, e = .returned v ∧ shdR.O w' w.heap.size F v d ∧ Below w.heap.size w w' := by
 obtain ⟨u1, u2, u3, u4, u5, rfl, h1, h2, h3, h4, h5⟩ := hx
 have HX3 : Hid (∃ a c, u3 = .slice a d.held.length c ∧ d.held.length ≤ c ∧ c ≤ maxLen ∧ ∀ k, k < d.held.length → ∃ b o p q, a = some ⟨b, o, none⟩ ∧ w.cell? ⟨b, o + k * 2, none⟩ = some (.int .i64 (d.held.getD k default).id) ∧ w.cell? ⟨b, o + k * 2 + 1, none⟩ = some (.slice p (d.held.getD k default).legs.length q) ∧ contR.V w (.agg #[.int .i64 (d.held.getD k default).id, .slice p (d.held.getD k default).legs.length q]) (d.held.getD k default)) := conts_at10 h3
 have HA1 : Hid (∀ W, Below w.heap.size w W → AppAny W u1 d.bals.length (balsC d.bals)) := fun W hW => appAny_bals (balsR.below h1 hW)
 have HA2 : Hid (∀ W, Below w.heap.size w W → AppAny W u2 d.votes.length (mrksC d.votes)) := fun W hW => appAny_mrks10 (mrksR.below h2 hW)
 have HA4 : Hid (∀ W, Below w.heap.size w W → AppAny W u4 d.done.length (mrksC d.done)) := fun W hW => appAny_mrks10 (mrksR.below h4 hW)
 have HA5 : Hid (∀ W, Below w.heap.size w W → AppAny W u5 d.appl.length (intsC d.appl)) := fun W hW => appAny_ints (intsR.below h5 hW)
 obtain ⟨a1, c1, rfl⟩ := bals_form h1
 obtain ⟨a2, c2, rfl⟩ := mrks_form h2
 obtain ⟨a3, c3, rfl⟩ := conts_form h3
 obtain ⟨a4, c4, rfl⟩ := mrks_form h4
 obtain ⟨a5, c5, rfl⟩ := ints_form h5
 obtain ⟨_, _, e3, hc3, hm3, hx3⟩ := HX3.out
 simp only [Value.slice.injEq, true_and] at e3
 obtain ⟨rfl, rfl⟩ := e3
 unfold maxLen at hm3
 have HX : Hid (∀ k, k < d.held.length → ∃ b o p q, a3 = some ⟨b, o, none⟩ ∧ w.cell? ⟨b, o + k * 2, none⟩ = some (.int .i64 (d.held.getD k default).id) ∧ w.cell? ⟨b, o + k * 2 + 1, none⟩ = some (.slice p (d.held.getD k default).legs.length q) ∧ contR.V w (.agg #[.int .i64 (d.held.getD k default).id, .slice p (d.held.getD k default).legs.length q]) (d.held.getD k default)) := hx3
 clear h1 h2 h3 h4 h5 HX3 hx3
 have HLl : Hid (∀ k, k < d.held.length → (d.held.getD k default).legs.length ≤ 1048576) := hll
 have HLn : Hid (d.bals.length ≤ 1048576 ∧ d.votes.length ≤ 1048576 ∧ d.held.length ≤ 1048576 ∧ d.done.length ≤ 1048576 ∧ d.appl.length ≤ 1048576) := hn
 clear hll hn
 obtain ⟨n3, hn3⟩ : ∃ n3, n3 = d.held.length := ⟨_, rfl⟩
 have HN : Hid (d.held.length = n3) := hn3.symm
 rw [← hn3] at hc3 HX HLl ⊢
 clear hn3
 have h3n : n3 ≤ 1048576 := by rw [← HN.out]; exact HLn.out.2.2.1
 go_enter Tryz.func64, Tryz.ntmps64
 go_wp2
 obtain ⟨wq, hwq⟩ : ∃ wq, wq = (w.alloc (.cells #[.int .i64 d.idx, .slice a1 d.bals.length c1, .slice a2 d.votes.length c2, .slice a3 n3 c3, .slice a4 d.done.length c4, .slice a5 d.appl.length c5] 37)).alloc (.cells #[.int .i64 0, .slice none 0 0, .slice none 0 0, .slice none 0 0, .slice none 0 0, .slice none 0 0] 37) := ⟨_, rfl⟩
 have y0 : wq.cell? ⟨w.heap.size, 0, none⟩ = some (.int .i64 d.idx) := by rw [hwq]; simp [go_sem]
 have y1 : wq.cell? ⟨w.heap.size, 1, none⟩ = some (.slice a1 d.bals.length c1) := by rw [hwq]; simp [go_sem]
 have y2 : wq.cell? ⟨w.heap.size, 2, none⟩ = some (.slice a2 d.votes.length c2) := by rw [hwq]; simp [go_sem]
 have y3 : wq.cell? ⟨w.heap.size, 3, none⟩ = some (.slice a3 n3 c3) := by rw [hwq]; simp [go_sem]
 have y4 : wq.cell? ⟨w.heap.size, 4, none⟩ = some (.slice a4 d.done.length c4) := by rw [hwq]; simp [go_sem]
 have y5 : wq.cell? ⟨w.heap.size, 5, none⟩ = some (.slice a5 d.appl.length c5) := by rw [hwq]; simp [go_sem]
 have r0 : wq.cell? ⟨w.heap.size + 1, 0, none⟩ = some (.int .i64 0) := by rw [hwq]; simp [go_sem]
 have r1 : wq.cell? ⟨w.heap.size + 1, 1, none⟩ = some (.slice none 0 0) := by rw [hwq]; simp [go_sem]
 have r2 : wq.cell? ⟨w.heap.size + 1, 2, none⟩ = some (.slice none 0 0) := by rw [hwq]; simp [go_sem]
 have r3 : wq.cell? ⟨w.heap.size + 1, 3, none⟩ = some (.slice none 0 0) := by rw [hwq]; simp [go_sem]
 have r4 : wq.cell? ⟨w.heap.size + 1, 4, none⟩ = some (.slice none 0 0) := by rw [hwq]; simp [go_sem]
 have r5 : wq.cell? ⟨w.heap.size + 1, 5, none⟩ = some (.slice none 0 0) := by rw [hwq]; simp [go_sem]
 have rf : ∀ o, wq.frozen? ⟨w.heap.size + 1, o, none⟩ = false := fun o => by rw [hwq]; simp [go_sem]
 have hBq : Below w.heap.size w wq := by rw [hwq]; (repeat (first | exact bR _ _ | assumption | refine bD ?_ | refine bA ?_ _ | refine bset ?_ (by simp; omega) _ | refine bset ?_ (by simp) _ | refine bS ?_ (by assumption)))
 have zq : w.heap.size + 1 < wq.heap.size := by rw [hwq]; simp
 rw [← hwq]
 clear hwq
 refine wp_region_noPanic ?_
 refine region_upto (fun W => Below wq.heap.size wq W ∧ W.cell? ⟨w.heap.size, 0, none⟩ = some (.int .i64 d.idx) ∧ W.cell? ⟨w.heap.size, 1, none⟩ = some (.slice a1 d.bals.length c1) ∧ W.cell? ⟨w.heap.size, 2, none⟩ = some (.slice a2 d.votes.length c2) ∧ W.cell? ⟨w.heap.size, 3, none⟩ = some (.slice a3 n3 c3) ∧ W.cell? ⟨w.heap.size, 4, none⟩ = some (.slice a4 d.done.length c4) ∧ W.cell? ⟨w.heap.size, 5, none⟩ = some (.slice a5 d.appl.length c5)) 20 (by kernel_rfl) ⟨qBq, cK (qBq) y0, cK (qBq) y1, cK (qBq) y2, cK (qBq) y3, cK (qBq) y4, cK (qBq) y5⟩ (fun hS => ?_)
 refine tK (i := 0) (v := ?_) rfl (by kernel_rfl) hS ?_ ?_
 rotate_left
 ·
  intro wS hSw; (try dsimp only at hSw); go_simp; try with_reducible rfl
 try simp only [Act.put, jA, jB, jC, jD, jE, jF]
 refine tK (i := 1) (v := ?_) rfl (by kernel_rfl) hS ?_ ?_
 rotate_left
 ·
  intro wS hSw; (try dsimp only at hSw); go_simp; try with_reducible rfl
 try simp only [Act.put, jA, jB, jC, jD, jE, jF]
 refine tK (i := 3) (v := ?_) rfl (by kernel_rfl) hS ?_ ?_
 rotate_left
 ·
  intro wS hSw; (try dsimp only at hSw); go_simp; try with_reducible rfl
 try simp only [Act.put, jA, jB, jC, jD, jE, jF]
 refine tK (i := 4) (v := ?_) rfl (by kernel_rfl) hS ?_ ?_
 rotate_left
 ·
  intro wS hSw; (try dsimp only at hSw); go_simp; try with_reducible rfl
 try simp only [Act.put, jA, jB, jC, jD, jE, jF]
 refine tK (i := 7) (v := ?_) rfl (by kernel_rfl) hS ?_ ?_
 rotate_left
 ·
  intro wS hSw; (try dsimp only at hSw); go_simp; try with_reducible rfl
 try simp only [Act.put, jA, jB, jC, jD, jE, jF]
 refine tK (i := 8) (v := ?_) rfl (by kernel_rfl) hS ?_ ?_
 rotate_left
 ·
  intro wS hSw; (try dsimp only at hSw); go_simp; try with_reducible rfl
 try simp only [Act.put, jA, jB, jC, jD, jE, jF]
 refine tK (i := 11) (v := ?_) rfl (by kernel_rfl) hS ?_ ?_
 rotate_left
 ·
  intro wS hSw; (try dsimp only at hSw); go_simp; try with_reducible rfl
 try simp only [Act.put, jA, jB, jC, jD, jE, jF]
 refine tK (i := 12) (v := ?_) rfl (by kernel_rfl) hS ?_ ?_
 rotate_left
 ·
  intro wS hSw; (try dsimp only at hSw); go_simp; try with_reducible rfl
 try simp only [Act.put, jA, jB, jC, jD, jE, jF]
 refine tK (i := 15) (v := ?_) rfl (by kernel_rfl) hS ?_ ?_
 rotate_left
 ·
  intro wS hSw; (try dsimp only at hSw); go_simp; try with_reducible rfl
 try simp only [Act.put, jA, jB, jC, jD, jE, jF]
 refine tK (i := 16) (v := ?_) rfl (by kernel_rfl) hS ?_ ?_
 rotate_left
 ·
  intro wS hSw; (try dsimp only at hSw); go_simp; try with_reducible rfl
 try simp only [Act.put, jA, jB, jC, jD, jE, jF]
 have hb0 : Below wq.heap.size wq wq.drew := Below.drew (Below.refl _ _)
 generalize wq.drew = W0 at *
 have hs10 := hb0.size
 have hz0 : w.heap.size + 1 < W0.heap.size := by omega
 refine upto_cons' [(2, 7), (5, 10), (6, 11), (9, 14), (10, 15), (13, 18), (14, 19), (17, 22), (18, 23), (19, 3)] cp10C (cp10G W0.heap.size d) (by kernel_rfl) hS ?_ ?_ ?_ ?_
 ·
  intro F W W' h hm hF
  have hne : ¬ F w.heap.size := fun e => by have := hF _ e; omega
  exact ⟨hm.below h.1 h.1.size (fun b hb => by have := hF b hb; omega), hm.cell h.2.1 hne, hm.cell h.2.2.1 hne, hm.cell h.2.2.2.1 hne, hm.cell h.2.2.2.2.1 hne, hm.cell h.2.2.2.2.2.1 hne, hm.cell h.2.2.2.2.2.2 hne⟩
 ·
  intro p hp
  simp only [List.mem_cons, List.not_mem_nil, or_false] at hp
  rcases hp with rfl | rfl | rfl | rfl | rfl | rfl | rfl | rfl | rfl | rfl
  all_goals
   intro y y' F F' W W' h hF hm hap hF' e he
  ·
   simp only [cp10G] at h ⊢
   rw [e]
   exact balsR.mod h hm (fun b hb hf => hap b hf hb)
  ·
   simp only [cp10G] at h ⊢
   rw [e]
   exact ⟨h.1, balsR.mod h.2 hm (fun b hb hf => hap b hf hb)⟩
  ·
   simp only [cp10G] at h ⊢
   rw [e]
   exact mrksR.mod h hm (fun b hb hf => hap b hf hb)
  ·
   simp only [cp10G] at h ⊢
   rw [e]
   exact ⟨h.1, mrksR.mod h.2 hm (fun b hb hf => hap b hf hb)⟩
  ·
   simp only [cp10G] at h ⊢
   rw [e]
   exact mrksR.mod h hm (fun b hb hf => hap b hf hb)
  ·
   simp only [cp10G] at h ⊢
   rw [e]
   exact ⟨h.1, mrksR.mod h.2 hm (fun b hb hf => hap b hf hb)⟩
  ·
   simp only [cp10G] at h ⊢
   rw [e]
   exact intsR.mod h hm (fun b hb hf => hap b hf hb)
  ·
   simp only [cp10G] at h ⊢
   rw [e]
   exact ⟨h.1, intsR.mod h.2 hm (fun b hb hf => hap b hf hb)⟩
  ·
   have e1 := he (5, 10) (by simp) (by kernel_rfl)
   have e2 := he (9, 14) (by simp) (by kernel_rfl)
   have e3 := he (13, 18) (by simp) (by kernel_rfl)
   have e4 := he (17, 22) (by simp) (by kernel_rfl)
   simp only [cp10G] at h ⊢
   rw [e, e1, e2, e3, e4]
   exact h
  ·
   simp only [cp10G] at h ⊢
   rw [e]
   obtain ⟨B, h1, h2, h3, h3', ⟨g0, g1, g2, g3, g4, g5⟩, h4⟩ := h
   have hne : ¬ F' B := fun hf => hap B hf h2
   exact ⟨B, h1, h2, h3, Nat.lt_of_lt_of_le h3' hm.size, ⟨hm.cell g0 hne, hm.cell g1 hne, hm.cell g2 hne, hm.cell g3 hne, hm.cell g4 hne, hm.cell g5 hne⟩, fun o => (hm.frz10 (a := ⟨B, o, none⟩) h3' hne).trans (h4 o)⟩
 ·
  intro p hp
  simp only [List.mem_cons, List.not_mem_nil, or_false] at hp
  rcases hp with rfl | rfl | rfl | rfl | rfl | rfl | rfl | rfl | rfl | rfl
  all_goals
   refine ⟨_, rfl, rfl, ?_⟩
   intro y W Φ hSW hBW hd K hK
  ·
   clear hd
   refine ⟨?_⟩
   simp only [over, Act.put, jA, jB, jC, List.map_cons, List.map_nil, List.foldl_cons, List.foldl_nil, jD, jE, jF] at hK ⊢
   go_simp
   refine hK _ _ (fun b => b = W.heap.size) (Mod.of_below (qBq)) (fun b hb => .inr (by rw [hb]; simp)) ?_
   simp only [cp10G, updV]
   exact lit12B W _ hBW.size
  ·
   have g0 := (hd (2, 7) (by simp) (by kernel_rfl) (.inl (by simp [cp10C]))).2
   clear hd
   simp only [cp10G] at g0
   refine ⟨?_⟩
   simp only [over, Act.put, jA, jB, jC, List.map_cons, List.map_nil, List.foldl_cons, List.foldl_nil, jD, jE, jF] at hK ⊢
   refine ite_wantedG rfl ?_
   refine wp_app12B W ?hg1 (.tmp 7) (.tmp 9) ?ho1 W0.heap.size (y 7) (Φ 2) [] ?hs1 (.slice a1 d.bals.length c1) d.bals ?hx1 g0 (HA1.out W (bS hBq hSW.1)) (by have := HLn.out; simp; omega) hBW.size ?_
   case hg1 => rfl
   case ho1 => rfl
   case hs1 => rfl
   case hx1 => rfl
   intro v' w' F' hO hm hl
   simp only [List.nil_append] at hO
   refine hK _ _ F' (hm.mono (fun b hb => ⟨2, by simp [cp10C], hb⟩)) (fun b hb => (hl b hb).imp (fun h => ⟨2, by simp [cp10C], h⟩) (fun h => h)) ?_
   simp only [cp10G, updV]
   obtain ⟨av, cv, hv⟩ := owns_form hO.1
   exact ⟨⟨av, cv, by simpa using hv⟩, by simpa using hO⟩
  ·
   clear hd
   refine ⟨?_⟩
   simp only [over, Act.put, jA, jB, jC, List.map_cons, List.map_nil, List.foldl_cons, List.foldl_nil, jD, jE, jF] at hK ⊢
   go_simp
   refine hK _ _ (fun b => b = W.heap.size) (Mod.of_below (qBq)) (fun b hb => .inr (by rw [hb]; simp)) ?_
   simp only [cp10G, updV]
   exact lit12M W _ hBW.size
  ·
   have g0 := (hd (6, 11) (by simp) (by kernel_rfl) (.inl (by simp [cp10C]))).2
   clear hd
   simp only [cp10G] at g0
   refine ⟨?_⟩
   simp only [over, Act.put, jA, jB, jC, List.map_cons, List.map_nil, List.foldl_cons, List.foldl_nil, jD, jE, jF] at hK ⊢
   refine ite_wantedG rfl ?_
   refine wp_app12M W ?hg1 (.tmp 11) (.tmp 13) ?ho1 W0.heap.size (y 11) (Φ 6) [] ?hs1 (.slice a2 d.votes.length c2) d.votes ?hx1 g0 (HA2.out W (bS hBq hSW.1)) (by have := HLn.out; simp; omega) hBW.size ?_
   case hg1 => rfl
   case ho1 => rfl
   case hs1 => rfl
   case hx1 => rfl
   intro v' w' F' hO hm hl
   simp only [List.nil_append] at hO
   refine hK _ _ F' (hm.mono (fun b hb => ⟨6, by simp [cp10C], hb⟩)) (fun b hb => (hl b hb).imp (fun h => ⟨6, by simp [cp10C], h⟩) (fun h => h)) ?_
   simp only [cp10G, updV]
   obtain ⟨av, cv, hv⟩ := owns_form hO.1
   exact ⟨⟨av, cv, by simpa using hv⟩, by simpa using hO⟩
  ·
   clear hd
   refine ⟨?_⟩
   simp only [over, Act.put, jA, jB, jC, List.map_cons, List.map_nil, List.foldl_cons, List.foldl_nil, jD, jE, jF] at hK ⊢
   go_simp
   refine hK _ _ (fun b => b = W.heap.size) (Mod.of_below (qBq)) (fun b hb => .inr (by rw [hb]; simp)) ?_
   simp only [cp10G, updV]
   exact lit12M W _ hBW.size
  ·
   have g0 := (hd (10, 15) (by simp) (by kernel_rfl) (.inl (by simp [cp10C]))).2
   clear hd
   simp only [cp10G] at g0
   refine ⟨?_⟩
   simp only [over, Act.put, jA, jB, jC, List.map_cons, List.map_nil, List.foldl_cons, List.foldl_nil, jD, jE, jF] at hK ⊢
   refine ite_wantedG rfl ?_
   refine wp_app12M W ?hg1 (.tmp 15) (.tmp 17) ?ho1 W0.heap.size (y 15) (Φ 10) [] ?hs1 (.slice a4 d.done.length c4) d.done ?hx1 g0 (HA4.out W (bS hBq hSW.1)) (by have := HLn.out; simp; omega) hBW.size ?_
   case hg1 => rfl
   case ho1 => rfl
   case hs1 => rfl
   case hx1 => rfl
   intro v' w' F' hO hm hl
   simp only [List.nil_append] at hO
   refine hK _ _ F' (hm.mono (fun b hb => ⟨10, by simp [cp10C], hb⟩)) (fun b hb => (hl b hb).imp (fun h => ⟨10, by simp [cp10C], h⟩) (fun h => h)) ?_
   simp only [cp10G, updV]
   obtain ⟨av, cv, hv⟩ := owns_form hO.1
   exact ⟨⟨av, cv, by simpa using hv⟩, by simpa using hO⟩
  ·
   clear hd
   refine ⟨?_⟩
   simp only [over, Act.put, jA, jB, jC, List.map_cons, List.map_nil, List.foldl_cons, List.foldl_nil, jD, jE, jF] at hK ⊢
   go_simp
   refine hK _ _ (fun b => b = W.heap.size) (Mod.of_below (qBq)) (fun b hb => .inr (by rw [hb]; simp)) ?_
   simp only [cp10G, updV]
   exact lit12I W _ hBW.size
  ·
   have g0 := (hd (14, 19) (by simp) (by kernel_rfl) (.inl (by simp [cp10C]))).2
   clear hd
   simp only [cp10G] at g0
   refine ⟨?_⟩
   simp only [over, Act.put, jA, jB, jC, List.map_cons, List.map_nil, List.foldl_cons, List.foldl_nil, jD, jE, jF] at hK ⊢
   refine ite_wantedG rfl ?_
   refine wp_app12I W ?hg1 (.tmp 19) (.tmp 21) ?ho1 W0.heap.size (y 19) (Φ 14) [] ?hs1 (.slice a5 d.appl.length c5) d.appl ?hx1 g0 (HA5.out W (bS hBq hSW.1)) (by have := HLn.out; simp; omega) hBW.size ?_
   case hg1 => rfl
   case ho1 => rfl
   case hs1 => rfl
   case hx1 => rfl
   intro v' w' F' hO hm hl
   simp only [List.nil_append] at hO
   refine hK _ _ F' (hm.mono (fun b hb => ⟨14, by simp [cp10C], hb⟩)) (fun b hb => (hl b hb).imp (fun h => ⟨14, by simp [cp10C], h⟩) (fun h => h)) ?_
   simp only [cp10G, updV]
   obtain ⟨av, cv, hv⟩ := owns_form hO.1
   exact ⟨⟨av, cv, by simpa using hv⟩, by simpa using hO⟩
  ·
   have g1 := (hd (5, 10) (by simp) (by kernel_rfl) (.inr (by decide))).2
   have g2 := (hd (9, 14) (by simp) (by kernel_rfl) (.inr (by decide))).2
   have g3 := (hd (13, 18) (by simp) (by kernel_rfl) (.inr (by decide))).2
   have g4 := (hd (17, 22) (by simp) (by kernel_rfl) (.inr (by decide))).2
   clear hd
   simp only [cp10G] at g1 g2 g3 g4
   obtain ⟨⟨q1, s1, e1⟩, _⟩ := g1
   obtain ⟨⟨q2, s2, e2⟩, _⟩ := g2
   obtain ⟨⟨q3, s3, e3⟩, _⟩ := g3
   obtain ⟨⟨q4, s4, e4⟩, _⟩ := g4
   refine ⟨?_⟩
   simp only [over, Act.put, jA, jB, jC, List.map_cons, List.map_nil, List.foldl_cons, List.foldl_nil, jD, jE, jF] at hK ⊢
   simp only [e1, e2, e3, e4] at hK ⊢
   go_simp
   refine hK _ _ (fun _ => False) (Mod.refl _ _) (fun b hb => hb.elim) ?_
   simp only [cp10G, updV]
   simp [e1, e2, e3, e4]
  ·
   clear hd
   have hbw := hBW.size
   refine ⟨?_⟩
   simp only [over, Act.put, jA, jB, jC, List.map_cons, List.map_nil, List.foldl_cons, List.foldl_nil, jD, jE, jF] at hK ⊢
   go_simp
   refine hK _ _ (fun b => b = W.heap.size) (Mod.of_below (qBq)) (fun b hb => .inr (by rw [hb]; simp)) ?_
   simp only [cp10G, updV]
   exact ⟨W.heap.size, by simp, rfl, hbw, by simp, ⟨by simp [go_sem], by simp [go_sem], by simp [go_sem], by simp [go_sem], by simp [go_sem], by simp [go_sem]⟩, fun o => by simp [go_sem]⟩
 ·
  refine ⟨_, rfl, ?_⟩
  intro y W Φ hSW hBW hd hap K hK
  have g1 := hd (5, 10) (by simp) (by decide)
  have g2 := hd (9, 14) (by simp) (by decide)
  have g3 := hd (13, 18) (by simp) (by decide)
  have g4 := hd (17, 22) (by simp) (by decide)
  have g18 := (hd (18, 23) (by simp) (by decide)).2
  have g19 := hd (19, 3) (by simp) (by decide)
  have p1 := hap (5, 10) (by simp) (19, 3) (by simp) (by simp) (by decide) (by decide)
  have p2 := hap (9, 14) (by simp) (19, 3) (by simp) (by simp) (by decide) (by decide)
  have p3 := hap (13, 18) (by simp) (19, 3) (by simp) (by simp) (by decide) (by decide)
  have p4 := hap (17, 22) (by simp) (19, 3) (by simp) (by simp) (by decide) (by decide)
  have x12 := hap (5, 10) (by simp) (9, 14) (by simp) (by simp) (by decide) (by decide)
  have x13 := hap (5, 10) (by simp) (13, 18) (by simp) (by simp) (by decide) (by decide)
  have x14 := hap (5, 10) (by simp) (17, 22) (by simp) (by simp) (by decide) (by decide)
  have x23 := hap (9, 14) (by simp) (13, 18) (by simp) (by simp) (by decide) (by decide)
  have x24 := hap (9, 14) (by simp) (17, 22) (by simp) (by simp) (by decide) (by decide)
  have x34 := hap (13, 18) (by simp) (17, 22) (by simp) (by simp) (by decide) (by decide)
  clear hd hap
  simp only [cp10G] at g1 g2 g3 g4 g18 g19
  obtain ⟨i1, ⟨q1, s1, e1⟩, o1⟩ := g1
  obtain ⟨i2, ⟨q2, s2, e2⟩, o2⟩ := g2
  obtain ⟨i3, ⟨q4, s4, e4⟩, o4⟩ := g3
  obtain ⟨i4, ⟨q5, s5, e5⟩, o5⟩ := g4
  obtain ⟨_, B, eB, hFB, hBlo, hBhi, ⟨k0, k1, k2, k3, k4, k5⟩, kf⟩ := g19
  rw [e1] at o1 g18
  rw [e2] at o2 g18
  rw [e4] at o4 g18
  rw [e5] at o5 g18
  have hBW1 : Below wq.heap.size wq W := bS hb0 hBW
  generalize Φ 5 = F1 at *
  generalize Φ 9 = F2 at *
  generalize Φ 13 = F4 at *
  generalize Φ 17 = F5 at *
  have n1 : ¬ F1 B := fun h => p1 B h hFB
  have n2 : ¬ F2 B := fun h => p2 B h hFB
  have n4 : ¬ F4 B := fun h => p3 B h hFB
  have n5 : ¬ F5 B := fun h => p4 B h hFB
  clear hFB p1 p2 p3 p4 i1 i2 i3 i4 e1 e2 e4 e5
  refine ⟨?_⟩
  simp only [over, Act.put, jA, jB, jC, List.map_cons, List.map_nil, List.foldl_cons, List.foldl_nil, jD, jE, jF]
  simp only [g18, eB]
  clear g18 eB hSW hS
  go_simp
  refine hK _ _ ?_
  clear hK K
  refine NoPanic.normal ?_
  have hmB : Mod (fun b => b = B) W ((((((W.setCell ⟨B, 0, none⟩ (.int .i64 d.idx)).setCell ⟨B, 1, none⟩ (.slice q1 d.bals.length s1)).setCell ⟨B, 2, none⟩ (.slice q2 d.votes.length s2)).setCell ⟨B, 3, none⟩ (.slice none 0 0)).setCell ⟨B, 4, none⟩ (.slice q4 d.done.length s4)).setCell ⟨B, 5, none⟩ (.slice q5 d.appl.length s5)) := (((((Mod.of_set W ⟨B, 0, none⟩ _).trans (Mod.of_set _ ⟨B, 1, none⟩ _)).trans (Mod.of_set _ ⟨B, 2, none⟩ _)).trans (Mod.of_set _ ⟨B, 3, none⟩ _)).trans (Mod.of_set _ ⟨B, 4, none⟩ _)).trans (Mod.of_set _ ⟨B, 5, none⟩ _)
  have t0 : ((((((W.setCell ⟨B, 0, none⟩ (.int .i64 d.idx)).setCell ⟨B, 1, none⟩ (.slice q1 d.bals.length s1)).setCell ⟨B, 2, none⟩ (.slice q2 d.votes.length s2)).setCell ⟨B, 3, none⟩ (.slice none 0 0)).setCell ⟨B, 4, none⟩ (.slice q4 d.done.length s4)).setCell ⟨B, 5, none⟩ (.slice q5 d.appl.length s5)).cell? ⟨B, 0, none⟩ = some (.int .i64 d.idx) := by simp [go_sem, k0, k1, k2, k3, k4, k5, kf]
  have t1 : ((((((W.setCell ⟨B, 0, none⟩ (.int .i64 d.idx)).setCell ⟨B, 1, none⟩ (.slice q1 d.bals.length s1)).setCell ⟨B, 2, none⟩ (.slice q2 d.votes.length s2)).setCell ⟨B, 3, none⟩ (.slice none 0 0)).setCell ⟨B, 4, none⟩ (.slice q4 d.done.length s4)).setCell ⟨B, 5, none⟩ (.slice q5 d.appl.length s5)).cell? ⟨B, 1, none⟩ = some (.slice q1 d.bals.length s1) := by simp [go_sem, k0, k1, k2, k3, k4, k5, kf]
  have t2 : ((((((W.setCell ⟨B, 0, none⟩ (.int .i64 d.idx)).setCell ⟨B, 1, none⟩ (.slice q1 d.bals.length s1)).setCell ⟨B, 2, none⟩ (.slice q2 d.votes.length s2)).setCell ⟨B, 3, none⟩ (.slice none 0 0)).setCell ⟨B, 4, none⟩ (.slice q4 d.done.length s4)).setCell ⟨B, 5, none⟩ (.slice q5 d.appl.length s5)).cell? ⟨B, 2, none⟩ = some (.slice q2 d.votes.length s2) := by simp [go_sem, k0, k1, k2, k3, k4, k5, kf]
  have t3 : ((((((W.setCell ⟨B, 0, none⟩ (.int .i64 d.idx)).setCell ⟨B, 1, none⟩ (.slice q1 d.bals.length s1)).setCell ⟨B, 2, none⟩ (.slice q2 d.votes.length s2)).setCell ⟨B, 3, none⟩ (.slice none 0 0)).setCell ⟨B, 4, none⟩ (.slice q4 d.done.length s4)).setCell ⟨B, 5, none⟩ (.slice q5 d.appl.length s5)).cell? ⟨B, 3, none⟩ = some (.slice none 0 0) := by simp [go_sem, k0, k1, k2, k3, k4, k5, kf]
  have t4 : ((((((W.setCell ⟨B, 0, none⟩ (.int .i64 d.idx)).setCell ⟨B, 1, none⟩ (.slice q1 d.bals.length s1)).setCell ⟨B, 2, none⟩ (.slice q2 d.votes.length s2)).setCell ⟨B, 3, none⟩ (.slice none 0 0)).setCell ⟨B, 4, none⟩ (.slice q4 d.done.length s4)).setCell ⟨B, 5, none⟩ (.slice q5 d.appl.length s5)).cell? ⟨B, 4, none⟩ = some (.slice q4 d.done.length s4) := by simp [go_sem, k0, k1, k2, k3, k4, k5, kf]
  have t5 : ((((((W.setCell ⟨B, 0, none⟩ (.int .i64 d.idx)).setCell ⟨B, 1, none⟩ (.slice q1 d.bals.length s1)).setCell ⟨B, 2, none⟩ (.slice q2 d.votes.length s2)).setCell ⟨B, 3, none⟩ (.slice none 0 0)).setCell ⟨B, 4, none⟩ (.slice q4 d.done.length s4)).setCell ⟨B, 5, none⟩ (.slice q5 d.appl.length s5)).cell? ⟨B, 5, none⟩ = some (.slice q5 d.appl.length s5) := by simp [go_sem, k0, k1, k2, k3, k4, k5, kf]
  have tf : ∀ o, ((((((W.setCell ⟨B, 0, none⟩ (.int .i64 d.idx)).setCell ⟨B, 1, none⟩ (.slice q1 d.bals.length s1)).setCell ⟨B, 2, none⟩ (.slice q2 d.votes.length s2)).setCell ⟨B, 3, none⟩ (.slice none 0 0)).setCell ⟨B, 4, none⟩ (.slice q4 d.done.length s4)).setCell ⟨B, 5, none⟩ (.slice q5 d.appl.length s5)).frozen? ⟨B, o, none⟩ = false := fun o => by simp [go_sem, kf]
  have zB : B < ((((((W.setCell ⟨B, 0, none⟩ (.int .i64 d.idx)).setCell ⟨B, 1, none⟩ (.slice q1 d.bals.length s1)).setCell ⟨B, 2, none⟩ (.slice q2 d.votes.length s2)).setCell ⟨B, 3, none⟩ (.slice none 0 0)).setCell ⟨B, 4, none⟩ (.slice q4 d.done.length s4)).setCell ⟨B, 5, none⟩ (.slice q5 d.appl.length s5)).heap.size := by simpa using hBhi
  generalize (((((W.setCell ⟨B, 0, none⟩ (.int .i64 d.idx)).setCell ⟨B, 1, none⟩ (.slice q1 d.bals.length s1)).setCell ⟨B, 2, none⟩ (.slice q2 d.votes.length s2)).setCell ⟨B, 3, none⟩ (.slice none 0 0)).setCell ⟨B, 4, none⟩ (.slice q4 d.done.length s4)).setCell ⟨B, 5, none⟩ (.slice q5 d.appl.length s5) = W1 at *
  have HO1 : Hid (balsR.O W1 W0.heap.size F1 (.slice q1 d.bals.length s1) d.bals) := balsR.mod o1 hmB (fun b hb e => n1 (e ▸ hb))
  have HO2 : Hid (mrksR.O W1 W0.heap.size F2 (.slice q2 d.votes.length s2) d.votes) := mrksR.mod o2 hmB (fun b hb e => n2 (e ▸ hb))
  have HO4 : Hid (mrksR.O W1 W0.heap.size F4 (.slice q4 d.done.length s4) d.done) := mrksR.mod o4 hmB (fun b hb e => n4 (e ▸ hb))
  have HO5 : Hid (intsR.O W1 W0.heap.size F5 (.slice q5 d.appl.length s5) d.appl) := intsR.mod o5 hmB (fun b hb e => n5 (e ▸ hb))
  have HNB : Hid (¬ F1 B ∧ ¬ F2 B ∧ ¬ F4 B ∧ ¬ F5 B) := ⟨n1, n2, n4, n5⟩
  have HXX : Hid (FApart F1 F2 ∧ FApart F1 F4 ∧ FApart F1 F5 ∧ FApart F2 F4 ∧ FApart F2 F5 ∧ FApart F4 F5) := ⟨x12, x13, x14, x23, x24, x34⟩
  have hB1q : Below wq.heap.size wq W1 := hmB.below hBW1 hBW1.size (fun b e => by rw [e]; omega)
  clear o1 o2 o4 o5 n1 n2 n4 n5 x12 x13 x14 x23 x24 x34 hmB k0 k1 k2 k3 k4 k5 kf hBhi hBW hBW1
  replace y0 := cK hB1q y0
  replace y1 := cK hB1q y1
  replace y2 := cK hB1q y2
  replace y3 := cK hB1q y3
  replace y4 := cK hB1q y4
  replace y5 := cK hB1q y5
  replace r0 := cK hB1q r0
  replace r1 := cK hB1q r1
  replace r2 := cK hB1q r2
  replace r3 := cK hB1q r3
  replace r4 := cK hB1q r4
  replace r5 := cK hB1q r5
  replace rf : ∀ o, W1.frozen? ⟨w.heap.size + 1, o, none⟩ = false := fun o => by rw [(bcell hB1q).2 _ _ zq]; exact rf o
  have hB1w : Below w.heap.size w W1 := bS hBq hB1q
  have zW1 : wq.heap.size ≤ W1.heap.size := hB1q.size
  go_wp2
  go_loopw [4] (fun i w' => ∃ (k : Nat) (a : Option Addr) (c : Nat) (F : Nat → Prop), k ≤ n3 ∧ i = .int .i64 k ∧ Hid (contsR.O w' W1.heap.size F (.slice a k c) (d.held.take k)) ∧ Hid (Mod (fun b => b = B) W1 w') ∧ w'.cell? ⟨B, 0, none⟩ = some (.int .i64 d.idx) ∧ w'.cell? ⟨B, 1, none⟩ = some (.slice q1 d.bals.length s1) ∧ w'.cell? ⟨B, 2, none⟩ = some (.slice q2 d.votes.length s2) ∧ w'.cell? ⟨B, 3, none⟩ = some (.slice a k c) ∧ w'.cell? ⟨B, 4, none⟩ = some (.slice q4 d.done.length s4) ∧ w'.cell? ⟨B, 5, none⟩ = some (.slice q5 d.appl.length s5) ∧ (∀ o, w'.frozen? ⟨B, o, none⟩ = false)) (fun i _ => n3 - (intOf i).toNat)
  case atStart => exact ⟨0, none, 0, _, Nat.zero_le _, rfl, conts_nil _ _, Mod.refl _ _, t0, t1, t2, t3, t4, t5, tf⟩
  case round =>
   obtain ⟨k, as_, cs_, F, hk, rfl, HO, HM, t0', t1', t2', t3', t4', t5', tf'⟩ := hrel
   have zr : W1.heap.size ≤ wr.heap.size := HM.out.size
   have hne : ∀ b, b < wq.heap.size → b ≠ B := fun b hb => by omega
   have hBr : Below w.heap.size w wr := HM.out.below hB1w hB1w.size (fun b e => by rw [e]; omega)
   have yr0 := HM.out.cell y0 (hne _ (by dsimp only; omega))
   have yr3 := HM.out.cell y3 (hne _ (by dsimp only; omega))
   by_cases hlt : k < n3
   ·
    obtain ⟨bx, ox, pp, qq, rfl, g0, g1, hV⟩ := HX.out k hlt
    have hcw := HLl.out k hlt
    obtain ⟨l, hl⟩ : ∃ l, l = d.held.getD k default := ⟨_, rfl⟩
    rw [← hl] at g0 g1 hV hcw
    have HL : Hid (d.held.take (k + 1) = d.held.take k ++ [l]) := by
     show _ = _
     rw [List.take_succ_eq_append_getElem (by rw [HN.out]; exact hlt), hl]
     simp [List.getD, show k < d.held.length by rw [HN.out]; exact hlt]
    clear hl
    have HCp : Hid (∀ W, Below w.heap.size w W → Calls Tryz.prog 67 #[.agg #[.int .i64 l.id, .slice pp l.legs.length qq]] W fun e w' => ∃ v F, e = .returned v ∧ contR.O w' W.heap.size F v l ∧ Below W.heap.size W w') := fun W hW => l10Contract_u _ l W (contR.below hV hW) hcw
    clear hV
    have zbw0 : bx < w.heap.size := wL w _ g0
    replace g0 := cK hBr g0
    replace g1 := cK hBr g1
    have zb : bx < wr.heap.size := wL wr _ g0
    have k1 : (k : Int) < n3 := by omega
    have k2 : (0 : Int) ≤ k := by omega
    have zBr : B < wr.heap.size := wL wr _ t0'
    have HBW : Hid (∀ W, Below W1.heap.size wr W → Below w.heap.size w W) := fun W h => Below.trans hBr (h.mono (by have := hB1w.size; omega))
    have hbd : Below wr.heap.size wr wr.drew := qBq
    go_wp2
    refine wp_region_noPanic ?_
    refine region_upto (fun W => Below W1.heap.size wr W ∧ W.cell? ⟨B, 3, none⟩ = some (.slice as_ k cs_) ∧ W.cell? ⟨w.heap.size, 3, none⟩ = some (.slice (some ⟨bx, ox, none⟩) n3 c3) ∧ W.cell? ⟨bx, ox + k * 2, none⟩ = some (.int .i64 l.id) ∧ W.cell? ⟨bx, ox + k * 2 + 1, none⟩ = some (.slice pp l.legs.length qq)) 11 (by kernel_rfl) ⟨hbd.mono zr, cK hbd t3', cK hbd yr3, cK hbd g0, cK hbd g1⟩ (fun hS => ?_)
    refine tK (i := 0) (v := ?_) rfl (by kernel_rfl) hS ?_ ?_
    rotate_left
    ·
     intro wS hSw; (try dsimp only at hSw); go_simp; try with_reducible rfl
    try simp only [Act.put, jA, jB, jC, jD, jE, jF]
    refine tK (i := 1) (v := ?_) rfl (by kernel_rfl) hS ?_ ?_
    rotate_left
    ·
     intro wS hSw; (try dsimp only at hSw); go_simp; try with_reducible rfl
    try simp only [Act.put, jA, jB, jC, jD, jE, jF]
    refine tK (i := 2) (v := ?_) rfl (by kernel_rfl) hS ?_ ?_
    rotate_left
    ·
     intro wS hSw; (try dsimp only at hSw); go_simp; try with_reducible rfl
    try simp only [Act.put, jA, jB, jC, jD, jE, jF]
    refine tK (i := 3) (v := ?_) rfl (by kernel_rfl) hS ?_ ?_
    rotate_left
    ·
     intro wS hSw; (try dsimp only at hSw); go_simp; try with_reducible rfl
    try simp only [Act.put, jA, jB, jC, jD, jE, jF]
    refine tK (i := 4) (v := ?_) rfl (by kernel_rfl) hS ?_ ?_
    rotate_left
    ·
     intro wS hSw; (try dsimp only at hSw); go_simp; try with_reducible rfl
    try simp only [Act.put, jA, jB, jC, jD, jE, jF]
    refine tK (i := 5) (v := ?_) rfl (by kernel_rfl) hS ?_ ?_
    rotate_left
    ·
     intro wS hSw; (try dsimp only at hSw); go_simp; try with_reducible rfl
    try simp only [Act.put, jA, jB, jC, jD, jE, jF]
    refine tK (i := 6) (v := ?_) rfl (by kernel_rfl) hS ?_ ?_
    rotate_left
    ·
     intro wS hSw; (try dsimp only at hSw); go_simp; try with_reducible rfl
    try simp only [Act.put, jA, jB, jC, jD, jE, jF]
    refine upto_step (i := 7) (by kernel_rfl) rfl ?_
    intro K hK
    go_simp
    refine (HCp.out _ (HBW.out _ hS.1)).mono ?_
    rintro e w2 ⟨v2, F2', rfl, o2, hb2⟩
    obtain ⟨a2', c2', rfl⟩ := cont_cells o2
    have hb2' : Below wr.heap.size wr w2 := bS hbd hb2
    have hS2 := And.intro (hb2'.mono zr) (And.intro (cK hb2 hS.2.1) (And.intro (cK hb2 hS.2.2.1) (And.intro (cK hb2 hS.2.2.2.1) (cK hb2 hS.2.2.2.2))))
    refine hK _ _ (fun _ => hS2) ?_
    clear hK K
    have HU : Hid (contR.O w2 W1.heap.size F2' (.agg #[.int .i64 l.id, .slice a2' l.legs.length c2']) l) := contR.base o2 (by have := hbd.size; omega)
    have HF2 : Hid (∀ b, F2' b → wr.heap.size ≤ b) := fun b hb => by have := (contR.rng o2 b hb).1; have := hbd.size; omega
    have HO2' : Hid (contsR.O w2 W1.heap.size F (.slice as_ k cs_) (d.held.take k)) := contsR.keep HO.out hb2'
    have HFl : Hid (∀ b, F b → b < wr.heap.size) := fun b hb => (contsR.rng HO.out b hb).2
    clear o2 hS hb2
    have hS := hS2
    clear hS2
    try simp only [Act.put, jA, jB, jC, jD, jE, jF]
    refine upto_step (i := 8) (by kernel_rfl) rfl ?_
    intro K hK
    go_simp
    obtain ⟨w3, hw3⟩ : ∃ w3, w3 = w2.alloc (.cells #[.int .i64 l.id, .slice a2' l.legs.length c2'] 44) := ⟨_, rfl⟩
    rw [← hw3]
    have hb3 : Below w2.heap.size w2 w3 := by rw [hw3]; (repeat (first | exact bR _ _ | assumption | refine bD ?_ | refine bA ?_ _ | refine bset ?_ (by simp; omega) _ | refine bset ?_ (by simp) _ | refine bS ?_ (by assumption)))
    have v0 : w3.cell? ⟨w2.heap.size, 0, none⟩ = some (.int .i64 l.id) := by rw [hw3]; simp [go_sem]
    have v1 : w3.cell? ⟨w2.heap.size, 1, none⟩ = some (.slice a2' l.legs.length c2') := by rw [hw3]; simp [go_sem]
    clear hw3
    have hb3' : Below wr.heap.size wr w3 := bS hb2' hb3
    have hS2 := And.intro (hb3'.mono zr) (And.intro (cK hb3 hS.2.1) (And.intro (cK hb3 hS.2.2.1) (And.intro (cK hb3 hS.2.2.2.1) (cK hb3 hS.2.2.2.2))))
    refine hK _ _ (fun _ => hS2) ?_
    clear hK K hS
    have hS := hS2
    clear hS2
    try simp only [Act.put, jA, jB, jC, jD, jE, jF]
    refine upto_step (i := 9) (by kernel_rfl) rfl ?_
    intro K hK
    refine step_appC12 w3 rfl _ _ rfl W1.heap.size F F2' _ (d.held.take k) l w2.heap.size a2' c2' rfl rfl ?a1 ?a2 ?a3 ?a4 ?a5 ?a6 ?_
    case a1 => exact contsR.keep HO2'.out hb3
    case a2 => exact contR.keep HU.out hb3
    case a3 => exact fun b h1 h2 => by have := HFl.out b h1; have := HF2.out b h2; omega
    case a4 => exact ⟨v0, v1⟩
    case a5 => rw [List.length_take, HN.out]; omega
    case a6 => have := hb3'.size; omega
    intro v4 w4 F4' o4 hb4 _
    rw [← HL.out] at o4
    obtain ⟨a4', c4', e4⟩ := conts_form (contsR.ofO o4)
    rw [show (d.held.take (k + 1)).length = k + 1 by rw [List.length_take, HN.out]; omega] at e4
    subst e4
    have HO4' : Hid (contsR.O w4 W1.heap.size F4' (.slice a4' (k + 1) c4') (d.held.take (k + 1))) := o4
    have HR4 : Hid (∀ b, F4' b → W1.heap.size ≤ b) := fun b hb => (contsR.rng o4 b hb).1
    have hb14 : Below W1.heap.size wr w4 := Below.trans (hb3'.mono zr) hb4
    have zbw : bx < W1.heap.size := by have := hB1w.size; omega
    have hS2 := And.intro hb14 (And.intro (low10 hb4 zB hS.2.1) (And.intro (low10 hb4 (show w.heap.size < W1.heap.size by omega) hS.2.2.1) (And.intro (low10 hb4 zbw hS.2.2.2.1) (low10 hb4 zbw hS.2.2.2.2))))
    refine hK _ _ (fun _ => hS2) ?_
    clear hK K hS
    have hS := hS2
    clear hS2 o4
    have HM4 : Hid (Mod (fun b => b = B) W1 w4) := Mod.low HM.out hb14
    have z40 := low10 hb14 zB t0'
    have z41 := low10 hb14 zB t1'
    have z42 := low10 hb14 zB t2'
    have z43 := low10 hb14 zB t3'
    have z44 := low10 hb14 zB t4'
    have z45 := low10 hb14 zB t5'
    have z4f : ∀ o, w4.frozen? ⟨B, o, none⟩ = false := fun o => by rw [hb14.frozen (p := ⟨B, o, none⟩) zB]; exact tf' o
    try simp only [Act.put, jA, jB, jC, jD, jE, jF]
    refine upto_step (i := 10) (by kernel_rfl) rfl ?_
    intro K hK
    go_simp
    refine hK _ _ (fun _ => hS) ?_
    clear hK K
    try simp only [Act.put, jA, jB, jC, jD, jE, jF]
    refine upto_step (i := 11) (by kernel_rfl) rfl ?_
    intro K hK
    go_simp
    refine hK _ _ (fun h => absurd rfl h) ?_
    clear hK K
    refine upto_done (by kernel_rfl) ?_
    refine NoPanic.normal ?_
    clear t0' t1' t2' t3' t4' t5' tf' hS
    go_wp2
    refine ⟨⟨k + 1, a4', c4', F4', by omega, by go_num, ?_, ?_, by simp [go_sem, z40], by simp [go_sem, z41], by simp [go_sem, z42], by simp [go_sem, z43, z4f], by simp [go_sem, z44], by simp [go_sem, z45], fun o => by simp [go_sem, z4f]⟩, by simp [intOf]; omega⟩
    ·
     exact contsR.mod HO4'.out (Mod.of_set w4 ⟨B, 3, none⟩ _) (fun b hb e => by have := HR4.out b hb; dsimp only at e; omega)
    ·
     exact HM4.out.trans (Mod.of_set w4 ⟨B, 3, none⟩ _)
   ·
    have hkn : k = n3 := by omega
    subst hkn
    have ho := HO.out
    rw [List.take_of_length_le (by rw [HN.out]; exact Nat.le_refl _)] at ho
    have HO2' : Hid (contsR.O wr W1.heap.size F (.slice as_ k cs_) d.held) := ho
    have HFr : Hid (∀ b, F b → W1.heap.size ≤ b) := fun b hb => (contsR.rng ho b hb).1
    clear ho HO
    have P1 : Hid (balsR.O wr W0.heap.size F1 (.slice q1 d.bals.length s1) d.bals) := balsR.mod HO1.out HM.out (fun b hb e => HNB.out.1 (e ▸ hb))
    have P2 : Hid (mrksR.O wr W0.heap.size F2 (.slice q2 d.votes.length s2) d.votes) := mrksR.mod HO2.out HM.out (fun b hb e => HNB.out.2.1 (e ▸ hb))
    have P4 : Hid (mrksR.O wr W0.heap.size F4 (.slice q4 d.done.length s4) d.done) := mrksR.mod HO4.out HM.out (fun b hb e => HNB.out.2.2.1 (e ▸ hb))
    have P5 : Hid (intsR.O wr W0.heap.size F5 (.slice q5 d.appl.length s5) d.appl) := intsR.mod HO5.out HM.out (fun b hb e => HNB.out.2.2.2 (e ▸ hb))
    have HR : Hid ((∀ b, F1 b → b < W1.heap.size) ∧ (∀ b, F2 b → b < W1.heap.size) ∧ (∀ b, F4 b → b < W1.heap.size) ∧ (∀ b, F5 b → b < W1.heap.size)) := ⟨fun b hb => (balsR.rng HO1.out b hb).2, fun b hb => (mrksR.rng HO2.out b hb).2, fun b hb => (mrksR.rng HO4.out b hb).2, fun b hb => (intsR.rng HO5.out b hb).2⟩
    have qr0 := HM.out.cell r0 (hne _ zq)
    have qr1 := HM.out.cell r1 (hne _ zq)
    have qr2 := HM.out.cell r2 (hne _ zq)
    have qr3 := HM.out.cell r3 (hne _ zq)
    have qr4 := HM.out.cell r4 (hne _ zq)
    have qr5 := HM.out.cell r5 (hne _ zq)
    have qrf : ∀ o, wr.frozen? ⟨w.heap.size + 1, o, none⟩ = false := fun o => (HM.out.frz10 (a := ⟨w.heap.size + 1, o, none⟩) (by dsimp only; omega) (hne _ (by dsimp only; omega))).trans (rf o)
    clear HM HO1 HO2 HO4 HO5 HNB t0 t1 t2 t3 t4 t5 tf r0 r1 r2 r3 r4 r5 rf y0 y1 y2 y3 y4 y5 hB1q hB1w
    go_wp2
    refine bodyPost_ret (v := .agg #[.int .i64 d.idx, .slice q1 d.bals.length s1, .slice q2 d.votes.length s2, .slice as_ k cs_, .slice q4 d.done.length s4, .slice q5 d.appl.length s5]) (by simp [results, Tryz.results64, go_sem, qr0, qr1, qr2, qr3, qr4, qr5, qrf]) rfl ⟨_, _, rfl, ⟨_, _, _, _, _, F1, F2, F, F4, F5, rfl, balsR.base (set6 balsR P1.out (by omega) _ _ _ _ _ _) (by omega), mrksR.base (set6 mrksR P2.out (by omega) _ _ _ _ _ _) (by omega), contsR.base (set6 contsR HO2'.out (by omega) _ _ _ _ _ _) (by omega), mrksR.base (set6 mrksR P4.out (by omega) _ _ _ _ _ _) (by omega), intsR.base (set6 intsR P5.out (by omega) _ _ _ _ _ _) (by omega), ?_, ?_, ?_, ?_, ?_, ?_, ?_, ?_, ?_, ?_, fun b => Iff.rfl⟩, by (repeat (first | refine bset ?_ (by simp; omega) _ | refine bset ?_ (by simp) _ | refine bA ?_ _ | assumption))⟩
    all_goals
     intro b h h'
     obtain ⟨u1, u2, u4, u5⟩ := HR.out
     obtain ⟨x12, x14, x15, x24, x25, x45⟩ := HXX.out
     first | exact x12 b h h' | exact x14 b h h' | exact x15 b h h' | exact x24 b h h' | exact x25 b h h' | exact x45 b h h' | (have := u1 b h; have := HFr.out b h'; omega) | (have := u2 b h; have := HFr.out b h'; omega) | (have := HFr.out b h; have := u4 b h'; omega) | (have := HFr.out b h; have := u5 b h'; omega)
end Go.Proofs.YtndghenlapbaaaaGreat


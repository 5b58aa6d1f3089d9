import Derived.Test.YtggigaghfcpbbaaGreatMsT
import Derived.BigQuiet
import Derived.Deep.QuietTactic
import Derived.Deep.RegionHeld3
import Derived.Test.YtggigaghfcpbbaaGreatPrnMessageFaultLaw11

/-
  MessageFault, the document's, of a cluster that is handed in.
-/
set_option linter.unusedSimpArgs false
set_option linter.unusedVariables false
namespace Go.Proofs.YtggigaghfcpbbaaGreat
open Go.RowKit
set_option linter.unusedSectionVars false
variable [DecidableEq Leg] [Inhabited Leg] [DecidableEq Cont] [Inhabited Cont] [DecidableEq Bal] [Inhabited Bal] [DecidableEq Mrk] [Inhabited Mrk] [DecidableEq Shd] [Inhabited Shd] [DecidableEq Vot] [Inhabited Vot] [DecidableEq Slt] [Inhabited Slt] [DecidableEq Acc] [Inhabited Acc] [DecidableEq Trr] [Inhabited Trr] [DecidableEq Hrd] [Inhabited Hrd] [DecidableEq Ldr] [Inhabited Ldr] [DecidableEq Msg] [Inhabited Msg] [DecidableEq Clu] [Inhabited Clu] [DecidableEq Ledg] [Inhabited Ledg]
attribute [local go_sem ↓] Go.wp_at_zero Go.wp_at_succ

theorem lenS_of {w : World} {α : Type} [Inhabited α] {R : Rep α} {e size : Nat} {lv : Value → List Value} {a : Option Addr} {n c : Nat} {xs : List α} (h : (nRep R e size lv).V w (.slice a n c) xs) : xs.length = n ∧ n ≤ 9223372036854775807 := by
  obtain ⟨a', c', e, h1, h2, _⟩ := h
  simp only [Value.slice.injEq] at e
  obtain ⟨rfl, rfl, rfl⟩ := e
  unfold maxLen at h2
  exact ⟨rfl, by omega⟩
theorem cons_len {w : Nat} {cs : List Cont} (h : wtConts cs ≤ 1048576) : ∀ k, k < cs.length → (cs.getD k default).legs.length ≤ 1048576 := fun k hk => by
  have := (wt_at (f := wtCont) h hk).1
  unfold wtCont wtLegs at this
  exact this
set_option maxHeartbeats 4000000 in
theorem specMsg_any (x : Value) (c : Clu) (m : Msg) (w : World) (hx : cluR.V w x c) (hw : wtClu c ≤ 1048576) :
    Calls Tryz.prog 5 #[x, msgV m] w fun e w' => e = .returned (.int .i64 (msgF c m)) ∧ Below w.heap.size w w' := by
  have hlen : ∀ k, k < c.cons.length → (c.cons.getD k default).legs.length ≤ 1048576 := cons_len (w := 0) (by unfold wtClu at hw; omega)
  obtain ⟨u1, u2, u3, u4, u5, rfl, h1, h2, h3, h4, h5⟩ := hx
  obtain ⟨a0, c0, rfl⟩ := conts_form h1
  obtain ⟨a1, c1, rfl⟩ := shds_form h2
  obtain ⟨a2, c2, rfl⟩ := accs_form h3
  obtain ⟨a3, c3, rfl⟩ := ldrs_form h4
  obtain ⟨a4, c4, rfl⟩ := msgs_form h5
  have l2 := (lenS_of h2).2
  have l3 := (lenS_of h3).2
  have l4 := (lenS_of h4).2
  have HM : Hid (∀ W, Below w.heap.size w W → W.cell? ⟨w.heap.size, 0, none⟩ = some (.slice a0 c.cons.length c0) → W.cell? ⟨w.heap.size, 1, none⟩ = some (.slice a1 c.shards.length c1) → W.cell? ⟨w.heap.size, 2, none⟩ = some (.slice a2 c.accs.length c2) → W.cell? ⟨w.heap.size, 3, none⟩ = some (.slice a3 c.ldrs.length c3) → W.cell? ⟨w.heap.size, 4, none⟩ = some (.slice a4 c.msgs.length c4) → Calls Tryz.prog 15 #[.pointer (some ⟨w.heap.size, 0, none⟩), msgV m] W fun e w' => e = .returned (.int .i64 (msgF c m)) ∧ Below W.heap.size W w') := fun W hW y0 y1 y2 y3 y4 => l11Message_any w.heap.size c m W ⟨a0, c0, a1, c1, a2, c2, a3, c3, _, y0, y1, y2, y3, y4, contsR.below h1 hW, l2, l3, l4⟩ hlen
  clear h1 h2 h3 h4 h5 l2 l3 l4 hlen hw
  generalize msgF c m = Z at *
  generalize c.cons.length = n0 at *
  generalize c.shards.length = n1 at *
  generalize c.accs.length = n2 at *
  generalize c.ldrs.length = n3 at *
  generalize c.msgs.length = n4 at *
  obtain ⟨kind, to, frm, con, sh, bal, val, ob, ov⟩ := m
  unfold msgV at HM ⊢
  dsimp only at HM ⊢
  go_enter Tryz.func5, Tryz.ntmps5
  go_wp2_with fail
  refine (HM.out _ (by (repeat (first | exact Below.refl _ _ | assumption | refine Below.drew ?_ | refine balloc ?_ _ | refine bset ?_ (by simp; omega) _ | refine bset ?_ (by simp) _ | refine bstep ?_ (by assumption)))) (by simp [go_sem]) (by simp [go_sem]) (by simp [go_sem]) (by simp [go_sem]) (by simp [go_sem])).mono ?_
  rintro e w1 ⟨rfl, hb1⟩
  go_wp2
  go_ret
  exact ⟨rfl, by (repeat (first | exact Below.refl _ _ | assumption | refine Below.drew ?_ | refine balloc ?_ _ | refine bset ?_ (by simp; omega) _ | refine bset ?_ (by simp) _ | refine bstep ?_ (by assumption)))⟩
end Go.Proofs.YtggigaghfcpbbaaGreat

/-
  MessageFault, the program's small functions.
-/
set_option linter.unusedSimpArgs false
set_option linter.unusedVariables false
namespace Go.Proofs.YtggigaghfcpbbaaGreat
open Go.RowKit
set_option linter.unusedSectionVars false
variable [DecidableEq Leg] [Inhabited Leg] [DecidableEq Cont] [Inhabited Cont] [DecidableEq Bal] [Inhabited Bal] [DecidableEq Mrk] [Inhabited Mrk] [DecidableEq Shd] [Inhabited Shd] [DecidableEq Vot] [Inhabited Vot] [DecidableEq Slt] [Inhabited Slt] [DecidableEq Acc] [Inhabited Acc] [DecidableEq Trr] [Inhabited Trr] [DecidableEq Hrd] [Inhabited Hrd] [DecidableEq Ldr] [Inhabited Ldr] [DecidableEq Msg] [Inhabited Msg] [DecidableEq Clu] [Inhabited Clu] [DecidableEq Ledg] [Inhabited Ledg]
attribute [local go_sem ↓] Go.wp_at_zero Go.wp_at_succ

theorem placeL_any (at_ : Int) (a : Option Addr) (n c : Nat) (w : World) (hn : n ≤ 9223372036854775807) : Calls Tryz.prog 49 #[.int .i64 at_, .slice a n c] w fun e w' => e = .returned (.bool (inB at_ 0 ((n : Int) - 1))) ∧ w' = w := by
  have hw1 : IntKind.i64.wrap ((n : Int) - 1) = (n : Int) - 1 := by rw [IntKind.wrap_i64]; omega
  go_enter Tryz.func49, Tryz.ntmps49
  go_wp2_with (go_at_call 22; refine (within_any _ _ _ _).mono ?_; rintro e w' ⟨rfl, rfl⟩)
  go_ret
  exact ⟨rfl, rfl⟩
theorem placeA_any (at_ : Int) (a : Option Addr) (n c : Nat) (w : World) (hn : n ≤ 9223372036854775807) : Calls Tryz.prog 50 #[.int .i64 at_, .slice a n c] w fun e w' => e = .returned (.bool (inB at_ 0 ((n : Int) - 1))) ∧ w' = w := by
  have hw1 : IntKind.i64.wrap ((n : Int) - 1) = (n : Int) - 1 := by rw [IntKind.wrap_i64]; omega
  go_enter Tryz.func50, Tryz.ntmps50
  go_wp2_with (go_at_call 22; refine (within_any _ _ _ _).mono ?_; rintro e w' ⟨rfl, rfl⟩)
  go_ret
  exact ⟨rfl, rfl⟩
theorem placeS_any (at_ : Int) (a : Option Addr) (n c : Nat) (w : World) (hn : n ≤ 9223372036854775807) : Calls Tryz.prog 51 #[.int .i64 at_, .slice a n c] w fun e w' => e = .returned (.bool (inB at_ 0 ((n : Int) - 1))) ∧ w' = w := by
  have hw1 : IntKind.i64.wrap ((n : Int) - 1) = (n : Int) - 1 := by rw [IntKind.wrap_i64]; omega
  go_enter Tryz.func51, Tryz.ntmps51
  go_wp2_with (go_at_call 22; refine (within_any _ _ _ _).mono ?_; rintro e w' ⟨rfl, rfl⟩)
  go_ret
  exact ⟨rfl, rfl⟩
theorem subm1_any (id k : Int) (p : Option Addr) (n q B : Nat) (w : World) (hc : w.cell? ⟨B, 0, none⟩ = some (.int .i64 k)) :
    Calls Tryz.prog 53 #[.agg #[.int .i64 id, .slice p n q], .pointer (some ⟨B, 0, none⟩)] w fun e w' => e = .returned (.bool (id == k)) ∧ Below w.heap.size w w' := by
  have hlt := World.block_lt_of_cell? _ _ hc
  dsimp only at hlt
  go_enter Tryz.func53, Tryz.ntmps53
  go_wp2
  go_ret
  exact ⟨rfl, by (repeat (first | exact Below.refl _ _ | assumption | refine Below.drew ?_ | refine balloc ?_ _ | refine bset ?_ (by simp; omega) _ | refine bset ?_ (by simp) _ | refine bstep ?_ (by assumption)))⟩
theorem legAt1_any (x : Leg) (k : Int) (B : Nat) (w : World) (hc : w.cell? ⟨B, 0, none⟩ = some (.int .i64 k)) :
    Calls Tryz.prog 81 #[.agg #[.int .i64 x.sh, .int .i64 x.ac, .int .i64 x.ast, .int .i64 x.am], .pointer (some ⟨B, 0, none⟩)] w fun e w' => e = .returned (.bool (x.sh == k)) ∧ Below w.heap.size w w' := by
  have hlt := World.block_lt_of_cell? _ _ hc
  dsimp only at hlt
  go_enter Tryz.func81, Tryz.ntmps81
  go_wp2
  go_ret
  exact ⟨rfl, by (repeat (first | exact Below.refl _ _ | assumption | refine Below.drew ?_ | refine balloc ?_ _ | refine bset ?_ (by simp; omega) _ | refine bset ?_ (by simp) _ | refine bstep ?_ (by assumption)))⟩
set_option maxHeartbeats 1000000 in
theorem indexC_any (a : Option Addr) (c : Nat) (xs : List Cont) (k : Int) (B : Nat) (w : World) (hx : contsR.V w (.slice a xs.length c) xs) (hc : w.cell? ⟨B, 0, none⟩ = some (.int .i64 k)) :
    Calls Tryz.prog 52 #[.slice a xs.length c, .func (.func 53) #[] #[.pointer (some ⟨B, 0, none⟩)]] w fun e w' => (∃ r : Int, e = .returned (.int .i64 r) ∧ ((r = -1 ∧ ¬ firstC xs k < xs.length) ∨ (r = (firstC xs k : Int) ∧ firstC xs k < xs.length))) ∧ Below w.heap.size w w' := by
  obtain ⟨hcx, hmx, hx⟩ := conts_atM hx
  unfold maxLen at hmx
  have HHit : Hid (∀ j, j < xs.length → (xs.getD j default).id = k → (∀ i, i < j → ¬ (xs.getD i default).id = k) → firstC xs k = j) := fun j hj h hb => firstC_hit hj h hb
  have HNo : Hid ((∀ j, j < xs.length → ¬ (xs.getD j default).id = k) → firstC xs k = xs.length) := fun h => firstC_none h
  generalize hn' : xs.length = n at *
  clear hn'
  go_enter Tryz.func52, Tryz.ntmps52
  go_wp2
  go_loopw [8] (fun i w' => ∃ k' : Nat, k' ≤ n ∧ i = .int .i64 k' ∧ Hid (∀ j, j < k' → ¬ (xs.getD j default).id = k) ∧ Below w.heap.size w w') (fun i _ => n - (intOf i).toNat)
  case atStart => exact ⟨0, Nat.zero_le _, rfl, fun j hj => absurd hj (Nat.not_lt_zero _), Below.refl _ _⟩
  case round =>
    obtain ⟨j, hk, rfl, HP, hbl⟩ := hrel
    by_cases hlt : j < n
    · obtain ⟨bx, ox, p, q, rfl, g0, g1, _⟩ := hx j hlt
      obtain ⟨l, hl⟩ : ∃ l, l = xs.getD j default := ⟨_, rfl⟩
      rw [← hl] at g0 g1
      have HLE : Hid (l = xs.getD j default) := hl
      clear hl hx
      replace g0 := cell_keep hbl g0
      replace g1 := cell_keep hbl g1
      have hc2 := cell_keep hbl hc
      have hti : (j : Int) < (n : Int) := by omega
      have eg : ∀ args w, (callFunc 53 args).run Tryz.prog w = .ok (.enter 53 args) w := enters_of Tryz.func53 (by kernel_rfl) rfl
      go_wp2_with fail
      refine (subm1_any l.id k p l.legs.length q B _ hc2).mono ?_
      rintro e w1 ⟨rfl, hb1⟩
      have hB := bstep hbl hb1
      clear eg hb1 g0 g1
      by_cases hq : l.id = k
      · rw [show (l.id == k) = true by simp [hq]]
        have HQ : Hid (firstC xs k = j) := HHit.out j hlt (by rw [← HLE.out]; exact hq) HP.out
        clear hq
        go_wp2
        go_ret
        exact ⟨⟨j, rfl, .inr ⟨by rw [HQ.out], by rw [HQ.out]; exact hlt⟩⟩, hB⟩
      · rw [show (l.id == k) = false by simp [hq]]
        have HQ : Hid (∀ i, i < j + 1 → ¬ (xs.getD i default).id = k) := fun i hi => by
          by_cases e : i = j
          · rw [e, ← HLE.out]; exact hq
          · exact HP.out i (by omega)
        clear hq
        go_wp2
        exact ⟨⟨j + 1, by omega, by go_num, HQ, hB⟩, by simp [intOf]; omega⟩
    · obtain rfl : j = n := by omega
      have hti : ¬ (j : Int) < (j : Int) := by omega
      go_wp2
      go_ret
      exact ⟨⟨-1, rfl, .inl ⟨rfl, by rw [HNo.out HP.out]; omega⟩⟩, hbl⟩
set_option maxHeartbeats 1000000 in
theorem indexLeg_any (x : Value) (xs : List Leg) (k : Int) (B : Nat) (w : World) (hx : LegsV w x xs) (hc : w.cell? ⟨B, 0, none⟩ = some (.int .i64 k)) :
    Calls Tryz.prog 101 #[x, .func (.func 81) #[] #[.pointer (some ⟨B, 0, none⟩)]] w fun e w' => (∃ r : Int, e = .returned (.int .i64 r) ∧ ((r = -1 ∧ hasS xs k = false) ∨ (0 ≤ r ∧ hasS xs k = true))) ∧ Below w.heap.size w w' := by
  obtain ⟨ax, cx, rfl, hcx, hmx, hx⟩ := hx
  unfold maxLen at hmx
  have HHit : Hid (∀ j, j < xs.length → (xs.getD j default).sh = k → hasS xs k = true) := fun j hj h => by
    unfold hasS
    rw [List.any_eq_true]
    exact ⟨xs.getD j default, by simp [List.getD, hj], by rw [beq_iff_eq]; exact h⟩
  have HNo : Hid ((∀ j, j < xs.length → ¬ (xs.getD j default).sh = k) → hasS xs k = false) := fun h => by
    unfold hasS
    rw [List.any_eq_false]
    intro y hy
    obtain ⟨i, hi, rfl⟩ := List.getElem_of_mem hy
    have := h i hi
    simp only [List.getD, List.getElem?_eq_getElem hi, Option.getD_some] at this
    simp [this]
  generalize hn' : xs.length = n at *
  clear hn'
  go_enter Tryz.func101, Tryz.ntmps101
  go_wp2
  go_loopw [8] (fun i w' => ∃ k' : Nat, k' ≤ n ∧ i = .int .i64 k' ∧ Hid (∀ j, j < k' → ¬ (xs.getD j default).sh = k) ∧ Below w.heap.size w w') (fun i _ => n - (intOf i).toNat)
  case atStart => exact ⟨0, Nat.zero_le _, rfl, fun j hj => absurd hj (Nat.not_lt_zero _), Below.refl _ _⟩
  case round =>
    obtain ⟨j, hk, rfl, HP, hbl⟩ := hrel
    by_cases hlt : j < n
    · obtain ⟨bx, ox, rfl, g1⟩ := hx j hlt
      obtain ⟨l, hl⟩ : ∃ l, l = xs.getD j default := ⟨_, rfl⟩
      rw [← hl] at g1
      have HLE : Hid (l = xs.getD j default) := hl
      clear hl hx
      obtain ⟨a1, a2, a3, a4⟩ := legCells_below hbl g1
      have hc2 := cell_keep hbl hc
      have hti : (j : Int) < (n : Int) := by omega
      have eg : ∀ args w, (callFunc 81 args).run Tryz.prog w = .ok (.enter 81 args) w := enters_of Tryz.func81 (by kernel_rfl) rfl
      clear g1
      go_wp2_with fail
      refine (legAt1_any l k B _ hc2).mono ?_
      rintro e w1 ⟨rfl, hb1⟩
      have hB := bstep hbl hb1
      clear eg hb1 a1 a2 a3 a4
      by_cases hq : l.sh = k
      · rw [show (l.sh == k) = true by simp [hq]]
        have HQ : Hid (hasS xs k = true) := HHit.out j hlt (by rw [← HLE.out]; exact hq)
        clear hq
        go_wp2
        go_ret
        exact ⟨⟨j, rfl, .inr ⟨by omega, HQ.out⟩⟩, hB⟩
      · rw [show (l.sh == k) = false by simp [hq]]
        have HQ : Hid (∀ i, i < j + 1 → ¬ (xs.getD i default).sh = k) := fun i hi => by
          by_cases e : i = j
          · rw [e, ← HLE.out]; exact hq
          · exact HP.out i (by omega)
        clear hq
        go_wp2
        exact ⟨⟨j + 1, by omega, by go_num, HQ, hB⟩, by simp [intOf]; omega⟩
    · obtain rfl : j = n := by omega
      have hti : ¬ (j : Int) < (j : Int) := by omega
      go_wp2
      go_ret
      exact ⟨⟨-1, rfl, .inl ⟨rfl, HNo.out HP.out⟩⟩, hbl⟩
set_option maxHeartbeats 1000000 in
theorem containsLeg_any (x : Value) (xs : List Leg) (k : Int) (B : Nat) (w : World) (hx : LegsV w x xs) (hc : w.cell? ⟨B, 0, none⟩ = some (.int .i64 k)) :
    Calls Tryz.prog 80 #[x, .func (.func 81) #[] #[.pointer (some ⟨B, 0, none⟩)]] w fun e w' => e = .returned (.bool (hasS xs k)) ∧ Below w.heap.size w w' := by
  have hX := hx
  obtain ⟨ax, cx, rfl, _⟩ := hx
  go_enter Tryz.func80, Tryz.ntmps80
  go_wp2_with fail
  refine (indexLeg_any _ xs k B _ hX hc).mono ?_
  rintro e w1 ⟨⟨r, rfl, hr⟩, hb1⟩
  rcases hr with ⟨rfl, hr⟩ | ⟨hr0, hr⟩
  · have HR : Hid (_ = _) := hr
    clear hr
    go_wp2
    go_ret
    exact ⟨by rw [HR.out]; rfl, hb1⟩
  · have HR : Hid (_ = _) := hr
    clear hr
    go_wp2
    go_ret
    exact ⟨by rw [HR.out]; rfl, hb1⟩
theorem hasLegAt_any (id : Int) (x : Value) (xs : List Leg) (k : Int) (w : World) (hx : LegsV w x xs) :
    Calls Tryz.prog 55 #[.agg #[.int .i64 id, x], .int .i64 k] w fun e w' => e = .returned (.bool (hasS xs k)) ∧ Below w.heap.size w w' := by
  have HX : Hid (∀ W, Below w.heap.size w W → LegsV W x xs) := fun W hW => LegsV_below hx hW
  obtain ⟨ax, cx, rfl, _⟩ := hx
  go_enter Tryz.func55, Tryz.ntmps55
  go_wp2_with fail
  refine (containsLeg_any _ xs k (w.heap.size + 1) _ (HX.out _ (by (repeat (first | exact Below.refl _ _ | assumption | refine Below.drew ?_ | refine balloc ?_ _ | refine bset ?_ (by simp; omega) _ | refine bset ?_ (by simp) _ | refine bstep ?_ (by assumption))))) (by simp [go_sem])).mono ?_
  rintro e w1 ⟨rfl, hb1⟩
  have hB : Below w.heap.size w w1 := by (repeat (first | exact Below.refl _ _ | assumption | refine Below.drew ?_ | refine balloc ?_ _ | refine bset ?_ (by simp; omega) _ | refine bset ?_ (by simp) _ | refine bstep ?_ (by assumption)))
  go_wp2
  go_ret
  exact ⟨rfl, hB⟩
def SubE (cs : List Cont) (k : Int) (w : World) (e : Ending) (w' : World) : Prop := Below w.heap.size w w' ∧ ((firstC cs k < cs.length ∧ ∃ p q, e = .returned (.tuple #[.agg #[.int .i64 (cs.getD (firstC cs k) default).id, .slice p (cs.getD (firstC cs k) default).legs.length q], .bool true]) ∧ legsR.V w' (.slice p (cs.getD (firstC cs k) default).legs.length q) (cs.getD (firstC cs k) default).legs) ∨ (¬ firstC cs k < cs.length ∧ e = .returned (.tuple #[.agg #[.int .i64 0, .slice none 0 0], .bool false])))
set_option maxHeartbeats 2000000 in
theorem submitted_any (a0 : Option Addr) (c0 : Nat) (v1 v2 v3 v4 : Value) (cs : List Cont) (k : Int) (w : World) (hf : ∃ b1 b2 b3 b4 m1 m2 m3 m4 d1 d2 d3 d4, v1 = .slice b1 m1 d1 ∧ v2 = .slice b2 m2 d2 ∧ v3 = .slice b3 m3 d3 ∧ v4 = .slice b4 m4 d4) (hx : contsR.V w (.slice a0 cs.length c0) cs) :
    Calls Tryz.prog 24 #[.agg #[.slice a0 cs.length c0, v1, v2, v3, v4], .int .i64 k] w (SubE cs k w) := by
  obtain ⟨b1, b2, b3, b4, m1, m2, m3, m4, d1, d2, d3, d4, rfl, rfl, rfl, rfl⟩ := hf
  have HX : Hid (∀ W, Below w.heap.size w W → contsR.V W (.slice a0 cs.length c0) cs) := fun W hW => contsR.below hx hW
  obtain ⟨hcx, hmx, hx⟩ := conts_atM hx
  unfold maxLen at hmx
  go_enter Tryz.func24, Tryz.ntmps24
  go_wp2_with fail
  refine (indexC_any a0 c0 cs k (w.heap.size + 1) _ (HX.out _ (by (repeat (first | exact Below.refl _ _ | assumption | refine Below.drew ?_ | refine balloc ?_ _ | refine bset ?_ (by simp; omega) _ | refine bset ?_ (by simp) _ | refine bstep ?_ (by assumption))))) (by simp [go_sem])).mono ?_
  rintro e w1 ⟨⟨r, rfl, hr⟩, hb1⟩
  have hB : Below w.heap.size w w1 := by (repeat (first | exact Below.refl _ _ | assumption | refine Below.drew ?_ | refine balloc ?_ _ | refine bset ?_ (by simp; omega) _ | refine bset ?_ (by simp) _ | refine bstep ?_ (by assumption)))
  have y0 : w1.cell? ⟨w.heap.size, 0, none⟩ = some (.slice a0 cs.length c0) := cell_keep hb1 (by simp [go_sem])
  have r0 : w1.cell? ⟨w.heap.size + 2, 0, none⟩ = some (.int .i64 0) := cell_keep hb1 (by simp [go_sem])
  have r1 : w1.cell? ⟨w.heap.size + 2, 1, none⟩ = some (.slice none 0 0) := cell_keep hb1 (by simp [go_sem])
  have rf : ∀ o, w1.frozen? ⟨w.heap.size + 2, o, none⟩ = false := fun o => by rw [(bcell hb1).2 _ _ (by simp)]; simp [go_sem]
  have hz1 := hb1.size
  simp at hz1
  clear hb1
  rcases hr with ⟨rfl, hr⟩ | ⟨rfl, hr⟩
  · have HR : Hid (¬ firstC cs k < cs.length) := hr
    clear hr hx
    go_wp2
    exact bodyPost_ret (v := .tuple #[.agg #[.int .i64 0, .slice none 0 0], .bool false]) (by simp [results, Tryz.results24, go_sem, r0, r1, rf]) rfl ⟨by (repeat (first | refine bset ?_ (by simp; omega) _ | refine bset ?_ (by simp) _ | refine balloc ?_ _ | assumption)), .inr ⟨HR.out, rfl⟩⟩
  · obtain ⟨bx, ox, p, q, rfl, g0, g1, hl⟩ := hx _ hr
    have HR : Hid (firstC cs k < cs.length) := hr
    have HL : Hid (∀ W, Below w.heap.size w W → legsR.V W (.slice p (cs.getD (firstC cs k) default).legs.length q) (cs.getD (firstC cs k) default).legs) := fun W hW => legsR.below hl hW
    have hzb : bx < w.heap.size := World.block_lt_of_cell? w _ g0
    replace g0 := cell_keep hB g0
    replace g1 := cell_keep hB g1
    have HE : Hid (∀ e w', Below w.heap.size w w' → e = Ending.returned (.tuple #[.agg #[.int .i64 (cs.getD (firstC cs k) default).id, .slice p (cs.getD (firstC cs k) default).legs.length q], .bool true]) → SubE cs k w e w') := fun e w' hb h => ⟨hb, .inl ⟨HR.out, p, q, h, HL.out w' hb⟩⟩
    have hi1 : ((firstC cs k : Nat) : Int) < (cs.length : Int) := by omega
    have hi0 : (0 : Int) ≤ ((firstC cs k : Nat) : Int) := by omega
    have hi2 : ¬ ((firstC cs k : Nat) : Int) < 0 := by omega
    clear hl hx hr HX
    generalize SubE cs k w = Q at *
    generalize cs.getD (firstC cs k) default = l at *
    generalize firstC cs k = i at *
    generalize cs.length = n at *
    go_wp2
    refine bodyPost_ret (v := .tuple #[.agg #[.int .i64 l.id, .slice p l.legs.length q], .bool true]) (by simp [results, Tryz.results24, go_sem, r0, r1, rf]) rfl ?_
    exact HE.out _ _ (by (repeat (first | refine bset ?_ (by simp; omega) _ | refine bset ?_ (by simp) _ | refine balloc ?_ _ | assumption))) rfl
set_option maxRecDepth 20000 in
set_option maxHeartbeats 2000000 in
theorem isOld_any (ob ov : Int) (w : World) : Calls Tryz.prog 56 #[.agg #[.int .i64 ob, .int .i64 ov]] w fun e w' => e = .returned (.bool (oldB ob ov)) ∧ Below w.heap.size w w' := by
  unfold oldB
  cases h : (decide (ob = -1) && decide (ov = 0))
  · rw [Bool.false_or]
    have HV : Hid (∀ W, Calls Tryz.prog 58 #[.agg #[.int .i64 ob, .int .i64 ov]] W fun e w' => e = .returned (.bool (inB ob 0 1000 && inB ov 1 2)) ∧ Below W.heap.size W w') := fun W => isVote_any ⟨ob, ov⟩ W
    generalize (inB ob 0 1000 && inB ov 1 2) = bb at *
    have hv := eqlVot ob ov (-1) 0
    rw [show (decide (ob = -1) && decide (ov = 0)) = false from h] at hv
    go_enter Tryz.func56, Tryz.ntmps56
    go_wp2
    refine wp_region_noPanic ?_
    refine region_upto (fun W => W.cell? ⟨w.heap.size, 0, none⟩ = some (.int .i64 ob) ∧ W.cell? ⟨w.heap.size, 1, none⟩ = some (.int .i64 ov)) 8 (by kernel_rfl) ⟨by simp [go_sem], by simp [go_sem]⟩ (fun hS => ?_)
    refine upto_takeN (i := 0) (v := ?_) rfl (by kernel_rfl) (by kernel_rfl) (by kernel_rfl) (by kernel_rfl) (fun _ _ _ h => h) (by rfl) hS ?_ ?_
    rotate_left
    · intro wS hSw
      try dsimp only at hSw
      first | (go_simp; done) | (go_simp; with_reducible rfl)
    try simp only [Act.put, List.getElem_toArray, List.getElem_cons_zero, List.getElem_cons_succ, List.setIfInBounds_toArray, List.set_cons_zero, List.set_cons_succ]
    refine upto_step (i := 1) (by kernel_rfl) rfl ?_
    intro K hK
    go_simp
    refine (noVote_any _).mono ?_
    rintro e w1 ⟨rfl, hb1⟩
    have hB1 : Below w.heap.size w w1 := bstep (by (repeat (first | exact Below.refl _ _ | assumption | refine Below.drew ?_ | refine balloc ?_ _ | refine bset ?_ (by simp; omega) _ | refine bset ?_ (by simp) _ | refine bstep ?_ (by assumption)))) hb1
    have hS1 : (fun W => W.cell? ⟨w.heap.size, 0, none⟩ = some (.int .i64 ob) ∧ W.cell? ⟨w.heap.size, 1, none⟩ = some (.int .i64 ov)) w1 := ⟨cell_keep hb1 (by simp [go_sem]), cell_keep hb1 (by simp [go_sem])⟩
    refine hK _ _ (fun _ => hS1) ?_
    clear hK K
    try simp only [Act.put, List.getElem_toArray, List.getElem_cons_zero, List.getElem_cons_succ, List.setIfInBounds_toArray, List.set_cons_zero, List.set_cons_succ]
    refine upto_takeN (i := 2) (v := (.bool false)) rfl (by kernel_rfl) (by kernel_rfl) (by kernel_rfl) (by kernel_rfl) (fun _ _ _ h => h) (by rfl) hS1 ?_ ?_
    · intro wS hSw
      try dsimp only at hSw
      go_simp
    try simp only [Act.put, List.getElem_toArray, List.getElem_cons_zero, List.getElem_cons_succ, List.setIfInBounds_toArray, List.set_cons_zero, List.set_cons_succ]
    refine upto_takeN (i := 3) (v := ?_) rfl (by kernel_rfl) (by kernel_rfl) (by kernel_rfl) (by kernel_rfl) (fun _ _ _ h => h) (by rfl) hS1 ?_ ?_
    rotate_left
    · intro wS hSw
      try dsimp only at hSw
      first | (go_simp; done) | (go_simp; with_reducible rfl)
    try simp only [Act.put, List.getElem_toArray, List.getElem_cons_zero, List.getElem_cons_succ, List.setIfInBounds_toArray, List.set_cons_zero, List.set_cons_succ]
    refine upto_takeN (i := 4) (v := ?_) rfl (by kernel_rfl) (by kernel_rfl) (by kernel_rfl) (by kernel_rfl) (fun _ _ _ h => h) (by rfl) hS1 ?_ ?_
    rotate_left
    · intro wS hSw
      try dsimp only at hSw
      first | (go_simp; done) | (go_simp; with_reducible rfl)
    try simp only [Act.put, List.getElem_toArray, List.getElem_cons_zero, List.getElem_cons_succ, List.setIfInBounds_toArray, List.set_cons_zero, List.set_cons_succ]
    refine upto_step (i := 5) (by kernel_rfl) rfl ?_
    intro K hK
    go_simp
    refine (HV.out _).mono ?_
    rintro e w2 ⟨rfl, hb2⟩
    have hB2 : Below w.heap.size w w2 := bstep hB1 hb2
    have hS2 : (fun W => W.cell? ⟨w.heap.size, 0, none⟩ = some (.int .i64 ob) ∧ W.cell? ⟨w.heap.size, 1, none⟩ = some (.int .i64 ov)) w2 := ⟨cell_keep hb2 hS1.1, cell_keep hb2 hS1.2⟩
    refine hK _ _ (fun _ => hS2) ?_
    clear hK K
    try simp only [Act.put, List.getElem_toArray, List.getElem_cons_zero, List.getElem_cons_succ, List.setIfInBounds_toArray, List.set_cons_zero, List.set_cons_succ]
    refine upto_takeN (i := 6) (v := ?_) rfl (by kernel_rfl) (by kernel_rfl) (by kernel_rfl) (by kernel_rfl) (fun _ _ _ h => h) (by rfl) hS2 ?_ ?_
    rotate_left
    · intro wS hSw
      try dsimp only at hSw
      first | (go_simp; done) | (go_simp; with_reducible rfl)
    try simp only [Act.put, List.getElem_toArray, List.getElem_cons_zero, List.getElem_cons_succ, List.setIfInBounds_toArray, List.set_cons_zero, List.set_cons_succ]
    refine upto_takeN (i := 7) (v := ?_) rfl (by kernel_rfl) (by kernel_rfl) (by kernel_rfl) (by kernel_rfl) (fun _ _ _ h => h) (by rfl) hS2 ?_ ?_
    rotate_left
    · intro wS hSw
      try dsimp only at hSw
      first | (go_simp; done) | (go_simp; with_reducible rfl)
    try simp only [Act.put, List.getElem_toArray, List.getElem_cons_zero, List.getElem_cons_succ, List.setIfInBounds_toArray, List.set_cons_zero, List.set_cons_succ]
    refine upto_done (by kernel_rfl) ?_
    refine NoPanic.normal ?_
    go_wp2
    go_ret
    exact ⟨rfl, hB2⟩
  · rw [Bool.true_or]
    have hv := eqlVot ob ov (-1) 0
    rw [show (decide (ob = -1) && decide (ov = 0)) = true from h] at hv
    go_enter Tryz.func56, Tryz.ntmps56
    go_wp2
    refine wp_region_noPanic ?_
    refine region_upto (fun W => W.cell? ⟨w.heap.size, 0, none⟩ = some (.int .i64 ob) ∧ W.cell? ⟨w.heap.size, 1, none⟩ = some (.int .i64 ov)) 8 (by kernel_rfl) ⟨by simp [go_sem], by simp [go_sem]⟩ (fun hS => ?_)
    refine upto_takeN (i := 0) (v := ?_) rfl (by kernel_rfl) (by kernel_rfl) (by kernel_rfl) (by kernel_rfl) (fun _ _ _ h => h) (by rfl) hS ?_ ?_
    rotate_left
    · intro wS hSw
      try dsimp only at hSw
      first | (go_simp; done) | (go_simp; with_reducible rfl)
    try simp only [Act.put, List.getElem_toArray, List.getElem_cons_zero, List.getElem_cons_succ, List.setIfInBounds_toArray, List.set_cons_zero, List.set_cons_succ]
    refine upto_step (i := 1) (by kernel_rfl) rfl ?_
    intro K hK
    go_simp
    refine (noVote_any _).mono ?_
    rintro e w1 ⟨rfl, hb1⟩
    have hB1 : Below w.heap.size w w1 := bstep (by (repeat (first | exact Below.refl _ _ | assumption | refine Below.drew ?_ | refine balloc ?_ _ | refine bset ?_ (by simp; omega) _ | refine bset ?_ (by simp) _ | refine bstep ?_ (by assumption)))) hb1
    have hS1 : (fun W => W.cell? ⟨w.heap.size, 0, none⟩ = some (.int .i64 ob) ∧ W.cell? ⟨w.heap.size, 1, none⟩ = some (.int .i64 ov)) w1 := ⟨cell_keep hb1 (by simp [go_sem]), cell_keep hb1 (by simp [go_sem])⟩
    refine hK _ _ (fun _ => hS1) ?_
    clear hK K
    try simp only [Act.put, List.getElem_toArray, List.getElem_cons_zero, List.getElem_cons_succ, List.setIfInBounds_toArray, List.set_cons_zero, List.set_cons_succ]
    refine upto_takeN (i := 2) (v := (.bool true)) rfl (by kernel_rfl) (by kernel_rfl) (by kernel_rfl) (by kernel_rfl) (fun _ _ _ h => h) (by rfl) hS1 ?_ ?_
    · intro wS hSw
      try dsimp only at hSw
      go_simp
    try simp only [Act.put, List.getElem_toArray, List.getElem_cons_zero, List.getElem_cons_succ, List.setIfInBounds_toArray, List.set_cons_zero, List.set_cons_succ]
    refine upto_takeN (i := 3) (v := ?_) rfl (by kernel_rfl) (by kernel_rfl) (by kernel_rfl) (by kernel_rfl) (fun _ _ _ h => h) (by rfl) hS1 ?_ ?_
    rotate_left
    · intro wS hSw
      try dsimp only at hSw
      first | (go_simp; done) | (go_simp; with_reducible rfl)
    try simp only [Act.put, List.getElem_toArray, List.getElem_cons_zero, List.getElem_cons_succ, List.setIfInBounds_toArray, List.set_cons_zero, List.set_cons_succ]
    refine upto_skipN (i := 4) rfl (by kernel_rfl) (by kernel_rfl) (by kernel_rfl) (by kernel_rfl) (fun _ _ _ h => h) (by rfl) hS1 (fun q4 => ?_)
    try simp only [Act.put, List.getElem_toArray, List.getElem_cons_zero, List.getElem_cons_succ, List.setIfInBounds_toArray, List.set_cons_zero, List.set_cons_succ]
    refine upto_skipN (i := 5) rfl (by kernel_rfl) (by kernel_rfl) (by kernel_rfl) (by kernel_rfl) (fun _ _ _ h => h) (by rfl) hS1 (fun q5 => ?_)
    try simp only [Act.put, List.getElem_toArray, List.getElem_cons_zero, List.getElem_cons_succ, List.setIfInBounds_toArray, List.set_cons_zero, List.set_cons_succ]
    refine upto_takeN (i := 6) (v := ?_) rfl (by kernel_rfl) (by kernel_rfl) (by kernel_rfl) (by kernel_rfl) (fun _ _ _ h => h) (by rfl) hS1 ?_ ?_
    rotate_left
    · intro wS hSw
      try dsimp only at hSw
      first | (go_simp; done) | (go_simp; with_reducible rfl)
    try simp only [Act.put, List.getElem_toArray, List.getElem_cons_zero, List.getElem_cons_succ, List.setIfInBounds_toArray, List.set_cons_zero, List.set_cons_succ]
    refine upto_takeN (i := 7) (v := ?_) rfl (by kernel_rfl) (by kernel_rfl) (by kernel_rfl) (by kernel_rfl) (fun _ _ _ h => h) (by rfl) hS1 ?_ ?_
    rotate_left
    · intro wS hSw
      try dsimp only at hSw
      first | (go_simp; done) | (go_simp; with_reducible rfl)
    try simp only [Act.put, List.getElem_toArray, List.getElem_cons_zero, List.getElem_cons_succ, List.setIfInBounds_toArray, List.set_cons_zero, List.set_cons_succ]
    refine upto_done (by kernel_rfl) ?_
    refine NoPanic.normal ?_
    go_wp2
    go_ret
    exact ⟨rfl, hB1⟩
end Go.Proofs.YtggigaghfcpbbaaGreat

/-
  MessageFault, the program's: ends, what is said.
-/
set_option linter.unusedSimpArgs false
set_option linter.unusedVariables false
namespace Go.Proofs.YtggigaghfcpbbaaGreat
open Go.RowKit
set_option linter.unusedSectionVars false
variable [DecidableEq Leg] [Inhabited Leg] [DecidableEq Cont] [Inhabited Cont] [DecidableEq Bal] [Inhabited Bal] [DecidableEq Mrk] [Inhabited Mrk] [DecidableEq Shd] [Inhabited Shd] [DecidableEq Vot] [Inhabited Vot] [DecidableEq Slt] [Inhabited Slt] [DecidableEq Acc] [Inhabited Acc] [DecidableEq Trr] [Inhabited Trr] [DecidableEq Hrd] [Inhabited Hrd] [DecidableEq Ldr] [Inhabited Ldr] [DecidableEq Msg] [Inhabited Msg] [DecidableEq Clu] [Inhabited Clu] [DecidableEq Ledg] [Inhabited Ledg]
attribute [local go_sem ↓] Go.wp_at_zero Go.wp_at_succ

theorem isOutcome_any (n : Int) (w : World) : Calls Tryz.prog 54 #[.int .i64 n] w fun e w' => e = .returned (.bool (inB n 1 2)) ∧ w' = w := by
  go_enter Tryz.func54, Tryz.ntmps54
  go_wp2_with (go_at_call 22; refine (within_any _ _ _ _).mono ?_; rintro e w' ⟨rfl, rfl⟩)
  go_ret
  exact ⟨rfl, rfl⟩
set_option maxRecDepth 20000 in
set_option maxHeartbeats 4000000 in
theorem hasEnds_any (c : Clu) (m : Msg) (a0 a1 a2 a3 a4 : Option Addr) (n0 n1 n2 n3 n4 c0 c1 c2 c3 c4 : Nat) (w : World) (h1 : c.shards.length = n1 ∧ n1 ≤ 9223372036854775807) (h2 : c.accs.length = n2 ∧ n2 ≤ 9223372036854775807) (h3 : c.ldrs.length = n3 ∧ n3 ≤ 9223372036854775807) (hk : inB m.kind 1 6 = true) :
    Calls Tryz.prog 23 #[.agg #[.slice a0 n0 c0, .slice a1 n1 c1, .slice a2 n2 c2, .slice a3 n3 c3, .slice a4 n4 c4], msgV m] w fun e w' => e = .returned (.bool (endsB c m)) ∧ Below w.heap.size w w' := by
  obtain ⟨kind, to, frm, con, sh, bal, val, ob, ov⟩ := m
  obtain ⟨e1, l1⟩ := h1
  obtain ⟨e2, l2⟩ := h2
  obtain ⟨e3, l3⟩ := h3
  have hk' := kinds hk
  dsimp only at hk'
  clear hk
  unfold msgV
  dsimp only
  rcases hk' with rfl | rfl | rfl | rfl | rfl | rfl
  · have HE : Hid (endsB c ⟨1, to, frm, con, sh, bal, val, ob, ov⟩ = inB to 0 ((n1 : Int) - 1)) := by show _ = _; simp [endsB, endTo, e1, e2, e3]
    rw [HE.out]
    go_enter Tryz.func23, Tryz.ntmps23
    go_wp2_with (first | (go_at_call 51; refine (placeS_any _ _ _ _ _ l1).mono ?_; rintro e w' ⟨rfl, hw⟩; obtain rfl := hw.symm))
    go_ret
    exact ⟨rfl, by (repeat (first | exact Below.refl _ _ | assumption | refine Below.drew ?_ | refine balloc ?_ _ | refine bset ?_ (by simp; omega) _ | refine bset ?_ (by simp) _ | refine bstep ?_ (by assumption)))⟩
  · have HE : Hid (endsB c ⟨2, to, frm, con, sh, bal, val, ob, ov⟩ = inB to 0 ((n2 : Int) - 1)) := by show _ = _; simp [endsB, endTo, e1, e2, e3]
    rw [HE.out]
    go_enter Tryz.func23, Tryz.ntmps23
    go_wp2_with (first | (go_at_call 50; refine (placeA_any _ _ _ _ _ l2).mono ?_; rintro e w' ⟨rfl, hw⟩; obtain rfl := hw.symm))
    go_ret
    exact ⟨rfl, by (repeat (first | exact Below.refl _ _ | assumption | refine Below.drew ?_ | refine balloc ?_ _ | refine bset ?_ (by simp; omega) _ | refine bset ?_ (by simp) _ | refine bstep ?_ (by assumption)))⟩
  · have HE : Hid (endsB c ⟨3, to, frm, con, sh, bal, val, ob, ov⟩ = (inB to 0 ((n3 : Int) - 1) && inB frm 0 ((n2 : Int) - 1))) := by show _ = _; simp [endsB, endTo, e1, e2, e3]
    rw [HE.out]
    cases ht : inB to 0 ((n3 : Int) - 1)
    all_goals cases hf : inB frm 0 ((n2 : Int) - 1)
    all_goals
      go_enter Tryz.func23, Tryz.ntmps23
      go_wp2_with (first | (go_at_call 49; refine (placeL_any _ _ _ _ _ l3).mono ?_; rintro e w' ⟨rfl, hw⟩; obtain rfl := hw.symm; rw [ht]) | (go_at_call 50; refine (placeA_any _ _ _ _ _ l2).mono ?_; rintro e w' ⟨rfl, hw⟩; obtain rfl := hw.symm; rw [hf]))
      go_ret
      exact ⟨rfl, by (repeat (first | exact Below.refl _ _ | assumption | refine Below.drew ?_ | refine balloc ?_ _ | refine bset ?_ (by simp; omega) _ | refine bset ?_ (by simp) _ | refine bstep ?_ (by assumption)))⟩
  · have HE : Hid (endsB c ⟨4, to, frm, con, sh, bal, val, ob, ov⟩ = (inB to 0 ((n2 : Int) - 1) && inB frm 0 ((n3 : Int) - 1))) := by show _ = _; simp [endsB, endTo, e1, e2, e3]
    rw [HE.out]
    cases ht : inB to 0 ((n2 : Int) - 1)
    all_goals cases hf : inB frm 0 ((n3 : Int) - 1)
    all_goals
      go_enter Tryz.func23, Tryz.ntmps23
      go_wp2_with (first | (go_at_call 49; refine (placeL_any _ _ _ _ _ l3).mono ?_; rintro e w' ⟨rfl, hw⟩; obtain rfl := hw.symm; rw [hf]) | (go_at_call 50; refine (placeA_any _ _ _ _ _ l2).mono ?_; rintro e w' ⟨rfl, hw⟩; obtain rfl := hw.symm; rw [ht]))
      go_ret
      exact ⟨rfl, by (repeat (first | exact Below.refl _ _ | assumption | refine Below.drew ?_ | refine balloc ?_ _ | refine bset ?_ (by simp; omega) _ | refine bset ?_ (by simp) _ | refine bstep ?_ (by assumption)))⟩
  · have HE : Hid (endsB c ⟨5, to, frm, con, sh, bal, val, ob, ov⟩ = (inB to 0 ((n3 : Int) - 1) && inB frm 0 ((n2 : Int) - 1))) := by show _ = _; simp [endsB, endTo, e1, e2, e3]
    rw [HE.out]
    cases ht : inB to 0 ((n3 : Int) - 1)
    all_goals cases hf : inB frm 0 ((n2 : Int) - 1)
    all_goals
      go_enter Tryz.func23, Tryz.ntmps23
      go_wp2_with (first | (go_at_call 49; refine (placeL_any _ _ _ _ _ l3).mono ?_; rintro e w' ⟨rfl, hw⟩; obtain rfl := hw.symm; rw [ht]) | (go_at_call 50; refine (placeA_any _ _ _ _ _ l2).mono ?_; rintro e w' ⟨rfl, hw⟩; obtain rfl := hw.symm; rw [hf]))
      go_ret
      exact ⟨rfl, by (repeat (first | exact Below.refl _ _ | assumption | refine Below.drew ?_ | refine balloc ?_ _ | refine bset ?_ (by simp; omega) _ | refine bset ?_ (by simp) _ | refine bstep ?_ (by assumption)))⟩
  · have HE : Hid (endsB c ⟨6, to, frm, con, sh, bal, val, ob, ov⟩ = inB to 0 ((n1 : Int) - 1)) := by show _ = _; simp [endsB, endTo, e1, e2, e3]
    rw [HE.out]
    go_enter Tryz.func23, Tryz.ntmps23
    go_wp2_with (first | (go_at_call 51; refine (placeS_any _ _ _ _ _ l1).mono ?_; rintro e w' ⟨rfl, hw⟩; obtain rfl := hw.symm))
    go_ret
    exact ⟨rfl, by (repeat (first | exact Below.refl _ _ | assumption | refine Below.drew ?_ | refine balloc ?_ _ | refine bset ?_ (by simp; omega) _ | refine bset ?_ (by simp) _ | refine bstep ?_ (by assumption)))⟩
set_option maxRecDepth 20000 in
set_option maxHeartbeats 4000000 in
theorem saysRight_any (id : Int) (x : Value) (xs : List Leg) (m : Msg) (w : World) (hx : LegsV w x xs) (hk : inB m.kind 1 6 = true) :
    Calls Tryz.prog 25 #[.agg #[.int .i64 id, x], msgV m] w fun e w' => e = .returned (.bool (saysB ⟨id, xs⟩ m)) ∧ Below w.heap.size w w' := by
  have HL : Hid (∀ s W, Below w.heap.size w W → Calls Tryz.prog 55 #[.agg #[.int .i64 id, x], .int .i64 s] W fun e w' => e = .returned (.bool (hasS xs s)) ∧ Below W.heap.size W w') := fun s W hW => hasLegAt_any id x xs s W (LegsV_below hx hW)
  obtain ⟨ax, cx, rfl, _⟩ := hx
  obtain ⟨kind, to, frm, con, sh, bal, val, ob, ov⟩ := m
  have hk' := kinds hk
  dsimp only at hk'
  clear hk
  unfold msgV
  dsimp only
  rcases hk' with rfl | rfl | rfl | rfl | rfl | rfl
  · have HE : Hid (saysB ⟨id, xs⟩ ⟨1, to, frm, con, sh, bal, val, ob, ov⟩ = (hasS xs to)) := by show _ = _; simp [saysB]
    rw [HE.out]
    cases hl : hasS xs to
    all_goals
      go_enter Tryz.func25, Tryz.ntmps25
      go_wp2_with (first | (go_at_call 55; refine (HL.out to _ (by (repeat (first | exact Below.refl _ _ | assumption | refine Below.drew ?_ | refine balloc ?_ _ | refine bset ?_ (by simp; omega) _ | refine bset ?_ (by simp) _ | refine bstep ?_ (by assumption))))).mono ?_; rintro e w' ⟨rfl, hb9⟩; rw [hl]))
      go_ret
      exact ⟨rfl, by (repeat (first | exact Below.refl _ _ | assumption | refine Below.drew ?_ | refine balloc ?_ _ | refine bset ?_ (by simp; omega) _ | refine bset ?_ (by simp) _ | refine bstep ?_ (by assumption)))⟩
  · have HE : Hid (saysB ⟨id, xs⟩ ⟨2, to, frm, con, sh, bal, val, ob, ov⟩ = (hasS xs sh && (inB bal 0 1000 && (inB val 1 2)))) := by show _ = _; simp [saysB]
    rw [HE.out]
    cases hl : hasS xs sh
    all_goals cases hb : inB bal 0 1000
    all_goals cases hv : inB val 1 2
    all_goals
      go_enter Tryz.func25, Tryz.ntmps25
      go_wp2_with fail
      refine (HL.out sh _ (by (repeat (first | exact Below.refl _ _ | assumption | refine Below.drew ?_ | refine balloc ?_ _ | refine bset ?_ (by simp; omega) _ | refine bset ?_ (by simp) _ | refine bstep ?_ (by assumption))))).mono ?_
      rintro e w1 ⟨rfl, hb1⟩
      have m5 : w1.cell? ⟨w.heap.size + 1, 5, none⟩ = some (.int .i64 bal) := cell_keep hb1 (by simp [go_sem])
      have m6 : w1.cell? ⟨w.heap.size + 1, 6, none⟩ = some (.int .i64 val) := cell_keep hb1 (by simp [go_sem])
      have hB1 : Below w.heap.size w w1 := by (repeat (first | exact Below.refl _ _ | assumption | refine Below.drew ?_ | refine balloc ?_ _ | refine bset ?_ (by simp; omega) _ | refine bset ?_ (by simp) _ | refine bstep ?_ (by assumption)))
      clear hb1
      rw [hl]
      go_wp2_with (first | (go_at_call 58; refine (isVote_any ⟨bal, val⟩ _).mono ?_; rintro e w' ⟨rfl, hb8⟩; rw [show votB ⟨bal, val⟩ = (inB bal 0 1000 && inB val 1 2) from rfl, hb, hv]))
      go_ret
      exact ⟨rfl, by (repeat (first | exact Below.refl _ _ | assumption | refine Below.drew ?_ | refine balloc ?_ _ | refine bset ?_ (by simp; omega) _ | refine bset ?_ (by simp) _ | refine bstep ?_ (by assumption)))⟩
  · have HE : Hid (saysB ⟨id, xs⟩ ⟨3, to, frm, con, sh, bal, val, ob, ov⟩ = (hasS xs sh && (inB bal 0 1000 && (inB val 1 2)))) := by show _ = _; simp [saysB]
    rw [HE.out]
    cases hl : hasS xs sh
    all_goals cases hb : inB bal 0 1000
    all_goals cases hv : inB val 1 2
    all_goals
      go_enter Tryz.func25, Tryz.ntmps25
      go_wp2_with fail
      refine (HL.out sh _ (by (repeat (first | exact Below.refl _ _ | assumption | refine Below.drew ?_ | refine balloc ?_ _ | refine bset ?_ (by simp; omega) _ | refine bset ?_ (by simp) _ | refine bstep ?_ (by assumption))))).mono ?_
      rintro e w1 ⟨rfl, hb1⟩
      have m5 : w1.cell? ⟨w.heap.size + 1, 5, none⟩ = some (.int .i64 bal) := cell_keep hb1 (by simp [go_sem])
      have m6 : w1.cell? ⟨w.heap.size + 1, 6, none⟩ = some (.int .i64 val) := cell_keep hb1 (by simp [go_sem])
      have hB1 : Below w.heap.size w w1 := by (repeat (first | exact Below.refl _ _ | assumption | refine Below.drew ?_ | refine balloc ?_ _ | refine bset ?_ (by simp; omega) _ | refine bset ?_ (by simp) _ | refine bstep ?_ (by assumption)))
      clear hb1
      rw [hl]
      go_wp2_with (first | (go_at_call 58; refine (isVote_any ⟨bal, val⟩ _).mono ?_; rintro e w' ⟨rfl, hb8⟩; rw [show votB ⟨bal, val⟩ = (inB bal 0 1000 && inB val 1 2) from rfl, hb, hv]))
      go_ret
      exact ⟨rfl, by (repeat (first | exact Below.refl _ _ | assumption | refine Below.drew ?_ | refine balloc ?_ _ | refine bset ?_ (by simp; omega) _ | refine bset ?_ (by simp) _ | refine bstep ?_ (by assumption)))⟩
  · have HE : Hid (saysB ⟨id, xs⟩ ⟨4, to, frm, con, sh, bal, val, ob, ov⟩ = (hasS xs sh && (inB bal 0 1000))) := by show _ = _; simp [saysB]
    rw [HE.out]
    cases hl : hasS xs sh
    all_goals cases hb : inB bal 0 1000
    all_goals
      go_enter Tryz.func25, Tryz.ntmps25
      go_wp2_with fail
      refine (HL.out sh _ (by (repeat (first | exact Below.refl _ _ | assumption | refine Below.drew ?_ | refine balloc ?_ _ | refine bset ?_ (by simp; omega) _ | refine bset ?_ (by simp) _ | refine bstep ?_ (by assumption))))).mono ?_
      rintro e w1 ⟨rfl, hb1⟩
      have m5 : w1.cell? ⟨w.heap.size + 1, 5, none⟩ = some (.int .i64 bal) := cell_keep hb1 (by simp [go_sem])
      have m6 : w1.cell? ⟨w.heap.size + 1, 6, none⟩ = some (.int .i64 val) := cell_keep hb1 (by simp [go_sem])
      have hB1 : Below w.heap.size w w1 := by (repeat (first | exact Below.refl _ _ | assumption | refine Below.drew ?_ | refine balloc ?_ _ | refine bset ?_ (by simp; omega) _ | refine bset ?_ (by simp) _ | refine bstep ?_ (by assumption)))
      clear hb1
      rw [hl]
      go_wp2_with (first | (go_at_call 57; refine (isBallot_any _ _).mono ?_; rintro e w' ⟨rfl, hw⟩; obtain rfl := hw.symm; rw [hb]))
      go_ret
      exact ⟨rfl, by (repeat (first | exact Below.refl _ _ | assumption | refine Below.drew ?_ | refine balloc ?_ _ | refine bset ?_ (by simp; omega) _ | refine bset ?_ (by simp) _ | refine bstep ?_ (by assumption)))⟩
  · have HE : Hid (saysB ⟨id, xs⟩ ⟨5, to, frm, con, sh, bal, val, ob, ov⟩ = (hasS xs sh && (inB bal 0 1000 && (oldB ob ov)))) := by show _ = _; simp [saysB]
    rw [HE.out]
    cases hl : hasS xs sh
    all_goals cases hb : inB bal 0 1000
    all_goals cases ho : oldB ob ov
    all_goals
      go_enter Tryz.func25, Tryz.ntmps25
      go_wp2_with fail
      refine (isOld_any _ _ _).mono ?_
      rintro e w1 ⟨rfl, hb1⟩
      have y0 : w1.cell? ⟨w.heap.size, 0, none⟩ = some (.int .i64 id) := cell_keep hb1 (by simp [go_sem])
      have y1 : w1.cell? ⟨w.heap.size, 1, none⟩ = some (.slice ax xs.length cx) := cell_keep hb1 (by simp [go_sem])
      have m4 : w1.cell? ⟨w.heap.size + 1, 4, none⟩ = some (.int .i64 sh) := cell_keep hb1 (by simp [go_sem])
      have m5 : w1.cell? ⟨w.heap.size + 1, 5, none⟩ = some (.int .i64 bal) := cell_keep hb1 (by simp [go_sem])
      have hB1 : Below w.heap.size w w1 := by (repeat (first | exact Below.refl _ _ | assumption | refine Below.drew ?_ | refine balloc ?_ _ | refine bset ?_ (by simp; omega) _ | refine bset ?_ (by simp) _ | refine bstep ?_ (by assumption)))
      clear hb1
      rw [ho]
      first
      | (go_wp2; go_ret; exact ⟨by simp, by (repeat (first | exact Below.refl _ _ | assumption | refine Below.drew ?_ | refine balloc ?_ _ | refine bset ?_ (by simp; omega) _ | refine bset ?_ (by simp) _ | refine bstep ?_ (by assumption)))⟩)
      | (go_wp2_with fail
         refine (HL.out sh _ (by (repeat (first | exact Below.refl _ _ | assumption | refine Below.drew ?_ | refine balloc ?_ _ | refine bset ?_ (by simp; omega) _ | refine bset ?_ (by simp) _ | refine bstep ?_ (by assumption))))).mono ?_
         rintro e w2 ⟨rfl, hb2⟩
         replace m5 := cell_keep hb2 m5
         have hB2 : Below w.heap.size w w2 := bstep hB1 hb2
         rw [hl]
         go_wp2_with (first | (go_at_call 57; refine (isBallot_any _ _).mono ?_; rintro e w' ⟨rfl, hw⟩; obtain rfl := hw.symm; rw [hb]))
         go_ret
         exact ⟨rfl, hB2⟩)
  · have HE : Hid (saysB ⟨id, xs⟩ ⟨6, to, frm, con, sh, bal, val, ob, ov⟩ = (hasS xs to && (inB val 1 2))) := by show _ = _; simp [saysB]
    rw [HE.out]
    cases hl : hasS xs to
    all_goals cases hv : inB val 1 2
    all_goals
      go_enter Tryz.func25, Tryz.ntmps25
      go_wp2_with (first | (go_at_call 55; refine (HL.out to _ (by (repeat (first | exact Below.refl _ _ | assumption | refine Below.drew ?_ | refine balloc ?_ _ | refine bset ?_ (by simp; omega) _ | refine bset ?_ (by simp) _ | refine bstep ?_ (by assumption))))).mono ?_; rintro e w' ⟨rfl, hb9⟩; rw [hl]) | (go_at_call 54; refine (isOutcome_any _ _).mono ?_; rintro e w' ⟨rfl, hw⟩; obtain rfl := hw.symm; rw [hv]))
      go_ret
      exact ⟨rfl, by (repeat (first | exact Below.refl _ _ | assumption | refine Below.drew ?_ | refine balloc ?_ _ | refine bset ?_ (by simp; omega) _ | refine bset ?_ (by simp) _ | refine bstep ?_ (by assumption)))⟩
end Go.Proofs.YtggigaghfcpbbaaGreat

/-
  MessageFault, the program's.
-/
set_option linter.unusedSimpArgs false
set_option linter.unusedVariables false
namespace Go.Proofs.YtggigaghfcpbbaaGreat
open Go.RowKit
set_option linter.unusedSectionVars false
variable [DecidableEq Leg] [Inhabited Leg] [DecidableEq Cont] [Inhabited Cont] [DecidableEq Bal] [Inhabited Bal] [DecidableEq Mrk] [Inhabited Mrk] [DecidableEq Shd] [Inhabited Shd] [DecidableEq Vot] [Inhabited Vot] [DecidableEq Slt] [Inhabited Slt] [DecidableEq Acc] [Inhabited Acc] [DecidableEq Trr] [Inhabited Trr] [DecidableEq Hrd] [Inhabited Hrd] [DecidableEq Ldr] [Inhabited Ldr] [DecidableEq Msg] [Inhabited Msg] [DecidableEq Clu] [Inhabited Clu] [DecidableEq Ledg] [Inhabited Ledg]
attribute [local go_sem ↓] Go.wp_at_zero Go.wp_at_succ

set_option maxRecDepth 20000 in
set_option maxHeartbeats 8000000 in
theorem namedOf_any (m : Msg) (w : World) (hk : inB m.kind 1 6 = true) :
    Calls Tryz.prog 26 #[msgV m] w fun e w' => e = .returned (msgV (bareM m)) ∧ Below w.heap.size w w' := by
  obtain ⟨kind, to, frm, con, sh, bal, val, ob, ov⟩ := m
  have hk' := kinds hk
  dsimp only at hk'
  clear hk
  rcases hk' with rfl | rfl | rfl | rfl | rfl | rfl
  · have HE : Hid (bareM ⟨1, to, frm, con, sh, bal, val, ob, ov⟩ = ⟨1, to, 0, con, 0, 0, 0, 0, 0⟩) := by show _ = _; simp [bareM]
    rw [HE.out]
    unfold msgV
    dsimp only
    go_enter Tryz.func26, Tryz.ntmps26
    go_wp2
    exact bodyPost_ret (v := .agg #[.int .i64 1, .int .i64 to, .int .i64 0, .int .i64 con, .int .i64 0, .int .i64 0, .int .i64 0, .int .i64 0, .int .i64 0]) (by simp [results, Tryz.results26, go_sem]) rfl ⟨rfl, by (repeat (first | exact Below.refl _ _ | assumption | refine Below.drew ?_ | refine balloc ?_ _ | refine bset ?_ (by simp; omega) _ | refine bset ?_ (by simp) _ | refine bstep ?_ (by assumption)))⟩
  · have HE : Hid (bareM ⟨2, to, frm, con, sh, bal, val, ob, ov⟩ = ⟨2, to, 0, con, sh, bal, val, 0, 0⟩) := by show _ = _; simp [bareM]
    rw [HE.out]
    unfold msgV
    dsimp only
    go_enter Tryz.func26, Tryz.ntmps26
    go_wp2
    refine wp_region_noPanic ?_
    refine region_upto (fun W => W.cell? ⟨w.heap.size, 4, none⟩ = some (.int .i64 sh) ∧ W.cell? ⟨w.heap.size, 5, none⟩ = some (.int .i64 bal)) 8 (by kernel_rfl) ⟨by simp [go_sem], by simp [go_sem]⟩ (fun hS => ?_)
    refine upto_takeN (i := 0) (v := ?_) rfl (by kernel_rfl) (by kernel_rfl) (by kernel_rfl) (by kernel_rfl) (fun _ _ _ h => h) (by rfl) hS ?_ ?_
    rotate_left
    · intro wS hSw
      try dsimp only at hSw
      first | (go_simp; done) | (go_simp; with_reducible rfl)
    try simp only [Act.put, List.getElem_toArray, List.getElem_cons_zero, List.getElem_cons_succ, List.setIfInBounds_toArray, List.set_cons_zero, List.set_cons_succ]
    refine upto_takeN (i := 1) (v := ?_) rfl (by kernel_rfl) (by kernel_rfl) (by kernel_rfl) (by kernel_rfl) (fun _ _ _ h => h) (by rfl) hS ?_ ?_
    rotate_left
    · intro wS hSw
      try dsimp only at hSw
      first | (go_simp; done) | (go_simp; with_reducible rfl)
    try simp only [Act.put, List.getElem_toArray, List.getElem_cons_zero, List.getElem_cons_succ, List.setIfInBounds_toArray, List.set_cons_zero, List.set_cons_succ]
    refine upto_takeN (i := 2) (v := ?_) rfl (by kernel_rfl) (by kernel_rfl) (by kernel_rfl) (by kernel_rfl) (fun _ _ _ h => h) (by rfl) hS ?_ ?_
    rotate_left
    · intro wS hSw
      try dsimp only at hSw
      first | (go_simp; done) | (go_simp; with_reducible rfl)
    try simp only [Act.put, List.getElem_toArray, List.getElem_cons_zero, List.getElem_cons_succ, List.setIfInBounds_toArray, List.set_cons_zero, List.set_cons_succ]
    refine upto_takeN (i := 3) (v := ?_) rfl (by kernel_rfl) (by kernel_rfl) (by kernel_rfl) (by kernel_rfl) (fun _ _ _ h => h) (by rfl) hS ?_ ?_
    rotate_left
    · intro wS hSw
      try dsimp only at hSw
      first | (go_simp; done) | (go_simp; with_reducible rfl)
    try simp only [Act.put, List.getElem_toArray, List.getElem_cons_zero, List.getElem_cons_succ, List.setIfInBounds_toArray, List.set_cons_zero, List.set_cons_succ]
    refine upto_takeN (i := 4) (v := ?_) rfl (by kernel_rfl) (by kernel_rfl) (by kernel_rfl) (by kernel_rfl) (fun _ _ _ h => h) (by rfl) hS ?_ ?_
    rotate_left
    · intro wS hSw
      try dsimp only at hSw
      first | (go_simp; done) | (go_simp; with_reducible rfl)
    try simp only [Act.put, List.getElem_toArray, List.getElem_cons_zero, List.getElem_cons_succ, List.setIfInBounds_toArray, List.set_cons_zero, List.set_cons_succ]
    refine upto_step (i := 5) (by kernel_rfl) rfl ?_
    intro K hK
    go_simp
    refine hK _ _ (fun _ => ⟨by simp [go_sem], by simp [go_sem]⟩) ?_
    clear hK K
    try simp only [Act.put, List.getElem_toArray, List.getElem_cons_zero, List.getElem_cons_succ, List.setIfInBounds_toArray, List.set_cons_zero, List.set_cons_succ]
    refine upto_takeN (i := 6) (v := ?_) rfl (by kernel_rfl) (by kernel_rfl) (by kernel_rfl) (by kernel_rfl) (fun _ _ _ h => h) (by rfl) ⟨by simp [go_sem], by simp [go_sem]⟩ ?_ ?_
    rotate_left
    · intro wS hSw
      try dsimp only at hSw
      first | (go_simp; done) | (go_simp; with_reducible rfl)
    try simp only [Act.put, List.getElem_toArray, List.getElem_cons_zero, List.getElem_cons_succ, List.setIfInBounds_toArray, List.set_cons_zero, List.set_cons_succ]
    refine upto_step (i := 7) (by kernel_rfl) rfl ?_
    intro K hK
    go_simp
    refine hK _ _ (fun _ => ⟨by simp [go_sem], by simp [go_sem]⟩) ?_
    clear hK K
    refine upto_done (by kernel_rfl) ?_
    refine NoPanic.normal ?_
    go_wp2
    exact bodyPost_ret (v := .agg #[.int .i64 2, .int .i64 to, .int .i64 0, .int .i64 con, .int .i64 sh, .int .i64 bal, .int .i64 val, .int .i64 0, .int .i64 0]) (by simp [results, Tryz.results26, go_sem]) rfl ⟨rfl, by (repeat (first | exact Below.refl _ _ | assumption | refine Below.drew ?_ | refine balloc ?_ _ | refine bset ?_ (by simp; omega) _ | refine bset ?_ (by simp) _ | refine bstep ?_ (by assumption)))⟩
  · have HE : Hid (bareM ⟨3, to, frm, con, sh, bal, val, ob, ov⟩ = ⟨3, to, frm, con, sh, bal, val, 0, 0⟩) := by show _ = _; simp [bareM]
    rw [HE.out]
    unfold msgV
    dsimp only
    go_enter Tryz.func26, Tryz.ntmps26
    go_wp2
    refine wp_region_noPanic ?_
    refine region_upto (fun W => W.cell? ⟨w.heap.size, 4, none⟩ = some (.int .i64 sh) ∧ W.cell? ⟨w.heap.size, 5, none⟩ = some (.int .i64 bal)) 8 (by kernel_rfl) ⟨by simp [go_sem], by simp [go_sem]⟩ (fun hS => ?_)
    refine upto_takeN (i := 0) (v := ?_) rfl (by kernel_rfl) (by kernel_rfl) (by kernel_rfl) (by kernel_rfl) (fun _ _ _ h => h) (by rfl) hS ?_ ?_
    rotate_left
    · intro wS hSw
      try dsimp only at hSw
      first | (go_simp; done) | (go_simp; with_reducible rfl)
    try simp only [Act.put, List.getElem_toArray, List.getElem_cons_zero, List.getElem_cons_succ, List.setIfInBounds_toArray, List.set_cons_zero, List.set_cons_succ]
    refine upto_takeN (i := 1) (v := ?_) rfl (by kernel_rfl) (by kernel_rfl) (by kernel_rfl) (by kernel_rfl) (fun _ _ _ h => h) (by rfl) hS ?_ ?_
    rotate_left
    · intro wS hSw
      try dsimp only at hSw
      first | (go_simp; done) | (go_simp; with_reducible rfl)
    try simp only [Act.put, List.getElem_toArray, List.getElem_cons_zero, List.getElem_cons_succ, List.setIfInBounds_toArray, List.set_cons_zero, List.set_cons_succ]
    refine upto_takeN (i := 2) (v := ?_) rfl (by kernel_rfl) (by kernel_rfl) (by kernel_rfl) (by kernel_rfl) (fun _ _ _ h => h) (by rfl) hS ?_ ?_
    rotate_left
    · intro wS hSw
      try dsimp only at hSw
      first | (go_simp; done) | (go_simp; with_reducible rfl)
    try simp only [Act.put, List.getElem_toArray, List.getElem_cons_zero, List.getElem_cons_succ, List.setIfInBounds_toArray, List.set_cons_zero, List.set_cons_succ]
    refine upto_takeN (i := 3) (v := ?_) rfl (by kernel_rfl) (by kernel_rfl) (by kernel_rfl) (by kernel_rfl) (fun _ _ _ h => h) (by rfl) hS ?_ ?_
    rotate_left
    · intro wS hSw
      try dsimp only at hSw
      first | (go_simp; done) | (go_simp; with_reducible rfl)
    try simp only [Act.put, List.getElem_toArray, List.getElem_cons_zero, List.getElem_cons_succ, List.setIfInBounds_toArray, List.set_cons_zero, List.set_cons_succ]
    refine upto_takeN (i := 4) (v := ?_) rfl (by kernel_rfl) (by kernel_rfl) (by kernel_rfl) (by kernel_rfl) (fun _ _ _ h => h) (by rfl) hS ?_ ?_
    rotate_left
    · intro wS hSw
      try dsimp only at hSw
      first | (go_simp; done) | (go_simp; with_reducible rfl)
    try simp only [Act.put, List.getElem_toArray, List.getElem_cons_zero, List.getElem_cons_succ, List.setIfInBounds_toArray, List.set_cons_zero, List.set_cons_succ]
    refine upto_step (i := 5) (by kernel_rfl) rfl ?_
    intro K hK
    go_simp
    refine hK _ _ (fun _ => ⟨by simp [go_sem], by simp [go_sem]⟩) ?_
    clear hK K
    try simp only [Act.put, List.getElem_toArray, List.getElem_cons_zero, List.getElem_cons_succ, List.setIfInBounds_toArray, List.set_cons_zero, List.set_cons_succ]
    refine upto_takeN (i := 6) (v := ?_) rfl (by kernel_rfl) (by kernel_rfl) (by kernel_rfl) (by kernel_rfl) (fun _ _ _ h => h) (by rfl) ⟨by simp [go_sem], by simp [go_sem]⟩ ?_ ?_
    rotate_left
    · intro wS hSw
      try dsimp only at hSw
      first | (go_simp; done) | (go_simp; with_reducible rfl)
    try simp only [Act.put, List.getElem_toArray, List.getElem_cons_zero, List.getElem_cons_succ, List.setIfInBounds_toArray, List.set_cons_zero, List.set_cons_succ]
    refine upto_step (i := 7) (by kernel_rfl) rfl ?_
    intro K hK
    go_simp
    refine hK _ _ (fun _ => ⟨by simp [go_sem], by simp [go_sem]⟩) ?_
    clear hK K
    refine upto_done (by kernel_rfl) ?_
    refine NoPanic.normal ?_
    go_wp2
    exact bodyPost_ret (v := .agg #[.int .i64 3, .int .i64 to, .int .i64 frm, .int .i64 con, .int .i64 sh, .int .i64 bal, .int .i64 val, .int .i64 0, .int .i64 0]) (by simp [results, Tryz.results26, go_sem]) rfl ⟨rfl, by (repeat (first | exact Below.refl _ _ | assumption | refine Below.drew ?_ | refine balloc ?_ _ | refine bset ?_ (by simp; omega) _ | refine bset ?_ (by simp) _ | refine bstep ?_ (by assumption)))⟩
  · have HE : Hid (bareM ⟨4, to, frm, con, sh, bal, val, ob, ov⟩ = ⟨4, to, frm, con, sh, bal, 0, 0, 0⟩) := by show _ = _; simp [bareM]
    rw [HE.out]
    unfold msgV
    dsimp only
    go_enter Tryz.func26, Tryz.ntmps26
    go_wp2
    refine wp_region_noPanic ?_
    refine region_upto (fun W => W.cell? ⟨w.heap.size, 2, none⟩ = some (.int .i64 frm) ∧ W.cell? ⟨w.heap.size, 4, none⟩ = some (.int .i64 sh) ∧ W.cell? ⟨w.heap.size, 5, none⟩ = some (.int .i64 bal)) 12 (by kernel_rfl) ⟨by simp [go_sem], by simp [go_sem], by simp [go_sem]⟩ (fun hS => ?_)
    refine upto_takeN (i := 0) (v := ?_) rfl (by kernel_rfl) (by kernel_rfl) (by kernel_rfl) (by kernel_rfl) (fun _ _ _ h => h) (by rfl) hS ?_ ?_
    rotate_left
    · intro wS hSw
      try dsimp only at hSw
      first | (go_simp; done) | (go_simp; with_reducible rfl)
    try simp only [Act.put, List.getElem_toArray, List.getElem_cons_zero, List.getElem_cons_succ, List.setIfInBounds_toArray, List.set_cons_zero, List.set_cons_succ]
    refine upto_takeN (i := 1) (v := ?_) rfl (by kernel_rfl) (by kernel_rfl) (by kernel_rfl) (by kernel_rfl) (fun _ _ _ h => h) (by rfl) hS ?_ ?_
    rotate_left
    · intro wS hSw
      try dsimp only at hSw
      first | (go_simp; done) | (go_simp; with_reducible rfl)
    try simp only [Act.put, List.getElem_toArray, List.getElem_cons_zero, List.getElem_cons_succ, List.setIfInBounds_toArray, List.set_cons_zero, List.set_cons_succ]
    refine upto_takeN (i := 2) (v := ?_) rfl (by kernel_rfl) (by kernel_rfl) (by kernel_rfl) (by kernel_rfl) (fun _ _ _ h => h) (by rfl) hS ?_ ?_
    rotate_left
    · intro wS hSw
      try dsimp only at hSw
      first | (go_simp; done) | (go_simp; with_reducible rfl)
    try simp only [Act.put, List.getElem_toArray, List.getElem_cons_zero, List.getElem_cons_succ, List.setIfInBounds_toArray, List.set_cons_zero, List.set_cons_succ]
    refine upto_takeN (i := 3) (v := ?_) rfl (by kernel_rfl) (by kernel_rfl) (by kernel_rfl) (by kernel_rfl) (fun _ _ _ h => h) (by rfl) hS ?_ ?_
    rotate_left
    · intro wS hSw
      try dsimp only at hSw
      first | (go_simp; done) | (go_simp; with_reducible rfl)
    try simp only [Act.put, List.getElem_toArray, List.getElem_cons_zero, List.getElem_cons_succ, List.setIfInBounds_toArray, List.set_cons_zero, List.set_cons_succ]
    refine upto_takeN (i := 4) (v := ?_) rfl (by kernel_rfl) (by kernel_rfl) (by kernel_rfl) (by kernel_rfl) (fun _ _ _ h => h) (by rfl) hS ?_ ?_
    rotate_left
    · intro wS hSw
      try dsimp only at hSw
      first | (go_simp; done) | (go_simp; with_reducible rfl)
    try simp only [Act.put, List.getElem_toArray, List.getElem_cons_zero, List.getElem_cons_succ, List.setIfInBounds_toArray, List.set_cons_zero, List.set_cons_succ]
    refine upto_takeN (i := 5) (v := ?_) rfl (by kernel_rfl) (by kernel_rfl) (by kernel_rfl) (by kernel_rfl) (fun _ _ _ h => h) (by rfl) hS ?_ ?_
    rotate_left
    · intro wS hSw
      try dsimp only at hSw
      first | (go_simp; done) | (go_simp; with_reducible rfl)
    try simp only [Act.put, List.getElem_toArray, List.getElem_cons_zero, List.getElem_cons_succ, List.setIfInBounds_toArray, List.set_cons_zero, List.set_cons_succ]
    refine upto_takeN (i := 6) (v := ?_) rfl (by kernel_rfl) (by kernel_rfl) (by kernel_rfl) (by kernel_rfl) (fun _ _ _ h => h) (by rfl) hS ?_ ?_
    rotate_left
    · intro wS hSw
      try dsimp only at hSw
      first | (go_simp; done) | (go_simp; with_reducible rfl)
    try simp only [Act.put, List.getElem_toArray, List.getElem_cons_zero, List.getElem_cons_succ, List.setIfInBounds_toArray, List.set_cons_zero, List.set_cons_succ]
    refine upto_step (i := 7) (by kernel_rfl) rfl ?_
    intro K hK
    go_simp
    refine hK _ _ (fun _ => ⟨by simp [go_sem], by simp [go_sem], by simp [go_sem]⟩) ?_
    clear hK K
    try simp only [Act.put, List.getElem_toArray, List.getElem_cons_zero, List.getElem_cons_succ, List.setIfInBounds_toArray, List.set_cons_zero, List.set_cons_succ]
    refine upto_takeN (i := 8) (v := ?_) rfl (by kernel_rfl) (by kernel_rfl) (by kernel_rfl) (by kernel_rfl) (fun _ _ _ h => h) (by rfl) ⟨by simp [go_sem], by simp [go_sem], by simp [go_sem]⟩ ?_ ?_
    rotate_left
    · intro wS hSw
      try dsimp only at hSw
      first | (go_simp; done) | (go_simp; with_reducible rfl)
    try simp only [Act.put, List.getElem_toArray, List.getElem_cons_zero, List.getElem_cons_succ, List.setIfInBounds_toArray, List.set_cons_zero, List.set_cons_succ]
    refine upto_step (i := 9) (by kernel_rfl) rfl ?_
    intro K hK
    go_simp
    refine hK _ _ (fun _ => ⟨by simp [go_sem], by simp [go_sem], by simp [go_sem]⟩) ?_
    clear hK K
    try simp only [Act.put, List.getElem_toArray, List.getElem_cons_zero, List.getElem_cons_succ, List.setIfInBounds_toArray, List.set_cons_zero, List.set_cons_succ]
    refine upto_takeN (i := 10) (v := ?_) rfl (by kernel_rfl) (by kernel_rfl) (by kernel_rfl) (by kernel_rfl) (fun _ _ _ h => h) (by rfl) ⟨by simp [go_sem], by simp [go_sem], by simp [go_sem]⟩ ?_ ?_
    rotate_left
    · intro wS hSw
      try dsimp only at hSw
      first | (go_simp; done) | (go_simp; with_reducible rfl)
    try simp only [Act.put, List.getElem_toArray, List.getElem_cons_zero, List.getElem_cons_succ, List.setIfInBounds_toArray, List.set_cons_zero, List.set_cons_succ]
    refine upto_step (i := 11) (by kernel_rfl) rfl ?_
    intro K hK
    go_simp
    refine hK _ _ (fun _ => ⟨by simp [go_sem], by simp [go_sem], by simp [go_sem]⟩) ?_
    clear hK K
    refine upto_done (by kernel_rfl) ?_
    refine NoPanic.normal ?_
    go_wp2
    exact bodyPost_ret (v := .agg #[.int .i64 4, .int .i64 to, .int .i64 frm, .int .i64 con, .int .i64 sh, .int .i64 bal, .int .i64 0, .int .i64 0, .int .i64 0]) (by simp [results, Tryz.results26, go_sem]) rfl ⟨rfl, by (repeat (first | exact Below.refl _ _ | assumption | refine Below.drew ?_ | refine balloc ?_ _ | refine bset ?_ (by simp; omega) _ | refine bset ?_ (by simp) _ | refine bstep ?_ (by assumption)))⟩
  · have HE : Hid (bareM ⟨5, to, frm, con, sh, bal, val, ob, ov⟩ = ⟨5, to, frm, con, sh, bal, 0, ob, ov⟩) := by show _ = _; simp [bareM]
    rw [HE.out]
    unfold msgV
    dsimp only
    go_enter Tryz.func26, Tryz.ntmps26
    go_wp2
    refine wp_region_noPanic ?_
    refine region_upto (fun W => W.cell? ⟨w.heap.size, 2, none⟩ = some (.int .i64 frm) ∧ W.cell? ⟨w.heap.size, 4, none⟩ = some (.int .i64 sh) ∧ W.cell? ⟨w.heap.size, 5, none⟩ = some (.int .i64 bal)) 12 (by kernel_rfl) ⟨by simp [go_sem], by simp [go_sem], by simp [go_sem]⟩ (fun hS => ?_)
    refine upto_takeN (i := 0) (v := ?_) rfl (by kernel_rfl) (by kernel_rfl) (by kernel_rfl) (by kernel_rfl) (fun _ _ _ h => h) (by rfl) hS ?_ ?_
    rotate_left
    · intro wS hSw
      try dsimp only at hSw
      first | (go_simp; done) | (go_simp; with_reducible rfl)
    try simp only [Act.put, List.getElem_toArray, List.getElem_cons_zero, List.getElem_cons_succ, List.setIfInBounds_toArray, List.set_cons_zero, List.set_cons_succ]
    refine upto_takeN (i := 1) (v := ?_) rfl (by kernel_rfl) (by kernel_rfl) (by kernel_rfl) (by kernel_rfl) (fun _ _ _ h => h) (by rfl) hS ?_ ?_
    rotate_left
    · intro wS hSw
      try dsimp only at hSw
      first | (go_simp; done) | (go_simp; with_reducible rfl)
    try simp only [Act.put, List.getElem_toArray, List.getElem_cons_zero, List.getElem_cons_succ, List.setIfInBounds_toArray, List.set_cons_zero, List.set_cons_succ]
    refine upto_takeN (i := 2) (v := ?_) rfl (by kernel_rfl) (by kernel_rfl) (by kernel_rfl) (by kernel_rfl) (fun _ _ _ h => h) (by rfl) hS ?_ ?_
    rotate_left
    · intro wS hSw
      try dsimp only at hSw
      first | (go_simp; done) | (go_simp; with_reducible rfl)
    try simp only [Act.put, List.getElem_toArray, List.getElem_cons_zero, List.getElem_cons_succ, List.setIfInBounds_toArray, List.set_cons_zero, List.set_cons_succ]
    refine upto_takeN (i := 3) (v := ?_) rfl (by kernel_rfl) (by kernel_rfl) (by kernel_rfl) (by kernel_rfl) (fun _ _ _ h => h) (by rfl) hS ?_ ?_
    rotate_left
    · intro wS hSw
      try dsimp only at hSw
      first | (go_simp; done) | (go_simp; with_reducible rfl)
    try simp only [Act.put, List.getElem_toArray, List.getElem_cons_zero, List.getElem_cons_succ, List.setIfInBounds_toArray, List.set_cons_zero, List.set_cons_succ]
    refine upto_takeN (i := 4) (v := ?_) rfl (by kernel_rfl) (by kernel_rfl) (by kernel_rfl) (by kernel_rfl) (fun _ _ _ h => h) (by rfl) hS ?_ ?_
    rotate_left
    · intro wS hSw
      try dsimp only at hSw
      first | (go_simp; done) | (go_simp; with_reducible rfl)
    try simp only [Act.put, List.getElem_toArray, List.getElem_cons_zero, List.getElem_cons_succ, List.setIfInBounds_toArray, List.set_cons_zero, List.set_cons_succ]
    refine upto_takeN (i := 5) (v := ?_) rfl (by kernel_rfl) (by kernel_rfl) (by kernel_rfl) (by kernel_rfl) (fun _ _ _ h => h) (by rfl) hS ?_ ?_
    rotate_left
    · intro wS hSw
      try dsimp only at hSw
      first | (go_simp; done) | (go_simp; with_reducible rfl)
    try simp only [Act.put, List.getElem_toArray, List.getElem_cons_zero, List.getElem_cons_succ, List.setIfInBounds_toArray, List.set_cons_zero, List.set_cons_succ]
    refine upto_takeN (i := 6) (v := ?_) rfl (by kernel_rfl) (by kernel_rfl) (by kernel_rfl) (by kernel_rfl) (fun _ _ _ h => h) (by rfl) hS ?_ ?_
    rotate_left
    · intro wS hSw
      try dsimp only at hSw
      first | (go_simp; done) | (go_simp; with_reducible rfl)
    try simp only [Act.put, List.getElem_toArray, List.getElem_cons_zero, List.getElem_cons_succ, List.setIfInBounds_toArray, List.set_cons_zero, List.set_cons_succ]
    refine upto_step (i := 7) (by kernel_rfl) rfl ?_
    intro K hK
    go_simp
    refine hK _ _ (fun _ => ⟨by simp [go_sem], by simp [go_sem], by simp [go_sem]⟩) ?_
    clear hK K
    try simp only [Act.put, List.getElem_toArray, List.getElem_cons_zero, List.getElem_cons_succ, List.setIfInBounds_toArray, List.set_cons_zero, List.set_cons_succ]
    refine upto_takeN (i := 8) (v := ?_) rfl (by kernel_rfl) (by kernel_rfl) (by kernel_rfl) (by kernel_rfl) (fun _ _ _ h => h) (by rfl) ⟨by simp [go_sem], by simp [go_sem], by simp [go_sem]⟩ ?_ ?_
    rotate_left
    · intro wS hSw
      try dsimp only at hSw
      first | (go_simp; done) | (go_simp; with_reducible rfl)
    try simp only [Act.put, List.getElem_toArray, List.getElem_cons_zero, List.getElem_cons_succ, List.setIfInBounds_toArray, List.set_cons_zero, List.set_cons_succ]
    refine upto_step (i := 9) (by kernel_rfl) rfl ?_
    intro K hK
    go_simp
    refine hK _ _ (fun _ => ⟨by simp [go_sem], by simp [go_sem], by simp [go_sem]⟩) ?_
    clear hK K
    try simp only [Act.put, List.getElem_toArray, List.getElem_cons_zero, List.getElem_cons_succ, List.setIfInBounds_toArray, List.set_cons_zero, List.set_cons_succ]
    refine upto_takeN (i := 10) (v := ?_) rfl (by kernel_rfl) (by kernel_rfl) (by kernel_rfl) (by kernel_rfl) (fun _ _ _ h => h) (by rfl) ⟨by simp [go_sem], by simp [go_sem], by simp [go_sem]⟩ ?_ ?_
    rotate_left
    · intro wS hSw
      try dsimp only at hSw
      first | (go_simp; done) | (go_simp; with_reducible rfl)
    try simp only [Act.put, List.getElem_toArray, List.getElem_cons_zero, List.getElem_cons_succ, List.setIfInBounds_toArray, List.set_cons_zero, List.set_cons_succ]
    refine upto_step (i := 11) (by kernel_rfl) rfl ?_
    intro K hK
    go_simp
    refine hK _ _ (fun _ => ⟨by simp [go_sem], by simp [go_sem], by simp [go_sem]⟩) ?_
    clear hK K
    refine upto_done (by kernel_rfl) ?_
    refine NoPanic.normal ?_
    go_wp2
    exact bodyPost_ret (v := .agg #[.int .i64 5, .int .i64 to, .int .i64 frm, .int .i64 con, .int .i64 sh, .int .i64 bal, .int .i64 0, .int .i64 ob, .int .i64 ov]) (by simp [results, Tryz.results26, go_sem]) rfl ⟨rfl, by (repeat (first | exact Below.refl _ _ | assumption | refine Below.drew ?_ | refine balloc ?_ _ | refine bset ?_ (by simp; omega) _ | refine bset ?_ (by simp) _ | refine bstep ?_ (by assumption)))⟩
  · have HE : Hid (bareM ⟨6, to, frm, con, sh, bal, val, ob, ov⟩ = ⟨6, to, 0, con, 0, 0, val, 0, 0⟩) := by show _ = _; simp [bareM]
    rw [HE.out]
    unfold msgV
    dsimp only
    go_enter Tryz.func26, Tryz.ntmps26
    go_wp2
    exact bodyPost_ret (v := .agg #[.int .i64 6, .int .i64 to, .int .i64 0, .int .i64 con, .int .i64 0, .int .i64 0, .int .i64 val, .int .i64 0, .int .i64 0]) (by simp [results, Tryz.results26, go_sem]) rfl ⟨rfl, by (repeat (first | exact Below.refl _ _ | assumption | refine Below.drew ?_ | refine balloc ?_ _ | refine bset ?_ (by simp; omega) _ | refine bset ?_ (by simp) _ | refine bstep ?_ (by assumption)))⟩
theorem len_of {w : World} {α : Type} [Inhabited α] {R : Rep α} {e size : Nat} {lv : Value → List Value} {a : Option Addr} {n c : Nat} {xs : List α} (h : (nRep R e size lv).V w (.slice a n c) xs) : xs.length = n ∧ n ≤ 9223372036854775807 := by
  obtain ⟨a', c', e, h1, h2, _⟩ := h
  simp only [Value.slice.injEq] at e
  obtain ⟨rfl, rfl, rfl⟩ := e
  unfold maxLen at h2
  exact ⟨rfl, by omega⟩
set_option maxRecDepth 20000 in
set_option maxHeartbeats 8000000 in
theorem implMsg_any (x : Value) (c : Clu) (m : Msg) (w : World) (hx : cluR.V w x c) :
    Calls Tryz.prog 8 #[x, msgV m] w fun e w' => e = .returned (.int .i64 (msgF c m)) ∧ Below w.heap.size w w' := by
  obtain ⟨u1, u2, u3, u4, u5, rfl, h1, h2, h3, h4, h5⟩ := hx
  obtain ⟨a0, c0, rfl⟩ := conts_form h1
  obtain ⟨a1, c1, rfl⟩ := shds_form h2
  obtain ⟨a2, c2, rfl⟩ := accs_form h3
  obtain ⟨a3, c3, rfl⟩ := ldrs_form h4
  obtain ⟨a4, c4, rfl⟩ := msgs_form h5
  have l2 := len_of h2
  have l3 := len_of h3
  have l4 := len_of h4
  obtain ⟨n1, hn1⟩ : ∃ n1, n1 = c.shards.length := ⟨_, rfl⟩
  obtain ⟨n2, hn2⟩ : ∃ n2, n2 = c.accs.length := ⟨_, rfl⟩
  obtain ⟨n3, hn3⟩ : ∃ n3, n3 = c.ldrs.length := ⟨_, rfl⟩
  obtain ⟨n4, hn4⟩ : ∃ n4, n4 = c.msgs.length := ⟨_, rfl⟩
  rw [← hn1] at l2
  rw [← hn2] at l3
  rw [← hn3] at l4
  rw [← hn1, ← hn2, ← hn3, ← hn4]
  have HEn : Hid (inB m.kind 1 6 = true → ∀ W, Calls Tryz.prog 23 #[.agg #[.slice a0 c.cons.length c0, .slice a1 n1 c1, .slice a2 n2 c2, .slice a3 n3 c3, .slice a4 n4 c4], msgV m] W fun e w' => e = .returned (.bool (endsB c m)) ∧ Below W.heap.size W w') := fun hk W => hasEnds_any c m a0 a1 a2 a3 a4 _ n1 n2 n3 n4 c0 c1 c2 c3 c4 W ⟨hn1.symm, l2.2⟩ ⟨hn2.symm, l3.2⟩ ⟨hn3.symm, l4.2⟩ hk
  have HSu : Hid (∀ W, Below w.heap.size w W → Calls Tryz.prog 24 #[.agg #[.slice a0 c.cons.length c0, .slice a1 n1 c1, .slice a2 n2 c2, .slice a3 n3 c3, .slice a4 n4 c4], .int .i64 m.con] W (SubE c.cons m.con W)) := fun W hW => submitted_any a0 c0 _ _ _ _ c.cons m.con W ⟨_, _, _, _, _, _, _, _, _, _, _, _, rfl, rfl, rfl, rfl⟩ (contsR.below h1 hW)
  have HSa : Hid (inB m.kind 1 6 = true → ∀ p q W, legsR.V W (.slice p (xOf c m).legs.length q) (xOf c m).legs → Calls Tryz.prog 25 #[.agg #[.int .i64 (xOf c m).id, .slice p (xOf c m).legs.length q], msgV m] W fun e w' => e = .returned (.bool (saysB (xOf c m) m)) ∧ Below W.heap.size W w') := fun hk p q W hv => saysRight_any _ _ (xOf c m).legs m W hv hk
  have HNa : Hid (inB m.kind 1 6 = true → ∀ W, Calls Tryz.prog 26 #[msgV m] W fun e w' => e = .returned (msgV (bareM m)) ∧ Below W.heap.size W w') := fun hk W => namedOf_any m W hk
  have HZ5 : Hid (inB m.kind 1 6 = false → msgF c m = 5) := msgF_kind
  have HZ3 : Hid (inB m.kind 1 6 = true → endsB c m = false → msgF c m = 3) := msgF_ends
  have HZ4 : Hid (inB m.kind 1 6 = true → endsB c m = true → ¬ firstC c.cons m.con < c.cons.length → msgF c m = 4) := msgF_none
  have HZ6 : Hid (inB m.kind 1 6 = true → endsB c m = true → firstC c.cons m.con < c.cons.length → saysB (xOf c m) m = false → msgF c m = 3) := msgF_says
  have HZ7 : Hid (inB m.kind 1 6 = true → endsB c m = true → firstC c.cons m.con < c.cons.length → saysB (xOf c m) m = true → msgF c m = if m = bareM m then 0 else 1) := msgF_form
  have HX : Hid (xOf c m = c.cons.getD (firstC c.cons m.con) default) := rfl
  clear h1 h2 h3 h4 h5 hn1 hn2 hn3 hn4 l2 l3 l4
  generalize msgF c m = Z at *
  cases hk : inB m.kind 1 6
  · have HC : Hid (Z = 5) := HZ5.out hk
    unfold msgV
    obtain ⟨kind, to, frm, con, sh, bal, val, ob, ov⟩ := m
    dsimp only at hk ⊢
    clear HEn HSu HSa HNa HZ3 HZ4 HZ6 HZ7 HX HZ5
    go_enter Tryz.func8, Tryz.ntmps8
    go_wp2_with (first | (go_at_call 22; refine (within_any _ _ _ _).mono ?_; rintro e w' ⟨rfl, hw⟩; obtain rfl := hw.symm; rw [hk]))
    go_ret
    exact ⟨by rw [HC.out]; rfl, by (repeat (first | exact Below.refl _ _ | assumption | refine Below.drew ?_ | refine balloc ?_ _ | refine bset ?_ (by simp; omega) _ | refine bset ?_ (by simp) _ | refine bstep ?_ (by assumption)))⟩
  have HEn' := HEn.out hk
  have HSa' := HSa.out hk
  have HNa' := HNa.out hk
  have HZ3' : Hid (endsB c m = false → Z = 3) := HZ3.out hk
  have HZ4' : Hid (endsB c m = true → ¬ firstC c.cons m.con < c.cons.length → Z = 4) := HZ4.out hk
  have HZ6' : Hid (endsB c m = true → firstC c.cons m.con < c.cons.length → saysB (xOf c m) m = false → Z = 3) := HZ6.out hk
  have HZ7' : Hid (endsB c m = true → firstC c.cons m.con < c.cons.length → saysB (xOf c m) m = true → Z = if m = bareM m then 0 else 1) := HZ7.out hk
  have HE2 : Hid (∀ W, Calls Tryz.prog 23 #[.agg #[.slice a0 c.cons.length c0, .slice a1 n1 c1, .slice a2 n2 c2, .slice a3 n3 c3, .slice a4 n4 c4], msgV m] W fun e w' => e = .returned (.bool (endsB c m)) ∧ Below W.heap.size W w') := HEn'
  have HS2 : Hid (∀ p q W, legsR.V W (.slice p (xOf c m).legs.length q) (xOf c m).legs → Calls Tryz.prog 25 #[.agg #[.int .i64 (xOf c m).id, .slice p (xOf c m).legs.length q], msgV m] W fun e w' => e = .returned (.bool (saysB (xOf c m) m)) ∧ Below W.heap.size W w') := HSa'
  have HN2 : Hid (∀ W, Calls Tryz.prog 26 #[msgV m] W fun e w' => e = .returned (msgV (bareM m)) ∧ Below W.heap.size W w') := HNa'
  clear HEn HSa HNa HEn' HSa' HNa' HZ3 HZ4 HZ6 HZ7 HZ5
  generalize endsB c m = eb at *
  generalize saysB (xOf c m) m = sb at *
  obtain ⟨fi, hfi⟩ : ∃ fi, fi = firstC c.cons m.con := ⟨_, rfl⟩
  have HFi : Hid (fi = firstC c.cons m.con) := hfi
  clear hfi
  obtain ⟨bm, hbm⟩ : ∃ bm, bm = bareM m := ⟨_, rfl⟩
  rw [← hbm] at HN2 HZ7'
  clear hbm
  unfold msgV at HE2 HS2 HN2 ⊢
  obtain ⟨kind, to, frm, con, sh, bal, val, ob, ov⟩ := m
  obtain ⟨kind2, to2, frm2, con2, sh2, bal2, val2, ob2, ov2⟩ := bm
  dsimp only at hk HE2 HS2 HN2 HSu HFi HZ4' HZ6' HZ7' HX ⊢
  generalize xOf c ⟨kind, to, frm, con, sh, bal, val, ob, ov⟩ = xc at *
  go_enter Tryz.func8, Tryz.ntmps8
  go_wp2_with (first | (go_at_call 22; refine (within_any _ _ _ _).mono ?_; rintro e w' ⟨rfl, hw⟩; obtain rfl := hw.symm; rw [hk]))
  go_wp2_with fail
  refine (HE2.out _).mono ?_
  rintro e w1 ⟨rfl, hb1⟩
  have hB1 : Below w.heap.size w w1 := by (repeat (first | exact Below.refl _ _ | assumption | refine Below.drew ?_ | refine balloc ?_ _ | refine bset ?_ (by simp; omega) _ | refine bset ?_ (by simp) _ | refine bstep ?_ (by assumption)))
  have y0 : w1.cell? ⟨w.heap.size, 0, none⟩ = some (.slice a0 c.cons.length c0) := cell_keep hb1 (by simp [go_sem])
  have y1 : w1.cell? ⟨w.heap.size, 1, none⟩ = some (.slice a1 n1 c1) := cell_keep hb1 (by simp [go_sem])
  have y2 : w1.cell? ⟨w.heap.size, 2, none⟩ = some (.slice a2 n2 c2) := cell_keep hb1 (by simp [go_sem])
  have y3 : w1.cell? ⟨w.heap.size, 3, none⟩ = some (.slice a3 n3 c3) := cell_keep hb1 (by simp [go_sem])
  have y4 : w1.cell? ⟨w.heap.size, 4, none⟩ = some (.slice a4 n4 c4) := cell_keep hb1 (by simp [go_sem])
  have m0 : w1.cell? ⟨w.heap.size + 1, 0, none⟩ = some (.int .i64 kind) := cell_keep hb1 (by simp [go_sem])
  have m1 : w1.cell? ⟨w.heap.size + 1, 1, none⟩ = some (.int .i64 to) := cell_keep hb1 (by simp [go_sem])
  have m2 : w1.cell? ⟨w.heap.size + 1, 2, none⟩ = some (.int .i64 frm) := cell_keep hb1 (by simp [go_sem])
  have m3 : w1.cell? ⟨w.heap.size + 1, 3, none⟩ = some (.int .i64 con) := cell_keep hb1 (by simp [go_sem])
  have m4 : w1.cell? ⟨w.heap.size + 1, 4, none⟩ = some (.int .i64 sh) := cell_keep hb1 (by simp [go_sem])
  have m5 : w1.cell? ⟨w.heap.size + 1, 5, none⟩ = some (.int .i64 bal) := cell_keep hb1 (by simp [go_sem])
  have m6 : w1.cell? ⟨w.heap.size + 1, 6, none⟩ = some (.int .i64 val) := cell_keep hb1 (by simp [go_sem])
  have m7 : w1.cell? ⟨w.heap.size + 1, 7, none⟩ = some (.int .i64 ob) := cell_keep hb1 (by simp [go_sem])
  have m8 : w1.cell? ⟨w.heap.size + 1, 8, none⟩ = some (.int .i64 ov) := cell_keep hb1 (by simp [go_sem])
  clear hb1 HE2
  cases eb
  · have HC : Hid (Z = 3) := HZ3'.out rfl
    clear HZ3' HZ4' HZ6' HZ7' HSu HS2 HN2 HX HFi
    go_wp2
    go_ret
    exact ⟨by rw [HC.out]; rfl, by (repeat (first | exact Below.refl _ _ | assumption | refine Below.drew ?_ | refine balloc ?_ _ | refine bset ?_ (by simp; omega) _ | refine bset ?_ (by simp) _ | refine bstep ?_ (by assumption)))⟩
  have HZ4 : Hid (¬ firstC c.cons con < c.cons.length → Z = 4) := HZ4'.out rfl
  have HZ6 : Hid (firstC c.cons con < c.cons.length → sb = false → Z = 3) := HZ6'.out rfl
  have HZ7 : Hid (firstC c.cons con < c.cons.length → sb = true → Z = if (⟨kind, to, frm, con, sh, bal, val, ob, ov⟩ : Msg) = ⟨kind2, to2, frm2, con2, sh2, bal2, val2, ob2, ov2⟩ then 0 else 1) := HZ7'.out rfl
  clear HZ3' HZ4' HZ6' HZ7'
  go_wp2_with fail
  refine (HSu.out _ hB1).mono ?_
  rintro e w2 ⟨hb2, hr⟩
  have hB2 : Below w.heap.size w w2 := bstep hB1 hb2
  have hz2 : w.heap.size + 1 < w2.heap.size := by have h := World.block_lt_of_cell? _ _ m0; have := hb2.size; dsimp only at h; omega
  replace m0 := cell_keep hb2 m0
  replace m1 := cell_keep hb2 m1
  replace m2 := cell_keep hb2 m2
  replace m3 := cell_keep hb2 m3
  replace m4 := cell_keep hb2 m4
  replace m5 := cell_keep hb2 m5
  replace m6 := cell_keep hb2 m6
  replace m7 := cell_keep hb2 m7
  replace m8 := cell_keep hb2 m8
  clear hb2 HSu y0 y1 y2 y3 y4
  rcases hr with ⟨hlt, p, q, rfl, hlv⟩ | ⟨hlt, rfl⟩
  rotate_left
  · have HC : Hid (Z = 4) := HZ4.out hlt
    clear HZ4 HZ6 HZ7 HS2 HN2 HX HFi hlt
    go_wp2
    go_ret
    exact ⟨by rw [HC.out]; rfl, by (repeat (first | exact Below.refl _ _ | assumption | refine Below.drew ?_ | refine balloc ?_ _ | refine bset ?_ (by simp; omega) _ | refine bset ?_ (by simp) _ | refine bstep ?_ (by assumption)))⟩
  have HZ6' : Hid (sb = false → Z = 3) := HZ6.out hlt
  have HZ7' : Hid (sb = true → Z = if (⟨kind, to, frm, con, sh, bal, val, ob, ov⟩ : Msg) = ⟨kind2, to2, frm2, con2, sh2, bal2, val2, ob2, ov2⟩ then 0 else 1) := HZ7.out hlt
  rw [← HX.out] at hlv ⊢
  have HLv : Hid (legsR.V w2 (.slice p xc.legs.length q) xc.legs) := hlv
  clear HZ4 HZ6 HZ7 hlt hlv HX HFi
  go_wp2_with fail
  refine (HS2.out p q _ (legsR.below HLv.out (by (repeat (first | exact Below.refl _ _ | assumption | refine Below.drew ?_ | refine balloc ?_ _ | refine bset ?_ (by simp; omega) _ | refine bset ?_ (by simp) _ | refine bstep ?_ (by assumption)))))).mono ?_
  rintro e w3 ⟨rfl, hb3⟩
  have hB3 : Below w.heap.size w w3 := by (repeat (first | exact Below.refl _ _ | assumption | refine Below.drew ?_ | refine balloc ?_ _ | refine bset ?_ (by simp; omega) _ | refine bset ?_ (by simp) _ | refine bstep ?_ (by assumption)))
  replace m0 := cell_keep hb3 (cell_keep (by (repeat (first | exact Below.refl _ _ | assumption | refine Below.drew ?_ | refine balloc ?_ _ | refine bset ?_ (by simp; omega) _ | refine bset ?_ (by simp) _ | refine bstep ?_ (by assumption)))) m0)
  replace m1 := cell_keep hb3 (cell_keep (by (repeat (first | exact Below.refl _ _ | assumption | refine Below.drew ?_ | refine balloc ?_ _ | refine bset ?_ (by simp; omega) _ | refine bset ?_ (by simp) _ | refine bstep ?_ (by assumption)))) m1)
  replace m2 := cell_keep hb3 (cell_keep (by (repeat (first | exact Below.refl _ _ | assumption | refine Below.drew ?_ | refine balloc ?_ _ | refine bset ?_ (by simp; omega) _ | refine bset ?_ (by simp) _ | refine bstep ?_ (by assumption)))) m2)
  replace m3 := cell_keep hb3 (cell_keep (by (repeat (first | exact Below.refl _ _ | assumption | refine Below.drew ?_ | refine balloc ?_ _ | refine bset ?_ (by simp; omega) _ | refine bset ?_ (by simp) _ | refine bstep ?_ (by assumption)))) m3)
  replace m4 := cell_keep hb3 (cell_keep (by (repeat (first | exact Below.refl _ _ | assumption | refine Below.drew ?_ | refine balloc ?_ _ | refine bset ?_ (by simp; omega) _ | refine bset ?_ (by simp) _ | refine bstep ?_ (by assumption)))) m4)
  replace m5 := cell_keep hb3 (cell_keep (by (repeat (first | exact Below.refl _ _ | assumption | refine Below.drew ?_ | refine balloc ?_ _ | refine bset ?_ (by simp; omega) _ | refine bset ?_ (by simp) _ | refine bstep ?_ (by assumption)))) m5)
  replace m6 := cell_keep hb3 (cell_keep (by (repeat (first | exact Below.refl _ _ | assumption | refine Below.drew ?_ | refine balloc ?_ _ | refine bset ?_ (by simp; omega) _ | refine bset ?_ (by simp) _ | refine bstep ?_ (by assumption)))) m6)
  replace m7 := cell_keep hb3 (cell_keep (by (repeat (first | exact Below.refl _ _ | assumption | refine Below.drew ?_ | refine balloc ?_ _ | refine bset ?_ (by simp; omega) _ | refine bset ?_ (by simp) _ | refine bstep ?_ (by assumption)))) m7)
  replace m8 := cell_keep hb3 (cell_keep (by (repeat (first | exact Below.refl _ _ | assumption | refine Below.drew ?_ | refine balloc ?_ _ | refine bset ?_ (by simp; omega) _ | refine bset ?_ (by simp) _ | refine bstep ?_ (by assumption)))) m8)
  clear hb3 HS2 HLv hB2 hz2
  cases sb
  · have HC : Hid (Z = 3) := HZ6'.out rfl
    clear HZ6' HZ7' HN2
    go_wp2
    go_ret
    exact ⟨by rw [HC.out]; rfl, by (repeat (first | exact Below.refl _ _ | assumption | refine Below.drew ?_ | refine balloc ?_ _ | refine bset ?_ (by simp; omega) _ | refine bset ?_ (by simp) _ | refine bstep ?_ (by assumption)))⟩
  have HZ : Hid (Z = if (⟨kind, to, frm, con, sh, bal, val, ob, ov⟩ : Msg) = ⟨kind2, to2, frm2, con2, sh2, bal2, val2, ob2, ov2⟩ then 0 else 1) := HZ7'.out rfl
  clear HZ6' HZ7'
  have hne := neqMsg kind to frm con sh bal val ob ov kind2 to2 frm2 con2 sh2 bal2 val2 ob2 ov2
  go_wp2
  refine wp_region_noPanic ?_
  refine region_upto (fun W => W.cell? ⟨w.heap.size + 1, 0, none⟩ = some (.int .i64 kind) ∧ W.cell? ⟨w.heap.size + 1, 1, none⟩ = some (.int .i64 to) ∧ W.cell? ⟨w.heap.size + 1, 2, none⟩ = some (.int .i64 frm) ∧ W.cell? ⟨w.heap.size + 1, 3, none⟩ = some (.int .i64 con) ∧ W.cell? ⟨w.heap.size + 1, 4, none⟩ = some (.int .i64 sh) ∧ W.cell? ⟨w.heap.size + 1, 5, none⟩ = some (.int .i64 bal) ∧ W.cell? ⟨w.heap.size + 1, 6, none⟩ = some (.int .i64 val) ∧ W.cell? ⟨w.heap.size + 1, 7, none⟩ = some (.int .i64 ob) ∧ W.cell? ⟨w.heap.size + 1, 8, none⟩ = some (.int .i64 ov)) 4 (by kernel_rfl) ⟨cell_keep (by (repeat (first | exact Below.refl _ _ | assumption | refine Below.drew ?_ | refine balloc ?_ _ | refine bset ?_ (by simp; omega) _ | refine bset ?_ (by simp) _ | refine bstep ?_ (by assumption)))) m0, cell_keep (by (repeat (first | exact Below.refl _ _ | assumption | refine Below.drew ?_ | refine balloc ?_ _ | refine bset ?_ (by simp; omega) _ | refine bset ?_ (by simp) _ | refine bstep ?_ (by assumption)))) m1, cell_keep (by (repeat (first | exact Below.refl _ _ | assumption | refine Below.drew ?_ | refine balloc ?_ _ | refine bset ?_ (by simp; omega) _ | refine bset ?_ (by simp) _ | refine bstep ?_ (by assumption)))) m2, cell_keep (by (repeat (first | exact Below.refl _ _ | assumption | refine Below.drew ?_ | refine balloc ?_ _ | refine bset ?_ (by simp; omega) _ | refine bset ?_ (by simp) _ | refine bstep ?_ (by assumption)))) m3, cell_keep (by (repeat (first | exact Below.refl _ _ | assumption | refine Below.drew ?_ | refine balloc ?_ _ | refine bset ?_ (by simp; omega) _ | refine bset ?_ (by simp) _ | refine bstep ?_ (by assumption)))) m4, cell_keep (by (repeat (first | exact Below.refl _ _ | assumption | refine Below.drew ?_ | refine balloc ?_ _ | refine bset ?_ (by simp; omega) _ | refine bset ?_ (by simp) _ | refine bstep ?_ (by assumption)))) m5, cell_keep (by (repeat (first | exact Below.refl _ _ | assumption | refine Below.drew ?_ | refine balloc ?_ _ | refine bset ?_ (by simp; omega) _ | refine bset ?_ (by simp) _ | refine bstep ?_ (by assumption)))) m6, cell_keep (by (repeat (first | exact Below.refl _ _ | assumption | refine Below.drew ?_ | refine balloc ?_ _ | refine bset ?_ (by simp; omega) _ | refine bset ?_ (by simp) _ | refine bstep ?_ (by assumption)))) m7, cell_keep (by (repeat (first | exact Below.refl _ _ | assumption | refine Below.drew ?_ | refine balloc ?_ _ | refine bset ?_ (by simp; omega) _ | refine bset ?_ (by simp) _ | refine bstep ?_ (by assumption)))) m8⟩ (fun hS => ?_)
  refine upto_takeN (i := 0) (v := ?_) rfl (by kernel_rfl) (by kernel_rfl) (by kernel_rfl) (by kernel_rfl) (fun _ _ _ h => h) (by rfl) hS ?_ ?_
  rotate_left
  · intro wS hSw
    try dsimp only at hSw
    first | (go_simp; done) | (go_simp; with_reducible rfl)
  try simp only [Act.put, List.getElem_toArray, List.getElem_cons_zero, List.getElem_cons_succ, List.setIfInBounds_toArray, List.set_cons_zero, List.set_cons_succ]
  refine upto_takeN (i := 1) (v := ?_) rfl (by kernel_rfl) (by kernel_rfl) (by kernel_rfl) (by kernel_rfl) (fun _ _ _ h => h) (by rfl) hS ?_ ?_
  rotate_left
  · intro wS hSw
    try dsimp only at hSw
    first | (go_simp; done) | (go_simp; with_reducible rfl)
  try simp only [Act.put, List.getElem_toArray, List.getElem_cons_zero, List.getElem_cons_succ, List.setIfInBounds_toArray, List.set_cons_zero, List.set_cons_succ]
  refine upto_step (i := 2) (by kernel_rfl) rfl ?_
  intro K hK
  go_simp
  refine (HN2.out _).mono ?_
  rintro e w4 ⟨rfl, hb4⟩
  have hB4 : Below w.heap.size w w4 := bstep (by (repeat (first | exact Below.refl _ _ | assumption | refine Below.drew ?_ | refine balloc ?_ _ | refine bset ?_ (by simp; omega) _ | refine bset ?_ (by simp) _ | refine bstep ?_ (by assumption)))) hb4
  have hS4 : (fun W => W.cell? ⟨w.heap.size + 1, 0, none⟩ = some (.int .i64 kind) ∧ W.cell? ⟨w.heap.size + 1, 1, none⟩ = some (.int .i64 to) ∧ W.cell? ⟨w.heap.size + 1, 2, none⟩ = some (.int .i64 frm) ∧ W.cell? ⟨w.heap.size + 1, 3, none⟩ = some (.int .i64 con) ∧ W.cell? ⟨w.heap.size + 1, 4, none⟩ = some (.int .i64 sh) ∧ W.cell? ⟨w.heap.size + 1, 5, none⟩ = some (.int .i64 bal) ∧ W.cell? ⟨w.heap.size + 1, 6, none⟩ = some (.int .i64 val) ∧ W.cell? ⟨w.heap.size + 1, 7, none⟩ = some (.int .i64 ob) ∧ W.cell? ⟨w.heap.size + 1, 8, none⟩ = some (.int .i64 ov)) w4 := ⟨cell_keep hb4 (cell_keep (by (repeat (first | exact Below.refl _ _ | assumption | refine Below.drew ?_ | refine balloc ?_ _ | refine bset ?_ (by simp; omega) _ | refine bset ?_ (by simp) _ | refine bstep ?_ (by assumption)))) m0), cell_keep hb4 (cell_keep (by (repeat (first | exact Below.refl _ _ | assumption | refine Below.drew ?_ | refine balloc ?_ _ | refine bset ?_ (by simp; omega) _ | refine bset ?_ (by simp) _ | refine bstep ?_ (by assumption)))) m1), cell_keep hb4 (cell_keep (by (repeat (first | exact Below.refl _ _ | assumption | refine Below.drew ?_ | refine balloc ?_ _ | refine bset ?_ (by simp; omega) _ | refine bset ?_ (by simp) _ | refine bstep ?_ (by assumption)))) m2), cell_keep hb4 (cell_keep (by (repeat (first | exact Below.refl _ _ | assumption | refine Below.drew ?_ | refine balloc ?_ _ | refine bset ?_ (by simp; omega) _ | refine bset ?_ (by simp) _ | refine bstep ?_ (by assumption)))) m3), cell_keep hb4 (cell_keep (by (repeat (first | exact Below.refl _ _ | assumption | refine Below.drew ?_ | refine balloc ?_ _ | refine bset ?_ (by simp; omega) _ | refine bset ?_ (by simp) _ | refine bstep ?_ (by assumption)))) m4), cell_keep hb4 (cell_keep (by (repeat (first | exact Below.refl _ _ | assumption | refine Below.drew ?_ | refine balloc ?_ _ | refine bset ?_ (by simp; omega) _ | refine bset ?_ (by simp) _ | refine bstep ?_ (by assumption)))) m5), cell_keep hb4 (cell_keep (by (repeat (first | exact Below.refl _ _ | assumption | refine Below.drew ?_ | refine balloc ?_ _ | refine bset ?_ (by simp; omega) _ | refine bset ?_ (by simp) _ | refine bstep ?_ (by assumption)))) m6), cell_keep hb4 (cell_keep (by (repeat (first | exact Below.refl _ _ | assumption | refine Below.drew ?_ | refine balloc ?_ _ | refine bset ?_ (by simp; omega) _ | refine bset ?_ (by simp) _ | refine bstep ?_ (by assumption)))) m7), cell_keep hb4 (cell_keep (by (repeat (first | exact Below.refl _ _ | assumption | refine Below.drew ?_ | refine balloc ?_ _ | refine bset ?_ (by simp; omega) _ | refine bset ?_ (by simp) _ | refine bstep ?_ (by assumption)))) m8)⟩
  refine hK _ _ (fun _ => hS4) ?_
  clear hK K
  try simp only [Act.put, List.getElem_toArray, List.getElem_cons_zero, List.getElem_cons_succ, List.setIfInBounds_toArray, List.set_cons_zero, List.set_cons_succ]
  by_cases hq : (⟨kind, to, frm, con, sh, bal, val, ob, ov⟩ : Msg) = ⟨kind2, to2, frm2, con2, sh2, bal2, val2, ob2, ov2⟩
  · rw [decide_eq_true hq] at hne
    have HC : Hid (Z = 0) := by show _ = _; rw [HZ.out, if_pos hq]
    clear HZ hq
    refine upto_takeN (i := 3) (v := (.bool false)) rfl (by kernel_rfl) (by kernel_rfl) (by kernel_rfl) (by kernel_rfl) (fun _ _ _ h => h) (by rfl) hS4 ?_ ?_
    · intro wS hSw
      try dsimp only at hSw
      go_simp
    try simp only [Act.put, List.getElem_toArray, List.getElem_cons_zero, List.getElem_cons_succ, List.setIfInBounds_toArray, List.set_cons_zero, List.set_cons_succ]
    refine upto_done (by kernel_rfl) ?_
    refine NoPanic.normal ?_
    go_wp2
    go_ret
    exact ⟨by rw [HC.out]; rfl, hB4⟩
  · rw [decide_eq_false hq] at hne
    have HC : Hid (Z = 1) := by show _ = _; rw [HZ.out, if_neg hq]
    clear HZ hq
    refine upto_takeN (i := 3) (v := (.bool true)) rfl (by kernel_rfl) (by kernel_rfl) (by kernel_rfl) (by kernel_rfl) (fun _ _ _ h => h) (by rfl) hS4 ?_ ?_
    · intro wS hSw
      try dsimp only at hSw
      go_simp
    try simp only [Act.put, List.getElem_toArray, List.getElem_cons_zero, List.getElem_cons_succ, List.setIfInBounds_toArray, List.set_cons_zero, List.set_cons_succ]
    refine upto_done (by kernel_rfl) ?_
    refine NoPanic.normal ?_
    go_wp2
    go_ret
    exact ⟨by rw [HC.out]; rfl, hB4⟩
end Go.Proofs.YtggigaghfcpbbaaGreat


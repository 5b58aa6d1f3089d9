import Derived.Test.YtgibggjmliddlaaPrnSlotFaultLaw4
import Derived.Test.YtgibggjmliddlaaPrnSlotFaultLaw1
import Derived.Deep.Slices
import Derived.Lib.SmallJoins
import Derived.Test.YtgibggjmliddlaaPrnSlotFaultLaw2
import Derived.Deep.RegionHeld3
import Derived.Deep.DrawnRows
import Derived.Deep.Strs

/-
  SlotFault, the program's.
-/
set_option linter.unusedSimpArgs false
namespace Go.Proofs.Ytgibggjmliddlaa
open Go.RowKit
set_option linter.unusedSectionVars false
variable [DecidableEq Vot] [Inhabited Vot] [DecidableEq Slt] [Inhabited Slt] [DecidableEq Bal] [Inhabited Bal] [DecidableEq Ledg] [Inhabited Ledg] [DecidableEq Leg] [Inhabited Leg]
attribute [local go_sem ↓] Go.wp_at_zero Go.wp_at_succ

theorem other_or (v p : Vot) : other v p = (decide (v.bal < p.bal) || otherB v p) := rfl
set_option maxHeartbeats 4000000 in
theorem implSlotF_any (x : Value) (d : Slt) (w : World) (hx : sltR.V w x d) :
    Calls Try.prog 21 #[x] w fun e w' => e = .returned (.int .i64 (sltFault d)) ∧ Below w.heap.size w w' := by
  obtain ⟨u1, rfl, hx⟩ := hx
  obtain ⟨ax, cx, rfl, hcx, hmx, hx⟩ := hx
  unfold maxLen at hmx
  cases h1 : inB d.con 1 1000000000
  · rw [sltF_range (by simp [sltRange, h1])]
    go_enter Try.func21, Try.ntmps21
    go_wp2_with (first | (go_at_call 62; refine (isId_any _ _).mono ?_; rintro e w' ⟨rfl, rfl⟩) | (go_at_call 63; refine (isShard_any _ _).mono ?_; rintro e w' ⟨rfl, rfl⟩) | (go_at_call 47; refine (within_any _ _ _ _).mono ?_; rintro e w' ⟨rfl, rfl⟩))
    go_ret
    exact ⟨rfl, by (repeat (first | exact Below.refl _ _ | assumption | refine Below.drew ?_ | refine balloc ?_ _ | refine bset ?_ (by simp; omega) _ | refine bset ?_ (by simp) _ | refine bstep ?_ (by assumption)))⟩
  cases h2 : inB d.sh 0 2
  · rw [sltF_range (by simp [sltRange, h2])]
    go_enter Try.func21, Try.ntmps21
    go_wp2_with (first | (go_at_call 62; refine (isId_any _ _).mono ?_; rintro e w' ⟨rfl, rfl⟩) | (go_at_call 63; refine (isShard_any _ _).mono ?_; rintro e w' ⟨rfl, rfl⟩) | (go_at_call 47; refine (within_any _ _ _ _).mono ?_; rintro e w' ⟨rfl, rfl⟩))
    go_ret
    exact ⟨rfl, by (repeat (first | exact Below.refl _ _ | assumption | refine Below.drew ?_ | refine balloc ?_ _ | refine bset ?_ (by simp; omega) _ | refine bset ?_ (by simp) _ | refine bstep ?_ (by assumption)))⟩
  cases h3 : inB d.pr (-1) 1000
  · rw [sltF_range (by simp [sltRange, h3])]
    go_enter Try.func21, Try.ntmps21
    go_wp2_with (first | (go_at_call 62; refine (isId_any _ _).mono ?_; rintro e w' ⟨rfl, rfl⟩) | (go_at_call 63; refine (isShard_any _ _).mono ?_; rintro e w' ⟨rfl, rfl⟩) | (go_at_call 47; refine (within_any _ _ _ _).mono ?_; rintro e w' ⟨rfl, rfl⟩))
    go_ret
    exact ⟨rfl, by (repeat (first | exact Below.refl _ _ | assumption | refine Below.drew ?_ | refine balloc ?_ _ | refine bset ?_ (by simp; omega) _ | refine bset ?_ (by simp) _ | refine bstep ?_ (by assumption)))⟩
  have hR : Hid (sltRange d = true) := by show _ = _; simp [sltRange, h1, h2, h3]
  by_cases h6 : 60 < d.cast.length
  · rw [sltF_many hR.out h6]
    go_enter Try.func21, Try.ntmps21
    go_wp2_with (first | (go_at_call 62; refine (isId_any _ _).mono ?_; rintro e w' ⟨rfl, rfl⟩) | (go_at_call 63; refine (isShard_any _ _).mono ?_; rintro e w' ⟨rfl, rfl⟩) | (go_at_call 47; refine (within_any _ _ _ _).mono ?_; rintro e w' ⟨rfl, rfl⟩))
    go_ret
    exact ⟨rfl, by (repeat (first | exact Below.refl _ _ | assumption | refine Below.drew ?_ | refine balloc ?_ _ | refine bset ?_ (by simp; omega) _ | refine bset ?_ (by simp) _ | refine bstep ?_ (by assumption)))⟩
  obtain ⟨xs, hxs⟩ : ∃ xs, xs = d.cast := ⟨_, rfl⟩
  have HXS : Hid (d.cast = xs) := hxs.symm
  rw [← hxs] at h6 hcx hx ⊢
  clear hxs
  obtain ⟨n, hn'⟩ : ∃ n, n = xs.length := ⟨_, rfl⟩
  have HN : Hid (xs.length = n) := hn'.symm
  rw [← hn'] at h6 hcx hx ⊢
  clear hn'
  go_enter Try.func21, Try.ntmps21
  go_wp2_with (first | (go_at_call 62; refine (isId_any _ _).mono ?_; rintro e w' ⟨rfl, rfl⟩) | (go_at_call 63; refine (isShard_any _ _).mono ?_; rintro e w' ⟨rfl, rfl⟩) | (go_at_call 47; refine (within_any _ _ _ _).mono ?_; rintro e w' ⟨rfl, rfl⟩) | fail)
  refine (noVote_any _).mono ?_
  rintro e w1 ⟨rfl, hb1⟩
  have hB1 : Below w.heap.size w w1 := bstep (by (repeat (first | exact Below.refl _ _ | assumption | refine Below.drew ?_ | refine balloc ?_ _ | refine bset ?_ (by simp; omega) _ | refine bset ?_ (by simp) _ | refine bstep ?_ (by assumption)))) hb1
  have k2 : w1.cell? ⟨w.heap.size, 2, none⟩ = some (.int .i64 d.pr) := cell_keep hb1 (by simp [go_sem])
  have k3 : w1.cell? ⟨w.heap.size, 3, none⟩ = some (.int .i64 d.lb) := cell_keep hb1 (by simp [go_sem])
  have k4 : w1.cell? ⟨w.heap.size, 4, none⟩ = some (.int .i64 d.lv) := cell_keep hb1 (by simp [go_sem])
  have k5 : w1.cell? ⟨w.heap.size, 5, none⟩ = some (.slice ax n cx) := cell_keep hb1 (by simp [go_sem])
  clear hb1
  have z1 : w.heap.size < w1.heap.size := World.block_lt_of_cell? w1 _ k2
  go_wp2
  go_loopw [30] (fun i w' => ∃ k : Nat, k ≤ n ∧ i = .int .i64 k ∧ scanI (votAt xs) k = 0 ∧ (w'.cell? ⟨w.heap.size, 2, none⟩ = some (.int .i64 d.pr) ∧ w'.cell? ⟨w.heap.size, 3, none⟩ = some (.int .i64 d.lb) ∧ w'.cell? ⟨w.heap.size, 4, none⟩ = some (.int .i64 d.lv)) ∧ w'.cell? ⟨w1.heap.size, 0, none⟩ = some (.int .i64 (lastV xs k).bal) ∧ w'.cell? ⟨w1.heap.size, 1, none⟩ = some (.int .i64 (lastV xs k).val) ∧ (∀ o, w'.frozen? ⟨w1.heap.size, o, none⟩ = false) ∧ Below w.heap.size w w') (fun i _ => n - (intOf i).toNat)
  case atStart => exact ⟨0, Nat.zero_le _, rfl, rfl, ⟨cell_keep (balloc (Below.refl _ _) _) k2, cell_keep (balloc (Below.refl _ _) _) k3, cell_keep (balloc (Below.refl _ _) _) k4⟩, by simp [go_sem, lastV_zero, noV], by simp [go_sem, lastV_zero, noV], by simp [go_sem], by (repeat (first | exact Below.refl _ _ | assumption | refine Below.drew ?_ | refine balloc ?_ _ | refine bset ?_ (by simp; omega) _ | refine bset ?_ (by simp) _ | refine bstep ?_ (by assumption)))⟩
  case round =>
    clear k2 k3 k4 k5 hB1
    obtain ⟨k, hk, rfl, hs, ⟨c2, c3, c4⟩, e0, e1, ef, hbl⟩ := hrel
    have HS : Hid (scanI (votAt xs) k = 0) := hs
    clear hs
    have z0 : w.heap.size < wr.heap.size := World.block_lt_of_cell? wr _ c2
    have z2 : w1.heap.size < wr.heap.size := World.block_lt_of_cell? wr _ e0
    obtain ⟨q, hq⟩ : ∃ q, q = lastV xs k := ⟨_, rfl⟩
    have HQ : Hid (lastV xs k = q) := hq.symm
    rw [← hq] at e0 e1
    clear hq
    by_cases hlt : k < n
    · obtain ⟨bx, ox, rfl, g1⟩ := hx k hlt
      obtain ⟨l, hl⟩ : ∃ l, l = xs.getD k default := ⟨_, rfl⟩
      rw [← hl] at g1
      have HL : Hid (l = xs.getD k default) := hl
      clear hl hx
      obtain ⟨a1, a2⟩ := votCells_below hbl g1
      clear g1
      cases v1 : votB l
      · go_wp2_with (go_at_call 54; refine (isVote_any l _).mono ?_; rintro e w' ⟨rfl, hb⟩)
        go_ret
        refine ⟨?_, by (repeat (first | exact Below.refl _ _ | assumption | refine Below.drew ?_ | refine balloc ?_ _ | refine bset ?_ (by simp; omega) _ | refine bset ?_ (by simp) _ | refine bstep ?_ (by assumption)))⟩
        rw [sltF_hit (k := k) (c := 3) hR.out (by rw [HXS.out, HN.out]; omega) (by rw [HXS.out, HN.out]; exact hlt) (by rw [HXS.out]; exact HS.out) (by rw [HXS.out]; exact votAt_bad (by rw [← HL.out]; exact v1)) (by omega)]
        rfl
      have hok : Hid (votB (xs.getD k default) = true) := by show _ = _; rw [← HL.out]; exact v1
      go_wp2_with fail
      refine (isVote_any l _).mono ?_
      rintro e w2 ⟨rfl, hb2⟩
      have hB2 : Below w.heap.size w w2 := bstep (balloc hbl _) hb2
      have b0 : w2.cell? ⟨wr.heap.size, 0, none⟩ = some (.int .i64 l.bal) := cell_keep hb2 (by simp [go_sem])
      have b1 : w2.cell? ⟨wr.heap.size, 1, none⟩ = some (.int .i64 l.val) := cell_keep hb2 (by simp [go_sem])
      replace c2 := cell_keep hb2 (cell_keep (by (repeat (first | exact Below.refl _ _ | assumption | refine Below.drew ?_ | refine balloc ?_ _ | refine bset ?_ (by simp; omega) _ | refine bset ?_ (by simp) _ | refine bstep ?_ (by assumption)))) c2)
      replace c3 := cell_keep hb2 (cell_keep (by (repeat (first | exact Below.refl _ _ | assumption | refine Below.drew ?_ | refine balloc ?_ _ | refine bset ?_ (by simp; omega) _ | refine bset ?_ (by simp) _ | refine bstep ?_ (by assumption)))) c3)
      replace c4 := cell_keep hb2 (cell_keep (by (repeat (first | exact Below.refl _ _ | assumption | refine Below.drew ?_ | refine balloc ?_ _ | refine bset ?_ (by simp; omega) _ | refine bset ?_ (by simp) _ | refine bstep ?_ (by assumption)))) c4)
      replace e0 := cell_keep hb2 (cell_keep (by (repeat (first | exact Below.refl _ _ | assumption | refine Below.drew ?_ | refine balloc ?_ _ | refine bset ?_ (by simp; omega) _ | refine bset ?_ (by simp) _ | refine bstep ?_ (by assumption)))) e0)
      replace e1 := cell_keep hb2 (cell_keep (by (repeat (first | exact Below.refl _ _ | assumption | refine Below.drew ?_ | refine balloc ?_ _ | refine bset ?_ (by simp; omega) _ | refine bset ?_ (by simp) _ | refine bstep ?_ (by assumption)))) e1)
      replace ef : ∀ o, w2.frozen? ⟨w1.heap.size, o, none⟩ = false := fun o => by rw [(bcell hb2).2 _ _ (by simp; omega)]; simp [go_sem, ef, z2]
      clear hb2 hbl a1 a2
      rw [v1]
      by_cases q1 : l.bal < q.bal
      · go_wp2
        go_ret
        refine ⟨?_, hB2⟩
        rw [sltF_hit (k := k) (c := 1) hR.out (by rw [HXS.out, HN.out]; omega) (by rw [HXS.out, HN.out]; exact hlt) (by rw [HXS.out]; exact HS.out) (by rw [HXS.out]; exact votAt_other hok.out (by rw [← HL.out, HQ.out, other_or]; simp [q1])) (by omega)]
        rfl
      · go_wp2_with fail
        refine (isOtherwise_any l q _).mono ?_
        rintro e w3 ⟨rfl, hb3⟩
        have hB3 : Below w.heap.size w w3 := bstep hB2 hb3
        have z3 : w1.heap.size < w2.heap.size := World.block_lt_of_cell? w2 _ e0
        replace b0 := cell_keep hb3 b0
        replace b1 := cell_keep hb3 b1
        replace c2 := cell_keep hb3 c2
        replace c3 := cell_keep hb3 c3
        replace c4 := cell_keep hb3 c4
        replace e0 := cell_keep hb3 e0
        replace e1 := cell_keep hb3 e1
        replace ef : ∀ o, w3.frozen? ⟨w1.heap.size, o, none⟩ = false := fun o => by rw [(bcell hb3).2 _ _ z3]; exact ef o
        clear hb3 hB2
        cases q2 : otherB l q
        · go_wp2
          refine ⟨⟨k + 1, by omega, by go_num, scanI_succ HS.out (votAt_ok hok.out (by rw [← HL.out, HQ.out, other_or, q2]; simp [q1])), ⟨by simp [go_sem, c2], by simp [go_sem, c3], by simp [go_sem, c4]⟩, ?_, ?_, by simp [go_sem, ef], by (repeat (first | refine bset ?_ (by simp; omega) _ | refine bset ?_ (by simp) _ | refine balloc ?_ _ | assumption))⟩, by simp [intOf]; omega⟩
          · rw [lastV_succ, ← HL.out]
            simp [go_sem, e0]
          · rw [lastV_succ, ← HL.out]
            simp [go_sem, e1]
        · go_wp2
          go_ret
          refine ⟨?_, hB3⟩
          rw [sltF_hit (k := k) (c := 1) hR.out (by rw [HXS.out, HN.out]; omega) (by rw [HXS.out, HN.out]; exact hlt) (by rw [HXS.out]; exact HS.out) (by rw [HXS.out]; exact votAt_other hok.out (by rw [← HL.out, HQ.out, other_or, q2]; simp)) (by omega)]
          rfl
    · have hkn : k = n := by omega
      subst hkn
      have HE : Hid (sltFault d = if (d.lb = q.bal ∧ d.lv = q.val) ∧ d.lb ≤ d.pr then 0 else 1) := by
        show _ = _
        rw [sltF_end hR.out (by rw [HXS.out, HN.out]; omega) (by rw [HXS.out, HN.out]; exact HS.out), HXS.out, HN.out, HQ.out]
      clear hx hlt
      cases he : (decide (d.lb = q.bal) && decide (d.lv = q.val))
      · have heq : ∀ w, (binOp .neq 32 (.agg #[.int .i64 d.lb, .int .i64 d.lv]) (.agg #[.int .i64 q.bal, .int .i64 q.val])).run Try.prog w = .ok (.bool true) w := fun w => by rw [neqVot, he]; rfl
        go_wp2
        go_ret
        refine ⟨?_, hbl⟩
        rw [HE.out, if_neg (by simp at he; rintro ⟨⟨e1, e2⟩, _⟩; exact he e1 e2)]
        rfl
      · have heq : ∀ w, (binOp .neq 32 (.agg #[.int .i64 d.lb, .int .i64 d.lv]) (.agg #[.int .i64 q.bal, .int .i64 q.val])).run Try.prog w = .ok (.bool false) w := fun w => by rw [neqVot, he]; rfl
        simp at he
        have HB : Hid (d.lb = q.bal ∧ d.lv = q.val) := he
        clear he
        go_wp2
        · rename_i hle
          go_ret
          refine ⟨?_, hbl⟩
          rw [HE.out, if_neg (by rintro ⟨_, h⟩; have := HB.out.1; omega)]
          rfl
        · rename_i hle
          go_ret
          refine ⟨?_, hbl⟩
          rw [HE.out, if_pos ⟨HB.out, by have := HB.out.1; omega⟩]
          rfl
end Go.Proofs.Ytgibggjmliddlaa

/-
  What is handed in, read as data, is data in memory: rows and structs of rows.
-/
namespace Go.Proofs.Ytgibggjmliddlaa
open Go.ChangeShapes Go.WideShapes Go.ChangeAt Go.RowKit Go.Joins

theorem spot_none {W : World} {base k : Nat} {a : Addr} {cs : List Value} (hk : 0 < k) (hc : W.cells? base a k = some cs) : a.spot = none := by
  obtain ⟨hb, hl, hcell⟩ := World.cells?_some hc
  have q0 := hcell 0 hk
  obtain ⟨b, o, s⟩ := a
  cases s with
  | none => rfl
  | some s =>
    have : 0 < cs.length := by omega
    simp [Addr.add, World.cell?, this] at q0
    split at q0 <;> simp at q0
theorem add_plain (b o i : Nat) : (Addr.mk b o none).add i = ⟨b, o + i, none⟩ := by
  by_cases h : i = 0
  · subst h; simp [Addr.add]
  · simp [Addr.add, h]
theorem openRow {H : Type} {enc : TypeId × Value → H} {W : World} {sp : Nat → Bool} {held : Bool} {n : Nat} {v : Value} {y : DataW H × List MemPlace} {t e size : Nat} {α : Type} [Inhabited α] {q : List Value → α → Prop}
    (ht : Try.prog.underlying t = some (.slice e)) (hz : Try.prog.cellsOf e = size) (hs : 0 < size)
    (hq : ∀ n cs y, DataW.trod enc Try.prog W 0 sp held n e cs = some y → cs.length = size → ∃ x, q cs x) (h : DataW.trod enc Try.prog W 0 sp held n t [v] = some y) :
    ∃ (a : Option Addr) (cap : Nat) (xs : List α) (cs : Nat → List Value), v = .slice a xs.length cap ∧ xs.length ≤ cap ∧ cap ≤ maxLen ∧ ∀ i, i < xs.length → q (cs i) (xs.getD i default) ∧ (cs i).length = size ∧ ∃ b o, a = some ⟨b, o, none⟩ ∧ ∀ j, j < size → W.cell? ⟨b, o + i * size + j, none⟩ = (cs i)[j]? := by
  rcases Go.Deep.open_slice ht h with ⟨hcs, _⟩ | ⟨a, len, cap, m, n', D, Pl, hcs, hb, hl, hm, hmm, _, hc⟩
  · simp at hcs
    subst hcs
    exact ⟨none, 0, [], fun _ => [], rfl, by simp, by unfold maxLen; omega, fun i hi => by simp at hi⟩
  · simp at hcs
    subst hcs
    have hlm : len ≤ m := by rw [hmm]; split <;> omega
    rw [hz] at hc
    have h1 : ∀ i, i < len → ∃ z : List Value × α, q z.1 z.2 ∧ z.1.length = size ∧ ∃ b o, a = ⟨b, o, none⟩ ∧ ∀ j, j < size → W.cell? ⟨b, o + i * size + j, none⟩ = z.1[j]? := by
      intro i hi
      obtain ⟨cs', h1, h2⟩ := hc i (by omega)
      obtain ⟨_, hl', hcell⟩ := World.cells?_some h1
      obtain ⟨x, hx⟩ := hq _ _ _ h2 hl'
      obtain ⟨cs0, k1, _⟩ := hc 0 (by omega)
      have hsp := spot_none hs k1
      obtain ⟨b, o, s⟩ := a
      have hs0 : s = none := by simpa [Addr.add] using hsp
      subst hs0
      refine ⟨(cs', x), hx, hl', b, o, rfl, fun j hj => ?_⟩
      have := hcell j hj
      rw [add_plain, add_plain] at this
      exact this
    obtain ⟨f, hf⟩ := Go.Deep.choose_lt h1
    refine ⟨some a, cap, (List.range len).map (fun i => (f i).2), fun i => (f i).1, by simp, by simpa using hl, hm, fun i hi => ?_⟩
    simp at hi
    obtain ⟨g1, g2, b, o, rfl, g3⟩ := hf i hi
    have e : (List.map (fun i => (f i).2) (List.range len)).getD i default = (f i).2 := by simp [List.getD, hi]
    rw [e]
    exact ⟨g1, g2, b, o, rfl, g3⟩
end Go.Proofs.Ytgibggjmliddlaa

/-
  Votes and slots handed in.
-/
namespace Go.Proofs.Ytgibggjmliddlaa
open Go.ChangeShapes Go.WideShapes Go.ChangeAt Go.RowKit Go.Joins
set_option linter.unusedSectionVars false
variable [DecidableEq Vot] [Inhabited Vot] [DecidableEq Slt] [Inhabited Slt]

theorem cellsNum : Try.prog.cellsOf 2 = 1 := by kernel_rfl
theorem cellsVot : Try.prog.cellsOf 42 = 2 := by kernel_rfl
theorem cellsVots : Try.prog.cellsOf 43 = 1 := by kernel_rfl
theorem trod_struct5 {H : Type} {enc : TypeId × Value → H} {P : Program} {w : World} {base : Nat} {spare : Nat → Bool} {held : Bool} {t : TypeId} {f0 f1 f2 f3 f4 : Field} {fuel : Nat} {cs : List Value} {x : DataW H × List MemPlace} (ht : P.underlying t = some (.struct #[f0, f1, f2, f3, f4])) (h : DataW.trod enc P w base spare held fuel t cs = some x) :
    ∃ y0 y1 y2 y3 y4 n, cs.length = P.cellsOf t ∧ DataW.trod enc P w base spare held n f0.type ((cs.drop f0.offset).take (P.cellsOf f0.type)) = some y0 ∧
      DataW.trod enc P w base spare held n f1.type ((cs.drop f1.offset).take (P.cellsOf f1.type)) = some y1 ∧ DataW.trod enc P w base spare held n f2.type ((cs.drop f2.offset).take (P.cellsOf f2.type)) = some y2 ∧
      DataW.trod enc P w base spare held n f3.type ((cs.drop f3.offset).take (P.cellsOf f3.type)) = some y3 ∧ DataW.trod enc P w base spare held n f4.type ((cs.drop f4.offset).take (P.cellsOf f4.type)) = some y4 := by
  obtain ⟨xs, n, _, rfl, hl, hlen, hf⟩ := DataW.trod_struct ht h
  match xs, hlen with
  | [y0, y1, y2, y3, y4], _ => exact ⟨y0, y1, y2, y3, y4, n, hl, by simpa using hf 0 f0 rfl, by simpa using hf 1 f1 rfl, by simpa using hf 2 f2 rfl, by simpa using hf 3 f3 rfl, by simpa using hf 4 f4 rfl⟩
theorem openVot {H : Type} {enc : TypeId × Value → H} {W : World} {sp : Nat → Bool} {held : Bool} {n : Nat} {cs : List Value} {y : DataW H × List MemPlace}
    (ht : DataW.trod enc Try.prog W 0 sp held n 42 cs = some y) (hl : cs.length = 2) : ∃ x : Vot, cs = votC x := by
  obtain ⟨y0, y1, m, hy, hlen, h0, h1⟩ := trod_struct2 Try.underlying42 ht
  simp only [cellsNum] at h0 h1
  match cs, hl with
  | [c0, c1], _ =>
    obtain ⟨x0, e0, _⟩ := DataW.trod_int Try.underlying2 h0
    obtain ⟨x1, e1, _⟩ := DataW.trod_int Try.underlying2 h1
    simp at e0 e1
    subst e0 e1
    exact ⟨⟨x0, x1⟩, rfl⟩
theorem openVots {H : Type} {enc : TypeId × Value → H} {W : World} {sp : Nat → Bool} {held : Bool} {n : Nat} {v : Value} {y : DataW H × List MemPlace}
    (ht : DataW.trod enc Try.prog W 0 sp held n 43 [v] = some y) : ∃ xs : List Vot, votsR.V W v xs := by
  obtain ⟨a, cap, xs, cs, rfl, h1, h2, h3⟩ := openRow (q := fun cs x => cs = votC x) Try.underlying43 cellsVot (by omega) (fun n cs y h hl => openVot h hl) ht
  refine ⟨xs, a, cap, rfl, h1, h2, fun i hi => ?_⟩
  obtain ⟨g1, g3, b, o, g4, g5⟩ := h3 i hi
  rw [g1] at g5
  exact ⟨b, o, g4, g5 0 (by omega), g5 1 (by omega)⟩
theorem openSlt {H : Type} {enc : TypeId × Value → H} {W : World} {sp : Nat → Bool} {held : Bool} {n : Nat} {cs : List Value} {y : DataW H × List MemPlace}
    (ht : DataW.trod enc Try.prog W 0 sp held n 45 cs = some y) (hl : cs.length = 6) : ∃ (x : Slt) (u : Value), cs = [.int .i64 x.con, .int .i64 x.sh, .int .i64 x.pr, .int .i64 x.lb, .int .i64 x.lv, u] ∧ votsR.V W u x.cast := by
  obtain ⟨y0, y1, y2, y3, y4, m, hlen, h0, h1, h2, h3, h4⟩ := trod_struct5 Try.underlying45 ht
  simp only [cellsNum, cellsVot, cellsVots] at h0 h1 h2 h3 h4
  match cs, hl with
  | [c0, c1, c2, c3, c4, c5], _ =>
    obtain ⟨x0, e0, _⟩ := DataW.trod_int Try.underlying2 h0
    obtain ⟨x1, e1, _⟩ := DataW.trod_int Try.underlying2 h1
    obtain ⟨x2, e2, _⟩ := DataW.trod_int Try.underlying2 h2
    obtain ⟨l, el⟩ := openVot h3 rfl
    obtain ⟨xs, hx⟩ := openVots h4
    simp at e0 e1 e2
    simp [votC] at el
    obtain ⟨rfl, rfl⟩ := el
    subst e0 e1 e2
    exact ⟨⟨x0, x1, x2, l.bal, l.val, xs⟩, c5, rfl, hx⟩
set_option maxRecDepth 20000 in
theorem openSltT {H : Type} {enc : TypeId × Value → H} {W : World} {sp : Nat → Bool} {held : Bool} {v : Value} {d : DataW H} {p : List MemPlace} {base : Nat} {r : Reach}
    (hv : Value.okWide Try.prog W r base 45 v) (h : DataW.Trod enc Try.prog W 0 sp held 45 v d p) : ∃ x, sltR.V W v x := by
  obtain ⟨cs, rfl, hsz⟩ := okWide_struct Try.underlying45 hv
  have hC : Try.prog.cellsOf 45 = 6 := by kernel_rfl
  obtain ⟨fuel, hf⟩ := h
  obtain ⟨x, u, e, hx⟩ := openSlt hf (by simpa [Value.cells] using hsz.trans hC)
  have e' : cs = #[.int .i64 x.con, .int .i64 x.sh, .int .i64 x.pr, .int .i64 x.lb, .int .i64 x.lv, u] := by
    obtain ⟨l⟩ := cs
    simp [Value.cells] at e
    rw [e]
  subst e'
  exact ⟨x, u, rfl, hx⟩
end Go.Proofs.Ytgibggjmliddlaa


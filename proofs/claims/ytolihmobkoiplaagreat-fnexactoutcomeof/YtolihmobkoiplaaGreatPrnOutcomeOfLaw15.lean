import Derived.Test.YtolihmobkoiplaaGreatPrnOutcomeOfLaw11
import Derived.Test.YtolihmobkoiplaaGreatPrnOutcomeOfLaw14
import Derived.BigQuiet
import Derived.Deep.QuietTactic
import Derived.Deep.RegionHeld3
import Derived.Test.YtolihmobkoiplaaGreatPrnOutcomeOfLaw10
import Derived.Test.YtolihmobkoiplaaGreatPrnOutcomeOfLaw4
import Derived.Test.YtolihmobkoiplaaGreatPrnOutcomeOfLaw5
import Derived.Test.YtolihmobkoiplaaGreatPrnOutcomeOfLaw9
import Derived.Test.YtolihmobkoiplaaGreatPrnOutcomeOfLaw7

/-
  OutcomeOf, in mathematics; a map cleared.
-/
set_option linter.unusedSimpArgs false
set_option linter.unusedVariables false
namespace Go.Proofs.YtolihmobkoiplaaGreat
open Go.RowKit Go.Maps
set_option linter.unusedSectionVars false
variable [DecidableEq Vot] [Inhabited Vot] [DecidableEq Slt] [Inhabited Slt] [DecidableEq SltR] [Inhabited SltR] [DecidableEq Bal] [Inhabited Bal] [DecidableEq Ledg] [Inhabited Ledg] [DecidableEq Leg] [Inhabited Leg] [DecidableEq Acc] [Inhabited Acc] [DecidableEq AccR] [Inhabited AccR] [DecidableEq AccsR] [Inhabited AccsR] [DecidableEq SltsR] [Inhabited SltsR] [DecidableEq Cont] [Inhabited Cont]
attribute [local go_sem ↓] Go.wp_at_zero Go.wp_at_succ

def outA (f : Int → Int) (shs : List Int) : Nat → Int
  | 0 => 1
  | k + 1 => if f (shs.getD k 0) = 0 then 0 else outA f shs k
def outV (f : Int → Int) (shs : List Int) : Int := if shs.any (fun s => decide (f s = 2)) = true then 2 else outA f shs shs.length
theorem outV_hit {f : Int → Int} {shs : List Int} {k : Nat} (hk : k < shs.length) (h : f (shs.getD k 0) = 2) : outV f shs = 2 := by
  unfold outV
  rw [if_pos]
  rw [List.any_eq_true]
  exact ⟨shs.getD k 0, by simp [List.getD, hk], decide_eq_true h⟩
theorem outV_end {f : Int → Int} {shs : List Int} (h : ∀ k, k < shs.length → ¬ f (shs.getD k 0) = 2) : outV f shs = outA f shs shs.length := by
  unfold outV
  rw [if_neg]
  rw [List.any_eq_true]
  rintro ⟨s, hs, h2⟩
  obtain ⟨i, hi, rfl⟩ := List.getElem_of_mem hs
  have h3 : f shs[i] = 2 := of_decide_eq_true h2
  exact h i hi (by rw [show shs.getD i 0 = shs[i] by simp [List.getD, hi]]; exact h3)
def outC (l : List Acc) (c : Cont) : Int := if listF l = 0 then contractFault c.id c.legs else listF l
def outR (l : List Acc) (c : Cont) (ysf : Int → List Vot) : Int := if outC l c = 0 then outV (fun s => hdV (ysf s)) (shardsL c.legs) else 0
theorem outC_ok {l : List Acc} {c : Cont} (h : outC l c = 0) : listF l = 0 ∧ contractFault c.id c.legs = 0 := by
  unfold outC at h
  by_cases h1 : listF l = 0
  · rw [if_pos h1] at h; exact ⟨h1, h⟩
  · rw [if_neg h1] at h; exact absurd h h1
theorem cf_id {id : Int} {xs : List Leg} (h : contractFault id xs = 0) {s : Int} (hs : s ∈ shardsL xs) : idOk id s = true := by
  have h1 : inB id 1 1000000000 = true := (cf_inv h).1
  have h2 : s = 0 ∨ s = 1 ∨ s = 2 := by
    unfold shardsL sl at hs
    simp only [List.mem_append] at hs
    rcases hs with (hs | hs) | hs
    · split at hs <;> simp at hs; exact .inl hs
    · split at hs <;> simp at hs; exact .inr (.inl hs)
    · split at hs <;> simp at hs; exact .inr (.inr hs)
  unfold idOk
  rw [h1, Bool.true_and]
  exact inBi.2 (by omega)
theorem out_ex (l : List Acc) (c : Cont) : ∃ ysf : Int → List Vot, outC l c = 0 → ∀ s, s ∈ shardsL c.legs → Chs (slotsL l c.id s) (ysf s) := by
  by_cases h : outC l c = 0
  · obtain ⟨h1, h2⟩ := outC_ok h
    refine ⟨fun s => Classical.choose (chs_exL l c.id s), fun _ s hs => Classical.choose_spec (chs_exL l c.id s) ?_⟩
    unfold freC
    rw [if_pos h1, if_pos (cf_id h2 hs)]
  · exact ⟨fun _ => [], fun h' => absurd h' h⟩
theorem sh_mem {xs : List Leg} {k : Nat} (hk : k < (shardsL xs).length) : (shardsL xs).getD k 0 ∈ shardsL xs := by simp [List.getD, hk]
theorem bkv_clear {w : World} {B n : Nat} {f : Vot → Option Int} (h : Bkv w B n f) (ty : TypeId) : ∃ w', (Builtin.clear_ #[59] ty #[.map (some B)]).run Tryz.prog w = .ok (.tuple #[]) w' ∧ Bkv w' B 0 (fun _ => none) ∧ Mod (fun b => b = B) w w' := by
  obtain ⟨D, ⟨es, clock, hb, _⟩, _⟩ := h
  have hlt : B < w.heap.size := (Array.getElem?_eq_some_iff.1 hb).1
  refine ⟨ChangeMaps.setBlock w B (.map #[] clock), ?_, ⟨.map [], ⟨#[], clock, ?_, ⟨by simp, MapKept.stamped_empty clock, by simp⟩, Nat.le_refl _, rfl⟩, fun _ _ _ => ⟨rfl, rfl⟩⟩, setBlk_mod w B _⟩
  · simp [Builtin.clear_, run_underlying Tryz.underlying59, MapKept.run_getObj_map hb, MapKept.run_setObj_map _ hb, Result.andThen, ChangeMaps.setBlock]
  · simp [ChangeMaps.setBlock, hlt]
theorem wpl_clear {w : World} {ops : Array Oper} {rest : List Oper} {o : Oper} {a : Act} {Q : Exit → Act → World → Prop} (hgd : o.guard = none) (s : Operand) (t : TypeId)
    (ho : o.op = .call { callee := .builtin .clear, args := #[s], argTypes := #[t] }) (v : Value) (hs : a.eval s = v) {v' : Value} {w' : World}
    (hr : (Builtin.clear_ #[t] o.type #[v]).run Tryz.prog w = .ok v' w') (h : wpList Tryz.prog ops Q rest (a.put o.dst v') w') : wpList Tryz.prog ops Q (o :: rest) a w := by
  refine wpList_plain hgd fun K hK => ?_
  unfold Oper.wp execOp
  simp only [ho, resolve, invoke, builtin, Sem.run_bind, Sem.run_pure, Result.andThen_ok, List.map_toArray, List.map_cons, List.map_nil, hs, hr]
  exact hK _ _ h
theorem bkv_clear2 {w : World} {B n : Nat} {f : Vot → Option Int} (h : Bkv w B n f) : ∃ w', (∀ ty, (Builtin.clear_ #[59] ty #[.map (some B)]).run Tryz.prog w = .ok (.tuple #[]) w') ∧ Bkv w' B 0 (fun _ => none) ∧ Mod (fun b => b = B) w w' := by
  obtain ⟨w', h1, h2, h3⟩ := bkv_clear h 0
  exact ⟨w', fun ty => h1, h2, h3⟩
end Go.Proofs.YtolihmobkoiplaaGreat

/-
  The slot that is asked, the document's.
-/
set_option linter.unusedSimpArgs false
set_option linter.unusedVariables false
namespace Go.Proofs.YtolihmobkoiplaaGreat
open Go.RowKit
set_option linter.unusedSectionVars false
variable [DecidableEq Vot] [Inhabited Vot] [DecidableEq Slt] [Inhabited Slt] [DecidableEq SltR] [Inhabited SltR] [DecidableEq Bal] [Inhabited Bal] [DecidableEq Ledg] [Inhabited Ledg] [DecidableEq Leg] [Inhabited Leg] [DecidableEq Acc] [Inhabited Acc] [DecidableEq AccR] [Inhabited AccR] [DecidableEq AccsR] [Inhabited AccsR] [DecidableEq SltsR] [Inhabited SltsR]
attribute [local go_sem ↓] Go.wp_at_zero Go.wp_at_succ

set_option maxRecDepth 20000 in
set_option maxHeartbeats 8000000 in
theorem l9Slot_u (x : Value) (d : Acc) (c s : Int) (w : World) (hx : accR.V w x d) (hid : idOk c s = true) (hw : ∀ k, k < d.slots.length → (d.slots.getD k default).cast.length ≤ 1048576) :
    Calls Tryz.prog 72 #[x, .int .i64 c, .int .i64 s] w fun e w' => ∃ v F, e = .returned v ∧ sltR.O w' w.heap.size F v (slotO d.slots (freS c s)) ∧ Below w.heap.size w w' := by
  obtain ⟨u1, rfl, hx⟩ := hx
  obtain ⟨xs⟩ := d
  dsimp only at hx hw ⊢
  obtain ⟨au, cu, rfl, hcx, hmx, hx⟩ := hx
  unfold maxLen at hmx
  have hXs : Hid (∀ k, k < xs.length → ∃ b o p q, au = some ⟨b, o, none⟩ ∧ (w.cell? ⟨b, o + k * 6, none⟩ = some (.int .i64 (xs.getD k default).con) ∧ w.cell? ⟨b, o + k * 6 + 1, none⟩ = some (.int .i64 (xs.getD k default).sh) ∧ w.cell? ⟨b, o + k * 6 + 2, none⟩ = some (.int .i64 (xs.getD k default).pr) ∧ w.cell? ⟨b, o + k * 6 + 3, none⟩ = some (.int .i64 (xs.getD k default).lb) ∧ w.cell? ⟨b, o + k * 6 + 4, none⟩ = some (.int .i64 (xs.getD k default).lv) ∧ w.cell? ⟨b, o + k * 6 + 5, none⟩ = some (.slice p (xs.getD k default).cast.length q)) ∧ sltR.V w (.agg #[.int .i64 (xs.getD k default).con, .int .i64 (xs.getD k default).sh, .int .i64 (xs.getD k default).pr, .int .i64 (xs.getD k default).lb, .int .i64 (xs.getD k default).lv, .slice p (xs.getD k default).cast.length q]) (xs.getD k default)) := fun k hk => slts_at hx hk
  have HW : Hid (∀ k, k < xs.length → (xs.getD k default).cast.length ≤ 1048576) := hw
  have HNew : Hid (∀ W, Calls Tryz.prog 89 #[.int .i64 c, .int .i64 s] W (NewE c s W)) := fun W => specNew_ok c s W hid
  clear hx hw hid
  obtain ⟨n, hn'⟩ : ∃ n, n = xs.length := ⟨_, rfl⟩
  have HN : Hid (xs.length = n) := hn'.symm
  rw [← hn'] at hcx hXs HW ⊢
  clear hn'
  go_enter Tryz.func72, Tryz.ntmps72
  go_wp2
  go_loopw [7] (fun i w' => ∃ k : Nat, k ≤ n ∧ i = .int .i64 k ∧ Hid (∀ j, j < k → sameS (xs.getD j default) (freS c s) = false) ∧ Hid (w' = (w.alloc (.cells #[.slice au n cu] 51)).alloc (.cells #[.int .i64 0, .int .i64 0, .int .i64 0, .int .i64 0, .int .i64 0, .slice none 0 0] 66))) (fun i _ => n - (intOf i).toNat)
  case atStart => exact ⟨0, Nat.zero_le _, rfl, fun j h => absurd h (Nat.not_lt_zero _), rfl⟩
  case round =>
    obtain ⟨k, hk, rfl, HP, HWR⟩ := hrel
    have hbl : Below w.heap.size w wr := by rw [HWR.out]; (repeat (first | exact Below.refl _ _ | assumption | refine Below.drew ?_ | refine balloc ?_ _ | refine bset ?_ (by simp; omega) _ | refine bset ?_ (by simp) _ | refine bstep ?_ (by assumption)))
    have y0 : wr.cell? ⟨w.heap.size, 0, none⟩ = some (.slice au n cu) := by rw [HWR.out]; simp [go_sem]
    have r0 : wr.cell? ⟨w.heap.size + 1, 0, none⟩ = some (.int .i64 0) := by rw [HWR.out]; simp [go_sem]
    have r1 : wr.cell? ⟨w.heap.size + 1, 1, none⟩ = some (.int .i64 0) := by rw [HWR.out]; simp [go_sem]
    have r2 : wr.cell? ⟨w.heap.size + 1, 2, none⟩ = some (.int .i64 0) := by rw [HWR.out]; simp [go_sem]
    have r3 : wr.cell? ⟨w.heap.size + 1, 3, none⟩ = some (.int .i64 0) := by rw [HWR.out]; simp [go_sem]
    have r4 : wr.cell? ⟨w.heap.size + 1, 4, none⟩ = some (.int .i64 0) := by rw [HWR.out]; simp [go_sem]
    have r5 : wr.cell? ⟨w.heap.size + 1, 5, none⟩ = some (.slice none 0 0) := by rw [HWR.out]; simp [go_sem]
    have rf : ∀ o, wr.frozen? ⟨w.heap.size + 1, o, none⟩ = false := fun o => by rw [HWR.out]; simp [go_sem]
    have zy : w.heap.size + 1 < wr.heap.size := World.block_lt_of_cell? wr _ r0
    by_cases hlt : k < n
    · obtain ⟨b, o, pp, qq, rfl, hc, hV⟩ := hXs.out k hlt
      have hcw := HW.out k hlt
      obtain ⟨l, hl⟩ : ∃ l, l = xs.getD k default := ⟨_, rfl⟩
      rw [← hl] at hc hV hcw
      have HL : Hid (l = xs.getD k default) := hl
      clear hl
      obtain ⟨g0, g1, g2, g3, g4, g5⟩ := (sltKeep2 hbl hc hc).2.1
      clear hc
      have zb : b < wr.heap.size := World.block_lt_of_cell? wr _ g0
      by_cases m1 : l.con = c
      · by_cases m2 : l.sh = s
        · have f1 : (l.con == c) = true := by simp [m1]
          have f2 : (l.sh == s) = true := by simp [m2]
          have HS : Hid (slotO xs (freS c s) = l) := by
            show _ = _
            rw [HL.out]
            exact slotO_at (by rw [HN.out]; exact hlt) HP.out (sameS_iff.2 (by rw [← HL.out]; exact ⟨m1, m2⟩))
          have HCp : Hid (∀ W, Below w.heap.size w W → Calls Tryz.prog 88 #[.agg #[.int .i64 l.con, .int .i64 l.sh, .int .i64 l.pr, .int .i64 l.lb, .int .i64 l.lv, .slice pp l.cast.length qq]] W fun e w' => ∃ v F, e = .returned v ∧ sltR.O w' W.heap.size F v l ∧ Below W.heap.size W w') := fun W hW => l8Copy_u _ l W (sltR.below hV hW) hcw
          clear m1 m2 hV
          go_wp2_with fail
          refine (HCp.out _ (by (repeat (first | exact Below.refl _ _ | assumption | refine Below.drew ?_ | refine balloc ?_ _ | refine bset ?_ (by simp; omega) _ | refine bset ?_ (by simp) _ | refine bstep ?_ (by assumption))))).mono ?_
          rintro e w2 ⟨v2, F2, rfl, o2, hb2⟩
          have hB2 : Below w.heap.size w w2 := bstep hbl hb2
          have hz2 := hb2.size
          obtain ⟨a2, c2, rfl, _⟩ := slt_cells o2
          replace r0 := cell_keep hb2 r0
          replace r1 := cell_keep hb2 r1
          replace r2 := cell_keep hb2 r2
          replace r3 := cell_keep hb2 r3
          replace r4 := cell_keep hb2 r4
          replace r5 := cell_keep hb2 r5
          replace rf : ∀ o, w2.frozen? ⟨w.heap.size + 1, o, none⟩ = false := fun o => by rw [(bcell hb2).2 _ _ (by omega)]; exact rf o
          replace o2 := sltR.base (base' := w.heap.size + 2) o2 (by omega)
          clear hb2 HCp
          go_wp2
          refine bodyPost_ret (v := .agg #[.int .i64 l.con, .int .i64 l.sh, .int .i64 l.pr, .int .i64 l.lb, .int .i64 l.lv, .slice a2 l.cast.length c2]) ?_ rfl ⟨_, F2, rfl, by rw [HS.out]; exact sltR.base (base := w.heap.size + 2) (by (repeat (first | refine Rep.set _ ?_ _ (by simp; omega) | refine Rep.set _ ?_ _ (by simp) | refine Rep.alloc _ ?_ _ | assumption))) (by omega), by (repeat (first | refine bset ?_ (by simp; omega) _ | refine bset ?_ (by simp) _ | refine balloc ?_ _ | assumption))⟩
          simp [results, Tryz.results72, go_sem, r0, r1, r2, r3, r4, r5, rf]
        · have f1 : (l.con == c) = true := by simp [m1]
          have f2 : (l.sh == s) = false := by simp [m2]
          have HP2 : Hid (∀ j, j < k + 1 → sameS (xs.getD j default) (freS c s) = false) := fun j hj => by
            by_cases e : j = k
            · subst e
              rw [← HL.out]
              simp [sameS, freS, m2]
            · exact HP.out j (by omega)
          clear m1 m2 hV
          go_wp2
          refine ⟨⟨k + 1, by omega, by go_num, HP2, HWR⟩, by simp [intOf]; omega⟩
      · have f1 : (l.con == c) = false := by simp [m1]
        have HP2 : Hid (∀ j, j < k + 1 → sameS (xs.getD j default) (freS c s) = false) := fun j hj => by
          by_cases e : j = k
          · subst e
            rw [← HL.out]
            simp [sameS, freS, m1]
          · exact HP.out j (by omega)
        clear m1 hV
        go_wp2
        refine ⟨⟨k + 1, by omega, by go_num, HP2, HWR⟩, by simp [intOf]; omega⟩
    · have hkn : k = n := by omega
      subst hkn
      have HS : Hid (slotO xs (freS c s) = freS c s) := slotO_none (fun j hj => HP.out j (by rw [← HN.out]; exact hj))
      go_wp2_with fail
      refine (HNew.out _).mono ?_
      rintro e w2 ⟨a2, c2, F3, rfl, o3, hb2⟩
      have hB2 : Below w.heap.size w w2 := bstep hbl hb2
      have hz2 := hb2.size
      replace r0 := cell_keep hb2 r0
      replace r1 := cell_keep hb2 r1
      replace r2 := cell_keep hb2 r2
      replace r3 := cell_keep hb2 r3
      replace r4 := cell_keep hb2 r4
      replace r5 := cell_keep hb2 r5
      replace rf : ∀ o, w2.frozen? ⟨w.heap.size + 1, o, none⟩ = false := fun o => by rw [(bcell hb2).2 _ _ (by omega)]; exact rf o
      replace o3 := sltR.base (base' := w.heap.size + 2) o3 (by omega)
      clear hb2 HNew
      have hfd := slotField
      go_wp2
      refine bodyPost_ret (v := .agg #[.int .i64 c, .int .i64 s, .int .i64 (-1), .int .i64 (-1), .int .i64 0, .slice a2 0 c2]) ?_ rfl ⟨_, F3, rfl, by rw [HS.out]; exact sltR.base (base := w.heap.size + 2) (by (repeat (first | refine Rep.set _ ?_ _ (by simp; omega) | refine Rep.set _ ?_ _ (by simp) | refine Rep.alloc _ ?_ _ | assumption))) (by omega), by (repeat (first | refine bset ?_ (by simp; omega) _ | refine bset ?_ (by simp) _ | refine balloc ?_ _ | assumption))⟩
      simp [results, Tryz.results72, go_sem, r0, r1, r2, r3, r4, r5, rf]
end Go.Proofs.YtolihmobkoiplaaGreat

/-
  SlotsFor, the document's.
-/
set_option linter.unusedSimpArgs false
set_option linter.unusedVariables false
namespace Go.Proofs.YtolihmobkoiplaaGreat
open Go.RowKit
set_option linter.unusedSectionVars false
variable [DecidableEq Vot] [Inhabited Vot] [DecidableEq Slt] [Inhabited Slt] [DecidableEq SltR] [Inhabited SltR] [DecidableEq Bal] [Inhabited Bal] [DecidableEq Ledg] [Inhabited Ledg] [DecidableEq Leg] [Inhabited Leg] [DecidableEq Acc] [Inhabited Acc] [DecidableEq AccR] [Inhabited AccR] [DecidableEq AccsR] [Inhabited AccsR] [DecidableEq SltsR] [Inhabited SltsR]
attribute [local go_sem ↓] Go.wp_at_zero Go.wp_at_succ

set_option maxRecDepth 20000 in
set_option maxHeartbeats 4000000 in
theorem l9Slots_u (x : Value) (l : List Acc) (c s : Int) (w : World) (hx : accsR.V w x l) (hl : ListOk l) (hid : idOk c s = true) :
    Calls Tryz.prog 53 #[x, .int .i64 c, .int .i64 s] w fun e w' => ∃ v F, e = .returned v ∧ sltsR.O w' w.heap.size F v (slotsL l c s) ∧ Below w.heap.size w w' := by
  obtain ⟨a, cx, rfl, hcx, hmx, hx⟩ := accs_at hx
  unfold maxLen at hmx
  have hXs : Hid (∀ k, k < l.length → ∃ b o p q, a = some ⟨b, o, none⟩ ∧ w.cell? ⟨b, o + k, none⟩ = some (.slice p (l.getD k default).slots.length q) ∧ accR.V w (.agg #[.slice p (l.getD k default).slots.length q]) (l.getD k default)) := hx
  have HOk : Hid (∀ k, k < l.length → AccOk (l.getD k default).slots) := fun k hk => accs_cast hl hk
  have HID : Hid (idOk c s = true) := hid
  have hn5 := hl.hi
  clear hx hl hid
  obtain ⟨n, hn'⟩ : ∃ n, n = l.length := ⟨_, rfl⟩
  have HN : Hid (l.length = n) := hn'.symm
  rw [← hn'] at hcx hXs HOk hn5 ⊢
  clear hn'
  have hs0 : ∃ a c' F, (Value.slice (some ⟨w.heap.size, 0, none⟩) 0 0) = .slice a 0 c' ∧ sltsR.O (w.alloc (.cells #[] 66)) w.heap.size F (.slice a 0 c') ((slotsL l c s).take 0) := ⟨_, _, _, rfl, slts_lit w⟩
  go_enter Tryz.func53, Tryz.ntmps53
  go_wp2
  go_loopw [7, 8] (fun t i w' => ∃ k : Nat, k ≤ n ∧ i = .int .i64 k ∧ (∃ a c' F, t = .slice a k c' ∧ sltsR.O w' w.heap.size F (.slice a k c') ((slotsL l c s).take k)) ∧ Below w.heap.size w w') (fun t i _ => n - (intOf i).toNat)
  case atStart => exact ⟨0, Nat.zero_le _, rfl, hs0, by (repeat (first | exact Below.refl _ _ | assumption | refine Below.drew ?_ | refine balloc ?_ _ | refine bset ?_ (by simp; omega) _ | refine bset ?_ (by simp) _ | refine bstep ?_ (by assumption)))⟩
  case round =>
    clear hs0
    obtain ⟨k, hk, rfl, ⟨as_, cs_, F, rfl, ho⟩, hbl⟩ := hrel
    have HO : Hid (sltsR.O wr w.heap.size F (.slice as_ k cs_) ((slotsL l c s).take k)) := ho
    clear ho
    have hwz := hbl.size
    by_cases hlt : k < n
    · obtain ⟨b, o, p, q, rfl, hc, hV⟩ := hXs.out k hlt
      have hok := HOk.out k hlt
      have HL : Hid ((slotsL l c s).take (k + 1) = (slotsL l c s).take k ++ [slotO (l.getD k default).slots (freS c s)]) := slotsL_take l c s (by rw [HN.out]; exact hlt)
      have HB0 : Hid (b < w.heap.size) := World.block_lt_of_cell? w _ hc
      replace hc := cell_keep hbl hc
      have zb : b < wr.heap.size := World.block_lt_of_cell? wr _ hc
      have HSl : Hid (∀ W, Below w.heap.size w W → Calls Tryz.prog 72 #[.agg #[.slice p (l.getD k default).slots.length q], .int .i64 c, .int .i64 s] W fun e w' => ∃ v F, e = .returned v ∧ sltR.O w' W.heap.size F v (slotO (l.getD k default).slots (freS c s)) ∧ Below W.heap.size W w') := fun W hW => l9Slot_u _ _ c s W (accR.below hV hW) HID.out (fun j hj => Nat.le_trans (sltOk_of (hok.ok j hj)).len (by omega))
      clear hV hok
      generalize slotO (l.getD k default).slots (freS c s) = y at *
      generalize (l.getD k default).slots.length = m at *
      go_wp2_with fail
      refine (HSl.out _ (by (repeat (first | exact Below.refl _ _ | assumption | refine Below.drew ?_ | refine balloc ?_ _ | refine bset ?_ (by simp; omega) _ | refine bset ?_ (by simp) _ | refine bstep ?_ (by assumption))))).mono ?_
      rintro e w2 ⟨v2, F2, rfl, o2, hb2⟩
      obtain ⟨a2, c2, rfl, _⟩ := slt_cells o2
      have hB2 : Below w.heap.size w w2 := bstep hbl hb2
      have hz2 := hb2.size
      have HO2 : Hid (sltsR.O w2 w.heap.size F (.slice as_ k cs_) ((slotsL l c s).take k)) := sltsR.keep HO.out hb2
      have HFl : Hid (∀ b, F b → b < wr.heap.size) := fun b hb => (sltsR.rng HO.out b hb).2
      have HF2 : Hid (∀ b, F2 b → wr.heap.size ≤ b) := fun b hb => (sltR.rng o2 b hb).1
      have HU : Hid (sltR.O w2 w.heap.size F2 (.agg #[.int .i64 y.con, .int .i64 y.sh, .int .i64 y.pr, .int .i64 y.lb, .int .i64 y.lv, .slice a2 y.cast.length c2]) y) := sltR.base o2 hwz
      clear hb2 o2 HSl HO hc
      go_wp2_with (at_builtin; refine wpl_appS _ rfl _ _ rfl w.heap.size F F2 _ ((slotsL l c s).take k) y w2.heap.size a2 c2 rfl rfl ?a1 ?a2 ?a3 ?a4 ?a5 ?a6 ?_)
      case a1 => exact sltsR.alloc HO2.out _
      case a2 => exact sltR.alloc HU.out _
      case a3 => exact fun b h1 h2 => by have := HFl.out b h1; have := HF2.out b h2; omega
      case a4 => simp [go_sem]
      case a5 => rw [List.length_take, slotsL_len, HN.out]; omega
      case a6 => simp; omega
      intro v3 w3 F3 o3 hb3 _
      rw [← HL.out] at o3
      obtain ⟨a3, c3, e3⟩ := slts_form (sltsR.ofO o3)
      rw [show ((slotsL l c s).take (k + 1)).length = k + 1 by rw [List.length_take, slotsL_len, HN.out]; omega] at e3
      subst e3
      have o3' : ∃ a c' F, (Value.slice a3 (k + 1) c3) = .slice a (k + 1) c' ∧ sltsR.O w3 w.heap.size F (.slice a (k + 1) c') ((slotsL l c s).take (k + 1)) := ⟨_, _, F3, rfl, o3⟩
      have hB4 : Below w.heap.size w w3 := Below.trans (balloc hB2 _) hb3
      clear o3 hb3
      go_wp2
      exact ⟨⟨k + 1, by omega, by go_num, o3', hB4⟩, by simp [intOf]; omega⟩
    · have hkn : k = n := by omega
      subst hkn
      have ho := HO.out
      rw [List.take_of_length_le (by rw [slotsL_len, HN.out]; exact Nat.le_refl _)] at ho
      have HO2 : Hid (sltsR.O wr w.heap.size F (.slice as_ k cs_) (slotsL l c s)) := ho
      clear ho HO
      go_wp2
      refine bodyPost_ret (v := .slice as_ k cs_) (by simp [results, Tryz.results53, go_sem]) rfl ⟨_, F, rfl, HO2.out, hbl⟩
end Go.Proofs.YtolihmobkoiplaaGreat

/-
  A region that draws its order, whose operations only make memory (and one last, number t, that may write): whatever the order, what each of them yields stays as it is, and lies in blocks of its own.
-/
namespace Go.Proofs.YtolihmobkoiplaaGreat
open Go.RowKit

def over (a : Act) (ds : List Nat) (y : Nat → Value) : Act := { a with tmps := ds.foldl (fun t s => t.setIfInBounds s (y s)) a.tmps }
theorem fold_put : ∀ (ds : List Nat) (T : Array Value) (y : Nat → Value) (d : Nat) (v : Value), d ∉ ds →
    (ds.foldl (fun t s => t.setIfInBounds s (y s)) T).setIfInBounds d v = ds.foldl (fun t s => t.setIfInBounds s (y s)) (T.setIfInBounds d v)
  | [], _, _, _, _, _ => rfl
  | e :: ds, T, y, d, v, h => by
    have h1 : d ≠ e := fun c => h (by rw [c]; exact List.mem_cons_self)
    have h2 : d ∉ ds := fun c => h (List.mem_cons_of_mem _ c)
    simp only [List.foldl_cons]
    rw [fold_put ds _ y d v h2, Array.setIfInBounds_comm _ _ (Ne.symm h1)]
theorem fold_congr : ∀ (ds : List Nat) (T : Array Value) (y y' : Nat → Value), (∀ s ∈ ds, y s = y' s) →
    ds.foldl (fun t s => t.setIfInBounds s (y s)) T = ds.foldl (fun t s => t.setIfInBounds s (y' s)) T
  | [], _, _, _, _ => rfl
  | e :: ds, T, y, y', h => by
    simp only [List.foldl_cons]
    rw [h e List.mem_cons_self]
    exact fold_congr ds _ y y' (fun s hs => h s (List.mem_cons_of_mem _ hs))
def updV (y : Nat → Value) (d : Nat) (v : Value) : Nat → Value := fun s => if s = d then v else y s
theorem fold_upd : ∀ (ds : List Nat) (T : Array Value) (y : Nat → Value) (d : Nat) (v : Value), d ∈ ds → ds.Nodup →
    (ds.foldl (fun t s => t.setIfInBounds s (y s)) T).setIfInBounds d v = ds.foldl (fun t s => t.setIfInBounds s (updV y d v s)) T
  | [], _, _, _, _, h, _ => absurd h List.not_mem_nil
  | e :: ds, T, y, d, v, h, hn => by
    obtain ⟨h1, h2⟩ := List.nodup_cons.1 hn
    simp only [List.foldl_cons]
    by_cases hd : d = e
    · subst hd
      rw [fold_put ds _ y d v h1, Array.setIfInBounds_setIfInBounds]
      have e1 : updV y d v d = v := if_pos rfl
      rw [e1]
      exact fold_congr ds _ _ _ (fun s hs => (if_neg (fun c : s = d => h1 (c ▸ hs))).symm)
    · have hm : d ∈ ds := (List.mem_cons.1 h).resolve_left hd
      have e1 : updV y d v e = y e := if_neg (fun c => hd c.symm)
      rw [e1]
      exact fold_upd ds _ y d v hm h2
theorem over_put {a : Act} {ds : List Nat} {y : Nat → Value} {d : Nat} {v : Value} (h : d ∈ ds) (hn : ds.Nodup) : (over a ds y).put (some d) v = over a ds (updV y d v) := by
  simp only [over, Act.put]
  rw [fold_upd ds _ y d v h hn]
theorem over_self (a : Act) : ∀ ds : List Nat, over a ds (fun s => a.tmps.getD s undef) = a := by
  intro ds
  have H : ∀ ds : List Nat, ds.foldl (fun t s => t.setIfInBounds s (a.tmps.getD s undef)) a.tmps = a.tmps := by
    intro ds
    induction ds with
    | nil => rfl
    | cons d ds ih =>
      simp only [List.foldl_cons]
      have e : a.tmps.setIfInBounds d (a.tmps.getD d undef) = a.tmps := by
        apply Array.ext_getElem?
        intro i
        rw [Array.getElem?_setIfInBounds]
        split
        · rename_i h
          subst h
          split
          · rename_i h; simp [h]
          · rename_i h; simp [Array.getElem?_eq_none (Nat.le_of_not_lt h)]
        · rfl
      rw [e]
      exact ih
  simp only [over]
  rw [H ds]
theorem inj_fst : ∀ (L : List (Nat × Nat)), (L.map Prod.fst).Nodup → ∀ p ∈ L, ∀ q ∈ L, p.1 = q.1 → p = q
  | [], _, p, hp, _, _, _ => absurd hp List.not_mem_nil
  | a :: L, hn, p, hp, q, hq, h => by
    obtain ⟨h1, h2⟩ := List.nodup_cons.1 hn
    rcases List.mem_cons.1 hp with hp1 | hp1
    · rcases List.mem_cons.1 hq with hq1 | hq1
      · rw [hp1, hq1]
      · exact absurd (by rw [← hp1, h]; exact List.mem_map_of_mem hq1) h1
    · rcases List.mem_cons.1 hq with hq1 | hq1
      · exact absurd (by rw [← hq1, ← h]; exact List.mem_map_of_mem hp1) h1
      · exact inj_fst L h2 p hp1 q hq1 h
theorem inj_snd : ∀ (L : List (Nat × Nat)), (L.map Prod.snd).Nodup → ∀ p ∈ L, ∀ q ∈ L, p.2 = q.2 → p = q
  | [], _, p, hp, _, _, _ => absurd hp List.not_mem_nil
  | a :: L, hn, p, hp, q, hq, h => by
    obtain ⟨h1, h2⟩ := List.nodup_cons.1 hn
    rcases List.mem_cons.1 hp with hp1 | hp1
    · rcases List.mem_cons.1 hq with hq1 | hq1
      · rw [hp1, hq1]
      · exact absurd (by rw [← hp1, h]; exact List.mem_map_of_mem hq1) h1
    · rcases List.mem_cons.1 hq with hq1 | hq1
      · exact absurd (by rw [← hq1, ← h]; exact List.mem_map_of_mem hp1) h1
      · exact inj_snd L h2 p hp1 q hq1 h
theorem filter_less {F F' : Nat × Nat → Bool} : ∀ {L : List (Nat × Nat)}, (L.map Prod.fst).Nodup → ∀ {p : Nat × Nat}, p ∈ L → F p = true → F' p = false → (∀ q ∈ L, q ≠ p → F' q = F q) → (L.filter F).length = (L.filter F').length + 1
  | [], _, _, hp, _, _, _ => absurd hp List.not_mem_nil
  | a :: L, hn, p, hp, h1, h2, h3 => by
    obtain ⟨g1, g2⟩ := List.nodup_cons.1 hn
    by_cases e : a = p
    · subst e
      rw [List.filter_cons_of_pos h1, List.filter_cons_of_neg (by rw [h2]; exact Bool.false_ne_true)]
      have h4 : L.filter F = L.filter F' := List.filter_congr (fun q hq => (h3 q (List.mem_cons_of_mem _ hq) (fun c => g1 (c ▸ List.mem_map_of_mem hq))).symm)
      rw [h4, List.length_cons]
    · have hm : p ∈ L := (List.mem_cons.1 hp).resolve_left (fun c => e c.symm)
      have ih := filter_less g2 hm h1 h2 (fun q hq hne => h3 q (List.mem_cons_of_mem _ hq) hne)
      have ha := h3 a List.mem_cons_self e
      cases hF : F a with
      | true => rw [List.filter_cons_of_pos hF, List.filter_cons_of_pos (by rw [ha, hF]), List.length_cons, List.length_cons, ih]
      | false => rw [List.filter_cons_of_neg (by rw [hF]; exact Bool.false_ne_true), List.filter_cons_of_neg (by rw [ha, hF]; exact Bool.false_ne_true), ih]
section
variable {P : Program} {ops : Array Oper} {Q : Exit → Act → World → Prop} {md : Region.Mode} {S : World → Prop} {t : Nat}

def risesB (md : Region.Mode) (ops : Array Oper) : Bool := (List.range ops.size).all fun i => match ops[i]? with | some o => o.after.all fun e => !Region.binds md e || decide (e.on < i) | none => true
theorem ready_some {listed : Array Bool} (hr : risesB md ops = true) (hs : listed.size = ops.size) : ∀ n i, i < n → i < ops.size → listed.getD i true = false → ∃ j, j ∈ Region.ready md ops listed := by
  intro n
  induction n with
  | zero => intro i h; omega
  | succ n ih =>
    intro i hi hlt hun
    by_cases hex : ∃ k, k < i ∧ listed.getD k true = false
    · obtain ⟨k, hk, hku⟩ := hex
      exact ih k (by omega) (by omega) hku
    · refine ⟨i, mem_ready.2 ⟨hun, ops[i], by simp [hlt], fun e he hb => ?_⟩⟩
      have h1 := List.all_eq_true.1 hr i (List.mem_range.2 hlt)
      simp only [Array.getElem?_eq_getElem hlt] at h1
      have h2 := Array.all_eq_true'.1 h1 e he
      simp only [hb, Bool.not_true, Bool.false_or, decide_eq_true_eq] at h2
      have h3 : ¬ listed.getD e.on true = false := fun c => hex ⟨e.on, h2, c⟩
      have h4 : e.on < listed.size := by omega
      simp [h4] at h3 ⊢
      exact h3
structure Shut (p : Prop) : Prop where
  out : p
def checkS (md : Region.Mode) (ops : Array Oper) (listed : Array Bool) (t f : Nat) (L : List (Nat × Nat)) : Bool :=
  risesB md ops && decide (listed.size = ops.size) && (ops[t]?).isSome && ((List.range ops.size).all fun i => listed.getD i true || decide (i = t) || L.any fun p => decide (p.1 = i)) &&
    !listed.getD t true && (L.all fun p => !listed.getD p.1 true) && decide (L.map Prod.fst).Nodup && decide (L.map Prod.snd).Nodup && (L.all fun p => decide (p.1 ≠ t) && waitsFor md ops t p.1) && decide (f = L.length + 1)
end

end Go.Proofs.YtolihmobkoiplaaGreat


import Derived.Test.YteebglgbeijolaaPrnContractsLaw6
import Derived.Deep.AppendLies
import Derived.Test.YteebglgbeijolaaPrnContractsLaw9

/-
  Rows of numbers: compared, marked and read back; and the answers that hold one.
-/
namespace Go.Proofs.Yteebglgbeijolaa
open Go.RowKit
set_option linter.unusedSectionVars false
variable [DecidableEq Leg] [Inhabited Leg]
attribute [local go_sem ↓] Go.wp_at_zero Go.wp_at_succ

def intsC (ys : List Int) : List Value := ys.map (Value.int .i64)
theorem infoInt : (Try.prog.info? 2).map (fun i => (i.zero, i.size, i.bytes)) = some (some (.int .i64 0), 1, 8) := by kernel_rfl
def IntsV (w : World) (v : Value) (ys : List Int) : Prop :=
  ∃ a cap, v = .slice a ys.length cap ∧ ys.length ≤ cap ∧ cap ≤ maxLen ∧ ∀ i, i < ys.length → ∃ b o, a = some ⟨b, o, none⟩ ∧ w.cell? ⟨b, o + i, none⟩ = some (.int .i64 (ys.getD i 0))
theorem IntsV_of_owns {w : World} {base e : Nat} {v : Value} {ys : List Int} (h : w.ownsRow base e 1 v ys.length (intsC ys)) : IntsV w v ys := by
  rcases h.2 with ⟨rfl, hn⟩ | ⟨g, cap, cur, rfl, hb, hg, hnc, hcm, hcs, htake⟩
  · exact ⟨none, 0, by rw [hn], by omega, by unfold maxLen; omega, fun i hi => by omega⟩
  · refine ⟨some ⟨g, 0, none⟩, cap, rfl, hnc, hcm, fun i hi => ⟨g, 0, rfl, ?_⟩⟩
    rw [Nat.zero_add]
    refine (h.cellAt i (by omega)).trans ?_
    simp [intsC, List.getD, hi]
end Go.Proofs.Yteebglgbeijolaa

/-
  A number put into a rising list (the specification's own helper).
-/
namespace Go.Proofs.Yteebglgbeijolaa
open Go.RowKit
set_option linter.unusedSectionVars false
variable [DecidableEq Leg] [Inhabited Leg]
attribute [local go_sem ↓] Go.wp_at_zero Go.wp_at_succ

def ahead (ys : List Int) (v : Int) : Nat := (ys.takeWhile (· < v)).length
section
variable {P : Program} (w : World)
end

theorem intsC_one (ys : List Int) : ∀ u ∈ intsC ys, u.oneCell' = true := by
  intro u hu
  simp only [intsC, List.mem_map] at hu
  obtain ⟨y, _, rfl⟩ := hu
  rfl
theorem src_one {w' : World} {g : Nat} {v : Int} (h : w'.cell? ⟨g, 0, none⟩ = some (.int .i64 v)) : ∀ j u, (intsC [v])[j]? = some u → w'.cell? ((⟨g, 0, none⟩ : Addr).add j) = some u := by
  intro j u hj
  match j, hj with
  | 0, hj => simp [intsC] at hj; subst hj; simpa [Addr.add] using h
  | j + 1, hj => simp [intsC] at hj
end Go.Proofs.Yteebglgbeijolaa

/-
  LegsAt on both sides.
-/
namespace Go.Proofs.Yteebglgbeijolaa
open Go.RowKit
set_option linter.unusedSectionVars false
variable [DecidableEq Leg] [Inhabited Leg]
attribute [local go_sem ↓] Go.wp_at_zero Go.wp_at_succ

def atLegs (id : Int) (xs : List Leg) (s : Int) : List Leg := if contractFault id xs = 0 ∧ inB s 0 2 = true then onSh s xs else []
theorem atLegs_not {id : Int} {xs : List Leg} {s : Int} (h : ¬ (contractFault id xs = 0 ∧ inB s 0 2 = true)) : atLegs id xs s = [] := if_neg h
theorem owns_none (w : World) (base e : Nat) {ys : List Leg} (h : ys = []) : w.ownsRow base e 4 (.slice none 0 0) ys.length (legsC ys) := by
  subst h; exact World.ownsRow_nil _ _ _ _
set_option maxHeartbeats 1000000 in
theorem implLegsAt_any (id : Int) (x : Value) (xs : List Leg) (s : Int) (w : World) (hx : LegsV w x xs) :
    Calls Try.prog 13 #[.agg #[.int .i64 id, x], .int .i64 s] w fun e w' => ∃ v, e = .returned (.agg #[.int .i64 (sumCode id xs s), v]) ∧ w'.ownsRow w.heap.size 97 4 v (atLegs id xs s).length (legsC (atLegs id xs s)) ∧ Below w.heap.size w w' := by
  go_enter Try.func13, Try.ntmps13
  go_wp2_with fail
  refine (implFault_any id x xs _ (LegsV_below hx (balloc (balloc (Below.refl _ _) _) _))).mono ?_
  rintro e w1 ⟨rfl, hb1⟩
  have hB1 : Below w.heap.size w w1 := bstep (balloc (balloc (Below.refl _ _) _) _) hb1
  obtain ⟨hc1, hf1⟩ := bcell hb1
  by_cases hcf : contractFault id xs = 0
  · have HC : Hid (contractFault id xs = 0) := hcf
    rw [hcf]
    clear hcf
    cases ha : inB s 0 2 with
    | false =>
      go_wp2_with (go_at_call 54; refine (isShard_any _ _).mono ?_; rintro e w' ⟨rfl, rfl⟩)
      refine bodyPost_ret (v := .agg #[.int .i64 3, .slice none 0 0]) ?_ rfl ⟨.slice none 0 0, ?_, owns_none _ _ _ (atLegs_not (by simp [ha])), bset (bset hB1 (by simp) _) (by simp) _⟩
      · simp [results, Try.results13, go_sem, hc1]
      · simp [sumCode, HC.out, ha]
    | true =>
      obtain ⟨_, hl2, hl8, _⟩ := cf_inv HC.out
      have hcb0 : w1.cell? ⟨w.heap.size, 0, none⟩ = some (.int .i64 id) := by rw [hc1 _ _ (by simp; omega)]; simp [go_sem]
      have hcb : w1.cell? ⟨w.heap.size, 1, none⟩ = some x := by rw [hc1 _ _ (by simp; omega)]; simp [go_sem]
      have hr0 : w1.cell? ⟨w.heap.size + 1, 0, none⟩ = some (.int .i64 0) := by rw [hc1 _ _ (by simp)]; simp [go_sem]
      have hr1 : w1.cell? ⟨w.heap.size + 1, 1, none⟩ = some (.slice none 0 0) := by rw [hc1 _ _ (by simp)]; simp [go_sem]
      have hrf : ∀ o, w1.frozen? ⟨w.heap.size + 1, o, none⟩ = false := fun o => by rw [hf1 _ _ (by simp)]; simp [go_sem]
      have hz : w.heap.size + 1 < w1.heap.size := World.block_lt_of_cell? _ _ hr0
      clear hc1 hf1 hb1
      go_wp2_with (go_at_call 54; refine (isShard_any _ _).mono ?_; rintro e w' ⟨rfl, rfl⟩)
      go_wp2_with fail
      refine (legsOn_any x xs s _ (LegsV_below hx hB1) (by omega)).mono ?_
      rintro e w2 ⟨v, rfl, ho, hb2⟩
      obtain ⟨p, q, rfl⟩ := owns_form ho
      have hB2 := bstep hB1 hb2
      have hr0 := cell_keep hb2 hr0
      have hr1 := cell_keep hb2 hr1
      have hrf2 : ∀ o, w2.frozen? ⟨w.heap.size + 1, o, none⟩ = false := fun o => by rw [(bcell hb2).2 _ _ hz]; exact hrf o
      clear hb2 hrf
      go_wp2
      have hal : atLegs id xs s = onSh s xs := if_pos ⟨HC.out, ha⟩
      refine bodyPost_ret (v := .agg #[.int .i64 0, .slice p (onSh s xs).length q]) ?_ rfl ⟨.slice p (onSh s xs).length q, ?_, ?_, bset (bset hB2 (by simp) _) (by simp) _⟩
      · simp [results, Try.results13, go_sem, hr0, hr1]
      · simp [sumCode, HC.out, ha]
      · rw [hal]
        exact owns_base (owns_setCell (owns_setCell ho (by simp; omega) _) (by simp; omega) _) (by omega)
  · have hd : (contractFault id xs == 0) = false := by simpa using hcf
    go_wp2
    refine bodyPost_ret (v := .agg #[.int .i64 (contractFault id xs), .slice none 0 0]) ?_ rfl ⟨.slice none 0 0, ?_, owns_none _ _ _ (atLegs_not (by simp [hcf])), bset (bset hB1 (by simp) _) (by simp) _⟩
    · simp [results, Try.results13, go_sem, hc1]
    · simp [sumCode, hcf]
end Go.Proofs.Yteebglgbeijolaa

/-
  ShardsOf on both sides.
-/
namespace Go.Proofs.Yteebglgbeijolaa
open Go.RowKit
set_option linter.unusedSectionVars false
variable [DecidableEq Leg] [Inhabited Leg]
attribute [local go_sem ↓] Go.wp_at_zero Go.wp_at_succ

def hasS (xs : List Leg) (s : Int) : Bool := xs.any (fun l => l.sh == s)
def sl (p0 p1 p2 : Bool) : List Int := (if p0 then [0] else []) ++ (if p1 then [1] else []) ++ (if p2 then [2] else [])
def shardsL (xs : List Leg) : List Int := sl (hasS xs 0) (hasS xs 1) (hasS xs 2)
theorem sl_le (p0 p1 p2 : Bool) : (sl p0 p1 p2).length ≤ 3 := by cases p0 <;> cases p1 <;> cases p2 <;> decide
theorem onSh_pos (xs : List Leg) (s : Int) : (0 < (onSh s xs).length) ↔ hasS xs s = true := by
  unfold onSh hasS
  rw [List.length_pos_iff_exists_mem]
  simp [List.mem_filter]
def slTo (xs : List Leg) : Nat → List Int
  | 0 => []
  | m + 1 => slTo xs m ++ (if hasS xs m then [(m : Int)] else [])
theorem slTo_three (xs : List Leg) : slTo xs 3 = shardsL xs := by
  simp [slTo, shardsL, sl]
theorem slTo_le (xs : List Leg) : ∀ m, (slTo xs m).length ≤ m
  | 0 => by simp [slTo]
  | m + 1 => by
    have := slTo_le xs m
    simp only [slTo, List.length_append]
    split <;> simp <;> omega
def shCode (id : Int) (xs : List Leg) : Int := contractFault id xs
def shList (id : Int) (xs : List Leg) : List Int := if contractFault id xs = 0 then shardsL xs else []
theorem sh_bound {xs : List Leg} (h : okTo xs xs.length) : ∀ j, j < xs.length → 0 ≤ (xs.getD j default).sh ∧ (xs.getD j default).sh ≤ 2 := fun j hj => (legFault_zero (h j hj).1).1
set_option maxRecDepth 20000 in
set_option maxHeartbeats 1000000 in
theorem implShardsOf_any (id : Int) (x : Value) (xs : List Leg) (w : World) (hx : LegsV w x xs) :
    Calls Try.prog 12 #[.agg #[.int .i64 id, x]] w fun e w' => ∃ v, e = .returned (.agg #[.int .i64 (shCode id xs), v]) ∧ w'.ownsRow w.heap.size 2 1 v (shList id xs).length (intsC (shList id xs)) ∧ Below w.heap.size w w' := by
  obtain ⟨i0, hi, hz0, hz1, hz2⟩ := info_parts infoInt
  go_enter Try.func12, Try.ntmps12
  go_wp2_with fail
  refine (implFault_any id x xs _ (LegsV_below hx (balloc (balloc (Below.refl _ _) _) _))).mono ?_
  rintro e w1 ⟨rfl, hb1⟩
  have hB1 : Below w.heap.size w w1 := bstep (balloc (balloc (Below.refl _ _) _) _) hb1
  obtain ⟨hc1, hf1⟩ := bcell hb1
  by_cases hcf : contractFault id xs = 0
  · have HC : Hid (contractFault id xs = 0) := hcf
    rw [hcf]
    clear hcf
    obtain ⟨_, hl2, hl8, _⟩ := cf_inv HC.out
    have hcb : w1.cell? ⟨w.heap.size, 1, none⟩ = some x := by rw [hc1 _ _ (by simp; omega)]; simp [go_sem]
    have hr0 : w1.cell? ⟨w.heap.size + 1, 0, none⟩ = some (.int .i64 0) := by rw [hc1 _ _ (by simp)]; simp [go_sem]
    have hr1 : w1.cell? ⟨w.heap.size + 1, 1, none⟩ = some (.slice none 0 0) := by rw [hc1 _ _ (by simp)]; simp [go_sem]
    have hrf : ∀ o, w1.frozen? ⟨w.heap.size + 1, o, none⟩ = false := fun o => by rw [hf1 _ _ (by simp)]; simp [go_sem]
    have hz : w.heap.size + 1 < w1.heap.size := World.block_lt_of_cell? _ _ hr0
    clear hc1 hf1 hb1
    go_wp2
    go_loopw [4, 5] (fun v i w' => ∃ m : Nat, m ≤ 3 ∧ i = .int .i64 m ∧ w'.ownsRow w1.heap.size 2 1 v (slTo xs m).length (intsC (slTo xs m)) ∧ w'.cell? ⟨w.heap.size, 1, none⟩ = some x ∧ w'.cell? ⟨w.heap.size + 1, 0, none⟩ = some (.int .i64 0) ∧ w'.cell? ⟨w.heap.size + 1, 1, none⟩ = some (.slice none 0 0) ∧
        (∀ o, w'.frozen? ⟨w.heap.size + 1, o, none⟩ = false) ∧ w1.heap.size ≤ w'.heap.size ∧ Below w.heap.size w w') (fun _ i _ => 3 - (intOf i).toNat)
    case atStart => exact ⟨0, by omega, rfl, by simpa [slTo, intsC] using World.ownsRow_nil _ _ _ _, hcb, hr0, hr1, hrf, Nat.le_refl _, hB1⟩
    case round =>
      obtain ⟨m, hm, rfl, ho, k1, k2, k3, k4, k5, k6⟩ := hrel
      clear hcb hr0 hr1 hrf hB1
      by_cases hm3 : m < 3
      · have hm3' : (m : Int) < 3 := by omega
        go_wp2_with fail
        refine (legsOn_any x xs m _ (LegsV_below hx k6) (by omega)).mono ?_
        rintro e w2 ⟨v2, rfl, ho2, hb2⟩
        obtain ⟨p, q, rfl⟩ := owns_form ho2
        have ho' := owns_below ho hb2
        have j1 := cell_keep hb2 k1
        have j2 := cell_keep hb2 k2
        have j3 := cell_keep hb2 k3
        have j4 : ∀ o, w2.frozen? ⟨w.heap.size + 1, o, none⟩ = false := fun o => by rw [(bcell hb2).2 _ _ (by omega)]; exact k4 o
        have j5 : w1.heap.size ≤ w2.heap.size := Nat.le_trans k5 hb2.size
        have j6 := bstep k6 hb2
        have hle := slTo_le xs m
        clear k1 k2 k3 k4 k5 k6 hb2 ho2 ho
        by_cases hp : 0 < (onSh m xs).length
        · have hh : hasS xs m = true := (onSh_pos xs m).1 hp
          have HE : Hid (slTo xs (m + 1) = slTo xs m ++ [(m : Int)]) := by show _ = _; simp [slTo, hh]
          have hp' : (0 : Int) < ((onSh m xs).length : Int) := by omega
          clear hh
          generalize slTo xs m = ys at *
          go_wp2_with (at_builtin; refine wpList_append_own _ rfl _ _ 32 rfl w1.heap.size 2 i0 _ 1 8 Try.underlying32 hi hz0 hz1 hz2 rfl (by decide) _ _ _ rfl (ho'.alloc _) ⟨w2.heap.size, 0, none⟩ 1 1 (intsC [(m : Int)]) rfl rfl ?c1 (intsC_one _) ?c3 ?c4 ?c5 ?_)
          case c1 => exact src_one (by simp [go_sem])
          case c3 => unfold maxLen; omega
          case c4 => omega
          case c5 => simp; omega
          · intro v' w3 hown' hgrow _
            have o1 := own_of (ho'.alloc (.cells #[.int .i64 m] 2))
            have i1 := hgrow.cell (cell_keep (balloc (Below.refl _ _) _) j1) (own_not o1 (.inl (by simp; omega)))
            have i2 := hgrow.cell (cell_keep (balloc (Below.refl _ _) _) j2) (own_not o1 (.inl (by simp; omega)))
            have i3 := hgrow.cell (cell_keep (balloc (Below.refl _ _) _) j3) (own_not o1 (.inl (by simp; omega)))
            have i4 : ∀ o, w3.frozen? ⟨w.heap.size + 1, o, none⟩ = false := fun o => by
              rw [World.frozen?_of_block (w := w2.alloc (.cells #[.int .i64 m] 2)) (hgrow.block (w.heap.size + 1) (by simp; omega) (own_not o1 (.inl (by omega)))), (bcell (balloc (Below.refl _ _) _)).2 _ _ (by omega)]
              exact j4 o
            have i5 : w1.heap.size ≤ w3.heap.size := by have := hgrow.size; simp at this; omega
            have i6 : Below w.heap.size w w3 := owns_grown (ho'.alloc _) (balloc j6 _) (by simp; omega) (by omega) hgrow
            clear hgrow ho' j1 j2 j3 j4 j5 j6 o1
            go_wp2
            refine ⟨⟨m + 1, by omega, by go_num, ?_, i1, i2, i3, i4, i5, i6⟩, by simp [intOf]; omega⟩
            rw [HE.out, List.length_append]
            simpa [intsC] using hown'
        · have hh : hasS xs m = false := by
            cases h : hasS xs m with
            | false => rfl
            | true => exact absurd ((onSh_pos xs m).2 h) hp
          have HE : Hid (slTo xs (m + 1) = slTo xs m) := by show _ = _; simp [slTo, hh]
          have hp' : ¬ (0 : Int) < ((onSh m xs).length : Int) := by omega
          clear hh
          go_wp2
          refine ⟨⟨m + 1, by omega, by go_num, ?_, j1, j2, j3, j4, j5, j6⟩, by simp [intOf]; omega⟩
          rw [HE.out]
          exact ho'
      · have hm3' : m = 3 := by omega
        subst hm3'
        rw [slTo_three] at ho
        obtain ⟨p, q, hv⟩ := owns_form ho
        subst hv
        go_wp2
        have hal : shList id xs = shardsL xs := if_pos HC.out
        refine bodyPost_ret (v := .agg #[.int .i64 0, .slice p (shardsL xs).length q]) ?_ rfl ⟨.slice p (shardsL xs).length q, ?_, ?_, bset (bset k6 (by simp) _) (by simp) _⟩
        · simp [results, Try.results12, go_sem, k2, k3]
        · simp [shCode, HC.out]
        · rw [hal]
          exact owns_base (owns_setCell (owns_setCell ho (by simp; omega) _) (by simp; omega) _) (by omega)
  · have hd : (contractFault id xs == 0) = false := by simpa using hcf
    go_wp2
    have hal : shList id xs = [] := if_neg hcf
    refine bodyPost_ret (v := .agg #[.int .i64 (contractFault id xs), .slice none 0 0]) ?_ rfl ⟨.slice none 0 0, rfl, ?_, bset (bset hB1 (by simp) _) (by simp) _⟩
    · simp [results, Try.results12, go_sem, hc1]
    · rw [hal]; exact World.ownsRow_nil _ _ _ _
end Go.Proofs.Yteebglgbeijolaa


import Derived.Test.YtolihmobkoiplaaGreatPrnOutcomeOfLaw13
import Derived.Test.YtolihmobkoiplaaGreatPrnOutcomeOfLaw12
import Derived.Test.YtolihmobkoiplaaGreatPrnOutcomeOfLaw1

/-
  The legs of one shard, on both sides.
-/
namespace Go.Proofs.YtolihmobkoiplaaGreat
open Go.RowKit
set_option linter.unusedSectionVars false
variable [DecidableEq Leg] [Inhabited Leg]
attribute [local go_sem ↓] Go.wp_at_zero Go.wp_at_succ

def onSh (s : Int) (xs : List Leg) : List Leg := xs.filter (fun l => l.sh == s)
theorem onSh_hit (s : Int) (xs : List Leg) (k : Nat) (h : k < xs.length) (hs : (xs.getD k default).sh = s) : onSh s (xs.take (k + 1)) = onSh s (xs.take k) ++ [xs.getD k default] := by
  rw [take_snoc xs k h]; simp only [onSh, List.filter_append]; simp only [List.filter_cons, List.filter_nil, hs, beq_self_eq_true, if_true]
theorem onSh_miss (s : Int) (xs : List Leg) (k : Nat) (h : k < xs.length) (hs : ¬ (xs.getD k default).sh = s) : onSh s (xs.take (k + 1)) = onSh s (xs.take k) := by
  rw [take_snoc xs k h]; simp only [onSh, List.filter_append, List.filter_cons, List.filter_nil, beq_eq_false_iff_ne.2 hs]; simp
theorem onSh_le (s : Int) (xs : List Leg) (k : Nat) : (onSh s (xs.take k)).length ≤ k := by
  have := List.length_filter_le (fun l : Leg => l.sh == s) (xs.take k)
  have h2 := List.length_take_le k xs
  simp only [onSh]; omega
theorem legsC_snoc (xs : List Leg) (l : Leg) : legsC (xs ++ [l]) = legsC xs ++ legC l := by simp [legsC]
theorem legC_one (l : Leg) : ∀ u ∈ legC l, u.oneCell' = true := by
  intro u hu
  simp only [legC, List.mem_cons, List.not_mem_nil, or_false] at hu
  rcases hu with rfl | rfl | rfl | rfl <;> rfl
theorem legC_cells {w : World} {b o : Nat} {l : Leg} (h : legCells w b o l) : ∀ j u, (legC l)[j]? = some u → w.cell? ((⟨b, o, none⟩ : Addr).add j) = some u := by
  obtain ⟨h0, h1, h2, h3⟩ := h
  intro j u hj
  match j, hj with
  | 0, hj => simp [legC] at hj; subst hj; simpa [Addr.add] using h0
  | 1, hj => simp [legC] at hj; subst hj; simpa [Addr.add] using h1
  | 2, hj => simp [legC] at hj; subst hj; simpa [Addr.add] using h2
  | 3, hj => simp [legC] at hj; subst hj; simpa [Addr.add] using h3
  | j + 4, hj => simp [legC] at hj
theorem owns_grown {w w' : World} {B : Nat} {base e size : Nat} {v : Value} {n : Nat} {xs : List Value} (h : w.ownsRow base e size v n xs) {W : World} (hb : Below B W w) (hB : B ≤ w.heap.size) (hbase : B ≤ base) (hg : w.grownBy w' v.ownBlock) : Below B W w' :=
  hb.grown hg hB (fun k hk => Nat.le_trans hbase (h.lt k hk).1)
set_option maxHeartbeats 1000000 in
theorem legsOn_any (x : Value) (xs : List Leg) (s : Int) (w : World) (hx : LegsV w x xs) (hn : xs.length ≤ 1048576) :
    Calls Tryz.prog 38 #[x, .int .i64 s] w fun e w' => ∃ v, e = .returned v ∧ w'.ownsRow w.heap.size 77 4 v (onSh s xs).length (legsC (onSh s xs)) ∧ Below w.heap.size w w' := by
  obtain ⟨ax, cx, rfl, hcx, hmx, hx⟩ := hx
  unfold maxLen at hmx
  obtain ⟨i0, hi, hz0, hz1, hz2⟩ := info_parts infoLeg
  generalize hn' : xs.length = n at *
  have HN : Hid (xs.length = n) := hn'
  clear hn'
  go_enter Tryz.func38, Tryz.ntmps38
  go_wp2
  go_loopw [5, 10] (fun v i w' => ∃ k : Nat, k ≤ n ∧ i = .int .i64 k ∧ w'.ownsRow w.heap.size 77 4 v (onSh s (xs.take k)).length (legsC (onSh s (xs.take k))) ∧ Below w.heap.size w w') (fun _ i _ => n - (intOf i).toNat)
  case atStart => exact ⟨0, Nat.zero_le _, rfl, by simpa [onSh, legsC] using World.ownsRow_nil _ _ _ _, Below.refl _ _⟩
  case round =>
    obtain ⟨k, hk, rfl, ho, hbl⟩ := hrel
    by_cases hlt : k < n
    · obtain ⟨bx, ox, rfl, g1⟩ := hx k hlt
      obtain ⟨l, hl⟩ : ∃ l, l = xs.getD k default := ⟨_, rfl⟩
      rw [← hl] at g1
      have HL : Hid (l = xs.getD k default) := hl
      clear hl hx
      obtain ⟨a1, a2, a3, a4⟩ := legCells_below hbl g1
      have hkx : k < xs.length := by have := HN.out; omega
      have hle := onSh_le s xs k
      have hsz := hbl.size
      by_cases hs : l.sh = s
      · have e1 := onSh_hit s xs k hkx (by rw [← HL.out]; exact hs)
        rw [← HL.out] at e1
        have HE : Hid (onSh s (xs.take (k + 1)) = onSh s (xs.take k) ++ [l]) := e1
        have HS : Hid (l.sh = s) := hs
        have hd : (l.sh == s) = true := by simpa using hs
        generalize onSh s (xs.take k) = ys at *
        clear e1 hs
        go_wp2_with (at_builtin; refine wpList_append_own _ rfl _ _ 33 rfl w.heap.size 77 i0 _ 4 32 Tryz.underlying33 hi hz0 hz1 hz2 rfl (by decide) _ _ _ rfl ((ho.alloc _).alloc _) ⟨wr.heap.size + 1, 0, none⟩ 1 1 (legC l) rfl rfl ?c1 (legC_one l) ?c3 ?c4 ?c5 ?_)
        case c1 => exact legC_cells (b := wr.heap.size + 1) (o := 0) ⟨by simp [go_sem], by simp [go_sem], by simp [go_sem], by simp [go_sem]⟩
        case c3 => unfold maxLen; omega
        case c4 => omega
        case c5 => simp; omega
        · intro v' w1 hown' hgrow _
          have hB1 : Below w.heap.size w w1 := owns_grown ((ho.alloc _).alloc _) (balloc (balloc hbl _) _) (by simp; omega) (Nat.le_refl _) hgrow
          clear hgrow ho a1 a2 a3 a4
          go_wp2
          refine ⟨⟨k + 1, by omega, by go_num, ?_, hB1⟩, by simp [intOf]; omega⟩
          rw [HE.out, legsC_snoc, List.length_append]
          exact hown'
      · have e1 := onSh_miss s xs k hkx (by rw [← HL.out]; exact hs)
        have HE : Hid (onSh s (xs.take (k + 1)) = onSh s (xs.take k)) := e1
        have hd : (l.sh == s) = false := by simpa using hs
        clear e1 hs
        go_wp2
        refine ⟨⟨k + 1, by omega, by go_num, ?_, balloc hbl _⟩, by simp [intOf]; omega⟩
        rw [HE.out]
        exact ho.alloc _
    · go_wp2
      go_ret
      have hkn : k = n := by omega
      subst hkn
      have t0 : xs.take k = xs := by rw [← HN.out]; exact List.take_length
      rw [t0] at ho
      exact ⟨_, rfl, ho, hbl⟩
end Go.Proofs.YtolihmobkoiplaaGreat

/-
  ShardsOf on both sides.
-/
namespace Go.Proofs.YtolihmobkoiplaaGreat
open Go.RowKit
set_option linter.unusedSectionVars false
variable [DecidableEq Leg] [Inhabited Leg]
attribute [local go_sem ↓] Go.wp_at_zero Go.wp_at_succ

def hasS (xs : List Leg) (s : Int) : Bool := xs.any (fun l => l.sh == s)
def sl (p0 p1 p2 : Bool) : List Int := (if p0 then [0] else []) ++ (if p1 then [1] else []) ++ (if p2 then [2] else [])
def shardsL (xs : List Leg) : List Int := sl (hasS xs 0) (hasS xs 1) (hasS xs 2)
theorem sl_le (p0 p1 p2 : Bool) : (sl p0 p1 p2).length ≤ 3 := by cases p0 <;> cases p1 <;> cases p2 <;> decide
theorem put_sl (p0 p1 p2 : Bool) (v : Int) (h0 : 0 ≤ v) (h2 : v ≤ 2) : putI (sl p0 p1 p2) v = sl (p0 || v == 0) (p1 || v == 1) (p2 || v == 2) := by
  have : v = 0 ∨ v = 1 ∨ v = 2 := by omega
  rcases this with rfl | rfl | rfl <;> cases p0 <;> cases p1 <;> cases p2 <;> decide
theorem hasS_snoc (xs : List Leg) (k : Nat) (h : k < xs.length) (s : Int) : hasS (xs.take (k + 1)) s = (hasS (xs.take k) s || (xs.getD k default).sh == s) := by
  rw [take_snoc xs k h]; simp [hasS]
theorem put_shards (xs : List Leg) (k : Nat) (h : k < xs.length) (h0 : 0 ≤ (xs.getD k default).sh) (h2 : (xs.getD k default).sh ≤ 2) : putI (shardsL (xs.take k)) (xs.getD k default).sh = shardsL (xs.take (k + 1)) := by
  unfold shardsL
  rw [put_sl _ _ _ _ h0 h2, hasS_snoc xs k h, hasS_snoc xs k h, hasS_snoc xs k h]
theorem onSh_pos (xs : List Leg) (s : Int) : (0 < (onSh s xs).length) ↔ hasS xs s = true := by
  unfold onSh hasS
  rw [List.length_pos_iff_exists_mem]
  simp [List.mem_filter]
def slTo (xs : List Leg) : Nat → List Int
  | 0 => []
  | m + 1 => slTo xs m ++ (if hasS xs m then [(m : Int)] else [])
theorem slTo_three (xs : List Leg) : slTo xs 3 = shardsL xs := by
  simp [slTo, shardsL, sl]
theorem slTo_le (xs : List Leg) : ∀ m, (slTo xs m).length ≤ m
  | 0 => by simp [slTo]
  | m + 1 => by
    have := slTo_le xs m
    simp only [slTo, List.length_append]
    split <;> simp <;> omega
set_option maxRecDepth 20000 in
set_option maxHeartbeats 1000000 in
theorem l1Shards_any (id : Int) (x : Value) (xs : List Leg) (w : World) (hx : LegsV w x xs) (hn : xs.length ≤ 1048576) (hb : ∀ j, j < xs.length → 0 ≤ (xs.getD j default).sh ∧ (xs.getD j default).sh ≤ 2) :
    Calls Tryz.prog 32 #[.agg #[.int .i64 id, x]] w fun e w' => ∃ v, e = .returned v ∧ w'.ownsRow w.heap.size 2 1 v (shardsL xs).length (intsC (shardsL xs)) ∧ Below w.heap.size w w' := by
  obtain ⟨ax, cx, rfl, hcx, hmx, hx⟩ := hx
  unfold maxLen at hmx
  have HB : Hid (∀ j, j < xs.length → 0 ≤ (xs.getD j default).sh ∧ (xs.getD j default).sh ≤ 2) := hb
  clear hb
  generalize hn' : xs.length = n at *
  have HN : Hid (xs.length = n) := hn'
  clear hn'
  go_enter Tryz.func32, Tryz.ntmps32
  go_wp2
  go_loopw [3, 4] (fun v i w' => ∃ k : Nat, k ≤ n ∧ i = .int .i64 k ∧ w'.ownsRow (w.heap.size + 1) 2 1 v (shardsL (xs.take k)).length (intsC (shardsL (xs.take k))) ∧ ¬ v = .slice none 0 0 ∧ w'.cell? ⟨w.heap.size, 1, none⟩ = some (.slice ax n cx) ∧ Below w.heap.size w w') (fun _ i _ => n - (intOf i).toNat)
  case atStart =>
    refine ⟨0, Nat.zero_le _, rfl, ?_, by simp, by simp [go_sem], balloc (balloc (Below.refl _ _) _) _⟩
    have := World.ownsRow_lit (base := w.heap.size + 1) (e := 2) (size := 1) (w.alloc (.cells #[.int .i64 id, .slice ax n cx] 35)) #[] 0 (by simp) (by unfold maxLen; omega) rfl
    simpa [shardsL, sl, hasS, intsC] using this
  case round =>
    obtain ⟨k, hk, rfl, ho, hnn, hbx, hbl⟩ := hrel
    by_cases hlt : k < n
    · obtain ⟨bx, ox, rfl, g1⟩ := hx k hlt
      obtain ⟨l, hl⟩ : ∃ l, l = xs.getD k default := ⟨_, rfl⟩
      rw [← hl] at g1
      have HL : Hid (l = xs.getD k default) := hl
      clear hl hx
      obtain ⟨a1, a2, a3, a4⟩ := legCells_below hbl g1
      have hkx : k < xs.length := by have := HN.out; omega
      have HE := put_shards xs k hkx (HB.out k hlt).1 (HB.out k hlt).2
      rw [← HL.out] at HE
      have HE' : Hid (putI (shardsL (xs.take k)) l.sh = shardsL (xs.take (k + 1))) := HE
      have hle : (shardsL (xs.take k)).length ≤ 3 := sl_le _ _ _
      have hz : w.heap.size < wr.heap.size := World.block_lt_of_cell? _ _ hbx
      obtain ⟨g, cap, hv⟩ : ∃ g cap, u3 = .slice (some ⟨g, 0, none⟩) (shardsL (xs.take k)).length cap := by
        rcases ho.2 with ⟨h, _⟩ | ⟨g, cap, cur, h, _⟩
        · exact absurd h hnn
        · exact ⟨g, cap, h⟩
      subst hv
      clear HE hnn
      go_wp2_with fail
      refine (l1Put_any g 0 cap (w.heap.size + 1) (shardsL (xs.take k)) l.sh _ (by omega) (by omega) ho).mono ?_
      rintro r w1 ⟨u, rfl, ho1, hnn1, hb1⟩
      rw [HE'.out] at ho1
      have hbx1 := cell_keep hb1 hbx
      have hbl1 := bstep hbl hb1
      clear ho hb1 a1 a2 a3 a4 hbl hbx
      go_wp2
      exact ⟨⟨k + 1, by omega, by go_num, ho1, hnn1, hbx1, hbl1⟩, by simp [intOf]; omega⟩
    · go_wp2
      go_ret
      have hkn : k = n := by omega
      subst hkn
      have t0 : xs.take k = xs := by rw [← HN.out]; exact List.take_length
      rw [t0] at ho
      exact ⟨_, rfl, owns_base ho (by omega), hbl⟩
def shCode (id : Int) (xs : List Leg) : Int := contractFault id xs
def shList (id : Int) (xs : List Leg) : List Int := if contractFault id xs = 0 then shardsL xs else []
theorem sh_bound {xs : List Leg} (h : okTo xs xs.length) : ∀ j, j < xs.length → 0 ≤ (xs.getD j default).sh ∧ (xs.getD j default).sh ≤ 2 := fun j hj => (legFault_zero (h j hj).1).1
set_option maxRecDepth 20000 in
set_option maxHeartbeats 1000000 in
theorem implShardsOf_any (id : Int) (x : Value) (xs : List Leg) (w : World) (hx : LegsV w x xs) :
    Calls Tryz.prog 21 #[.agg #[.int .i64 id, x]] w fun e w' => ∃ v, e = .returned (.agg #[.int .i64 (shCode id xs), v]) ∧ w'.ownsRow w.heap.size 2 1 v (shList id xs).length (intsC (shList id xs)) ∧ Below w.heap.size w w' := by
  obtain ⟨i0, hi, hz0, hz1, hz2⟩ := info_parts infoInt
  go_enter Tryz.func21, Tryz.ntmps21
  go_wp2_with fail
  refine (implFault_any id x xs _ (LegsV_below hx (balloc (balloc (Below.refl _ _) _) _))).mono ?_
  rintro e w1 ⟨rfl, hb1⟩
  have hB1 : Below w.heap.size w w1 := bstep (balloc (balloc (Below.refl _ _) _) _) hb1
  obtain ⟨hc1, hf1⟩ := bcell hb1
  by_cases hcf : contractFault id xs = 0
  · have HC : Hid (contractFault id xs = 0) := hcf
    rw [hcf]
    clear hcf
    obtain ⟨_, hl2, hl8, _⟩ := cf_inv HC.out
    have hcb : w1.cell? ⟨w.heap.size, 1, none⟩ = some x := by rw [hc1 _ _ (by simp; omega)]; simp [go_sem]
    have hr0 : w1.cell? ⟨w.heap.size + 1, 0, none⟩ = some (.int .i64 0) := by rw [hc1 _ _ (by simp)]; simp [go_sem]
    have hr1 : w1.cell? ⟨w.heap.size + 1, 1, none⟩ = some (.slice none 0 0) := by rw [hc1 _ _ (by simp)]; simp [go_sem]
    have hrf : ∀ o, w1.frozen? ⟨w.heap.size + 1, o, none⟩ = false := fun o => by rw [hf1 _ _ (by simp)]; simp [go_sem]
    have hz : w.heap.size + 1 < w1.heap.size := World.block_lt_of_cell? _ _ hr0
    clear hc1 hf1 hb1
    go_wp2
    go_loopw [4, 5] (fun v i w' => ∃ m : Nat, m ≤ 3 ∧ i = .int .i64 m ∧ w'.ownsRow w1.heap.size 2 1 v (slTo xs m).length (intsC (slTo xs m)) ∧ w'.cell? ⟨w.heap.size, 1, none⟩ = some x ∧ w'.cell? ⟨w.heap.size + 1, 0, none⟩ = some (.int .i64 0) ∧ w'.cell? ⟨w.heap.size + 1, 1, none⟩ = some (.slice none 0 0) ∧
        (∀ o, w'.frozen? ⟨w.heap.size + 1, o, none⟩ = false) ∧ w1.heap.size ≤ w'.heap.size ∧ Below w.heap.size w w') (fun _ i _ => 3 - (intOf i).toNat)
    case atStart => exact ⟨0, by omega, rfl, by simpa [slTo, intsC] using World.ownsRow_nil _ _ _ _, hcb, hr0, hr1, hrf, Nat.le_refl _, hB1⟩
    case round =>
      obtain ⟨m, hm, rfl, ho, k1, k2, k3, k4, k5, k6⟩ := hrel
      clear hcb hr0 hr1 hrf hB1
      by_cases hm3 : m < 3
      · have hm3' : (m : Int) < 3 := by omega
        go_wp2_with fail
        refine (legsOn_any x xs m _ (LegsV_below hx k6) (by omega)).mono ?_
        rintro e w2 ⟨v2, rfl, ho2, hb2⟩
        obtain ⟨p, q, rfl⟩ := owns_form ho2
        have ho' := owns_below ho hb2
        have j1 := cell_keep hb2 k1
        have j2 := cell_keep hb2 k2
        have j3 := cell_keep hb2 k3
        have j4 : ∀ o, w2.frozen? ⟨w.heap.size + 1, o, none⟩ = false := fun o => by rw [(bcell hb2).2 _ _ (by omega)]; exact k4 o
        have j5 : w1.heap.size ≤ w2.heap.size := Nat.le_trans k5 hb2.size
        have j6 := bstep k6 hb2
        have hle := slTo_le xs m
        clear k1 k2 k3 k4 k5 k6 hb2 ho2 ho
        by_cases hp : 0 < (onSh m xs).length
        · have hh : hasS xs m = true := (onSh_pos xs m).1 hp
          have HE : Hid (slTo xs (m + 1) = slTo xs m ++ [(m : Int)]) := by show _ = _; simp [slTo, hh]
          have hp' : (0 : Int) < ((onSh m xs).length : Int) := by omega
          clear hh
          generalize slTo xs m = ys at *
          go_wp2_with (at_builtin; refine wpList_append_own _ rfl _ _ 54 rfl w1.heap.size 2 i0 _ 1 8 Tryz.underlying54 hi hz0 hz1 hz2 rfl (by decide) _ _ _ rfl (ho'.alloc _) ⟨w2.heap.size, 0, none⟩ 1 1 (intsC [(m : Int)]) rfl rfl ?c1 (intsC_one _) ?c3 ?c4 ?c5 ?_)
          case c1 => exact src_one (by simp [go_sem])
          case c3 => unfold maxLen; omega
          case c4 => omega
          case c5 => simp; omega
          · intro v' w3 hown' hgrow _
            have o1 := own_of (ho'.alloc (.cells #[.int .i64 m] 2))
            have i1 := hgrow.cell (cell_keep (balloc (Below.refl _ _) _) j1) (own_not o1 (.inl (by simp; omega)))
            have i2 := hgrow.cell (cell_keep (balloc (Below.refl _ _) _) j2) (own_not o1 (.inl (by simp; omega)))
            have i3 := hgrow.cell (cell_keep (balloc (Below.refl _ _) _) j3) (own_not o1 (.inl (by simp; omega)))
            have i4 : ∀ o, w3.frozen? ⟨w.heap.size + 1, o, none⟩ = false := fun o => by
              rw [World.frozen?_of_block (w := w2.alloc (.cells #[.int .i64 m] 2)) (hgrow.block (w.heap.size + 1) (by simp; omega) (own_not o1 (.inl (by omega)))), (bcell (balloc (Below.refl _ _) _)).2 _ _ (by omega)]
              exact j4 o
            have i5 : w1.heap.size ≤ w3.heap.size := by have := hgrow.size; simp at this; omega
            have i6 : Below w.heap.size w w3 := owns_grown (ho'.alloc _) (balloc j6 _) (by simp; omega) (by omega) hgrow
            clear hgrow ho' j1 j2 j3 j4 j5 j6 o1
            go_wp2
            refine ⟨⟨m + 1, by omega, by go_num, ?_, i1, i2, i3, i4, i5, i6⟩, by simp [intOf]; omega⟩
            rw [HE.out, List.length_append]
            simpa [intsC] using hown'
        · have hh : hasS xs m = false := by
            cases h : hasS xs m with
            | false => rfl
            | true => exact absurd ((onSh_pos xs m).2 h) hp
          have HE : Hid (slTo xs (m + 1) = slTo xs m) := by show _ = _; simp [slTo, hh]
          have hp' : ¬ (0 : Int) < ((onSh m xs).length : Int) := by omega
          clear hh
          go_wp2
          refine ⟨⟨m + 1, by omega, by go_num, ?_, j1, j2, j3, j4, j5, j6⟩, by simp [intOf]; omega⟩
          rw [HE.out]
          exact ho'
      · have hm3' : m = 3 := by omega
        subst hm3'
        rw [slTo_three] at ho
        obtain ⟨p, q, hv⟩ := owns_form ho
        subst hv
        go_wp2
        have hal : shList id xs = shardsL xs := if_pos HC.out
        refine bodyPost_ret (v := .agg #[.int .i64 0, .slice p (shardsL xs).length q]) ?_ rfl ⟨.slice p (shardsL xs).length q, ?_, ?_, bset (bset k6 (by simp) _) (by simp) _⟩
        · simp [results, Tryz.results21, go_sem, k2, k3]
        · simp [shCode, HC.out]
        · rw [hal]
          exact owns_base (owns_setCell (owns_setCell ho (by simp; omega) _) (by simp; omega) _) (by omega)
  · have hd : (contractFault id xs == 0) = false := by simpa using hcf
    go_wp2
    have hal : shList id xs = [] := if_neg hcf
    refine bodyPost_ret (v := .agg #[.int .i64 (contractFault id xs), .slice none 0 0]) ?_ rfl ⟨.slice none 0 0, rfl, ?_, bset (bset hB1 (by simp) _) (by simp) _⟩
    · simp [results, Tryz.results21, go_sem, hc1]
    · rw [hal]; exact World.ownsRow_nil _ _ _ _
end Go.Proofs.YtolihmobkoiplaaGreat

/-
  Rows of impl.Leg: the uniform forms. (Written by program: nest.py.)
-/
namespace Go.Proofs.YtolihmobkoiplaaGreat
open Go.RowKit
set_option linter.unusedSectionVars false
variable [DecidableEq Leg] [Inhabited Leg]
attribute [local go_sem ↓] Go.wp_at_zero Go.wp_at_succ

def legsR : Rep (List Leg) := fRep 77 4 legsC LegsV LegsV_below LegsV_of_owns
def wtLegs (xs : List Leg) : Nat := xs.length
theorem legs_form {w : World} {v : Value} {xs : List Leg} (h : legsR.V w v xs) : ∃ a c, v = .slice a xs.length c := by
  obtain ⟨a, c, rfl, _⟩ := h
  exact ⟨_, _, rfl⟩
theorem toLegS_u (x : Value) (d : List Leg) (w : World) (hx : legsR.V w x d) (hn : wtLegs d ≤ 1048576) :
    Calls Tryz.prog 19 #[x] w fun e w' => ∃ v F, e = .returned v ∧ legsR.O w' w.heap.size F v d ∧ Below w.heap.size w w' := by
  refine (toLegS_any x d w hx hn).mono ?_
  rintro e w' ⟨v, rfl, ho, hb⟩
  exact ⟨v, _, rfl, ⟨ho, rfl⟩, hb⟩
theorem eqLegS_u (x y : Value) (d d' : List Leg) (w : World) (hx : legsR.V w x d) (hy : legsR.V w y d') :
    Calls Tryz.prog 27 #[x, y] w fun e w' => e = .returned (.bool (decide (d = d'))) ∧ Below w.heap.size w w' := eqLegS_any x y d d' w hx hy
theorem szLegS_u (x : Value) (d : List Leg) (left : Int) (w : World) (hx : legsR.V w x d) (h0 : 0 ≤ left) (h1 : left ≤ 1048576) :
    Calls Tryz.prog 14 #[x, .int .i64 left] w fun e w' => e = .returned (.int .i64 (szLen left (wtLegs d))) ∧ Below w.heap.size w w' := by
  refine (szLegS_any x d left w hx h0 h1).mono ?_
  rintro e w' ⟨rfl, rfl⟩
  exact ⟨rfl, Below.refl _ _⟩
end Go.Proofs.YtolihmobkoiplaaGreat

/-
  Contract. (Written by program: nest.py.)
-/
namespace Go.Proofs.YtolihmobkoiplaaGreat
open Go.RowKit
set_option linter.unusedSectionVars false
variable [DecidableEq Leg] [Inhabited Leg]
attribute [local go_sem ↓] Go.wp_at_zero Go.wp_at_succ

structure Cont where
  id : Int
  legs : List Leg
variable [DecidableEq Cont] [Inhabited Cont]

def contR : Rep Cont where
  V := fun w v x => ∃ u1, v = .agg #[.int .i64 x.id, u1] ∧ legsR.V w u1 x.legs
  O := fun w base F v x => ∃ u1 F1, v = .agg #[.int .i64 x.id, u1] ∧ legsR.O w base F1 u1 x.legs ∧ (∀ b, F b ↔ (F1 b))
  below := fun h hb => by
    obtain ⟨u1, rfl, h1⟩ := h
    exact ⟨u1, rfl, legsR.below h1 hb⟩
  ofO := fun h => by
    obtain ⟨u1, F1, rfl, h1, _⟩ := h
    exact ⟨u1, rfl, legsR.ofO h1⟩
  mod := fun h hm hd => by
    obtain ⟨u1, F1, rfl, h1, hF⟩ := h
    exact ⟨u1, F1, rfl, legsR.mod h1 hm (fun b hb => hd b ((hF b).2 hb)), hF⟩
  rng := fun h b hb => by
    obtain ⟨u1, F1, rfl, h1, hF⟩ := h
    rcases (hF b).1 hb with hb
    · exact legsR.rng h1 b hb
  base := fun h hb => by
    obtain ⟨u1, F1, rfl, h1, hF⟩ := h
    exact ⟨u1, F1, rfl, legsR.base h1 hb, hF⟩
def wtCont (x : Cont) : Nat := wtLegs x.legs
theorem cont_form {w : World} {v : Value} {x : Cont} (h : contR.V w v x) : ∃ a1 c1, v = .agg #[.int .i64 x.id, .slice a1 x.legs.length c1] := by
  obtain ⟨u1, rfl, h1⟩ := h
  obtain ⟨a1, c1, rfl⟩ := legs_form h1
  exact ⟨_, _, rfl⟩
set_option maxHeartbeats 1000000 in
theorem toContract_u (x : Value) (d : Cont) (w : World) (hx : contR.V w x d) (hn : wtCont d ≤ 1048576) :
    Calls Tryz.prog 8 #[x] w fun e w' => ∃ v F, e = .returned v ∧ contR.O w' w.heap.size F v d ∧ Below w.heap.size w w' := by
  obtain ⟨u1, rfl, h1⟩ := hx
  unfold wtCont at hn
  go_enter Tryz.func8, Tryz.ntmps8
  go_wp2_with fail
  refine (toLegS_u _ d.legs _ (legsR.below h1 (by (repeat (first | exact Below.refl _ _ | assumption | refine Below.drew ?_ | refine balloc ?_ _ | refine bset ?_ (by simp; omega) _ | refine bset ?_ (by simp) _ | refine bstep ?_ (by assumption))))) (by omega)).mono ?_
  rintro e w1 ⟨v1, F1, rfl, o1, b1⟩
  obtain ⟨a1, n1, rfl⟩ := legs_form (legsR.ofO o1)
  obtain ⟨c1, f1⟩ := bcell b1
  have z1 := b1.size
  simp at z1
  replace o1 := legsR.base (base' := w.heap.size + 3) o1 (by simp; try omega)
  go_wp2
  refine bodyPost_ret (v := .agg #[.int .i64 d.id, .slice a1 d.legs.length n1]) ?_ rfl ⟨_, fun b => F1 b, rfl, ⟨_, F1, rfl, legsR.base (base := w.heap.size + 3) (by (repeat (first | assumption | refine Rep.set _ ?_ _ (by simp; omega) | refine Rep.set _ ?_ _ (by simp) | refine Rep.alloc _ ?_ _ | refine Rep.keep _ ?_ (by assumption)))) (by omega), fun b => Iff.rfl⟩, by (repeat (first | exact Below.refl _ _ | assumption | refine Below.drew ?_ | refine balloc ?_ _ | refine bset ?_ (by simp; omega) _ | refine bset ?_ (by simp) _ | refine bstep ?_ (by assumption)))⟩
  simp [results, Tryz.results8, go_sem, c1]
set_option maxHeartbeats 1000000 in
theorem szContract_u (x : Value) (d : Cont) (left : Int) (w : World) (hx : contR.V w x d) (h0 : 0 ≤ left) (h1 : left ≤ 1048576) :
    Calls Tryz.prog 5 #[x, .int .i64 left] w fun e w' => e = .returned (.int .i64 (szLen left (wtCont d))) ∧ Below w.heap.size w w' := by
  obtain ⟨u1, rfl, k1⟩ := hx
  go_enter Tryz.func5, Tryz.ntmps5
  go_wp2_with fail
  refine (szLegS_u _ d.legs left _ (legsR.below k1 (by (repeat (first | exact Below.refl _ _ | assumption | refine Below.drew ?_ | refine balloc ?_ _ | refine bset ?_ (by simp; omega) _ | refine bset ?_ (by simp) _ | refine bstep ?_ (by assumption))))) h0 h1).mono ?_
  rintro e w1 ⟨rfl, b1⟩
  go_wp2
  · rename_i h
    go_ret
    refine ⟨?_, by (repeat (first | exact Below.refl _ _ | assumption | refine Below.drew ?_ | refine balloc ?_ _ | refine bset ?_ (by simp; omega) _ | refine bset ?_ (by simp) _ | refine bstep ?_ (by assumption)))⟩
    rw [szLen_neg (n := wtLegs d.legs) (by omega) (wtCont d) (by unfold wtCont; omega)]
    rfl
  rename_i h
  go_ret
  exact ⟨rfl, by (repeat (first | exact Below.refl _ _ | assumption | refine Below.drew ?_ | refine balloc ?_ _ | refine bset ?_ (by simp; omega) _ | refine bset ?_ (by simp) _ | refine bstep ?_ (by assumption)))⟩
set_option maxHeartbeats 1000000 in
theorem eqContract_u (x y : Value) (d d' : Cont) (w : World) (hx : contR.V w x d) (hy : contR.V w y d') :
    Calls Tryz.prog 12 #[x, y] w fun e w' => e = .returned (.bool (decide (d = d'))) ∧ Below w.heap.size w w' := by
  obtain ⟨u1, rfl, h1⟩ := hx
  obtain ⟨v1, rfl, k1⟩ := hy
  obtain ⟨id, legs⟩ := d
  obtain ⟨id', legs'⟩ := d'
  dsimp only at h1 k1
  go_enter Tryz.func12, Tryz.ntmps12
  go_wp2_with fail
  all_goals try (go_ret; exact ⟨by simp_all, by (repeat (first | exact Below.refl _ _ | assumption | refine Below.drew ?_ | refine balloc ?_ _ | refine bset ?_ (by simp; omega) _ | refine bset ?_ (by simp) _ | refine bstep ?_ (by assumption)))⟩)
  refine (eqLegS_u _ _ legs legs' _ (legsR.below h1 (by (repeat (first | exact Below.refl _ _ | assumption | refine Below.drew ?_ | refine balloc ?_ _ | refine bset ?_ (by simp; omega) _ | refine bset ?_ (by simp) _ | refine bstep ?_ (by assumption))))) (legsR.below k1 (by (repeat (first | exact Below.refl _ _ | assumption | refine Below.drew ?_ | refine balloc ?_ _ | refine bset ?_ (by simp; omega) _ | refine bset ?_ (by simp) _ | refine bstep ?_ (by assumption)))))).mono ?_
  rintro e w1 ⟨rfl, b1⟩
  go_wp2
  all_goals
    go_ret
    exact ⟨by simp_all, by (repeat (first | exact Below.refl _ _ | assumption | refine Below.drew ?_ | refine balloc ?_ _ | refine bset ?_ (by simp; omega) _ | refine bset ?_ (by simp) _ | refine bstep ?_ (by assumption)))⟩
end Go.Proofs.YtolihmobkoiplaaGreat


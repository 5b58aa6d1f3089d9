/-
  ShardsOf on both sides.
-/
import Derived.Test.YtcngckkcgpkdoaaPut
import Derived.Test.YtcngckkcgpkdoaaLegsAt
namespace Go.Proofs.Ytcngckkcgpkdoaa
open Go.RowKit
set_option linter.unusedSectionVars false
variable [DecidableEq Leg] [Inhabited Leg]
attribute [local go_sem ↓] Go.wp_at_zero Go.wp_at_succ

def hasS (xs : List Leg) (s : Int) : Bool := xs.any (fun l => l.sh == s)
def sl (p0 p1 p2 : Bool) : List Int := (if p0 then [0] else []) ++ (if p1 then [1] else []) ++ (if p2 then [2] else [])
def shardsL (xs : List Leg) : List Int := sl (hasS xs 0) (hasS xs 1) (hasS xs 2)

theorem sl_le (p0 p1 p2 : Bool) : (sl p0 p1 p2).length ≤ 3 := by cases p0 <;> cases p1 <;> cases p2 <;> decide
theorem put_sl (p0 p1 p2 : Bool) (v : Int) (h0 : 0 ≤ v) (h2 : v ≤ 2) : putI (sl p0 p1 p2) v = sl (p0 || v == 0) (p1 || v == 1) (p2 || v == 2) := by
  have : v = 0 ∨ v = 1 ∨ v = 2 := by omega
  rcases this with rfl | rfl | rfl <;> cases p0 <;> cases p1 <;> cases p2 <;> decide
theorem hasS_snoc (xs : List Leg) (k : Nat) (h : k < xs.length) (s : Int) : hasS (xs.take (k + 1)) s = (hasS (xs.take k) s || (xs.getD k default).sh == s) := by
  rw [take_snoc xs k h]; simp [hasS]
theorem put_shards (xs : List Leg) (k : Nat) (h : k < xs.length) (h0 : 0 ≤ (xs.getD k default).sh) (h2 : (xs.getD k default).sh ≤ 2) : putI (shardsL (xs.take k)) (xs.getD k default).sh = shardsL (xs.take (k + 1)) := by
  unfold shardsL
  rw [put_sl _ _ _ _ h0 h2, hasS_snoc xs k h, hasS_snoc xs k h, hasS_snoc xs k h]

theorem onSh_pos (xs : List Leg) (s : Int) : (0 < (onSh s xs).length) ↔ hasS xs s = true := by
  unfold onSh hasS
  rw [List.length_pos_iff_exists_mem]
  simp [List.mem_filter]

def slTo (xs : List Leg) : Nat → List Int
  | 0 => []
  | m + 1 => slTo xs m ++ (if hasS xs m then [(m : Int)] else [])
theorem slTo_three (xs : List Leg) : slTo xs 3 = shardsL xs := by
  simp [slTo, shardsL, sl]
theorem slTo_le (xs : List Leg) : ∀ m, (slTo xs m).length ≤ m
  | 0 => by simp [slTo]
  | m + 1 => by
    have := slTo_le xs m
    simp only [slTo, List.length_append]
    split <;> simp <;> omega

set_option maxHeartbeats 1000000 in
theorem l1Shards_any (id : Int) (x : Value) (xs : List Leg) (w : World) (hx : LegsV w x xs) (hn : xs.length ≤ 1048576) (hb : ∀ j, j < xs.length → 0 ≤ (xs.getD j default).sh ∧ (xs.getD j default).sh ≤ 2) :
    Calls Try.prog 49 #[.agg #[.int .i64 id, x]] w fun e w' => ∃ v, e = .returned v ∧ w'.ownsRow w.heap.size 2 1 v (shardsL xs).length (intsC (shardsL xs)) ∧ Below w.heap.size w w' := by
  obtain ⟨ax, cx, rfl, hcx, hmx, hx⟩ := hx
  unfold maxLen at hmx
  have HB : Hid (∀ j, j < xs.length → 0 ≤ (xs.getD j default).sh ∧ (xs.getD j default).sh ≤ 2) := hb
  clear hb
  generalize hn' : xs.length = n at *
  have HN : Hid (xs.length = n) := hn'
  clear hn'
  go_enter Try.func49, Try.ntmps49
  go_wp2
  go_loopw [3, 4] (fun v i w' => ∃ k : Nat, k ≤ n ∧ i = .int .i64 k ∧ w'.ownsRow (w.heap.size + 1) 2 1 v (shardsL (xs.take k)).length (intsC (shardsL (xs.take k))) ∧ ¬ v = .slice none 0 0 ∧ w'.cell? ⟨w.heap.size, 1, none⟩ = some (.slice ax n cx) ∧ Below w.heap.size w w') (fun _ i _ => n - (intOf i).toNat)
  case atStart =>
    refine ⟨0, Nat.zero_le _, rfl, ?_, by simp, by simp [go_sem], balloc (balloc (Below.refl _ _) _) _⟩
    have := World.ownsRow_lit (base := w.heap.size + 1) (e := 2) (size := 1) (w.alloc (.cells #[.int .i64 id, .slice ax n cx] 35)) #[] 0 (by simp) (by unfold maxLen; omega) rfl
    simpa [shardsL, sl, hasS, intsC] using this
  case round =>
    obtain ⟨k, hk, rfl, ho, hnn, hbx, hbl⟩ := hrel
    by_cases hlt : k < n
    · obtain ⟨bx, ox, rfl, g1⟩ := hx k hlt
      obtain ⟨l, hl⟩ : ∃ l, l = xs.getD k default := ⟨_, rfl⟩
      rw [← hl] at g1
      have HL : Hid (l = xs.getD k default) := hl
      clear hl hx
      obtain ⟨a1, a2, a3, a4⟩ := legCells_below hbl g1
      have hkx : k < xs.length := by have := HN.out; omega
      have HE := put_shards xs k hkx (HB.out k hlt).1 (HB.out k hlt).2
      rw [← HL.out] at HE
      have HE' : Hid (putI (shardsL (xs.take k)) l.sh = shardsL (xs.take (k + 1))) := HE
      have hle : (shardsL (xs.take k)).length ≤ 3 := sl_le _ _ _
      have hz : w.heap.size < wr.heap.size := World.block_lt_of_cell? _ _ hbx
      obtain ⟨g, cap, hv⟩ : ∃ g cap, u3 = .slice (some ⟨g, 0, none⟩) (shardsL (xs.take k)).length cap := by
        rcases ho.2 with ⟨h, _⟩ | ⟨g, cap, cur, h, _⟩
        · exact absurd h hnn
        · exact ⟨g, cap, h⟩
      subst hv
      clear HE hnn
      go_wp2_with fail
      refine (l1Put_any g 0 cap (w.heap.size + 1) (shardsL (xs.take k)) l.sh _ (by omega) (by omega) ho).mono ?_
      rintro r w1 ⟨u, rfl, ho1, hnn1, hb1⟩
      rw [HE'.out] at ho1
      have hbx1 := cell_keep hb1 hbx
      have hbl1 := bstep hbl hb1
      clear ho hb1 a1 a2 a3 a4 hbl hbx
      go_wp2
      exact ⟨⟨k + 1, by omega, by go_num, ho1, hnn1, hbx1, hbl1⟩, by simp [intOf]; omega⟩
    · go_wp2
      go_ret
      have hkn : k = n := by omega
      subst hkn
      have t0 : xs.take k = xs := by rw [← HN.out]; exact List.take_length
      rw [t0] at ho
      exact ⟨_, rfl, owns_base ho (by omega), hbl⟩

def shCode (id : Int) (xs : List Leg) : Int := contractFault id xs
def shList (id : Int) (xs : List Leg) : List Int := if contractFault id xs = 0 then shardsL xs else []
theorem shList_le (id : Int) (xs : List Leg) : (shList id xs).length ≤ 1048576 := by
  unfold shList
  split
  · exact Nat.le_trans (sl_le _ _ _) (by omega)
  · simp
theorem sh_bound {xs : List Leg} (h : okTo xs xs.length) : ∀ j, j < xs.length → 0 ≤ (xs.getD j default).sh ∧ (xs.getD j default).sh ≤ 2 := fun j hj => (legFault_zero (h j hj).1).1

set_option maxHeartbeats 1000000 in
theorem specShardsOf_any (id : Int) (x : Value) (xs : List Leg) (w : World) (hx : LegsV w x xs) :
    Calls Try.prog 18 #[.agg #[.int .i64 id, x]] w fun e w' => ∃ v, e = .returned (.agg #[.int .i64 (shCode id xs), v]) ∧ w'.ownsRow w.heap.size 2 1 v (shList id xs).length (intsC (shList id xs)) ∧ Below w.heap.size w w' := by
  go_enter Try.func18, Try.ntmps18
  go_wp2_with fail
  refine (specFault_any id x xs _ (LegsV_below hx (balloc (balloc (Below.refl _ _) _) _))).mono ?_
  rintro e w1 ⟨rfl, hb1⟩
  have hB1 : Below w.heap.size w w1 := bstep (balloc (balloc (Below.refl _ _) _) _) hb1
  obtain ⟨hc1, hf1⟩ := bcell hb1
  by_cases hcf : contractFault id xs = 0
  · have HC : Hid (contractFault id xs = 0) := hcf
    rw [hcf]
    clear hcf
    obtain ⟨_, hl2, hl8, hok, _⟩ := cf_inv HC.out
    have HOK : Hid (okTo xs xs.length) := hok
    clear hok
    have hcb0 : w1.cell? ⟨w.heap.size, 0, none⟩ = some (.int .i64 id) := by rw [hc1 _ _ (by simp; omega)]; simp [go_sem]
    have hcb : w1.cell? ⟨w.heap.size, 1, none⟩ = some x := by rw [hc1 _ _ (by simp; omega)]; simp [go_sem]
    have hr0 : w1.cell? ⟨w.heap.size + 1, 0, none⟩ = some (.int .i64 0) := by rw [hc1 _ _ (by simp)]; simp [go_sem]
    have hr1 : w1.cell? ⟨w.heap.size + 1, 1, none⟩ = some (.slice none 0 0) := by rw [hc1 _ _ (by simp)]; simp [go_sem]
    have hrf : ∀ o, w1.frozen? ⟨w.heap.size + 1, o, none⟩ = false := fun o => by rw [hf1 _ _ (by simp)]; simp [go_sem]
    have hz : w.heap.size + 1 < w1.heap.size := World.block_lt_of_cell? _ _ hr0
    clear hc1 hf1 hb1
    go_wp2_with fail
    refine (l1Shards_any id x xs _ (LegsV_below hx hB1) (by omega) (sh_bound HOK.out)).mono ?_
    rintro e w2 ⟨v, rfl, ho, hb2⟩
    obtain ⟨p, q, rfl⟩ := owns_form ho
    have hB2 := bstep hB1 hb2
    have hr0 := cell_keep hb2 hr0
    have hr1 := cell_keep hb2 hr1
    have hrf2 : ∀ o, w2.frozen? ⟨w.heap.size + 1, o, none⟩ = false := fun o => by rw [(bcell hb2).2 _ _ hz]; exact hrf o
    clear hb2 hrf
    go_wp2
    have hal : shList id xs = shardsL xs := if_pos HC.out
    refine bodyPost_ret (v := .agg #[.int .i64 0, .slice p (shardsL xs).length q]) ?_ rfl ⟨.slice p (shardsL xs).length q, ?_, ?_, bset (bset hB2 (by simp) _) (by simp) _⟩
    · simp [results, Try.results18, go_sem, hr0, hr1]
    · simp [shCode, HC.out]
    · rw [hal]
      exact owns_base (owns_setCell (owns_setCell ho (by simp; omega) _) (by simp; omega) _) (by omega)
  · have hd : (contractFault id xs == 0) = false := by simpa using hcf
    go_wp2
    have hal : shList id xs = [] := if_neg hcf
    refine bodyPost_ret (v := .agg #[.int .i64 (contractFault id xs), .slice none 0 0]) ?_ rfl ⟨.slice none 0 0, rfl, ?_, bset (bset hB1 (by simp) _) (by simp) _⟩
    · simp [results, Try.results18, go_sem, hc1]
    · rw [hal]; exact World.ownsRow_nil _ _ _ _

set_option maxHeartbeats 1000000 in
theorem implShardsOf_any (id : Int) (x : Value) (xs : List Leg) (w : World) (hx : LegsV w x xs) :
    Calls Try.prog 19 #[.agg #[.int .i64 id, x]] w fun e w' => ∃ v, e = .returned (.agg #[.int .i64 (shCode id xs), v]) ∧ w'.ownsRow w.heap.size 2 1 v (shList id xs).length (intsC (shList id xs)) ∧ Below w.heap.size w w' := by
  obtain ⟨i0, hi, hz0, hz1, hz2⟩ := info_parts infoInt
  go_enter Try.func19, Try.ntmps19
  go_wp2_with fail
  refine (implFault_any id x xs _ (LegsV_below hx (balloc (balloc (Below.refl _ _) _) _))).mono ?_
  rintro e w1 ⟨rfl, hb1⟩
  have hB1 : Below w.heap.size w w1 := bstep (balloc (balloc (Below.refl _ _) _) _) hb1
  obtain ⟨hc1, hf1⟩ := bcell hb1
  by_cases hcf : contractFault id xs = 0
  · have HC : Hid (contractFault id xs = 0) := hcf
    rw [hcf]
    clear hcf
    obtain ⟨_, hl2, hl8, _⟩ := cf_inv HC.out
    have hcb : w1.cell? ⟨w.heap.size, 1, none⟩ = some x := by rw [hc1 _ _ (by simp; omega)]; simp [go_sem]
    have hr0 : w1.cell? ⟨w.heap.size + 1, 0, none⟩ = some (.int .i64 0) := by rw [hc1 _ _ (by simp)]; simp [go_sem]
    have hr1 : w1.cell? ⟨w.heap.size + 1, 1, none⟩ = some (.slice none 0 0) := by rw [hc1 _ _ (by simp)]; simp [go_sem]
    have hrf : ∀ o, w1.frozen? ⟨w.heap.size + 1, o, none⟩ = false := fun o => by rw [hf1 _ _ (by simp)]; simp [go_sem]
    have hz : w.heap.size + 1 < w1.heap.size := World.block_lt_of_cell? _ _ hr0
    clear hc1 hf1 hb1
    go_wp2
    go_loopw [4, 5] (fun v i w' => ∃ m : Nat, m ≤ 3 ∧ i = .int .i64 m ∧ w'.ownsRow w1.heap.size 2 1 v (slTo xs m).length (intsC (slTo xs m)) ∧ w'.cell? ⟨w.heap.size, 1, none⟩ = some x ∧ w'.cell? ⟨w.heap.size + 1, 0, none⟩ = some (.int .i64 0) ∧ w'.cell? ⟨w.heap.size + 1, 1, none⟩ = some (.slice none 0 0) ∧
        (∀ o, w'.frozen? ⟨w.heap.size + 1, o, none⟩ = false) ∧ w1.heap.size ≤ w'.heap.size ∧ Below w.heap.size w w') (fun _ i _ => 3 - (intOf i).toNat)
    case atStart => exact ⟨0, by omega, rfl, by simpa [slTo, intsC] using World.ownsRow_nil _ _ _ _, hcb, hr0, hr1, hrf, Nat.le_refl _, hB1⟩
    case round =>
      obtain ⟨m, hm, rfl, ho, k1, k2, k3, k4, k5, k6⟩ := hrel
      clear hcb hr0 hr1 hrf hB1
      by_cases hm3 : m < 3
      · have hm3' : (m : Int) < 3 := by omega
        go_wp2_with fail
        refine (legsOn_any x xs m _ (LegsV_below hx k6) (by omega)).mono ?_
        rintro e w2 ⟨v2, rfl, ho2, hb2⟩
        obtain ⟨p, q, rfl⟩ := owns_form ho2
        have ho' := owns_below ho hb2
        have j1 := cell_keep hb2 k1
        have j2 := cell_keep hb2 k2
        have j3 := cell_keep hb2 k3
        have j4 : ∀ o, w2.frozen? ⟨w.heap.size + 1, o, none⟩ = false := fun o => by rw [(bcell hb2).2 _ _ (by omega)]; exact k4 o
        have j5 : w1.heap.size ≤ w2.heap.size := Nat.le_trans k5 hb2.size
        have j6 := bstep k6 hb2
        have hle := slTo_le xs m
        clear k1 k2 k3 k4 k5 k6 hb2 ho2 ho
        by_cases hp : 0 < (onSh m xs).length
        · have hh : hasS xs m = true := (onSh_pos xs m).1 hp
          have HE : Hid (slTo xs (m + 1) = slTo xs m ++ [(m : Int)]) := by show _ = _; simp [slTo, hh]
          have hp' : (0 : Int) < ((onSh m xs).length : Int) := by omega
          clear hh
          generalize slTo xs m = ys at *
          go_wp2_with (at_builtin; refine wpList_append_own _ rfl _ _ 39 rfl w1.heap.size 2 i0 _ 1 8 Try.underlying39 hi hz0 hz1 hz2 rfl (by decide) _ _ _ rfl (ho'.alloc _) ⟨w2.heap.size, 0, none⟩ 1 1 (intsC [(m : Int)]) rfl rfl ?c1 (intsC_one _) ?c3 ?c4 ?c5 ?_)
          case c1 => exact src_one (by simp [go_sem])
          case c3 => unfold maxLen; omega
          case c4 => omega
          case c5 => simp; omega
          · intro v' w3 hown' hgrow _
            have o1 := own_of (ho'.alloc (.cells #[.int .i64 m] 2))
            have i1 := hgrow.cell (cell_keep (balloc (Below.refl _ _) _) j1) (own_not o1 (.inl (by simp; omega)))
            have i2 := hgrow.cell (cell_keep (balloc (Below.refl _ _) _) j2) (own_not o1 (.inl (by simp; omega)))
            have i3 := hgrow.cell (cell_keep (balloc (Below.refl _ _) _) j3) (own_not o1 (.inl (by simp; omega)))
            have i4 : ∀ o, w3.frozen? ⟨w.heap.size + 1, o, none⟩ = false := fun o => by
              rw [World.frozen?_of_block (w := w2.alloc (.cells #[.int .i64 m] 2)) (hgrow.block (w.heap.size + 1) (by simp; omega) (own_not o1 (.inl (by omega)))), (bcell (balloc (Below.refl _ _) _)).2 _ _ (by omega)]
              exact j4 o
            have i5 : w1.heap.size ≤ w3.heap.size := by have := hgrow.size; simp at this; omega
            have i6 : Below w.heap.size w w3 := owns_grown (ho'.alloc _) (balloc j6 _) (by simp; omega) (by omega) hgrow
            clear hgrow ho' j1 j2 j3 j4 j5 j6 o1
            go_wp2
            refine ⟨⟨m + 1, by omega, by go_num, ?_, i1, i2, i3, i4, i5, i6⟩, by simp [intOf]; omega⟩
            rw [HE.out, List.length_append]
            simpa [intsC] using hown'
        · have hh : hasS xs m = false := by
            cases h : hasS xs m with
            | false => rfl
            | true => exact absurd ((onSh_pos xs m).2 h) hp
          have HE : Hid (slTo xs (m + 1) = slTo xs m) := by show _ = _; simp [slTo, hh]
          have hp' : ¬ (0 : Int) < ((onSh m xs).length : Int) := by omega
          clear hh
          go_wp2
          refine ⟨⟨m + 1, by omega, by go_num, ?_, j1, j2, j3, j4, j5, j6⟩, by simp [intOf]; omega⟩
          rw [HE.out]
          exact ho'
      · have hm3' : m = 3 := by omega
        subst hm3'
        rw [slTo_three] at ho
        obtain ⟨p, q, hv⟩ := owns_form ho
        subst hv
        go_wp2
        have hal : shList id xs = shardsL xs := if_pos HC.out
        refine bodyPost_ret (v := .agg #[.int .i64 0, .slice p (shardsL xs).length q]) ?_ rfl ⟨.slice p (shardsL xs).length q, ?_, ?_, bset (bset k6 (by simp) _) (by simp) _⟩
        · simp [results, Try.results19, go_sem, k2, k3]
        · simp [shCode, HC.out]
        · rw [hal]
          exact owns_base (owns_setCell (owns_setCell ho (by simp; omega) _) (by simp; omega) _) (by omega)
  · have hd : (contractFault id xs == 0) = false := by simpa using hcf
    go_wp2
    have hal : shList id xs = [] := if_neg hcf
    refine bodyPost_ret (v := .agg #[.int .i64 (contractFault id xs), .slice none 0 0]) ?_ rfl ⟨.slice none 0 0, rfl, ?_, bset (bset hB1 (by simp) _) (by simp) _⟩
    · simp [results, Try.results19, go_sem, hc1]
    · rw [hal]; exact World.ownsRow_nil _ _ _ _

end Go.Proofs.Ytcngckkcgpkdoaa

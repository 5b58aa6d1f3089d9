/-
  ReverseOf on both sides, and its answers compared, marked and read back.
-/
import Derived.Test.YtcngckkcgpkdoaaMark
import Derived.Test.YtcngckkcgpkdoaaLegsOn
namespace Go.Proofs.Ytcngckkcgpkdoaa
open Go.RowKit
set_option linter.unusedSectionVars false
variable [DecidableEq Leg] [Inhabited Leg]
attribute [local go_sem ↓] Go.wp_at_zero Go.wp_at_succ

def turnL (l : Leg) : Leg := ⟨l.sh, l.ac, l.ast, -l.am⟩
def turn (xs : List Leg) : List Leg := xs.map turnL
theorem turn_len (xs : List Leg) : (turn xs).length = xs.length := by simp [turn]
theorem turn_getD (xs : List Leg) (k : Nat) (h : k < xs.length) : (turn xs).getD k default = turnL (xs.getD k default) := by simp [turn, List.getD, h]
theorem turn_snoc (xs : List Leg) (k : Nat) (h : k < xs.length) : turn (xs.take (k + 1)) = turn (xs.take k) ++ [turnL (xs.getD k default)] := by
  rw [take_snoc xs k h]; simp [turn]

def revOk (id : Int) (xs : List Leg) (nid : Int) : Bool := decide (contractFault id xs = 0) && inB nid 1 1000000000
def revCode (id : Int) (xs : List Leg) (nid : Int) : Int := if contractFault id xs = 0 then (if inB nid 1 1000000000 then 0 else 3) else contractFault id xs
def revId (id : Int) (xs : List Leg) (nid : Int) : Int := if revOk id xs nid then nid else 0
def revLegs (id : Int) (xs : List Leg) (nid : Int) : List Leg := if revOk id xs nid then turn xs else []
theorem revLegs_le (id : Int) (xs : List Leg) (nid : Int) (h : xs.length ≤ 1048576) : (revLegs id xs nid).length ≤ 1048576 := by
  unfold revLegs
  split
  · rw [turn_len]; exact h
  · simp

set_option maxHeartbeats 1000000 in
theorem turnedRound_any (x : Value) (xs : List Leg) (w : World) (hx : LegsV w x xs) (hn : xs.length ≤ 1048576) (hs : small xs) :
    Calls Try.prog 60 #[x] w fun e w' => ∃ v, e = .returned v ∧ w'.ownsRow w.heap.size 25 4 v (turn xs).length (legsC (turn xs)) ∧ Below w.heap.size w w' := by
  obtain ⟨ax, cx, rfl, hcx, hmx, hx⟩ := hx
  unfold maxLen at hmx
  obtain ⟨i0, hi, hz0, hz1, hz2⟩ := info_parts infoLeg
  obtain ⟨w1, hmk, hown, hgr⟩ := run_make_full (P := Try.prog) w w.heap.size 33 25 i0 _ 4 Try.underlying33 hi hz0 hz1 .i64 .i64 xs.length (by rw [hz2]; omega) (by unfold maxLen; omega) (Nat.le_refl _)
  have hbl0 : Below w.heap.size w w1 := (Below.refl _ _).grown hgr (Nat.le_refl _) (fun k h => by cases h)
  have hzz : w.heap.size < w1.heap.size := by
    rcases hown.2 with ⟨h, _⟩ | ⟨g, cap, cur, h, _, hg, _⟩
    · simp at h
    · simp at h
      obtain ⟨rfl, _⟩ := h
      exact (Array.getElem?_eq_some_iff.1 hg).1
  have HS : Hid (small xs) := hs
  clear hs
  generalize hn' : xs.length = n at *
  have HN : Hid (xs.length = n) := hn'
  clear hn'
  go_enter Try.func60, Try.ntmps60
  go_wp2
  go_loopw [11] (fun i w' => ∃ (k : Nat) (cs : List Value), k ≤ n ∧ i = .int .i64 k ∧ w'.ownsRow w.heap.size 25 4 (.slice (some ⟨w.heap.size, 0, none⟩) n n) n cs ∧ upto k cs (turn xs) ∧ w.heap.size < w'.heap.size ∧ Below w.heap.size w w') (fun i _ => n - (intOf i).toNat)
  case atStart => exact ⟨0, _, Nat.zero_le _, rfl, hown, fun j h => by omega, hzz, hbl0⟩
  case round =>
    obtain ⟨k, cs, hk, rfl, ho, hup, hz, hbl⟩ := hrel
    have HU : Hid (upto k cs (turn xs)) := hup
    clear hup hown hmk hgr hbl0 hzz
    by_cases hlt : k < n
    · obtain ⟨bx, ox, rfl, h1⟩ := hx k hlt
      obtain ⟨l, hl⟩ : ∃ l, l = xs.getD k default := ⟨_, rfl⟩
      rw [← hl] at h1
      have H1 : Hid (l = xs.getD k default) := hl
      clear hl hx
      obtain ⟨a1, a2, a3, a4⟩ := legCells_below hbl h1
      have sb := HS.out k (by have := HN.out; omega)
      rw [← H1.out] at sb
      obtain ⟨sb1, sb2⟩ := sb
      obtain ⟨u0, g0⟩ := owns_some ho (k * 4) (by omega)
      obtain ⟨u1, g1⟩ := owns_some ho (k * 4 + 1) (by omega)
      obtain ⟨u2, g2⟩ := owns_some ho (k * 4 + 2) (by omega)
      obtain ⟨u3, g3⟩ := owns_some ho (k * 4 + 3) (by omega)
      have hf := fun j => ho.frozenAt j
      go_wp2
      have s0 := ho.stored (k * 4) (.int .i64 l.sh)
      have s1 := s0.1.stored (k * 4 + 1) (.int .i64 l.ac)
      have s2 := s1.1.stored (k * 4 + 2) (.int .i64 l.ast)
      have s3 := s2.1.stored (k * 4 + 3) (.int .i64 (-l.am))
      refine ⟨⟨k + 1, _, by omega, by go_num, s3.1.alloc _, upto_set (l := turnL l) HU.out (by rw [turn_len]; have := HN.out; omega) (by rw [turn_len]; have := HN.out; have := ho.1; omega) ?_, by simp; omega, ?_⟩, by simp [intOf]; omega⟩
      · rw [turn_getD xs k (by have := HN.out; omega), ← H1.out]
      · exact balloc ((((hbl.setCell (Nat.le_refl _) _).setCell (Nat.le_refl _) _).setCell (Nat.le_refl _) _).setCell (Nat.le_refl _) _) _
    · go_wp2
      go_ret
      have hkn : k = n := by omega
      subst hkn
      have e := upto_full HU.out ho.1 (by rw [turn_len]; exact HN.out)
      subst e
      refine ⟨_, rfl, ?_, hbl⟩
      rw [turn_len, HN.out]
      exact ho

set_option maxHeartbeats 1000000 in
theorem implReverseOf_any (id : Int) (x : Value) (xs : List Leg) (nid : Int) (w : World) (hx : LegsV w x xs) :
    Calls Try.prog 33 #[.agg #[.int .i64 id, x], .int .i64 nid] w fun e w' => ∃ v, e = .returned (.agg #[.int .i64 (revCode id xs nid), .int .i64 (revId id xs nid), v]) ∧ w'.ownsRow w.heap.size 25 4 v (revLegs id xs nid).length (legsC (revLegs id xs nid)) ∧ Below w.heap.size w w' := by
  go_enter Try.func33, Try.ntmps33
  go_wp2_with fail
  refine (implFault_any id x xs _ (LegsV_below hx (balloc (balloc (Below.refl _ _) _) _))).mono ?_
  rintro e w1 ⟨rfl, hb1⟩
  have hB1 : Below w.heap.size w w1 := bstep (balloc (balloc (Below.refl _ _) _) _) hb1
  obtain ⟨hc1, hf1⟩ := bcell hb1
  by_cases hcf : contractFault id xs = 0
  · have HC : Hid (contractFault id xs = 0) := hcf
    rw [hcf]
    clear hcf
    cases ha : inB nid 1 1000000000 with
    | false =>
      have hok : revOk id xs nid = false := by simp [revOk, ha]
      go_wp2_with (go_at_call 45; refine (isId_any _ _).mono ?_; rintro e w' ⟨rfl, rfl⟩)
      refine bodyPost_ret (v := .agg #[.int .i64 3, .int .i64 0, .slice none 0 0]) ?_ rfl ⟨.slice none 0 0, ?_, ?_, bset (bset (bset hB1 (by simp) _) (by simp) _) (by simp) _⟩
      · simp [results, Try.results33, go_sem, hc1]
      · simp [revCode, revId, HC.out, ha, hok]
      · rw [show revLegs id xs nid = [] by simp [revLegs, hok]]; exact World.ownsRow_nil _ _ _ _
    | true =>
      have hok : revOk id xs nid = true := by simp [revOk, ha, HC.out]
      obtain ⟨_, hl2, hl8, hokk, _⟩ := cf_inv HC.out
      have HS : Hid (small xs) := small_of_ok hokk
      clear hokk
      have hcb : w1.cell? ⟨w.heap.size, 1, none⟩ = some x := by rw [hc1 _ _ (by simp; omega)]; simp [go_sem]
      have hr0 : w1.cell? ⟨w.heap.size + 1, 0, none⟩ = some (.int .i64 0) := by rw [hc1 _ _ (by simp)]; simp [go_sem]
      have hr1 : w1.cell? ⟨w.heap.size + 1, 1, none⟩ = some (.int .i64 0) := by rw [hc1 _ _ (by simp)]; simp [go_sem]
      have hr2 : w1.cell? ⟨w.heap.size + 1, 2, none⟩ = some (.slice none 0 0) := by rw [hc1 _ _ (by simp)]; simp [go_sem]
      have hrf : ∀ o, w1.frozen? ⟨w.heap.size + 1, o, none⟩ = false := fun o => by rw [hf1 _ _ (by simp)]; simp [go_sem]
      have hz : w.heap.size + 1 < w1.heap.size := World.block_lt_of_cell? _ _ hr0
      clear hc1 hf1 hb1
      go_wp2_with (go_at_call 45; refine (isId_any _ _).mono ?_; rintro e w' ⟨rfl, rfl⟩)
      go_wp2_with fail
      refine (turnedRound_any x xs _ (LegsV_below hx hB1) (by omega) HS.out).mono ?_
      rintro e w2 ⟨v, rfl, ho, hb2⟩
      obtain ⟨p, q, rfl⟩ := owns_form ho
      have hB2 := bstep hB1 hb2
      have hr0 := cell_keep hb2 hr0
      have hr1 := cell_keep hb2 hr1
      have hr2 := cell_keep hb2 hr2
      have hrf2 : ∀ o, w2.frozen? ⟨w.heap.size + 1, o, none⟩ = false := fun o => by rw [(bcell hb2).2 _ _ hz]; exact hrf o
      clear hb2 hrf
      go_wp2
      have hal : revLegs id xs nid = turn xs := by simp [revLegs, hok]
      refine bodyPost_ret (v := .agg #[.int .i64 0, .int .i64 nid, .slice p (turn xs).length q]) ?_ rfl ⟨.slice p (turn xs).length q, ?_, ?_, bset (bset (bset hB2 (by simp) _) (by simp) _) (by simp) _⟩
      · simp [results, Try.results33, go_sem, hr0, hr1, hr2]
      · simp [revCode, revId, HC.out, ha, hok]
      · rw [hal]
        exact owns_base (owns_setCell (owns_setCell (owns_setCell ho (by simp; omega) _) (by simp; omega) _) (by simp; omega) _) (by omega)
  · have hd : (contractFault id xs == 0) = false := by simpa using hcf
    have hok : revOk id xs nid = false := by simp [revOk, hcf]
    go_wp2
    refine bodyPost_ret (v := .agg #[.int .i64 (contractFault id xs), .int .i64 0, .slice none 0 0]) ?_ rfl ⟨.slice none 0 0, ?_, ?_, bset (bset (bset hB1 (by simp) _) (by simp) _) (by simp) _⟩
    · simp [results, Try.results33, go_sem, hc1]
    · simp [revCode, revId, hcf, hok]
    · rw [show revLegs id xs nid = [] by simp [revLegs, hok]]; exact World.ownsRow_nil _ _ _ _

set_option maxHeartbeats 1000000 in
theorem specReverseOf_any (id : Int) (x : Value) (xs : List Leg) (nid : Int) (w : World) (hx : LegsV w x xs) :
    Calls Try.prog 32 #[.agg #[.int .i64 id, x], .int .i64 nid] w fun e w' => ∃ v, e = .returned (.agg #[.int .i64 (revCode id xs nid), .int .i64 (revId id xs nid), v]) ∧ w'.ownsRow w.heap.size 25 4 v (revLegs id xs nid).length (legsC (revLegs id xs nid)) ∧ Below w.heap.size w w' := by
  obtain ⟨i0, hi, hz0, hz1, hz2⟩ := info_parts infoLeg
  go_enter Try.func32, Try.ntmps32
  go_wp2_with fail
  refine (specFault_any id x xs _ (LegsV_below hx (balloc (balloc (Below.refl _ _) _) _))).mono ?_
  rintro e w1 ⟨rfl, hb1⟩
  have hB1 : Below w.heap.size w w1 := bstep (balloc (balloc (Below.refl _ _) _) _) hb1
  obtain ⟨hc1, hf1⟩ := bcell hb1
  by_cases hcf : contractFault id xs = 0
  · have HC : Hid (contractFault id xs = 0) := hcf
    rw [hcf]
    clear hcf
    cases ha : inB nid 1 1000000000 with
    | false =>
      have hok : revOk id xs nid = false := by simp [revOk, ha]
      go_wp2_with (go_at_call 43; refine (l1Id_any _ _).mono ?_; rintro e w' ⟨rfl, rfl⟩)
      refine bodyPost_ret (v := .agg #[.int .i64 3, .int .i64 0, .slice none 0 0]) ?_ rfl ⟨.slice none 0 0, ?_, ?_, bset (bset (bset hB1 (by simp) _) (by simp) _) (by simp) _⟩
      · simp [results, Try.results32, go_sem, hc1]
      · simp [revCode, revId, HC.out, ha, hok]
      · rw [show revLegs id xs nid = [] by simp [revLegs, hok]]; exact World.ownsRow_nil _ _ _ _
    | true =>
      have hok : revOk id xs nid = true := by simp [revOk, ha, HC.out]
      obtain ⟨_, hl2, hl8, hokk, _⟩ := cf_inv HC.out
      have HS : Hid (small xs) := small_of_ok hokk
      clear hokk
      have hcb : w1.cell? ⟨w.heap.size, 1, none⟩ = some x := by rw [hc1 _ _ (by simp; omega)]; simp [go_sem]
      have hr0 : w1.cell? ⟨w.heap.size + 1, 0, none⟩ = some (.int .i64 0) := by rw [hc1 _ _ (by simp)]; simp [go_sem]
      have hr1 : w1.cell? ⟨w.heap.size + 1, 1, none⟩ = some (.int .i64 0) := by rw [hc1 _ _ (by simp)]; simp [go_sem]
      have hr2 : w1.cell? ⟨w.heap.size + 1, 2, none⟩ = some (.slice none 0 0) := by rw [hc1 _ _ (by simp)]; simp [go_sem]
      have hrf : ∀ o, w1.frozen? ⟨w.heap.size + 1, o, none⟩ = false := fun o => by rw [hf1 _ _ (by simp)]; simp [go_sem]
      have hz : w.heap.size + 1 < w1.heap.size := World.block_lt_of_cell? _ _ hr0
      clear hc1 hf1 hb1
      go_wp2_with (go_at_call 43; refine (l1Id_any _ _).mono ?_; rintro e w' ⟨rfl, rfl⟩)
      obtain ⟨ax, cx, rfl, hcx, hmx, hxx⟩ := LegsV_below hx hB1
      unfold maxLen at hmx
      clear hx
      generalize hn' : xs.length = n at *
      have HN : Hid (xs.length = n) := hn'
      clear hn'
      go_loopw [7] (fun i w2 => ∃ (k : Nat) (v : Value), k ≤ n ∧ i = .int .i64 k ∧ w2.ownsRow (w'.heap.size + 1) 25 4 v (turn (xs.take k)).length (legsC (turn (xs.take k))) ∧ w2.cell? ⟨w'.heap.size, 0, none⟩ = some (.int .i64 nid) ∧ w2.cell? ⟨w'.heap.size, 1, none⟩ = some v ∧
          (∀ o, w2.frozen? ⟨w'.heap.size, o, none⟩ = false) ∧ Below w'.heap.size w' w2) (fun i _ => n - (intOf i).toNat)
      case atStart => exact ⟨0, .slice none 0 0, Nat.zero_le _, rfl, by simpa [turn, legsC] using World.ownsRow_nil _ _ _ _, by simp [go_sem], by simp [go_sem], by simp [go_sem], balloc (Below.refl _ _) _⟩
      case round =>
        obtain ⟨k, v, hk, rfl, ho, b0, b1, bf, hbl⟩ := hrel
        have hcb := cell_keep hbl hcb
        have hzw : w'.heap.size < wr.heap.size := World.block_lt_of_cell? _ _ b0
        by_cases hlt : k < n
        · obtain ⟨bx, ox, rfl, g1⟩ := hxx k hlt
          obtain ⟨l, hl⟩ : ∃ l, l = xs.getD k default := ⟨_, rfl⟩
          rw [← hl] at g1
          have HL : Hid (l = xs.getD k default) := hl
          clear hl hxx
          obtain ⟨a1, a2, a3, a4⟩ := legCells_below hbl g1
          have sb := HS.out k (by have := HN.out; omega)
          rw [← HL.out] at sb
          obtain ⟨sb1, sb2⟩ := sb
          have hkx : k < xs.length := by have := HN.out; omega
          have HE : Hid (turn (xs.take (k + 1)) = turn (xs.take k) ++ [turnL l]) := by show _ = _; rw [turn_snoc xs k hkx, ← HL.out]
          have hle : (turn (xs.take k)).length ≤ k := by rw [turn_len]; exact List.length_take_le _ _
          obtain ⟨p, q, hv⟩ := owns_form ho
          subst hv
          generalize turn (xs.take k) = ys at *
          go_wp2_with (at_builtin; refine wpList_append_own _ rfl _ _ 33 rfl (w'.heap.size + 1) 25 i0 _ 4 32 Try.underlying33 hi hz0 hz1 hz2 rfl (by decide) _ _ _ rfl ((ho.alloc _).alloc _) ⟨wr.heap.size + 1, 0, none⟩ 1 1 (legC (turnL l)) rfl rfl ?c1 (legC_one _) ?c3 ?c4 ?c5 ?_)
          case c1 => exact legC_cells (b := wr.heap.size + 1) (o := 0) ⟨by simp [go_sem, turnL], by simp [go_sem, turnL], by simp [go_sem, turnL], by simp [go_sem, turnL]⟩
          case c3 => unfold maxLen; omega
          case c4 => omega
          case c5 => simp; omega
          · intro v' w3 hown' hgrow _
            obtain ⟨p', q', hv'⟩ := owns_form hown'
            subst hv'
            have o1 := own_of ((ho.alloc (.cells #[.int .i64 l.sh, .int .i64 l.ac, .int .i64 l.ast, .int .i64 (-l.am)] 25)).alloc (.cells #[.int .i64 l.sh, .int .i64 l.ac, .int .i64 l.ast, .int .i64 (-l.am)] 25))
            have i0' := hgrow.cell (cell_keep (balloc (balloc (Below.refl _ _) _) _) b0) (own_not o1 (.inl (by simp)))
            have i1' := hgrow.cell (cell_keep (balloc (balloc (Below.refl _ _) _) _) b1) (own_not o1 (.inl (by simp)))
            have i4 : ∀ o, w3.frozen? ⟨w'.heap.size, o, none⟩ = false := fun o => by
              rw [World.frozen?_of_block (w := (wr.alloc (.cells #[.int .i64 l.sh, .int .i64 l.ac, .int .i64 l.ast, .int .i64 (-l.am)] 25)).alloc (.cells #[.int .i64 l.sh, .int .i64 l.ac, .int .i64 l.ast, .int .i64 (-l.am)] 25)) (hgrow.block w'.heap.size (by simp; omega) (own_not o1 (.inl (by omega)))), (bcell (balloc (balloc (Below.refl _ _) _) _)).2 _ _ hzw]
              exact bf o
            have i6 : Below w'.heap.size w' w3 := owns_grown ((ho.alloc _).alloc _) (balloc (balloc hbl _) _) (by simp; omega) (by omega) hgrow
            clear hgrow ho b0 b1 bf hbl o1 a1 a2 a3 a4
            go_wp2
            refine ⟨⟨k + 1, .slice p' (ys.length + 1) q', by omega, by go_num, ?_, ?_, ?_, ?_, ?_⟩, by simp [intOf]; omega⟩
            · rw [HE.out, legsC_snoc, List.length_append]
              exact owns_setCell hown' (by simp) _
            · rw [set_other (by simp)]; exact i0'
            · exact set_same i1'
            · intro o; rw [World.frozen?_setCell]; exact i4 o
            · exact i6.setCell (Nat.le_refl _) _
        · have hkn : k = n := by omega
          subst hkn
          have t0 : xs.take k = xs := by rw [← HN.out]; exact List.take_length
          rw [t0] at ho
          obtain ⟨p, q, hv⟩ := owns_form ho
          subst hv
          have hr0 := cell_keep hbl hr0
          have hr1 := cell_keep hbl hr1
          have hr2 := cell_keep hbl hr2
          have hrf2 : ∀ o, wr.frozen? ⟨w.heap.size + 1, o, none⟩ = false := fun o => by rw [(bcell hbl).2 _ _ hz]; exact hrf o
          have hB2 := bstep hB1 hbl
          clear hrf
          go_wp2
          have hal : revLegs id xs nid = turn xs := by simp [revLegs, hok]
          refine bodyPost_ret (v := .agg #[.int .i64 0, .int .i64 nid, .slice p (turn xs).length q]) ?_ rfl ⟨.slice p (turn xs).length q, ?_, ?_, bset (bset (bset hB2 (by simp) _) (by simp) _) (by simp) _⟩
          · simp [results, Try.results32, go_sem, hr0, hr1, hr2]
          · simp [revCode, revId, HC.out, ha, hok]
          · rw [hal]
            exact owns_base (owns_setCell (owns_setCell (owns_setCell ho (by simp; omega) _) (by simp; omega) _) (by simp; omega) _) (by omega)
  · have hd : (contractFault id xs == 0) = false := by simpa using hcf
    have hok : revOk id xs nid = false := by simp [revOk, hcf]
    go_wp2
    refine bodyPost_ret (v := .agg #[.int .i64 (contractFault id xs), .int .i64 0, .slice none 0 0]) ?_ rfl ⟨.slice none 0 0, ?_, ?_, bset (bset (bset hB1 (by simp) _) (by simp) _) (by simp) _⟩
    · simp [results, Try.results32, go_sem, hc1]
    · simp [revCode, revId, hcf, hok]
    · rw [show revLegs id xs nid = [] by simp [revLegs, hok]]; exact World.ownsRow_nil _ _ _ _

set_option maxHeartbeats 400000 in
theorem eqContractResult_any (c c' id id' : Int) (x y : Value) (xs ys : List Leg) (w : World) (hx : LegsV w x xs) (hy : LegsV w y ys) :
    Calls Try.prog 34 #[.agg #[.int .i64 c, .int .i64 id, x], .agg #[.int .i64 c', .int .i64 id', y]] w fun e w' => e = .returned (.bool (decide (c = c' ∧ id = id' ∧ xs = ys))) ∧ Below w.heap.size w w' := by
  by_cases hid : c = c'
  · subst hid
    go_enter Try.func34, Try.ntmps34
    go_wp2_with fail
    refine (eqContract_any id id' x y xs ys _ (LegsV_below hx (balloc (balloc (Below.refl _ _) _) _)) (LegsV_below hy (balloc (balloc (Below.refl _ _) _) _))).mono ?_
    rintro e w1 ⟨rfl, hb⟩
    go_wp2
    all_goals
      rename_i h
      go_ret
      exact ⟨by simp at h; first | (simp [h]; done) | (simp; intro a b; rcases h with h | h; exact h a; exact h b), bstep (balloc (balloc (Below.refl _ _) _) _) hb⟩
  · have hd : (c == c') = false := by simp [hid]
    go_enter Try.func34, Try.ntmps34
    go_wp2
    go_ret
    exact ⟨by simp [hid], balloc (balloc (Below.refl _ _) _) _⟩

set_option maxHeartbeats 400000 in
theorem markContractResult_any (c id : Int) (v : Value) (n : Nat) (cs : List Value) (base e : Nat) (k : Int) (w : World) (ho : w.ownsRow base e 4 v n cs) (hn : n ≤ 1048576) (hk0 : 0 ≤ k) (hk1 : k ≤ 1073741824) :
    Calls Try.prog 35 #[.agg #[.int .i64 c, .int .i64 id, v], .int .i64 k] w fun r w' => r = .returned (.int .i64 (k + 4 * n)) ∧ w'.ownsRow base e 4 v n (legsC (marksL k n)) ∧ w.grownBy w' v.ownBlock := by
  go_enter Try.func35, Try.ntmps35
  go_wp2_with fail
  refine (markContract_any id v n cs base e k _ (ho.alloc _) hn hk0 hk1).mono ?_
  rintro r w1 ⟨rfl, ho1, hg1⟩
  go_wp2
  go_ret
  exact ⟨rfl, ho1, grown_trans (World.grownBy_alloc _ _ _) hg1⟩

set_option maxHeartbeats 400000 in
theorem heldContract_any (id : Int) (v : Value) (n : Nat) (k : Int) (w : World) (hv : LegsV w v (marksL k n)) (hn : n ≤ 1048576) (hk0 : 0 ≤ k) (hk1 : k ≤ 1073741824) :
    Calls Try.prog 61 #[.agg #[.int .i64 id, v], .int .i64 k] w fun r w' => r = .returned (.int .i64 (k + 4 * n)) ∧ Below w.heap.size w w' := by
  have h4 : ¬ k + 4 * (n : Int) < 0 := by omega
  go_enter Try.func61, Try.ntmps61
  go_wp2_with fail
  refine (heldLegS_any v n k _ (LegsV_below hv (balloc (Below.refl _ _) _)) hn hk0 hk1).mono ?_
  rintro r w1 ⟨rfl, rfl⟩
  go_wp2
  go_ret
  exact ⟨rfl, balloc (Below.refl _ _) _⟩

set_option maxHeartbeats 400000 in
theorem heldContractResult_any (c id : Int) (v : Value) (n : Nat) (k : Int) (w : World) (hv : LegsV w v (marksL k n)) (hn : n ≤ 1048576) (hk0 : 0 ≤ k) (hk1 : k ≤ 1073741824) :
    Calls Try.prog 36 #[.agg #[.int .i64 c, .int .i64 id, v], .int .i64 k] w fun r w' => r = .returned (.int .i64 (k + 4 * n)) ∧ Below w.heap.size w w' := by
  have h4 : ¬ k + 4 * (n : Int) < 0 := by omega
  go_enter Try.func36, Try.ntmps36
  go_wp2_with fail
  refine (heldContract_any id v n k _ (LegsV_below hv (balloc (Below.refl _ _) _)) hn hk0 hk1).mono ?_
  rintro r w1 ⟨rfl, hb⟩
  go_wp2
  go_ret
  exact ⟨rfl, bstep (balloc (Below.refl _ _) _) hb⟩

/-- four boxes, two of them of three cells -/
def Boxes3 (W : World) (b0 b1 b2 b3 : Nat) (u0 v0 u1 r1 v1 u2 v2 u3 r3 v3 : Value) : Prop :=
  (W.cell? ⟨b0, 0, none⟩ = some u0 ∧ W.cell? ⟨b0, 1, none⟩ = some v0) ∧ (W.cell? ⟨b1, 0, none⟩ = some u1 ∧ W.cell? ⟨b1, 1, none⟩ = some r1 ∧ W.cell? ⟨b1, 2, none⟩ = some v1) ∧
  (W.cell? ⟨b2, 0, none⟩ = some u2 ∧ W.cell? ⟨b2, 1, none⟩ = some v2) ∧ (W.cell? ⟨b3, 0, none⟩ = some u3 ∧ W.cell? ⟨b3, 1, none⟩ = some r3 ∧ W.cell? ⟨b3, 2, none⟩ = some v3)
theorem boxes3_below {w w' : World} {b0 b1 b2 b3 : Nat} {u0 v0 u1 r1 v1 u2 v2 u3 r3 v3 : Value} (hb : Below w.heap.size w w') (h : Boxes3 w b0 b1 b2 b3 u0 v0 u1 r1 v1 u2 v2 u3 r3 v3) : Boxes3 w' b0 b1 b2 b3 u0 v0 u1 r1 v1 u2 v2 u3 r3 v3 := by
  obtain ⟨⟨a, b⟩, ⟨c, c', d⟩, ⟨e, f⟩, ⟨g, g', i⟩⟩ := h
  exact ⟨⟨cell_keep hb a, cell_keep hb b⟩, ⟨cell_keep hb c, cell_keep hb c', cell_keep hb d⟩, ⟨cell_keep hb e, cell_keep hb f⟩, ⟨cell_keep hb g, cell_keep hb g', cell_keep hb i⟩⟩
theorem boxes3_grown {w w' : World} {row : Option Nat} {b0 b1 b2 b3 : Nat} {u0 v0 u1 r1 v1 u2 v2 u3 r3 v3 : Value} (hg : w.grownBy w' row) (n0 : some b0 ≠ row) (n1 : some b1 ≠ row) (n2 : some b2 ≠ row) (n3 : some b3 ≠ row)
    (h : Boxes3 w b0 b1 b2 b3 u0 v0 u1 r1 v1 u2 v2 u3 r3 v3) : Boxes3 w' b0 b1 b2 b3 u0 v0 u1 r1 v1 u2 v2 u3 r3 v3 := by
  obtain ⟨⟨a, b⟩, ⟨c, c', d⟩, ⟨e, f⟩, ⟨g, g', i⟩⟩ := h
  exact ⟨⟨hg.cell a n0, hg.cell b n0⟩, ⟨hg.cell c n1, hg.cell c' n1, hg.cell d n1⟩, ⟨hg.cell e n2, hg.cell f n2⟩, ⟨hg.cell g n3, hg.cell g' n3, hg.cell i n3⟩⟩

end Go.Proofs.Ytcngckkcgpkdoaa

import Derived.Test.YtggigaghfcpbbaaGreatPrnMessageFaultLaw6
import Derived.Test.YtggigaghfcpbbaaGreatPrnMessageFaultLaw2
import Derived.Deep.RegionHeld3
import Derived.Deep.DrawnRows
import Derived.Test.YtggigaghfcpbbaaGreatPrnMessageFaultLaw1

/-
  Rows of Tryz. (Written by program: nest.py.)
-/
namespace Go.Proofs.YtggigaghfcpbbaaGreat
open Go.RowKit
set_option linter.unusedSectionVars false
variable [DecidableEq Leg] [Inhabited Leg] [DecidableEq Vot] [Inhabited Vot] [DecidableEq Trr] [Inhabited Trr]
attribute [local go_sem ↓] Go.wp_at_zero Go.wp_at_succ

def trysR : Rep (List Trr) := nRep trrR 178 6 lvTrr
def wtTrys (xs : List Trr) : Nat := wtL wtTrr xs
theorem trys_form {w : World} {v : Value} {xs : List Trr} (h : trysR.V w v xs) : ∃ a c, v = .slice a xs.length c := by
  obtain ⟨a, c, rfl, _⟩ := h
  exact ⟨_, _, rfl⟩
theorem infoTrys : (Tryz.prog.info? 178).map (fun i => (i.zero, i.size, i.bytes)) = some (some (.agg #[.int .i64 0, .int .i64 0, .int .i64 0, .int .i64 0, .slice none 0 0, .slice none 0 0]), 6, 80) := by kernel_rfl
theorem keepTrys {w w' : World} {a0 a1 a2 a3 a4 a5 a6 a7 a8 a9 a10 a11 : Addr} {x0 x1 x2 x3 x4 x5 x6 x7 x8 x9 x10 x11 : Value} (hb : Below w.heap.size w w') (g0 : w.cell? a0 = some x0) (g1 : w.cell? a1 = some x1) (g2 : w.cell? a2 = some x2) (g3 : w.cell? a3 = some x3) (g4 : w.cell? a4 = some x4) (g5 : w.cell? a5 = some x5) (g6 : w.cell? a6 = some x6) (g7 : w.cell? a7 = some x7) (g8 : w.cell? a8 = some x8) (g9 : w.cell? a9 = some x9) (g10 : w.cell? a10 = some x10) (g11 : w.cell? a11 = some x11) : Below w.heap.size w w' ∧ w'.cell? a0 = some x0 ∧ w'.cell? a1 = some x1 ∧ w'.cell? a2 = some x2 ∧ w'.cell? a3 = some x3 ∧ w'.cell? a4 = some x4 ∧ w'.cell? a5 = some x5 ∧ w'.cell? a6 = some x6 ∧ w'.cell? a7 = some x7 ∧ w'.cell? a8 = some x8 ∧ w'.cell? a9 = some x9 ∧ w'.cell? a10 = some x10 ∧ w'.cell? a11 = some x11 :=
  ⟨hb, cell_keep hb g0, cell_keep hb g1, cell_keep hb g2, cell_keep hb g3, cell_keep hb g4, cell_keep hb g5, cell_keep hb g6, cell_keep hb g7, cell_keep hb g8, cell_keep hb g9, cell_keep hb g10, cell_keep hb g11⟩
set_option maxHeartbeats 1000000 in
theorem eqTryS_u (x y : Value) (xs ys : List Trr) (w : World) (hx : trysR.V w x xs) (hy : trysR.V w y ys) :
    Calls Tryz.prog 89 #[x, y] w fun e w' => e = .returned (.bool (decide (xs = ys))) ∧ Below w.heap.size w w' := by
  obtain ⟨ax, cx, rfl, hcx, hmx, hx⟩ := hx
  obtain ⟨ay, cy, rfl, hcy, hmy, hy⟩ := hy
  unfold maxLen at hmx hmy
  by_cases hl : ys.length = xs.length
  · rw [hl] at hcy hy ⊢
    have HL : Hid (ys.length = xs.length) := hl
    clear hl
    generalize hn : xs.length = n at *
    have HN : Hid (xs.length = n) := hn
    clear hn
    go_enter Tryz.func89, Tryz.ntmps89
    go_wp2
    go_loopw [5] (fun i w' => ∃ k : Nat, k ≤ n ∧ i = .int .i64 k ∧ (∀ j, j < k → xs.getD j default = ys.getD j default) ∧ Below w.heap.size w w') (fun i _ => n - (intOf i).toNat)
    case atStart => exact ⟨0, Nat.zero_le _, rfl, fun j h => absurd h (Nat.not_lt_zero _), Below.refl _ _⟩
    case round =>
      obtain ⟨k, hk, rfl, hpre, hbl⟩ := hrel
      have HP : Hid (∀ j, j < k → xs.getD j default = ys.getD j default) := hpre
      clear hpre
      by_cases hlt : k < n
      · obtain ⟨bx, ox, ux, rfl, _, p1, hvx⟩ := hx k hlt
        obtain ⟨b2, oy, uy, rfl, _, p2, hvy⟩ := hy k hlt
        obtain ⟨l1, hl1⟩ : ∃ l, l = xs.getD k default := ⟨_, rfl⟩
        obtain ⟨l2, hl2⟩ : ∃ l, l = ys.getD k default := ⟨_, rfl⟩
        rw [← hl1] at hvx
        rw [← hl2] at hvy
        have H1 : Hid (l1 = xs.getD k default) := hl1
        have H2 : Hid (l2 = ys.getD k default) := hl2
        have hvx' := hvx
        obtain ⟨ux1, ux2, rfl, _, _⟩ := hvx'
        have hvy' := hvy
        obtain ⟨uy1, uy2, rfl, _, _⟩ := hvy'
        have g0 : w.cell? ⟨bx, ox + k * 6, none⟩ = some (.int .i64 l1.con) := p1 0 (by omega)
        have g1 : w.cell? ⟨bx, ox + k * 6 + 1, none⟩ = some (.int .i64 l1.sh) := p1 1 (by omega)
        have g2 : w.cell? ⟨bx, ox + k * 6 + 2, none⟩ = some (.int .i64 l1.bal) := p1 2 (by omega)
        have g3 : w.cell? ⟨bx, ox + k * 6 + 3, none⟩ = some (.int .i64 l1.val) := p1 3 (by omega)
        have g4 : w.cell? ⟨bx, ox + k * 6 + 4, none⟩ = some (ux1) := p1 4 (by omega)
        have g5 : w.cell? ⟨bx, ox + k * 6 + 5, none⟩ = some (ux2) := p1 5 (by omega)
        have g6 : w.cell? ⟨b2, oy + k * 6, none⟩ = some (.int .i64 l2.con) := p2 0 (by omega)
        have g7 : w.cell? ⟨b2, oy + k * 6 + 1, none⟩ = some (.int .i64 l2.sh) := p2 1 (by omega)
        have g8 : w.cell? ⟨b2, oy + k * 6 + 2, none⟩ = some (.int .i64 l2.bal) := p2 2 (by omega)
        have g9 : w.cell? ⟨b2, oy + k * 6 + 3, none⟩ = some (.int .i64 l2.val) := p2 3 (by omega)
        have g10 : w.cell? ⟨b2, oy + k * 6 + 4, none⟩ = some (uy1) := p2 4 (by omega)
        have g11 : w.cell? ⟨b2, oy + k * 6 + 5, none⟩ = some (uy2) := p2 5 (by omega)
        clear hl1 hl2 hx hy p1 p2
        go_wp2
        go_region_held3 (fun w' => Below w.heap.size w w' ∧ w'.cell? ⟨bx, ox + k * 6, none⟩ = some (.int .i64 l1.con) ∧ w'.cell? ⟨bx, ox + k * 6 + 1, none⟩ = some (.int .i64 l1.sh) ∧ w'.cell? ⟨bx, ox + k * 6 + 2, none⟩ = some (.int .i64 l1.bal) ∧ w'.cell? ⟨bx, ox + k * 6 + 3, none⟩ = some (.int .i64 l1.val) ∧ w'.cell? ⟨bx, ox + k * 6 + 4, none⟩ = some (ux1) ∧ w'.cell? ⟨bx, ox + k * 6 + 5, none⟩ = some (ux2) ∧ w'.cell? ⟨b2, oy + k * 6, none⟩ = some (.int .i64 l2.con) ∧ w'.cell? ⟨b2, oy + k * 6 + 1, none⟩ = some (.int .i64 l2.sh) ∧ w'.cell? ⟨b2, oy + k * 6 + 2, none⟩ = some (.int .i64 l2.bal) ∧ w'.cell? ⟨b2, oy + k * 6 + 3, none⟩ = some (.int .i64 l2.val) ∧ w'.cell? ⟨b2, oy + k * 6 + 4, none⟩ = some (uy1) ∧ w'.cell? ⟨b2, oy + k * 6 + 5, none⟩ = some (uy2)) ((refine keepTrys ?_ g0 g1 g2 g3 g4 g5 g6 g7 g8 g9 g10 g11; (repeat (first | exact Below.refl _ _ | assumption | refine Below.drew ?_ | refine balloc ?_ _ | refine bstep ?_ (by assumption))))) (first | (go_at_call 106; refine (eqTry_u (.agg #[.int .i64 l1.con, .int .i64 l1.sh, .int .i64 l1.bal, .int .i64 l1.val, ux1, ux2]) (.agg #[.int .i64 l2.con, .int .i64 l2.sh, .int .i64 l2.bal, .int .i64 l2.val, uy1, uy2]) l1 l2 _ (trrR.below hvx (by (repeat (first | exact Below.refl _ _ | assumption | refine Below.drew ?_ | refine balloc ?_ _ | refine bstep ?_ (by assumption))))) (trrR.below hvy (by (repeat (first | exact Below.refl _ _ | assumption | refine Below.drew ?_ | refine balloc ?_ _ | refine bstep ?_ (by assumption)))))).mono ?_; rintro e w' ⟨rfl, hb1⟩))
        rename_i hH
        have hB := hH.1
        clear hH
        go_wp2
        · rename_i hle
          go_ret
          refine ⟨?_, hB⟩
          have : ¬ xs = ys := fun h => by
            have : l1 = l2 := by rw [H1.out, H2.out, h]
            simp [this] at hle
          simp [this]
        · rename_i hle
          refine ⟨⟨k + 1, by omega, by go_num, fun j hj => ?_, hB⟩, by simp [intOf]; omega⟩
          by_cases hjk : j < k
          · exact HP.out j hjk
          · have : j = k := by omega
            subst this
            rw [← H1.out, ← H2.out]
            simpa using hle
      · go_wp2
        go_ret
        have : k = n := by omega
        subst this
        refine ⟨?_, hbl⟩
        have : xs = ys := rows_eq_of (by rw [HL.out, HN.out]) (by rw [HN.out]; exact HP.out)
        simp [this]
  · go_enter Tryz.func89, Tryz.ntmps89
    have hl' : ((xs.length : Int) == (ys.length : Int)) = false := by simp; omega
    go_wp2
    go_ret
    have : ¬ xs = ys := fun h => hl (by rw [h])
    exact ⟨by simp [this], Below.refl _ _⟩
set_option maxHeartbeats 1000000 in
theorem toTryS_u (x : Value) (xs : List Trr) (w : World) (hx : trysR.V w x xs) (hn : wtTrys xs ≤ 1048576) :
    Calls Tryz.prog 78 #[x] w fun e w' => ∃ v F, e = .returned v ∧ trysR.O w' w.heap.size F v xs ∧ Below w.heap.size w w' := by
  obtain ⟨ax, cx, rfl, hcx, hmx, hx⟩ := hx
  unfold maxLen at hmx
  unfold wtTrys at hn
  have hlen : xs.length ≤ 1048576 := by unfold wtL at hn; omega
  have hW : ∀ k, k < xs.length → wtTrr (xs.getD k default) ≤ 1048576 := fun k hk => (wt_at hn hk).1
  obtain ⟨i0, hi, hz0, hz1, hz2⟩ := info_parts infoTrys
  obtain ⟨w1, hmk, hown, hgr⟩ := run_make_full (P := Tryz.prog) w w.heap.size 111 178 i0 _ 6 Tryz.underlying111 hi hz0 hz1 .i64 .i64 xs.length (by rw [hz2]; omega) (by unfold maxLen; omega) (Nat.le_refl _)
  have hbl0 : Below w.heap.size w w1 := (Below.refl _ _).grown hgr (Nat.le_refl _) (fun k h => by cases h)
  clear hn
  generalize hn' : xs.length = n at *
  have HN : Hid (xs.length = n) := hn'
  clear hn'
  go_enter Tryz.func78, Tryz.ntmps78
  go_wp2
  go_loopw [4] (fun i w' => ∃ (k : Nat) (cs : List Value) (us : Nat → Value) (fs : Nat → Nat → Prop), k ≤ n ∧ i = .int .i64 k ∧ PO trrR 178 6 lvTrr w' w.heap.size (.slice (some ⟨w.heap.size, 0, none⟩) n n) n k (fun i => xs.getD i default) cs us fs ∧ Below w.heap.size w w') (fun i _ => n - (intOf i).toNat)
  case atStart => exact ⟨0, _, fun _ => .int .i64 0, fun _ _ => False, Nat.zero_le _, rfl, ⟨hown, fun i h => by omega, fun i h => by omega, fun i h => by omega, fun i h => by omega, fun i j h => by omega⟩, hbl0⟩
  case round =>
    obtain ⟨k, cs, us, fs, hk, rfl, hp, hbl⟩ := hrel
    clear hown hmk hgr hbl0
    by_cases hlt : k < n
    · obtain ⟨bx, ox, ux, rfl, _, p1, hvx⟩ := hx k hlt
      have hw := hW k hlt
      obtain ⟨l, hl⟩ : ∃ l, l = xs.getD k default := ⟨_, rfl⟩
      rw [← hl] at hvx hw
      have HL : Hid (l = xs.getD k default) := hl
      have hvx' := hvx
      obtain ⟨ux1, ux2, rfl, _, _⟩ := hvx'
      have g0 : w.cell? ⟨bx, ox + k * 6, none⟩ = some (.int .i64 l.con) := p1 0 (by omega)
      replace g0 := cell_keep hbl g0
      have g1 : w.cell? ⟨bx, ox + k * 6 + 1, none⟩ = some (.int .i64 l.sh) := p1 1 (by omega)
      replace g1 := cell_keep hbl g1
      have g2 : w.cell? ⟨bx, ox + k * 6 + 2, none⟩ = some (.int .i64 l.bal) := p1 2 (by omega)
      replace g2 := cell_keep hbl g2
      have g3 : w.cell? ⟨bx, ox + k * 6 + 3, none⟩ = some (.int .i64 l.val) := p1 3 (by omega)
      replace g3 := cell_keep hbl g3
      have g4 : w.cell? ⟨bx, ox + k * 6 + 4, none⟩ = some (ux1) := p1 4 (by omega)
      replace g4 := cell_keep hbl g4
      have g5 : w.cell? ⟨bx, ox + k * 6 + 5, none⟩ = some (ux2) := p1 5 (by omega)
      replace g5 := cell_keep hbl g5
      clear hx p1 hW hl
      go_wp2_with fail
      refine (toTry_u (.agg #[.int .i64 l.con, .int .i64 l.sh, .int .i64 l.bal, .int .i64 l.val, ux1, ux2]) l _ (trrR.below hvx (by (repeat (first | exact Below.refl _ _ | assumption | refine Below.drew ?_ | refine balloc ?_ _ | refine bstep ?_ (by assumption))))) hw).mono ?_
      rintro e wa ⟨v1, F1, rfl, o1, b1⟩
      have ofm1 := trrR.ofO o1
      obtain ⟨x1_1, x1_2, rfl, y1_1, y1_2⟩ := ofm1
      obtain ⟨a1_1, n1_1, rfl⟩ := ints_form y1_1
      obtain ⟨a1_2, n1_2, rfl⟩ := vots_form y1_2
      have ho1 := (hp.keep b1).row
      obtain ⟨y0, q0⟩ := owns_some ho1 (k * 6) (by omega)
      obtain ⟨y1, q1⟩ := owns_some ho1 (k * 6 + 1) (by omega)
      obtain ⟨y2, q2⟩ := owns_some ho1 (k * 6 + 2) (by omega)
      obtain ⟨y3, q3⟩ := owns_some ho1 (k * 6 + 3) (by omega)
      obtain ⟨y4, q4⟩ := owns_some ho1 (k * 6 + 4) (by omega)
      obtain ⟨y5, q5⟩ := owns_some ho1 (k * 6 + 5) (by omega)
      have hf := fun j => ho1.frozenAt j
      go_wp2
      have s0 := ho1.stored (k * 6) (.int .i64 l.con)
      have s1 := s0.1.stored (k * 6 + 1) (.int .i64 l.sh)
      have s2 := s1.1.stored (k * 6 + 2) (.int .i64 l.bal)
      have s3 := s2.1.stored (k * 6 + 3) (.int .i64 l.val)
      have s4 := s3.1.stored (k * 6 + 4) (.slice a1_1 l.frm.length n1_1)
      have s5 := s4.1.stored (k * 6 + 5) (.slice a1_2 l.olds.length n1_2)
      have hrow : World.ownsRow _ w.heap.size 178 6 (.slice (some ⟨w.heap.size, 0, none⟩) n n) n (setRow cs (k * 6) [.int .i64 l.con, .int .i64 l.sh, .int .i64 l.bal, .int .i64 l.val, .slice a1_1 l.frm.length n1_1, .slice a1_2 l.olds.length n1_2]) := s5.1
      have hcl := hp.row.1
      refine ⟨⟨k + 1, _, _, _, by omega, by go_num, hp.push (u := (.agg #[.int .i64 l.con, .int .i64 l.sh, .int .i64 l.bal, .int .i64 l.val, .slice a1_1 l.frm.length n1_1, .slice a1_2 l.olds.length n1_2])) (F := F1) hbl.size b1 (by rw [← HL.out]; exact o1) rfl hrow ((((((Mod.of_grown s0.2).trans (Mod.of_grown s1.2)).trans (Mod.of_grown s2.2)).trans (Mod.of_grown s3.2)).trans (Mod.of_grown s4.2)).trans (Mod.of_grown s5.2)) ?_ ?_, ?_⟩, by simp [intOf]; omega⟩
      · intro i hi j hj
        exact setRow_old _ _ _ _ (.inl (by omega))
      · intro j hj
        exact setRow_new _ _ _ _ (by simp only [List.length_cons, List.length_nil]; omega) hj
      · exact (((((((bstep hbl b1).setCell (Nat.le_refl _) _).setCell (Nat.le_refl _) _).setCell (Nat.le_refl _) _).setCell (Nat.le_refl _) _).setCell (Nat.le_refl _) _).setCell (Nat.le_refl _) _)
    · go_wp2
      go_ret
      have hkn : k = n := by omega
      subst hkn
      have e := HN.out
      subst e
      exact ⟨_, _, rfl, ⟨cs, us, fs, hp, fun b => Iff.rfl⟩, hbl⟩
set_option maxHeartbeats 1000000 in
theorem szTryS_u (x : Value) (xs : List Trr) (left : Int) (w : World) (hx : trysR.V w x xs) (h0 : 0 ≤ left) (h1 : left ≤ 1048576) :
    Calls Tryz.prog 69 #[x, .int .i64 left] w fun e w' => e = .returned (.int .i64 (szLen left (wtTrys xs))) ∧ Below w.heap.size w w' := by
  obtain ⟨ax, cx, rfl, hcx, hmx, hx⟩ := hx
  unfold maxLen at hmx
  unfold wtTrys wtL
  have HT : Hid (∀ k, k < xs.length → cntTo wtTrr (k + 1) xs = cntTo wtTrr k xs + wtTrr (xs.getD k default) ∧ cntTo wtTrr (k + 1) xs ≤ cntTo wtTrr xs.length xs) :=
    fun k hk => ⟨cntTo_succ _ k xs hk, cntTo_le _ _ _ _ hk⟩
  generalize xs.length = n at *
  by_cases h : left < n
  · have h' : left - (n : Int) < 0 := by omega
    clear hx
    go_enter Tryz.func69, Tryz.ntmps69
    go_wp2
    go_ret
    exact ⟨by simp only [szLen]; rw [if_pos (by omega)]; rfl, Below.refl _ _⟩
  · have h' : ¬ left - (n : Int) < 0 := by omega
    go_enter Tryz.func69, Tryz.ntmps69
    go_wp2
    go_loopw [1, 5] (fun l i w' => ∃ k : Nat, k ≤ n ∧ i = .int .i64 k ∧ l = .int .i64 (left - n - cntTo wtTrr k xs) ∧ 0 ≤ left - n - cntTo wtTrr k xs ∧ Below w.heap.size w w') (fun _ i _ => n - (intOf i).toNat)
    case atStart => exact ⟨0, Nat.zero_le _, rfl, by simp [cntTo], by simp [cntTo]; omega, Below.refl _ _⟩
    case round =>
      obtain ⟨k, hk, rfl, rfl, hpos, hbl⟩ := hrel
      by_cases hlt : k < n
      · obtain ⟨bx, ox, ux, rfl, _, p1, hvx⟩ := hx k hlt
        obtain ⟨t2, t3⟩ := HT.out k hlt
        generalize xs.getD k default = l at *
        have hvx' := hvx
        obtain ⟨ux1, ux2, rfl, _, _⟩ := hvx'
        have g0 : w.cell? ⟨bx, ox + k * 6, none⟩ = some (.int .i64 l.con) := p1 0 (by omega)
        replace g0 := cell_keep hbl g0
        have g1 : w.cell? ⟨bx, ox + k * 6 + 1, none⟩ = some (.int .i64 l.sh) := p1 1 (by omega)
        replace g1 := cell_keep hbl g1
        have g2 : w.cell? ⟨bx, ox + k * 6 + 2, none⟩ = some (.int .i64 l.bal) := p1 2 (by omega)
        replace g2 := cell_keep hbl g2
        have g3 : w.cell? ⟨bx, ox + k * 6 + 3, none⟩ = some (.int .i64 l.val) := p1 3 (by omega)
        replace g3 := cell_keep hbl g3
        have g4 : w.cell? ⟨bx, ox + k * 6 + 4, none⟩ = some (ux1) := p1 4 (by omega)
        replace g4 := cell_keep hbl g4
        have g5 : w.cell? ⟨bx, ox + k * 6 + 5, none⟩ = some (ux2) := p1 5 (by omega)
        replace g5 := cell_keep hbl g5
        generalize hm : wtTrr l = m at *
        have HM : Hid (wtTrr l = m) := hm
        clear hx p1 hm
        generalize cntTo wtTrr k xs = c at *
        go_wp2_with fail
        refine (szTry_u (.agg #[.int .i64 l.con, .int .i64 l.sh, .int .i64 l.bal, .int .i64 l.val, ux1, ux2]) l (left - n - c) _ (trrR.below hvx (by (repeat (first | exact Below.refl _ _ | assumption | refine Below.drew ?_ | refine balloc ?_ _ | refine bstep ?_ (by assumption))))) hpos (by omega)).mono ?_
        rintro e wa ⟨rfl, b1⟩
        rw [HM.out]
        go_wp2
        · rename_i hneg
          go_ret
          refine ⟨?_, by (repeat (first | exact Below.refl _ _ | assumption | refine Below.drew ?_ | refine balloc ?_ _ | refine bstep ?_ (by assumption)))⟩
          have : szLen left ↑(n + cntTo wtTrr n xs) = -1 := by
            unfold szLen at hneg ⊢
            rw [if_pos (by split at hneg <;> omega)]
          rw [this]
          rfl
        · rename_i hneg
          refine ⟨⟨k + 1, by omega, by go_num, ?_, ?_, by (repeat (first | exact Below.refl _ _ | assumption | refine Below.drew ?_ | refine balloc ?_ _ | refine bstep ?_ (by assumption)))⟩, by simp [intOf]; omega⟩
          · congr 1
            unfold szLen at hneg ⊢
            split at hneg <;> omega
          · unfold szLen at hneg
            split at hneg <;> omega
      · go_wp2
        go_ret
        have hkn : k = n := by omega
        subst hkn
        refine ⟨?_, hbl⟩
        have : szLen left ↑(k + cntTo wtTrr k xs) = left - k - cntTo wtTrr k xs := by
          unfold szLen
          rw [if_neg (by omega)]
          omega
        rw [this]
        rfl
end Go.Proofs.YtggigaghfcpbbaaGreat

/-
  Slices of Heard: the law's own copy, comparison, count, marks. (Written by program after my texts on legs.)
-/
namespace Go.Proofs.YtggigaghfcpbbaaGreat
open Go.RowKit
set_option linter.unusedSectionVars false
attribute [local go_sem ↓] Go.wp_at_zero Go.wp_at_succ

structure Hrd where
  con : Int
  sh : Int
  bal : Int
  val : Int
  frm : Int
variable [DecidableEq Hrd] [Inhabited Hrd]

def hrdV (x : Hrd) : Value := .agg #[.int .i64 x.con, .int .i64 x.sh, .int .i64 x.bal, .int .i64 x.val, .int .i64 x.frm]
set_option maxHeartbeats 400000 in
theorem toHeard_any (x : Hrd) (w : World) :
    Calls Tryz.prog 100 #[hrdV x] w fun e w' => e = .returned (hrdV x) ∧ Below w.heap.size w w' := by
  obtain ⟨a, b, c, d, e⟩ := x
  unfold hrdV
  go_enter Tryz.func100, Tryz.ntmps100
  go_wp2
  exact bodyPost_ret (v := .agg #[.int .i64 a, .int .i64 b, .int .i64 c, .int .i64 d, .int .i64 e]) (by simp [results, Tryz.results100, go_sem]) rfl ⟨rfl, balloc (balloc (balloc (Below.refl _ _) _) _) _⟩
set_option maxHeartbeats 400000 in
theorem eqHeard_any (x y : Hrd) (w : World) :
    Calls Tryz.prog 107 #[hrdV x, hrdV y] w fun e w' => e = .returned (.bool (decide (x = y))) ∧ Below w.heap.size w w' := by
  obtain ⟨a, b, c, d, e⟩ := x
  obtain ⟨a', b', c', d', e'⟩ := y
  unfold hrdV
  go_enter Tryz.func107, Tryz.ntmps107
  go_wp2
  all_goals
    go_ret
    exact ⟨by simp_all, balloc (balloc (Below.refl _ _) _) _⟩
def hrdCells (w : World) (b o : Nat) (x : Hrd) : Prop := w.cell? ⟨b, o, none⟩ = some (.int .i64 x.con) ∧ w.cell? ⟨b, o + 1, none⟩ = some (.int .i64 x.sh) ∧ w.cell? ⟨b, o + 2, none⟩ = some (.int .i64 x.bal) ∧ w.cell? ⟨b, o + 3, none⟩ = some (.int .i64 x.val) ∧ w.cell? ⟨b, o + 4, none⟩ = some (.int .i64 x.frm)
def HrdsV (w : World) (v : Value) (xs : List Hrd) : Prop :=
  ∃ a cap, v = .slice a xs.length cap ∧ xs.length ≤ cap ∧ cap ≤ maxLen ∧ ∀ i, i < xs.length → ∃ b o, a = some ⟨b, o, none⟩ ∧ hrdCells w b (o + i * 5) (xs.getD i default)
theorem hrdCells_below {w w' : World} {b o : Nat} {x : Hrd} (hb : Below w.heap.size w w') (h : hrdCells w b o x) : hrdCells w' b o x := by
  obtain ⟨h0, h1, h2, h3, h4⟩ := h
  exact ⟨cell_keep hb h0, cell_keep hb h1, cell_keep hb h2, cell_keep hb h3, cell_keep hb h4⟩
theorem HrdsV_below {w w' : World} {v : Value} {xs : List Hrd} (h : HrdsV w v xs) (hb : Below w.heap.size w w') : HrdsV w' v xs := by
  obtain ⟨a, cap, rfl, h1, h2, h3⟩ := h
  exact ⟨a, cap, rfl, h1, h2, fun i hi => by
    obtain ⟨b, o, ha, hc⟩ := h3 i hi
    exact ⟨b, o, ha, hrdCells_below hb hc⟩⟩
theorem hrdKeep2 {w w' : World} {b o b' o' : Nat} {x y : Hrd} (hb : Below w.heap.size w w') (h : hrdCells w b o x) (h' : hrdCells w b' o' y) :
    Below w.heap.size w w' ∧ (w'.cell? ⟨b, o, none⟩ = some (.int .i64 x.con) ∧ w'.cell? ⟨b, o + 1, none⟩ = some (.int .i64 x.sh) ∧ w'.cell? ⟨b, o + 2, none⟩ = some (.int .i64 x.bal) ∧ w'.cell? ⟨b, o + 3, none⟩ = some (.int .i64 x.val) ∧ w'.cell? ⟨b, o + 4, none⟩ = some (.int .i64 x.frm)) ∧ (w'.cell? ⟨b', o', none⟩ = some (.int .i64 y.con) ∧ w'.cell? ⟨b', o' + 1, none⟩ = some (.int .i64 y.sh) ∧ w'.cell? ⟨b', o' + 2, none⟩ = some (.int .i64 y.bal) ∧ w'.cell? ⟨b', o' + 3, none⟩ = some (.int .i64 y.val) ∧ w'.cell? ⟨b', o' + 4, none⟩ = some (.int .i64 y.frm)) :=
  ⟨hb, hrdCells_below hb h, hrdCells_below hb h'⟩
theorem hrds_eq_of {xs ys : List Hrd} (hl : ys.length = xs.length) (h : ∀ j, j < xs.length → xs.getD j default = ys.getD j default) : xs = ys := by
  apply List.ext_getElem (by omega)
  intro i h1 h2
  have := h i h1
  simpa [List.getD, h1, h2] using this
set_option maxHeartbeats 1000000 in
theorem eqHeardS_any (x y : Value) (xs ys : List Hrd) (w : World) (hx : HrdsV w x xs) (hy : HrdsV w y ys) :
    Calls Tryz.prog 90 #[x, y] w fun e w' => e = .returned (.bool (decide (xs = ys))) ∧ Below w.heap.size w w' := by
  obtain ⟨ax, cx, rfl, hcx, hmx, hx⟩ := hx
  obtain ⟨ay, cy, rfl, hcy, hmy, hy⟩ := hy
  unfold maxLen at hmx hmy
  by_cases hl : ys.length = xs.length
  · rw [hl] at hcy hy ⊢
    have HL : Hid (ys.length = xs.length) := hl
    clear hl
    generalize hn : xs.length = n at *
    have HN : Hid (xs.length = n) := hn
    clear hn
    go_enter Tryz.func90, Tryz.ntmps90
    go_wp2
    go_loopw [5] (fun i w' => ∃ k : Nat, k ≤ n ∧ i = .int .i64 k ∧ (∀ j, j < k → xs.getD j default = ys.getD j default) ∧ Below w.heap.size w w') (fun i _ => n - (intOf i).toNat)
    case atStart => exact ⟨0, Nat.zero_le _, rfl, fun j h => absurd h (Nat.not_lt_zero _), Below.refl _ _⟩
    case round =>
      obtain ⟨k, hk, rfl, hpre, hbl⟩ := hrel
      have HP : Hid (∀ j, j < k → xs.getD j default = ys.getD j default) := hpre
      clear hpre
      by_cases hlt : k < n
      · obtain ⟨bx, ox, rfl, h1⟩ := hx k hlt
        obtain ⟨b2, oy, rfl, h2⟩ := hy k hlt
        obtain ⟨l1, hl1⟩ : ∃ l, l = xs.getD k default := ⟨_, rfl⟩
        obtain ⟨l2, hl2⟩ : ∃ l, l = ys.getD k default := ⟨_, rfl⟩
        rw [← hl1] at h1
        rw [← hl2] at h2
        have H1 : Hid (l1 = xs.getD k default) := hl1
        have H2 : Hid (l2 = ys.getD k default) := hl2
        clear hl1 hl2 hx hy
        go_wp2
        go_region_held3 (fun w' => Below w.heap.size w w' ∧ (w'.cell? ⟨bx, ox + k * 5, none⟩ = some (.int .i64 l1.con) ∧ w'.cell? ⟨bx, ox + k * 5 + 1, none⟩ = some (.int .i64 l1.sh) ∧ w'.cell? ⟨bx, ox + k * 5 + 2, none⟩ = some (.int .i64 l1.bal) ∧ w'.cell? ⟨bx, ox + k * 5 + 3, none⟩ = some (.int .i64 l1.val) ∧ w'.cell? ⟨bx, ox + k * 5 + 4, none⟩ = some (.int .i64 l1.frm)) ∧ (w'.cell? ⟨b2, oy + k * 5, none⟩ = some (.int .i64 l2.con) ∧ w'.cell? ⟨b2, oy + k * 5 + 1, none⟩ = some (.int .i64 l2.sh) ∧ w'.cell? ⟨b2, oy + k * 5 + 2, none⟩ = some (.int .i64 l2.bal) ∧ w'.cell? ⟨b2, oy + k * 5 + 3, none⟩ = some (.int .i64 l2.val) ∧ w'.cell? ⟨b2, oy + k * 5 + 4, none⟩ = some (.int .i64 l2.frm))) ((refine hrdKeep2 ?_ h1 h2; repeat (first | exact Below.refl _ _ | assumption | refine Below.drew ?_ | refine balloc ?_ _ | refine bstep ?_ (by assumption)))) (first | (go_at_call 107; refine (eqHeard_any l1 l2 _).mono ?_; rintro e w' ⟨rfl, hb1⟩))
        rename_i hH
        have hB := hH.1
        clear hH
        go_wp2
        · rename_i hle
          go_ret
          refine ⟨?_, hB⟩
          have : ¬ xs = ys := fun h => by
            have : l1 = l2 := by rw [H1.out, H2.out, h]
            simp [this] at hle
          simp [this]
        · rename_i hle
          refine ⟨⟨k + 1, by omega, by go_num, fun j hj => ?_, hB⟩, by simp [intOf]; omega⟩
          by_cases hjk : j < k
          · exact HP.out j hjk
          · have : j = k := by omega
            subst this
            rw [← H1.out, ← H2.out]
            simpa using hle
      · go_wp2
        go_ret
        have : k = n := by omega
        subst this
        refine ⟨?_, hbl⟩
        have : xs = ys := hrds_eq_of (by rw [HL.out, HN.out]) (by rw [HN.out]; exact HP.out)
        simp [this]
  · go_enter Tryz.func90, Tryz.ntmps90
    have hl' : ((xs.length : Int) == (ys.length : Int)) = false := by simp; omega
    go_wp2
    go_ret
    have : ¬ xs = ys := fun h => hl (by rw [h])
    exact ⟨by simp [this], Below.refl _ _⟩
def hrdC (x : Hrd) : List Value := [.int .i64 x.con, .int .i64 x.sh, .int .i64 x.bal, .int .i64 x.val, .int .i64 x.frm]
def hrdsC (xs : List Hrd) : List Value := xs.flatMap hrdC
theorem infoHrd : (Tryz.prog.info? 181).map (fun i => (i.zero, i.size, i.bytes)) = some (some (.agg #[.int .i64 0, .int .i64 0, .int .i64 0, .int .i64 0, .int .i64 0]), 5, 40) := by kernel_rfl
theorem length_hrdsC (xs : List Hrd) : (hrdsC xs).length = xs.length * 5 := by
  induction xs with
  | nil => rfl
  | cons x r ih =>
    have e : hrdsC (x :: r) = hrdC x ++ hrdsC r := by simp [hrdsC]
    have l4 : (hrdC x).length = 5 := rfl
    rw [e, List.length_append, l4, ih, List.length_cons]
    omega
theorem get_hrdsC (xs : List Hrd) : ∀ i, i < xs.length → (hrdsC xs)[i * 5]? = some (.int .i64 (xs.getD i default).con) ∧ (hrdsC xs)[i * 5 + 1]? = some (.int .i64 (xs.getD i default).sh) ∧ (hrdsC xs)[i * 5 + 2]? = some (.int .i64 (xs.getD i default).bal) ∧ (hrdsC xs)[i * 5 + 3]? = some (.int .i64 (xs.getD i default).val) ∧ (hrdsC xs)[i * 5 + 4]? = some (.int .i64 (xs.getD i default).frm) := by
  induction xs with
  | nil => intro i h; simp at h
  | cons x r ih =>
    intro i h
    cases i with
    | zero => simp [hrdsC, hrdC]
    | succ i =>
      have := ih i (by simpa using h)
      have e : hrdsC (x :: r) = hrdC x ++ hrdsC r := by simp [hrdsC]
      have l4 : (hrdC x).length = 5 := rfl
      rw [e]
      refine ⟨?_, ?_, ?_, ?_, ?_⟩
      all_goals rw [List.getElem?_append_right (by omega), l4]
      · rw [show (i + 1) * 5 - 5 = i * 5 by omega]; simpa using this.1
      · rw [show (i + 1) * 5 + 1 - 5 = i * 5 + 1 by omega]; simpa using this.2.1
      · rw [show (i + 1) * 5 + 2 - 5 = i * 5 + 2 by omega]; simpa using this.2.2.1
      · rw [show (i + 1) * 5 + 3 - 5 = i * 5 + 3 by omega]; simpa using this.2.2.2.1
      · rw [show (i + 1) * 5 + 4 - 5 = i * 5 + 4 by omega]; simpa using this.2.2.2.2
theorem HrdsV_of_owns {w : World} {base e : Nat} {v : Value} {xs : List Hrd} (h : w.ownsRow base e 5 v xs.length (hrdsC xs)) : HrdsV w v xs := by
  rcases h.2 with ⟨rfl, hn⟩ | ⟨g, cap, cur, rfl, hb, hg, hnc, hcm, hcs, htake⟩
  · exact ⟨none, 0, by rw [hn], by omega, by unfold maxLen; omega, fun i hi => by omega⟩
  · refine ⟨some ⟨g, 0, none⟩, cap, rfl, hnc, hcm, fun i hi => ⟨g, 0, rfl, ?_⟩⟩
    obtain ⟨h0, h1, h2, h3, h4⟩ := get_hrdsC xs i hi
    simp only [Nat.zero_add, hrdCells]
    exact ⟨(h.cellAt _ (by omega)).trans h0, (h.cellAt _ (by omega)).trans h1, (h.cellAt _ (by omega)).trans h2, (h.cellAt _ (by omega)).trans h3, (h.cellAt _ (by omega)).trans h4⟩
def hrdUpto (k : Nat) (cs : List Value) (xs : List Hrd) : Prop := ∀ j, j < k * 5 → cs[j]? = (hrdsC xs)[j]?
theorem hrdUpto_full {n : Nat} {cs : List Value} {xs : List Hrd} (h : hrdUpto n cs xs) (hl : cs.length = n * 5) (hn : xs.length = n) : cs = hrdsC xs := by
  apply List.ext_getElem?
  intro j
  by_cases hj : j < n * 5
  · exact h j hj
  · rw [List.getElem?_eq_none (by omega), List.getElem?_eq_none (by rw [length_hrdsC]; omega)]
theorem hrdUpto_set {k : Nat} {cs : List Value} {xs : List Hrd} {x : Hrd} (h : hrdUpto k cs xs) (hk : k < xs.length) (hl : cs.length = xs.length * 5) (he : x = xs.getD k default) :
    hrdUpto (k + 1) (((((cs.set (k * 5) (.int .i64 x.con)).set (k * 5 + 1) (.int .i64 x.sh)).set (k * 5 + 2) (.int .i64 x.bal)).set (k * 5 + 3) (.int .i64 x.val)).set (k * 5 + 4) (.int .i64 x.frm)) xs := by
  intro j hj
  obtain ⟨h0, h1, h2, h3, h4⟩ := get_hrdsC xs k hk
  subst he
  simp only [List.getElem?_set, List.length_set]
  by_cases e4 : k * 5 + 4 = j
  · subst e4; simp [h4]; omega
  by_cases e3 : k * 5 + 3 = j
  · subst e3; simp [h3]; omega
  by_cases e2 : k * 5 + 2 = j
  · subst e2; simp [h2]; omega
  by_cases e1 : k * 5 + 1 = j
  · subst e1; simp [h1]; omega
  by_cases e0 : k * 5 = j
  · subst e0; simp [h0]; omega
  simp [e0, e1, e2, e3, e4]
  exact h j (by omega)
set_option maxHeartbeats 1000000 in
theorem toHeardS_any (x : Value) (xs : List Hrd) (w : World) (hx : HrdsV w x xs) (hn : xs.length ≤ 1048576) :
    Calls Tryz.prog 79 #[x] w fun e w' => ∃ v, e = .returned v ∧ w'.ownsRow w.heap.size 181 5 v xs.length (hrdsC xs) ∧ Below w.heap.size w w' := by
  obtain ⟨ax, cx, rfl, hcx, hmx, hx⟩ := hx
  unfold maxLen at hmx
  obtain ⟨i0, hi, hz0, hz1, hz2⟩ := info_parts infoHrd
  obtain ⟨w1, hmk, hown, hgr⟩ := run_make_full (P := Tryz.prog) w w.heap.size 112 181 i0 _ 5 Tryz.underlying112 hi hz0 hz1 .i64 .i64 xs.length (by rw [hz2]; omega) (by unfold maxLen; omega) (Nat.le_refl _)
  have hbl0 : Below w.heap.size w w1 := (Below.refl _ _).grown hgr (Nat.le_refl _) (fun k h => by cases h)
  generalize hn' : xs.length = n at *
  have HN : Hid (xs.length = n) := hn'
  clear hn'
  go_enter Tryz.func79, Tryz.ntmps79
  go_wp2
  go_loopw [4] (fun i w' => ∃ (k : Nat) (cs : List Value), k ≤ n ∧ i = .int .i64 k ∧ w'.ownsRow w.heap.size 181 5 (.slice (some ⟨w.heap.size, 0, none⟩) n n) n cs ∧ hrdUpto k cs xs ∧ Below w.heap.size w w') (fun i _ => n - (intOf i).toNat)
  case atStart => exact ⟨0, _, Nat.zero_le _, rfl, hown, fun j h => by omega, hbl0⟩
  case round =>
    obtain ⟨k, cs, hk, rfl, ho, hup, hbl⟩ := hrel
    have HU : Hid (hrdUpto k cs xs) := hup
    clear hup hown hmk hgr hbl0
    by_cases hlt : k < n
    · obtain ⟨bx, ox, rfl, h1⟩ := hx k hlt
      obtain ⟨l, hl⟩ : ∃ l, l = xs.getD k default := ⟨_, rfl⟩
      rw [← hl] at h1
      have H1 : Hid (l = xs.getD k default) := hl
      clear hl hx
      obtain ⟨a0, a1, a2, a3, a4⟩ := hrdCells_below hbl h1
      go_wp2_with fail
      refine (toHeard_any l _).mono ?_
      rintro e wa ⟨rfl, hba⟩
      have ho1 := owns_below ho hba
      obtain ⟨u0, g0⟩ := owns_some ho1 (k * 5) (by omega)
      obtain ⟨u1, g1⟩ := owns_some ho1 (k * 5 + 1) (by omega)
      obtain ⟨u2, g2⟩ := owns_some ho1 (k * 5 + 2) (by omega)
      obtain ⟨u3, g3⟩ := owns_some ho1 (k * 5 + 3) (by omega)
      obtain ⟨u4, g4⟩ := owns_some ho1 (k * 5 + 4) (by omega)
      have hf := fun j => ho1.frozenAt j
      simp only [hrdV]
      go_wp2
      have s0 := ho1.stored (k * 5) (.int .i64 l.con)
      have s1 := s0.1.stored (k * 5 + 1) (.int .i64 l.sh)
      have s2 := s1.1.stored (k * 5 + 2) (.int .i64 l.bal)
      have s3 := s2.1.stored (k * 5 + 3) (.int .i64 l.val)
      have s4 := s3.1.stored (k * 5 + 4) (.int .i64 l.frm)
      refine ⟨⟨k + 1, _, by omega, by go_num, s4.1, hrdUpto_set HU.out (by have := HN.out; omega) (by have := HN.out; have := ho.1; omega) H1.out, ?_⟩, by simp [intOf]; omega⟩
      exact (((((bstep hbl hba).setCell (Nat.le_refl _) _).setCell (Nat.le_refl _) _).setCell (Nat.le_refl _) _).setCell (Nat.le_refl _) _).setCell (Nat.le_refl _) _
    · go_wp2
      go_ret
      have hkn : k = n := by omega
      subst hkn
      have e := hrdUpto_full HU.out ho.1 HN.out
      subst e
      exact ⟨_, rfl, ho, hbl⟩
set_option maxHeartbeats 400000 in
theorem szHeardS_any (x : Value) (xs : List Hrd) (left : Int) (w : World) (hx : HrdsV w x xs) (h0 : 0 ≤ left) (h1 : left ≤ 1048576) :
    Calls Tryz.prog 70 #[x, .int .i64 left] w fun e w' => e = .returned (.int .i64 (szLen left xs.length)) ∧ w' = w := by
  obtain ⟨ax, cx, rfl, hcx, hmx, hx⟩ := hx
  unfold maxLen at hmx
  generalize xs.length = n at *
  clear hx
  by_cases h : left < n
  · have h' : left - (n : Int) < 0 := by omega
    go_enter Tryz.func70, Tryz.ntmps70
    go_wp2
    go_ret
    exact ⟨by simp only [szLen, if_pos h]; rfl, rfl⟩
  · have h' : ¬ left - (n : Int) < 0 := by omega
    go_enter Tryz.func70, Tryz.ntmps70
    go_wp2
    go_ret
    exact ⟨by rw [szLen, if_neg (by omega)]; rfl, rfl⟩
end Go.Proofs.YtggigaghfcpbbaaGreat

/-
  Rows of impl.Heard: the uniform forms. (Written by program: nest.py.)
-/
namespace Go.Proofs.YtggigaghfcpbbaaGreat
open Go.RowKit
set_option linter.unusedSectionVars false
variable [DecidableEq Hrd] [Inhabited Hrd]
attribute [local go_sem ↓] Go.wp_at_zero Go.wp_at_succ

def hrdsR : Rep (List Hrd) := fRep 181 5 hrdsC HrdsV HrdsV_below HrdsV_of_owns
def wtHrds (xs : List Hrd) : Nat := xs.length
theorem hrds_form {w : World} {v : Value} {xs : List Hrd} (h : hrdsR.V w v xs) : ∃ a c, v = .slice a xs.length c := by
  obtain ⟨a, c, rfl, _⟩ := h
  exact ⟨_, _, rfl⟩
theorem toHeardS_u (x : Value) (d : List Hrd) (w : World) (hx : hrdsR.V w x d) (hn : wtHrds d ≤ 1048576) :
    Calls Tryz.prog 79 #[x] w fun e w' => ∃ v F, e = .returned v ∧ hrdsR.O w' w.heap.size F v d ∧ Below w.heap.size w w' := by
  refine (toHeardS_any x d w hx hn).mono ?_
  rintro e w' ⟨v, rfl, ho, hb⟩
  exact ⟨v, _, rfl, ⟨ho, rfl⟩, hb⟩
theorem eqHeardS_u (x y : Value) (d d' : List Hrd) (w : World) (hx : hrdsR.V w x d) (hy : hrdsR.V w y d') :
    Calls Tryz.prog 90 #[x, y] w fun e w' => e = .returned (.bool (decide (d = d'))) ∧ Below w.heap.size w w' := eqHeardS_any x y d d' w hx hy
theorem szHeardS_u (x : Value) (d : List Hrd) (left : Int) (w : World) (hx : hrdsR.V w x d) (h0 : 0 ≤ left) (h1 : left ≤ 1048576) :
    Calls Tryz.prog 70 #[x, .int .i64 left] w fun e w' => e = .returned (.int .i64 (szLen left (wtHrds d))) ∧ Below w.heap.size w w' := by
  refine (szHeardS_any x d left w hx h0 h1).mono ?_
  rintro e w' ⟨rfl, rfl⟩
  exact ⟨rfl, Below.refl _ _⟩
end Go.Proofs.YtggigaghfcpbbaaGreat

/-
  Leader. (Written by program: nest.py.)
-/
namespace Go.Proofs.YtggigaghfcpbbaaGreat
open Go.RowKit
set_option linter.unusedSectionVars false
variable [DecidableEq Leg] [Inhabited Leg] [DecidableEq Vot] [Inhabited Vot] [DecidableEq Trr] [Inhabited Trr] [DecidableEq Hrd] [Inhabited Hrd]
attribute [local go_sem ↓] Go.wp_at_zero Go.wp_at_succ

set_option linter.unusedSimpArgs false

structure Ldr where
  count : Int
  tries : List Trr
  known : List Hrd
variable [DecidableEq Ldr] [Inhabited Ldr]

def ldrR : Rep Ldr where
  V := fun w v x => ∃ u1 u2, v = .agg #[.int .i64 x.count, u1, u2] ∧ trysR.V w u1 x.tries ∧ hrdsR.V w u2 x.known
  O := fun w base F v x => ∃ u1 u2 F1 F2, v = .agg #[.int .i64 x.count, u1, u2] ∧ trysR.O w base F1 u1 x.tries ∧ hrdsR.O w base F2 u2 x.known ∧ (∀ b, F1 b → ¬ F2 b) ∧ (∀ b, F b ↔ (F1 b ∨ F2 b))
  below := fun h hb => by
    obtain ⟨u1, u2, rfl, h1, h2⟩ := h
    exact ⟨u1, u2, rfl, trysR.below h1 hb, hrdsR.below h2 hb⟩
  ofO := fun h => by
    obtain ⟨u1, u2, F1, F2, rfl, h1, h2, _⟩ := h
    exact ⟨u1, u2, rfl, trysR.ofO h1, hrdsR.ofO h2⟩
  mod := fun h hm hd => by
    obtain ⟨u1, u2, F1, F2, rfl, h1, h2, s12, hF⟩ := h
    exact ⟨u1, u2, F1, F2, rfl, trysR.mod h1 hm (fun b hb => hd b ((hF b).2 (.inl hb))), hrdsR.mod h2 hm (fun b hb => hd b ((hF b).2 (.inr hb))), s12, hF⟩
  rng := fun h b hb => by
    obtain ⟨u1, u2, F1, F2, rfl, h1, h2, s12, hF⟩ := h
    rcases (hF b).1 hb with hb | hb
    · exact trysR.rng h1 b hb
    · exact hrdsR.rng h2 b hb
  base := fun h hb => by
    obtain ⟨u1, u2, F1, F2, rfl, h1, h2, s12, hF⟩ := h
    exact ⟨u1, u2, F1, F2, rfl, trysR.base h1 hb, hrdsR.base h2 hb, s12, hF⟩
def wtLdr (x : Ldr) : Nat := wtTrys x.tries + wtHrds x.known
def lvLdr (v : Value) : List Value := match v with | .agg a => one (a.getD 0 (.int .i64 0)) ++ one (a.getD 1 (.int .i64 0)) ++ one (a.getD 2 (.int .i64 0)) | _ => []
set_option maxHeartbeats 1000000 in
theorem toLeader_u (x : Value) (d : Ldr) (w : World) (hx : ldrR.V w x d) (hn : wtLdr d ≤ 1048576) :
    Calls Tryz.prog 48 #[x] w fun e w' => ∃ v F, e = .returned v ∧ ldrR.O w' w.heap.size F v d ∧ Below w.heap.size w w' := by
  obtain ⟨u1, u2, rfl, h1, h2⟩ := hx
  unfold wtLdr at hn
  go_enter Tryz.func48, Tryz.ntmps48
  go_wp2_with fail
  refine (toTryS_u _ d.tries _ (trysR.below h1 (by (repeat (first | exact Below.refl _ _ | assumption | refine Below.drew ?_ | refine balloc ?_ _ | refine bset ?_ (by simp; omega) _ | refine bset ?_ (by simp) _ | refine bstep ?_ (by assumption))))) (by omega)).mono ?_
  rintro e w1 ⟨v1, F1, rfl, o1, b1⟩
  obtain ⟨a1, n1, rfl⟩ := trys_form (trysR.ofO o1)
  obtain ⟨c1, f1⟩ := bcell b1
  have z1 := b1.size
  simp at z1
  have l1 := fun b hb => trysR.rng o1 b hb
  simp at l1
  replace o1 := trysR.base (base' := w.heap.size + 3) o1 (by simp; try omega)
  have y0 : w1.cell? ⟨w.heap.size, 0, none⟩ = some (.int .i64 d.count) := cell_keep b1 (by simp [go_sem])
  have y1 : w1.cell? ⟨w.heap.size, 1, none⟩ = some (u1) := cell_keep b1 (by simp [go_sem])
  have y2 : w1.cell? ⟨w.heap.size, 2, none⟩ = some (u2) := cell_keep b1 (by simp [go_sem])
  have r0 : w1.cell? ⟨w.heap.size + 1, 0, none⟩ = some (.int .i64 0) := cell_keep b1 (by simp [go_sem])
  have r1 : w1.cell? ⟨w.heap.size + 1, 1, none⟩ = some (.slice none 0 0) := cell_keep b1 (by simp [go_sem])
  have r2 : w1.cell? ⟨w.heap.size + 1, 2, none⟩ = some (.slice none 0 0) := cell_keep b1 (by simp [go_sem])
  have s0 : w1.cell? ⟨w.heap.size + 2, 0, none⟩ = some (.int .i64 d.count) := cell_keep b1 (by simp [go_sem])
  have s1 : w1.cell? ⟨w.heap.size + 2, 1, none⟩ = some (.slice none 0 0) := cell_keep b1 (by simp [go_sem])
  have s2 : w1.cell? ⟨w.heap.size + 2, 2, none⟩ = some (.slice none 0 0) := cell_keep b1 (by simp [go_sem])
  have t1 : ∀ o, w1.frozen? ⟨w.heap.size + 1, o, none⟩ = false := fun o => by rw [f1 _ _ (by simp; try omega)]; simp [go_sem]
  have t2 : ∀ o, w1.frozen? ⟨w.heap.size + 2, o, none⟩ = false := fun o => by rw [f1 _ _ (by simp; try omega)]; simp [go_sem]
  clear c1 f1
  have x0 := y0
  have x1 := y1
  have x2 := y2
  have q0 := r0
  have q1 := r1
  have q2 := r2
  have p0 := s0
  have p1 := s1
  have p2 := s2
  have qf := t1
  have pf := t2
  clear t1 t2 y0 y1 y2 r0 r1 r2 s0 s1 s2
  go_wp2_with fail
  refine (toHeardS_u _ d.known _ (hrdsR.below h2 (by (repeat (first | exact Below.refl _ _ | assumption | refine Below.drew ?_ | refine balloc ?_ _ | refine bset ?_ (by simp; omega) _ | refine bset ?_ (by simp) _ | refine bstep ?_ (by assumption))))) (by omega)).mono ?_
  rintro e w2 ⟨v2, F2, rfl, o2, b2⟩
  obtain ⟨a2, n2, rfl⟩ := hrds_form (hrdsR.ofO o2)
  obtain ⟨c2, f2⟩ := bcell b2
  have z2 := b2.size
  simp at z2
  have l2 := fun b hb => hrdsR.rng o2 b hb
  simp at l2
  replace o2 := hrdsR.base (base' := w.heap.size + 3) o2 (by simp; try omega)
  have y0 : w2.cell? ⟨w.heap.size, 0, none⟩ = some (.int .i64 d.count) := cell_keep b2 (by simp [go_sem, x0, x1, x2, q0, q1, q2, p0, p1, p2])
  have y1 : w2.cell? ⟨w.heap.size, 1, none⟩ = some (u1) := cell_keep b2 (by simp [go_sem, x0, x1, x2, q0, q1, q2, p0, p1, p2])
  have y2 : w2.cell? ⟨w.heap.size, 2, none⟩ = some (u2) := cell_keep b2 (by simp [go_sem, x0, x1, x2, q0, q1, q2, p0, p1, p2])
  have r0 : w2.cell? ⟨w.heap.size + 1, 0, none⟩ = some (.int .i64 0) := cell_keep b2 (by simp [go_sem, x0, x1, x2, q0, q1, q2, p0, p1, p2])
  have r1 : w2.cell? ⟨w.heap.size + 1, 1, none⟩ = some (.slice none 0 0) := cell_keep b2 (by simp [go_sem, x0, x1, x2, q0, q1, q2, p0, p1, p2])
  have r2 : w2.cell? ⟨w.heap.size + 1, 2, none⟩ = some (.slice none 0 0) := cell_keep b2 (by simp [go_sem, x0, x1, x2, q0, q1, q2, p0, p1, p2])
  have s0 : w2.cell? ⟨w.heap.size + 2, 0, none⟩ = some (.int .i64 d.count) := cell_keep b2 (by simp [go_sem, x0, x1, x2, q0, q1, q2, p0, p1, p2])
  have s1 : w2.cell? ⟨w.heap.size + 2, 1, none⟩ = some (.slice a1 d.tries.length n1) := cell_keep b2 (by simp [go_sem, x0, x1, x2, q0, q1, q2, p0, p1, p2])
  have s2 : w2.cell? ⟨w.heap.size + 2, 2, none⟩ = some (.slice none 0 0) := cell_keep b2 (by simp [go_sem, x0, x1, x2, q0, q1, q2, p0, p1, p2])
  have t1 : ∀ o, w2.frozen? ⟨w.heap.size + 1, o, none⟩ = false := fun o => by rw [f2 _ _ (by simp; try omega)]; simp [go_sem, qf]
  have t2 : ∀ o, w2.frozen? ⟨w.heap.size + 2, o, none⟩ = false := fun o => by rw [f2 _ _ (by simp; try omega)]; simp [go_sem, pf]
  clear x0 x1 x2 q0 q1 q2 p0 p1 p2 qf pf
  clear c2 f2
  have x0 := y0
  have x1 := y1
  have x2 := y2
  have q0 := r0
  have q1 := r1
  have q2 := r2
  have p0 := s0
  have p1 := s1
  have p2 := s2
  have qf := t1
  have pf := t2
  clear t1 t2 y0 y1 y2 r0 r1 r2 s0 s1 s2
  go_wp2
  refine bodyPost_ret (v := .agg #[.int .i64 d.count, .slice a1 d.tries.length n1, .slice a2 d.known.length n2]) ?_ rfl ⟨_, fun b => F1 b ∨ F2 b, rfl, ⟨_, _, F1, F2, rfl, trysR.base (base := w.heap.size + 3) (by (repeat (first | assumption | refine Rep.set _ ?_ _ (by simp; omega) | refine Rep.set _ ?_ _ (by simp) | refine Rep.alloc _ ?_ _ | refine Rep.keep _ ?_ (by assumption)))) (by omega), hrdsR.base (base := w.heap.size + 3) (by (repeat (first | assumption | refine Rep.set _ ?_ _ (by simp; omega) | refine Rep.set _ ?_ _ (by simp) | refine Rep.alloc _ ?_ _ | refine Rep.keep _ ?_ (by assumption)))) (by omega), fun b p q => by have := (l1 b p).2; have := (l2 b q).1; omega, fun b => Iff.rfl⟩, by (repeat (first | exact Below.refl _ _ | assumption | refine Below.drew ?_ | refine balloc ?_ _ | refine bset ?_ (by simp; omega) _ | refine bset ?_ (by simp) _ | refine bstep ?_ (by assumption)))⟩
  simp [results, Tryz.results48, go_sem, q0, q1, q2, p0, p1, p2, qf, pf]
set_option maxHeartbeats 1000000 in
theorem szLeader_u (x : Value) (d : Ldr) (left : Int) (w : World) (hx : ldrR.V w x d) (h0 : 0 ≤ left) (h1 : left ≤ 1048576) :
    Calls Tryz.prog 35 #[x, .int .i64 left] w fun e w' => e = .returned (.int .i64 (szLen left (wtLdr d))) ∧ Below w.heap.size w w' := by
  obtain ⟨u1, u2, rfl, k1, k2⟩ := hx
  go_enter Tryz.func35, Tryz.ntmps35
  go_wp2_with fail
  refine (szTryS_u _ d.tries left _ (trysR.below k1 (by (repeat (first | exact Below.refl _ _ | assumption | refine Below.drew ?_ | refine balloc ?_ _ | refine bset ?_ (by simp; omega) _ | refine bset ?_ (by simp) _ | refine bstep ?_ (by assumption))))) h0 h1).mono ?_
  rintro e w1 ⟨rfl, b1⟩
  have x0 : w1.cell? ⟨w.heap.size, 0, none⟩ = some (.int .i64 d.count) := cell_keep b1 (by simp [go_sem])
  have x1 : w1.cell? ⟨w.heap.size, 1, none⟩ = some (u1) := cell_keep b1 (by simp [go_sem])
  have x2 : w1.cell? ⟨w.heap.size, 2, none⟩ = some (u2) := cell_keep b1 (by simp [go_sem])
  go_wp2_with fail
  · rename_i h
    go_ret
    refine ⟨?_, by (repeat (first | exact Below.refl _ _ | assumption | refine Below.drew ?_ | refine balloc ?_ _ | refine bset ?_ (by simp; omega) _ | refine bset ?_ (by simp) _ | refine bstep ?_ (by assumption)))⟩
    rw [szLen_neg (n := wtTrys d.tries) (by omega) (wtLdr d) (by unfold wtLdr; omega)]
    rfl
  rename_i h
  refine (szHeardS_u _ d.known (szLen left (wtTrys d.tries : Nat)) _ (hrdsR.below k2 (by (repeat (first | exact Below.refl _ _ | assumption | refine Below.drew ?_ | refine balloc ?_ _ | refine bset ?_ (by simp; omega) _ | refine bset ?_ (by simp) _ | refine bstep ?_ (by assumption))))) (by omega) (by have := szLen_le (n := wtTrys d.tries) h0; omega)).mono ?_
  rintro e w2 ⟨rfl, b2⟩
  rw [szLen_add (n := wtTrys d.tries) (by omega)]
  go_wp2
  · rename_i h
    go_ret
    refine ⟨?_, by (repeat (first | exact Below.refl _ _ | assumption | refine Below.drew ?_ | refine balloc ?_ _ | refine bset ?_ (by simp; omega) _ | refine bset ?_ (by simp) _ | refine bstep ?_ (by assumption)))⟩
    rw [szLen_neg (n := wtTrys d.tries + wtHrds d.known) (by first | omega | (rw [Int.natCast_add]; omega)) (wtLdr d) (by unfold wtLdr; omega)]
    rfl
  rename_i h
  go_ret
  exact ⟨rfl, by (repeat (first | exact Below.refl _ _ | assumption | refine Below.drew ?_ | refine balloc ?_ _ | refine bset ?_ (by simp; omega) _ | refine bset ?_ (by simp) _ | refine bstep ?_ (by assumption)))⟩
set_option maxHeartbeats 1000000 in
theorem eqLeader_u (x y : Value) (d d' : Ldr) (w : World) (hx : ldrR.V w x d) (hy : ldrR.V w y d') :
    Calls Tryz.prog 62 #[x, y] w fun e w' => e = .returned (.bool (decide (d = d'))) ∧ Below w.heap.size w w' := by
  obtain ⟨u1, u2, rfl, h1, h2⟩ := hx
  obtain ⟨v1, v2, rfl, k1, k2⟩ := hy
  obtain ⟨count, tries, known⟩ := d
  obtain ⟨count', tries', known'⟩ := d'
  dsimp only at h1 k1 h2 k2
  go_enter Tryz.func62, Tryz.ntmps62
  go_wp2_with fail
  all_goals try (go_ret; exact ⟨by simp_all, by (repeat (first | exact Below.refl _ _ | assumption | refine Below.drew ?_ | refine balloc ?_ _ | refine bset ?_ (by simp; omega) _ | refine bset ?_ (by simp) _ | refine bstep ?_ (by assumption)))⟩)
  refine (eqTryS_u _ _ tries tries' _ (trysR.below h1 (by (repeat (first | exact Below.refl _ _ | assumption | refine Below.drew ?_ | refine balloc ?_ _ | refine bset ?_ (by simp; omega) _ | refine bset ?_ (by simp) _ | refine bstep ?_ (by assumption))))) (trysR.below k1 (by (repeat (first | exact Below.refl _ _ | assumption | refine Below.drew ?_ | refine balloc ?_ _ | refine bset ?_ (by simp; omega) _ | refine bset ?_ (by simp) _ | refine bstep ?_ (by assumption)))))).mono ?_
  rintro e w1 ⟨rfl, b1⟩
  have x0 : w1.cell? ⟨w.heap.size, 0, none⟩ = some (.int .i64 count) := cell_keep b1 (by simp [go_sem])
  have x1 : w1.cell? ⟨w.heap.size, 1, none⟩ = some (u1) := cell_keep b1 (by simp [go_sem])
  have x2 : w1.cell? ⟨w.heap.size, 2, none⟩ = some (u2) := cell_keep b1 (by simp [go_sem])
  have y0 : w1.cell? ⟨w.heap.size + 1, 0, none⟩ = some (.int .i64 count') := cell_keep b1 (by simp [go_sem])
  have y1 : w1.cell? ⟨w.heap.size + 1, 1, none⟩ = some (v1) := cell_keep b1 (by simp [go_sem])
  have y2 : w1.cell? ⟨w.heap.size + 1, 2, none⟩ = some (v2) := cell_keep b1 (by simp [go_sem])
  go_wp2_with fail
  all_goals try (go_ret; exact ⟨by simp_all, by (repeat (first | exact Below.refl _ _ | assumption | refine Below.drew ?_ | refine balloc ?_ _ | refine bset ?_ (by simp; omega) _ | refine bset ?_ (by simp) _ | refine bstep ?_ (by assumption)))⟩)
  refine (eqHeardS_u _ _ known known' _ (hrdsR.below h2 (by (repeat (first | exact Below.refl _ _ | assumption | refine Below.drew ?_ | refine balloc ?_ _ | refine bset ?_ (by simp; omega) _ | refine bset ?_ (by simp) _ | refine bstep ?_ (by assumption))))) (hrdsR.below k2 (by (repeat (first | exact Below.refl _ _ | assumption | refine Below.drew ?_ | refine balloc ?_ _ | refine bset ?_ (by simp; omega) _ | refine bset ?_ (by simp) _ | refine bstep ?_ (by assumption)))))).mono ?_
  rintro e w2 ⟨rfl, b2⟩
  go_wp2
  all_goals
    go_ret
    exact ⟨by simp_all, by (repeat (first | exact Below.refl _ _ | assumption | refine Below.drew ?_ | refine balloc ?_ _ | refine bset ?_ (by simp; omega) _ | refine bset ?_ (by simp) _ | refine bstep ?_ (by assumption)))⟩
end Go.Proofs.YtggigaghfcpbbaaGreat


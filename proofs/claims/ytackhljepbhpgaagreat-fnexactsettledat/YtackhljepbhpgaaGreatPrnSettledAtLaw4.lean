import Derived.Test.YtackhljepbhpgaaGreatPrnSettledAtLaw3
import Derived.Deep.RegionHeld3
import Derived.Deep.DrawnRows
set_option maxHeartbeats 2000000
set_option linter.unusedSectionVars false
set_option linter.unusedSimpArgs false

namespace Go.Proofs.YtackhljepbhpgaaGreat
open Go.RowKit
variable [DecidableEq Leg] [Inhabited Leg] [DecidableEq Vot] [Inhabited Vot] [DecidableEq Trr] [Inhabited Trr]
attribute [local go_sem ↓] Go.wp_at_zero Go.wp_at_succ

def trysR : Rep (List Trr) := nRep trrR 169 6 lvTrr
def wtTrys (xs : List Trr) : Nat := wtL wtTrr xs
theorem trys_form {w : World} {v : Value} {xs : List Trr} (h : trysR.V w v xs) : ∃ a c, v = .slice a xs.length c := by
 obtain ⟨a, c, rfl, _⟩ := h
 exact ⟨_, _, rfl⟩
theorem infoTrys : (Tryz.prog.info? 169).map (fun i => (i.zero, i.size, i.bytes)) = some (some (.agg #[.int .i64 0, .int .i64 0, .int .i64 0, .int .i64 0, .slice none 0 0, .slice none 0 0]), 6, 80) := by kernel_rfl
theorem keepTrys {w w' : World} {a0 a1 a2 a3 a4 a5 a6 a7 a8 a9 a10 a11 : Addr} {x0 x1 x2 x3 x4 x5 x6 x7 x8 x9 x10 x11 : Value} (hb : Below w.heap.size w w') (g0 : w.cell? a0 = some x0) (g1 : w.cell? a1 = some x1) (g2 : w.cell? a2 = some x2) (g3 : w.cell? a3 = some x3) (g4 : w.cell? a4 = some x4) (g5 : w.cell? a5 = some x5) (g6 : w.cell? a6 = some x6) (g7 : w.cell? a7 = some x7) (g8 : w.cell? a8 = some x8) (g9 : w.cell? a9 = some x9) (g10 : w.cell? a10 = some x10) (g11 : w.cell? a11 = some x11) : Below w.heap.size w w' ∧ w'.cell? a0 = some x0 ∧ w'.cell? a1 = some x1 ∧ w'.cell? a2 = some x2 ∧ w'.cell? a3 = some x3 ∧ w'.cell? a4 = some x4 ∧ w'.cell? a5 = some x5 ∧ w'.cell? a6 = some x6 ∧ w'.cell? a7 = some x7 ∧ w'.cell? a8 = some x8 ∧ w'.cell? a9 = some x9 ∧ w'.cell? a10 = some x10 ∧ w'.cell? a11 = some x11 :=
 ⟨hb, cK hb g0, cK hb g1, cK hb g2, cK hb g3, cK hb g4, cK hb g5, cK hb g6, cK hb g7, cK hb g8, cK hb g9, cK hb g10, cK hb g11⟩
theorem eqTryS_u (x y : Value) (xs ys : List Trr) (w : World) (hx : trysR.V w x xs) (hy : trysR.V w y ys) :
  Calls Tryz.prog 115 #[x, y] w fun e w' => e = .returned (.bool (decide (xs = ys))) ∧ Below w.heap.size w w' := by
 obtain ⟨ax, cx, rfl, hcx, hmx, hx⟩ := hx
 obtain ⟨ay, cy, rfl, hcy, hmy, hy⟩ := hy
 unfold maxLen at hmx hmy
 by_cases hl : ys.length = xs.length
 ·
  rw [hl] at hcy hy ⊢
  have HL : Hid (ys.length = xs.length) := hl
  clear hl
  generalize hn : xs.length = n at *
  have HN : Hid (xs.length = n) := hn
  clear hn
  go_enter Tryz.func115, Tryz.ntmps115
  go_wp2
  go_loopw [5] (fun i w' => ∃ k : Nat, k ≤ n ∧ i = .int .i64 k ∧ (∀ j, j < k → xs.getD j default = ys.getD j default) ∧ Below w.heap.size w w') (fun i _ => n - (intOf i).toNat)
  case atStart => exact ⟨0, Nat.zero_le _, rfl, fun j h => absurd h (Nat.not_lt_zero _), Below.refl _ _⟩
  case round =>
   obtain ⟨k, hk, rfl, hpre, hbl⟩ := hrel
   have HP : Hid (∀ j, j < k → xs.getD j default = ys.getD j default) := hpre
   clear hpre
   by_cases hlt : k < n
   ·
    obtain ⟨bx, ox, ux, rfl, _, p1, hvx⟩ := hx k hlt
    obtain ⟨b2, oy, uy, rfl, _, p2, hvy⟩ := hy k hlt
    obtain ⟨l1, hl1⟩ : ∃ l, l = xs.getD k default := ⟨_, rfl⟩
    obtain ⟨l2, hl2⟩ : ∃ l, l = ys.getD k default := ⟨_, rfl⟩
    rw [← hl1] at hvx
    rw [← hl2] at hvy
    have H1 : Hid (l1 = xs.getD k default) := hl1
    have H2 : Hid (l2 = ys.getD k default) := hl2
    have hvx' := hvx
    obtain ⟨ux1, ux2, rfl, _, _⟩ := hvx'
    have hvy' := hvy
    obtain ⟨uy1, uy2, rfl, _, _⟩ := hvy'
    have g0 : w.cell? ⟨bx, ox + k * 6, none⟩ = some (.int .i64 l1.con) := p1 0 (by omega)
    have g1 : w.cell? ⟨bx, ox + k * 6 + 1, none⟩ = some (.int .i64 l1.sh) := p1 1 (by omega)
    have g2 : w.cell? ⟨bx, ox + k * 6 + 2, none⟩ = some (.int .i64 l1.bal) := p1 2 (by omega)
    have g3 : w.cell? ⟨bx, ox + k * 6 + 3, none⟩ = some (.int .i64 l1.val) := p1 3 (by omega)
    have g4 : w.cell? ⟨bx, ox + k * 6 + 4, none⟩ = some (ux1) := p1 4 (by omega)
    have g5 : w.cell? ⟨bx, ox + k * 6 + 5, none⟩ = some (ux2) := p1 5 (by omega)
    have g6 : w.cell? ⟨b2, oy + k * 6, none⟩ = some (.int .i64 l2.con) := p2 0 (by omega)
    have g7 : w.cell? ⟨b2, oy + k * 6 + 1, none⟩ = some (.int .i64 l2.sh) := p2 1 (by omega)
    have g8 : w.cell? ⟨b2, oy + k * 6 + 2, none⟩ = some (.int .i64 l2.bal) := p2 2 (by omega)
    have g9 : w.cell? ⟨b2, oy + k * 6 + 3, none⟩ = some (.int .i64 l2.val) := p2 3 (by omega)
    have g10 : w.cell? ⟨b2, oy + k * 6 + 4, none⟩ = some (uy1) := p2 4 (by omega)
    have g11 : w.cell? ⟨b2, oy + k * 6 + 5, none⟩ = some (uy2) := p2 5 (by omega)
    clear hl1 hl2 hx hy p1 p2
    go_wp2
    go_region_held3 (fun w' => Below w.heap.size w w' ∧ w'.cell? ⟨bx, ox + k * 6, none⟩ = some (.int .i64 l1.con) ∧ w'.cell? ⟨bx, ox + k * 6 + 1, none⟩ = some (.int .i64 l1.sh) ∧ w'.cell? ⟨bx, ox + k * 6 + 2, none⟩ = some (.int .i64 l1.bal) ∧ w'.cell? ⟨bx, ox + k * 6 + 3, none⟩ = some (.int .i64 l1.val) ∧ w'.cell? ⟨bx, ox + k * 6 + 4, none⟩ = some (ux1) ∧ w'.cell? ⟨bx, ox + k * 6 + 5, none⟩ = some (ux2) ∧ w'.cell? ⟨b2, oy + k * 6, none⟩ = some (.int .i64 l2.con) ∧ w'.cell? ⟨b2, oy + k * 6 + 1, none⟩ = some (.int .i64 l2.sh) ∧ w'.cell? ⟨b2, oy + k * 6 + 2, none⟩ = some (.int .i64 l2.bal) ∧ w'.cell? ⟨b2, oy + k * 6 + 3, none⟩ = some (.int .i64 l2.val) ∧ w'.cell? ⟨b2, oy + k * 6 + 4, none⟩ = some (uy1) ∧ w'.cell? ⟨b2, oy + k * 6 + 5, none⟩ = some (uy2)) ((refine keepTrys ?_ g0 g1 g2 g3 g4 g5 g6 g7 g8 g9 g10 g11; (repeat (first | exact bR _ _ | assumption | refine bD ?_ | refine bA ?_ _ | refine bS ?_ (by assumption))))) (first | (go_at_call 174; refine (eqTry_u (.agg #[.int .i64 l1.con, .int .i64 l1.sh, .int .i64 l1.bal, .int .i64 l1.val, ux1, ux2]) (.agg #[.int .i64 l2.con, .int .i64 l2.sh, .int .i64 l2.bal, .int .i64 l2.val, uy1, uy2]) l1 l2 _ (trrR.below hvx (by (repeat (first | exact bR _ _ | assumption | refine bD ?_ | refine bA ?_ _ | refine bS ?_ (by assumption))))) (trrR.below hvy (by (repeat (first | exact bR _ _ | assumption | refine bD ?_ | refine bA ?_ _ | refine bS ?_ (by assumption)))))).mono ?_; rintro e w' ⟨rfl, hb1⟩))
    rename_i hH
    have hB := hH.1
    clear hH
    go_wp2
    ·
     rename_i hle
     go_ret
     refine ⟨?_, hB⟩
     have : ¬ xs = ys := fun h => by
      have : l1 = l2 := by rw [H1.out, H2.out, h]
      simp [this] at hle
     simp [this]
    ·
     rename_i hle
     refine ⟨⟨k + 1, by omega, by go_num, fun j hj => ?_, hB⟩, by simp [intOf]; omega⟩
     by_cases hjk : j < k
     ·
      exact HP.out j hjk
     ·
      have : j = k := by omega
      subst this
      rw [← H1.out, ← H2.out]
      simpa using hle
   ·
    go_wp2; go_ret
    have : k = n := by omega
    subst this
    refine ⟨?_, hbl⟩
    have : xs = ys := rows_eq_of (by rw [HL.out, HN.out]) (by rw [HN.out]; exact HP.out)
    simp [this]
 ·
  go_enter Tryz.func115, Tryz.ntmps115
  have hl' : ((xs.length : Int) == (ys.length : Int)) = false := by simp; omega
  go_wp2; go_ret
  have : ¬ xs = ys := fun h => hl (by rw [h])
  exact ⟨by simp [this], Below.refl _ _⟩
theorem toTryS_u (x : Value) (xs : List Trr) (w : World) (hx : trysR.V w x xs) (hn : wtTrys xs ≤ 1048576) :
  Calls Tryz.prog 90 #[x] w fun e w' => ∃ v F, e = .returned v ∧ trysR.O w' w.heap.size F v xs ∧ Below w.heap.size w w' := by
 obtain ⟨ax, cx, rfl, hcx, hmx, hx⟩ := hx
 unfold maxLen at hmx
 unfold wtTrys at hn
 have hlen : xs.length ≤ 1048576 := by unfold wtL at hn; omega
 have hW : ∀ k, k < xs.length → wtTrr (xs.getD k default) ≤ 1048576 := fun k hk => (wt_at hn hk).1
 obtain ⟨i0, hi, hz0, hz1, hz2⟩ := info_parts infoTrys
 obtain ⟨w1, hmk, hown, hgr⟩ := run_make_full (P := Tryz.prog) w w.heap.size 103 169 i0 _ 6 Tryz.underlying103 hi hz0 hz1 .i64 .i64 xs.length (by rw [hz2]; omega) (by unfold maxLen; omega) (Nat.le_refl _)
 have hbl0 : Below w.heap.size w w1 := (Below.refl _ _).grown hgr (Nat.le_refl _) (fun k h => by cases h)
 clear hn
 generalize hn' : xs.length = n at *
 have HN : Hid (xs.length = n) := hn'
 clear hn'
 go_enter Tryz.func90, Tryz.ntmps90
 go_wp2
 go_loopw [4] (fun i w' => ∃ (k : Nat) (cs : List Value) (us : Nat → Value) (fs : Nat → Nat → Prop), k ≤ n ∧ i = .int .i64 k ∧ PO trrR 169 6 lvTrr w' w.heap.size (.slice (some ⟨w.heap.size, 0, none⟩) n n) n k (fun i => xs.getD i default) cs us fs ∧ Below w.heap.size w w') (fun i _ => n - (intOf i).toNat)
 case atStart => exact ⟨0, _, fun _ => .int .i64 0, fun _ _ => False, Nat.zero_le _, rfl, ⟨hown, fun i h => by omega, fun i h => by omega, fun i h => by omega, fun i h => by omega, fun i j h => by omega⟩, hbl0⟩
 case round =>
  obtain ⟨k, cs, us, fs, hk, rfl, hp, hbl⟩ := hrel
  clear hown hmk hgr hbl0
  by_cases hlt : k < n
  ·
   obtain ⟨bx, ox, ux, rfl, _, p1, hvx⟩ := hx k hlt
   have hw := hW k hlt
   obtain ⟨l, hl⟩ : ∃ l, l = xs.getD k default := ⟨_, rfl⟩
   rw [← hl] at hvx hw
   have HL : Hid (l = xs.getD k default) := hl
   have hvx' := hvx
   obtain ⟨ux1, ux2, rfl, _, _⟩ := hvx'
   have g0 : w.cell? ⟨bx, ox + k * 6, none⟩ = some (.int .i64 l.con) := p1 0 (by omega)
   replace g0 := cK hbl g0
   have g1 : w.cell? ⟨bx, ox + k * 6 + 1, none⟩ = some (.int .i64 l.sh) := p1 1 (by omega)
   replace g1 := cK hbl g1
   have g2 : w.cell? ⟨bx, ox + k * 6 + 2, none⟩ = some (.int .i64 l.bal) := p1 2 (by omega)
   replace g2 := cK hbl g2
   have g3 : w.cell? ⟨bx, ox + k * 6 + 3, none⟩ = some (.int .i64 l.val) := p1 3 (by omega)
   replace g3 := cK hbl g3
   have g4 : w.cell? ⟨bx, ox + k * 6 + 4, none⟩ = some (ux1) := p1 4 (by omega)
   replace g4 := cK hbl g4
   have g5 : w.cell? ⟨bx, ox + k * 6 + 5, none⟩ = some (ux2) := p1 5 (by omega)
   replace g5 := cK hbl g5
   clear hx p1 hW hl
   go_wp2_with fail
   refine (toTry_u (.agg #[.int .i64 l.con, .int .i64 l.sh, .int .i64 l.bal, .int .i64 l.val, ux1, ux2]) l _ (trrR.below hvx (by (repeat (first | exact bR _ _ | assumption | refine bD ?_ | refine bA ?_ _ | refine bS ?_ (by assumption))))) hw).mono ?_
   rintro e wa ⟨v1, F1, rfl, o1, b1⟩
   have ofm1 := trrR.ofO o1
   obtain ⟨x1_1, x1_2, rfl, y1_1, y1_2⟩ := ofm1
   obtain ⟨a1_1, n1_1, rfl⟩ := ints_form y1_1
   obtain ⟨a1_2, n1_2, rfl⟩ := vots_form y1_2
   have ho1 := (hp.keep b1).row
   obtain ⟨y0, q0⟩ := owns_some ho1 (k * 6) (by omega)
   obtain ⟨y1, q1⟩ := owns_some ho1 (k * 6 + 1) (by omega)
   obtain ⟨y2, q2⟩ := owns_some ho1 (k * 6 + 2) (by omega)
   obtain ⟨y3, q3⟩ := owns_some ho1 (k * 6 + 3) (by omega)
   obtain ⟨y4, q4⟩ := owns_some ho1 (k * 6 + 4) (by omega)
   obtain ⟨y5, q5⟩ := owns_some ho1 (k * 6 + 5) (by omega)
   have hf := fun j => ho1.frozenAt j
   go_wp2
   have s0 := ho1.stored (k * 6) (.int .i64 l.con)
   have s1 := s0.1.stored (k * 6 + 1) (.int .i64 l.sh)
   have s2 := s1.1.stored (k * 6 + 2) (.int .i64 l.bal)
   have s3 := s2.1.stored (k * 6 + 3) (.int .i64 l.val)
   have s4 := s3.1.stored (k * 6 + 4) (.slice a1_1 l.frm.length n1_1)
   have s5 := s4.1.stored (k * 6 + 5) (.slice a1_2 l.olds.length n1_2)
   have hrow : World.ownsRow _ w.heap.size 169 6 (.slice (some ⟨w.heap.size, 0, none⟩) n n) n (setRow cs (k * 6) [.int .i64 l.con, .int .i64 l.sh, .int .i64 l.bal, .int .i64 l.val, .slice a1_1 l.frm.length n1_1, .slice a1_2 l.olds.length n1_2]) := s5.1
   have hcl := hp.row.1
   refine ⟨⟨k + 1, _, _, _, by omega, by go_num, hp.push (u := (.agg #[.int .i64 l.con, .int .i64 l.sh, .int .i64 l.bal, .int .i64 l.val, .slice a1_1 l.frm.length n1_1, .slice a1_2 l.olds.length n1_2])) (F := F1) hbl.size b1 (by rw [← HL.out]; exact o1) rfl hrow ((((((Mod.of_grown s0.2).trans (Mod.of_grown s1.2)).trans (Mod.of_grown s2.2)).trans (Mod.of_grown s3.2)).trans (Mod.of_grown s4.2)).trans (Mod.of_grown s5.2)) ?_ ?_, ?_⟩, by simp [intOf]; omega⟩
   ·
    intro i hi j hj
    exact setRow_old _ _ _ _ (.inl (by omega))
   ·
    intro j hj
    exact setRow_new _ _ _ _ (by simp only [List.length_cons, List.length_nil]; omega) hj
   ·
    exact (((((((bS hbl b1).setCell (Nat.le_refl _) _).setCell (Nat.le_refl _) _).setCell (Nat.le_refl _) _).setCell (Nat.le_refl _) _).setCell (Nat.le_refl _) _).setCell (Nat.le_refl _) _)
  ·
   go_wp2; go_ret
   have hkn : k = n := by omega
   subst hkn
   have e := HN.out
   subst e
   exact ⟨_, _, rfl, ⟨cs, us, fs, hp, fun b => Iff.rfl⟩, hbl⟩
theorem szTryS_u (x : Value) (xs : List Trr) (left : Int) (w : World) (hx : trysR.V w x xs) (h0 : 0 ≤ left) (h1 : left ≤ 1048576) :
  Calls Tryz.prog 68 #[x, .int .i64 left] w fun e w' => e = .returned (.int .i64 (szLen left (wtTrys xs))) ∧ Below w.heap.size w w' := by
 obtain ⟨ax, cx, rfl, hcx, hmx, hx⟩ := hx
 unfold maxLen at hmx
 unfold wtTrys wtL
 have HT : Hid (∀ k, k < xs.length → cntTo wtTrr (k + 1) xs = cntTo wtTrr k xs + wtTrr (xs.getD k default) ∧ cntTo wtTrr (k + 1) xs ≤ cntTo wtTrr xs.length xs) :=
  fun k hk => ⟨cntTo_succ _ k xs hk, cntTo_le _ _ _ _ hk⟩
 generalize xs.length = n at *
 by_cases h : left < n
 ·
  have h' : left - (n : Int) < 0 := by omega
  clear hx
  go_enter Tryz.func68, Tryz.ntmps68
  go_wp2; go_ret
  exact ⟨by simp only [szLen]; rw [if_pos (by omega)]; rfl, Below.refl _ _⟩
 ·
  have h' : ¬ left - (n : Int) < 0 := by omega
  go_enter Tryz.func68, Tryz.ntmps68
  go_wp2
  go_loopw [1, 5] (fun l i w' => ∃ k : Nat, k ≤ n ∧ i = .int .i64 k ∧ l = .int .i64 (left - n - cntTo wtTrr k xs) ∧ 0 ≤ left - n - cntTo wtTrr k xs ∧ Below w.heap.size w w') (fun _ i _ => n - (intOf i).toNat)
  case atStart => exact ⟨0, Nat.zero_le _, rfl, by simp [cntTo], by simp [cntTo]; omega, Below.refl _ _⟩
  case round =>
   obtain ⟨k, hk, rfl, rfl, hpos, hbl⟩ := hrel
   by_cases hlt : k < n
   ·
    obtain ⟨bx, ox, ux, rfl, _, p1, hvx⟩ := hx k hlt
    obtain ⟨t2, t3⟩ := HT.out k hlt
    generalize xs.getD k default = l at *
    have hvx' := hvx
    obtain ⟨ux1, ux2, rfl, _, _⟩ := hvx'
    have g0 : w.cell? ⟨bx, ox + k * 6, none⟩ = some (.int .i64 l.con) := p1 0 (by omega)
    replace g0 := cK hbl g0
    have g1 : w.cell? ⟨bx, ox + k * 6 + 1, none⟩ = some (.int .i64 l.sh) := p1 1 (by omega)
    replace g1 := cK hbl g1
    have g2 : w.cell? ⟨bx, ox + k * 6 + 2, none⟩ = some (.int .i64 l.bal) := p1 2 (by omega)
    replace g2 := cK hbl g2
    have g3 : w.cell? ⟨bx, ox + k * 6 + 3, none⟩ = some (.int .i64 l.val) := p1 3 (by omega)
    replace g3 := cK hbl g3
    have g4 : w.cell? ⟨bx, ox + k * 6 + 4, none⟩ = some (ux1) := p1 4 (by omega)
    replace g4 := cK hbl g4
    have g5 : w.cell? ⟨bx, ox + k * 6 + 5, none⟩ = some (ux2) := p1 5 (by omega)
    replace g5 := cK hbl g5
    generalize hm : wtTrr l = m at *
    have HM : Hid (wtTrr l = m) := hm
    clear hx p1 hm
    generalize cntTo wtTrr k xs = c at *
    go_wp2_with fail
    refine (szTry_u (.agg #[.int .i64 l.con, .int .i64 l.sh, .int .i64 l.bal, .int .i64 l.val, ux1, ux2]) l (left - n - c) _ (trrR.below hvx (by (repeat (first | exact bR _ _ | assumption | refine bD ?_ | refine bA ?_ _ | refine bS ?_ (by assumption))))) hpos (by omega)).mono ?_
    rintro e wa ⟨rfl, b1⟩
    rw [HM.out]
    go_wp2
    ·
     rename_i hneg
     go_ret
     refine ⟨?_, by (repeat (first | exact bR _ _ | assumption | refine bD ?_ | refine bA ?_ _ | refine bS ?_ (by assumption)))⟩
     have : szLen left ↑(n + cntTo wtTrr n xs) = -1 := by
      unfold szLen at hneg ⊢
      rw [if_pos (by split at hneg <;> omega)]
     rw [this]
     rfl
    ·
     rename_i hneg
     refine ⟨⟨k + 1, by omega, by go_num, ?_, ?_, by (repeat (first | exact bR _ _ | assumption | refine bD ?_ | refine bA ?_ _ | refine bS ?_ (by assumption)))⟩, by simp [intOf]; omega⟩
     ·
      congr 1
      unfold szLen at hneg ⊢
      split at hneg <;> omega
     ·
      unfold szLen at hneg
      split at hneg <;> omega
   ·
    go_wp2; go_ret
    have hkn : k = n := by omega
    subst hkn
    refine ⟨?_, hbl⟩
    have : szLen left ↑(k + cntTo wtTrr k xs) = left - k - cntTo wtTrr k xs := by
     unfold szLen
     rw [if_neg (by omega)]
     omega
    rw [this]
    rfl
end Go.Proofs.YtackhljepbhpgaaGreat

namespace Go.Proofs.YtackhljepbhpgaaGreat
open Go.RowKit
attribute [local go_sem ↓] Go.wp_at_zero Go.wp_at_succ

structure Hrd where
 con : Int
 sh : Int
 bal : Int
 val : Int
 frm : Int
variable [DecidableEq Hrd] [Inhabited Hrd]

def hrdV (x : Hrd) : Value := .agg #[.int .i64 x.con, .int .i64 x.sh, .int .i64 x.bal, .int .i64 x.val, .int .i64 x.frm]
theorem toHeard_any (x : Hrd) (w : World) :
  Calls Tryz.prog 133 #[hrdV x] w fun e w' => e = .returned (hrdV x) ∧ Below w.heap.size w w' := by
 obtain ⟨a, b, c, d, e⟩ := x
 unfold hrdV
 go_enter Tryz.func133, Tryz.ntmps133
 go_wp2
 exact bodyPost_ret (v := .agg #[.int .i64 a, .int .i64 b, .int .i64 c, .int .i64 d, .int .i64 e]) (by simp [results, Tryz.results133, go_sem]) rfl ⟨rfl, bA (bA (bA (Below.refl _ _) _) _) _⟩
theorem eqHeard_any (x y : Hrd) (w : World) :
  Calls Tryz.prog 175 #[hrdV x, hrdV y] w fun e w' => e = .returned (.bool (decide (x = y))) ∧ Below w.heap.size w w' := by
 obtain ⟨a, b, c, d, e⟩ := x
 obtain ⟨a', b', c', d', e'⟩ := y
 unfold hrdV
 go_enter Tryz.func175, Tryz.ntmps175
 go_wp2
 all_goals
  go_ret
  exact ⟨by simp_all, bA (bA (Below.refl _ _) _) _⟩
def hrdCells (w : World) (b o : Nat) (x : Hrd) : Prop := w.cell? ⟨b, o, none⟩ = some (.int .i64 x.con) ∧ w.cell? ⟨b, o + 1, none⟩ = some (.int .i64 x.sh) ∧ w.cell? ⟨b, o + 2, none⟩ = some (.int .i64 x.bal) ∧ w.cell? ⟨b, o + 3, none⟩ = some (.int .i64 x.val) ∧ w.cell? ⟨b, o + 4, none⟩ = some (.int .i64 x.frm)
def HrdsV (w : World) (v : Value) (xs : List Hrd) : Prop :=
 ∃ a cap, v = .slice a xs.length cap ∧ xs.length ≤ cap ∧ cap ≤ maxLen ∧ ∀ i, i < xs.length → ∃ b o, a = some ⟨b, o, none⟩ ∧ hrdCells w b (o + i * 5) (xs.getD i default)
theorem hrdCells_below {w w' : World} {b o : Nat} {x : Hrd} (hb : Below w.heap.size w w') (h : hrdCells w b o x) : hrdCells w' b o x := by
 obtain ⟨h0, h1, h2, h3, h4⟩ := h
 exact ⟨cK hb h0, cK hb h1, cK hb h2, cK hb h3, cK hb h4⟩
theorem HrdsV_below {w w' : World} {v : Value} {xs : List Hrd} (h : HrdsV w v xs) (hb : Below w.heap.size w w') : HrdsV w' v xs := by
 obtain ⟨a, cap, rfl, h1, h2, h3⟩ := h
 exact ⟨a, cap, rfl, h1, h2, fun i hi => by
  obtain ⟨b, o, ha, hc⟩ := h3 i hi
  exact ⟨b, o, ha, hrdCells_below hb hc⟩⟩
theorem hrdKeep2 {w w' : World} {b o b' o' : Nat} {x y : Hrd} (hb : Below w.heap.size w w') (h : hrdCells w b o x) (h' : hrdCells w b' o' y) :
  Below w.heap.size w w' ∧ (w'.cell? ⟨b, o, none⟩ = some (.int .i64 x.con) ∧ w'.cell? ⟨b, o + 1, none⟩ = some (.int .i64 x.sh) ∧ w'.cell? ⟨b, o + 2, none⟩ = some (.int .i64 x.bal) ∧ w'.cell? ⟨b, o + 3, none⟩ = some (.int .i64 x.val) ∧ w'.cell? ⟨b, o + 4, none⟩ = some (.int .i64 x.frm)) ∧ (w'.cell? ⟨b', o', none⟩ = some (.int .i64 y.con) ∧ w'.cell? ⟨b', o' + 1, none⟩ = some (.int .i64 y.sh) ∧ w'.cell? ⟨b', o' + 2, none⟩ = some (.int .i64 y.bal) ∧ w'.cell? ⟨b', o' + 3, none⟩ = some (.int .i64 y.val) ∧ w'.cell? ⟨b', o' + 4, none⟩ = some (.int .i64 y.frm)) :=
 ⟨hb, hrdCells_below hb h, hrdCells_below hb h'⟩
theorem hrds_eq_of {xs ys : List Hrd} (hl : ys.length = xs.length) (h : ∀ j, j < xs.length → xs.getD j default = ys.getD j default) : xs = ys := by
 apply List.ext_getElem (by omega)
 intro i h1 h2
 have := h i h1
 simpa [List.getD, h1, h2] using this
theorem eqHeardS_any (x y : Value) (xs ys : List Hrd) (w : World) (hx : HrdsV w x xs) (hy : HrdsV w y ys) :
  Calls Tryz.prog 116 #[x, y] w fun e w' => e = .returned (.bool (decide (xs = ys))) ∧ Below w.heap.size w w' := by
 obtain ⟨ax, cx, rfl, hcx, hmx, hx⟩ := hx
 obtain ⟨ay, cy, rfl, hcy, hmy, hy⟩ := hy
 unfold maxLen at hmx hmy
 by_cases hl : ys.length = xs.length
 ·
  rw [hl] at hcy hy ⊢
  have HL : Hid (ys.length = xs.length) := hl
  clear hl
  generalize hn : xs.length = n at *
  have HN : Hid (xs.length = n) := hn
  clear hn
  go_enter Tryz.func116, Tryz.ntmps116
  go_wp2
  go_loopw [5] (fun i w' => ∃ k : Nat, k ≤ n ∧ i = .int .i64 k ∧ (∀ j, j < k → xs.getD j default = ys.getD j default) ∧ Below w.heap.size w w') (fun i _ => n - (intOf i).toNat)
  case atStart => exact ⟨0, Nat.zero_le _, rfl, fun j h => absurd h (Nat.not_lt_zero _), Below.refl _ _⟩
  case round =>
   obtain ⟨k, hk, rfl, hpre, hbl⟩ := hrel
   have HP : Hid (∀ j, j < k → xs.getD j default = ys.getD j default) := hpre
   clear hpre
   by_cases hlt : k < n
   ·
    obtain ⟨bx, ox, rfl, h1⟩ := hx k hlt
    obtain ⟨b2, oy, rfl, h2⟩ := hy k hlt
    obtain ⟨l1, hl1⟩ : ∃ l, l = xs.getD k default := ⟨_, rfl⟩
    obtain ⟨l2, hl2⟩ : ∃ l, l = ys.getD k default := ⟨_, rfl⟩
    rw [← hl1] at h1
    rw [← hl2] at h2
    have H1 : Hid (l1 = xs.getD k default) := hl1
    have H2 : Hid (l2 = ys.getD k default) := hl2
    clear hl1 hl2 hx hy
    go_wp2
    go_region_held3 (fun w' => Below w.heap.size w w' ∧ (w'.cell? ⟨bx, ox + k * 5, none⟩ = some (.int .i64 l1.con) ∧ w'.cell? ⟨bx, ox + k * 5 + 1, none⟩ = some (.int .i64 l1.sh) ∧ w'.cell? ⟨bx, ox + k * 5 + 2, none⟩ = some (.int .i64 l1.bal) ∧ w'.cell? ⟨bx, ox + k * 5 + 3, none⟩ = some (.int .i64 l1.val) ∧ w'.cell? ⟨bx, ox + k * 5 + 4, none⟩ = some (.int .i64 l1.frm)) ∧ (w'.cell? ⟨b2, oy + k * 5, none⟩ = some (.int .i64 l2.con) ∧ w'.cell? ⟨b2, oy + k * 5 + 1, none⟩ = some (.int .i64 l2.sh) ∧ w'.cell? ⟨b2, oy + k * 5 + 2, none⟩ = some (.int .i64 l2.bal) ∧ w'.cell? ⟨b2, oy + k * 5 + 3, none⟩ = some (.int .i64 l2.val) ∧ w'.cell? ⟨b2, oy + k * 5 + 4, none⟩ = some (.int .i64 l2.frm))) ((refine hrdKeep2 ?_ h1 h2; repeat (first | exact bR _ _ | assumption | refine bD ?_ | refine bA ?_ _ | refine bS ?_ (by assumption)))) (first | (go_at_call 175; refine (eqHeard_any l1 l2 _).mono ?_; rintro e w' ⟨rfl, hb1⟩))
    rename_i hH
    have hB := hH.1
    clear hH
    go_wp2
    ·
     rename_i hle
     go_ret
     refine ⟨?_, hB⟩
     have : ¬ xs = ys := fun h => by
      have : l1 = l2 := by rw [H1.out, H2.out, h]
      simp [this] at hle
     simp [this]
    ·
     rename_i hle
     refine ⟨⟨k + 1, by omega, by go_num, fun j hj => ?_, hB⟩, by simp [intOf]; omega⟩
     by_cases hjk : j < k
     ·
      exact HP.out j hjk
     ·
      have : j = k := by omega
      subst this
      rw [← H1.out, ← H2.out]
      simpa using hle
   ·
    go_wp2; go_ret
    have : k = n := by omega
    subst this
    refine ⟨?_, hbl⟩
    have : xs = ys := hrds_eq_of (by rw [HL.out, HN.out]) (by rw [HN.out]; exact HP.out)
    simp [this]
 ·
  go_enter Tryz.func116, Tryz.ntmps116
  have hl' : ((xs.length : Int) == (ys.length : Int)) = false := by simp; omega
  go_wp2; go_ret
  have : ¬ xs = ys := fun h => hl (by rw [h])
  exact ⟨by simp [this], Below.refl _ _⟩
def hrdC (x : Hrd) : List Value := [.int .i64 x.con, .int .i64 x.sh, .int .i64 x.bal, .int .i64 x.val, .int .i64 x.frm]
def hrdsC (xs : List Hrd) : List Value := xs.flatMap hrdC
theorem infoHrd : (Tryz.prog.info? 143).map (fun i => (i.zero, i.size, i.bytes)) = some (some (.agg #[.int .i64 0, .int .i64 0, .int .i64 0, .int .i64 0, .int .i64 0]), 5, 40) := by kernel_rfl
theorem length_hrdsC (xs : List Hrd) : (hrdsC xs).length = xs.length * 5 := by
 induction xs with
 | nil => rfl
 | cons x r ih =>
  have e : hrdsC (x :: r) = hrdC x ++ hrdsC r := by simp [hrdsC]
  have l4 : (hrdC x).length = 5 := rfl
  rw [e, List.length_append, l4, ih, List.length_cons]
  omega
theorem get_hrdsC (xs : List Hrd) : ∀ i, i < xs.length → (hrdsC xs)[i * 5]? = some (.int .i64 (xs.getD i default).con) ∧ (hrdsC xs)[i * 5 + 1]? = some (.int .i64 (xs.getD i default).sh) ∧ (hrdsC xs)[i * 5 + 2]? = some (.int .i64 (xs.getD i default).bal) ∧ (hrdsC xs)[i * 5 + 3]? = some (.int .i64 (xs.getD i default).val) ∧ (hrdsC xs)[i * 5 + 4]? = some (.int .i64 (xs.getD i default).frm) := by
 induction xs with
 | nil => intro i h; simp at h
 | cons x r ih =>
  intro i h
  cases i with
  | zero => simp [hrdsC, hrdC]
  | succ i =>
   have := ih i (by simpa using h)
   have e : hrdsC (x :: r) = hrdC x ++ hrdsC r := by simp [hrdsC]
   have l4 : (hrdC x).length = 5 := rfl
   rw [e]
   refine ⟨?_, ?_, ?_, ?_, ?_⟩
   all_goals rw [List.getElem?_append_right (by omega), l4]
   ·
    rw [show (i + 1) * 5 - 5 = i * 5 by omega]; simpa using this.1
   ·
    rw [show (i + 1) * 5 + 1 - 5 = i * 5 + 1 by omega]; simpa using this.2.1
   ·
    rw [show (i + 1) * 5 + 2 - 5 = i * 5 + 2 by omega]; simpa using this.2.2.1
   ·
    rw [show (i + 1) * 5 + 3 - 5 = i * 5 + 3 by omega]; simpa using this.2.2.2.1
   ·
    rw [show (i + 1) * 5 + 4 - 5 = i * 5 + 4 by omega]; simpa using this.2.2.2.2
theorem HrdsV_of_owns {w : World} {base e : Nat} {v : Value} {xs : List Hrd} (h : w.ownsRow base e 5 v xs.length (hrdsC xs)) : HrdsV w v xs := by
 rcases h.2 with ⟨rfl, hn⟩ | ⟨g, cap, cur, rfl, hb, hg, hnc, hcm, hcs, htake⟩
 ·
  exact ⟨none, 0, by rw [hn], by omega, by unfold maxLen; omega, fun i hi => by omega⟩
 ·
  refine ⟨some ⟨g, 0, none⟩, cap, rfl, hnc, hcm, fun i hi => ⟨g, 0, rfl, ?_⟩⟩
  obtain ⟨h0, h1, h2, h3, h4⟩ := get_hrdsC xs i hi
  simp only [Nat.zero_add, hrdCells]
  exact ⟨(h.cellAt _ (by omega)).trans h0, (h.cellAt _ (by omega)).trans h1, (h.cellAt _ (by omega)).trans h2, (h.cellAt _ (by omega)).trans h3, (h.cellAt _ (by omega)).trans h4⟩
def hrdUpto (k : Nat) (cs : List Value) (xs : List Hrd) : Prop := ∀ j, j < k * 5 → cs[j]? = (hrdsC xs)[j]?
theorem hrdUpto_full {n : Nat} {cs : List Value} {xs : List Hrd} (h : hrdUpto n cs xs) (hl : cs.length = n * 5) (hn : xs.length = n) : cs = hrdsC xs := by
 apply List.ext_getElem?
 intro j
 by_cases hj : j < n * 5
 ·
  exact h j hj
 ·
  rw [List.getElem?_eq_none (by omega), List.getElem?_eq_none (by rw [length_hrdsC]; omega)]
theorem hrdUpto_set {k : Nat} {cs : List Value} {xs : List Hrd} {x : Hrd} (h : hrdUpto k cs xs) (hk : k < xs.length) (hl : cs.length = xs.length * 5) (he : x = xs.getD k default) :
  hrdUpto (k + 1) (((((cs.set (k * 5) (.int .i64 x.con)).set (k * 5 + 1) (.int .i64 x.sh)).set (k * 5 + 2) (.int .i64 x.bal)).set (k * 5 + 3) (.int .i64 x.val)).set (k * 5 + 4) (.int .i64 x.frm)) xs := by
 intro j hj
 obtain ⟨h0, h1, h2, h3, h4⟩ := get_hrdsC xs k hk
 subst he
 simp only [List.getElem?_set, List.length_set]
 by_cases e4 : k * 5 + 4 = j
 ·
  subst e4; simp [h4]; omega
 by_cases e3 : k * 5 + 3 = j
 ·
  subst e3; simp [h3]; omega
 by_cases e2 : k * 5 + 2 = j
 ·
  subst e2; simp [h2]; omega
 by_cases e1 : k * 5 + 1 = j
 ·
  subst e1; simp [h1]; omega
 by_cases e0 : k * 5 = j
 ·
  subst e0; simp [h0]; omega
 simp [e0, e1, e2, e3, e4]
 exact h j (by omega)
theorem toHeardS_any (x : Value) (xs : List Hrd) (w : World) (hx : HrdsV w x xs) (hn : xs.length ≤ 1048576) :
  Calls Tryz.prog 91 #[x] w fun e w' => ∃ v, e = .returned v ∧ w'.ownsRow w.heap.size 143 5 v xs.length (hrdsC xs) ∧ Below w.heap.size w w' := by
 obtain ⟨ax, cx, rfl, hcx, hmx, hx⟩ := hx
 unfold maxLen at hmx
 obtain ⟨i0, hi, hz0, hz1, hz2⟩ := info_parts infoHrd
 obtain ⟨w1, hmk, hown, hgr⟩ := run_make_full (P := Tryz.prog) w w.heap.size 104 143 i0 _ 5 Tryz.underlying104 hi hz0 hz1 .i64 .i64 xs.length (by rw [hz2]; omega) (by unfold maxLen; omega) (Nat.le_refl _)
 have hbl0 : Below w.heap.size w w1 := (Below.refl _ _).grown hgr (Nat.le_refl _) (fun k h => by cases h)
 generalize hn' : xs.length = n at *
 have HN : Hid (xs.length = n) := hn'
 clear hn'
 go_enter Tryz.func91, Tryz.ntmps91
 go_wp2
 go_loopw [4] (fun i w' => ∃ (k : Nat) (cs : List Value), k ≤ n ∧ i = .int .i64 k ∧ w'.ownsRow w.heap.size 143 5 (.slice (some ⟨w.heap.size, 0, none⟩) n n) n cs ∧ hrdUpto k cs xs ∧ Below w.heap.size w w') (fun i _ => n - (intOf i).toNat)
 case atStart => exact ⟨0, _, Nat.zero_le _, rfl, hown, fun j h => by omega, hbl0⟩
 case round =>
  obtain ⟨k, cs, hk, rfl, ho, hup, hbl⟩ := hrel
  have HU : Hid (hrdUpto k cs xs) := hup
  clear hup hown hmk hgr hbl0
  by_cases hlt : k < n
  ·
   obtain ⟨bx, ox, rfl, h1⟩ := hx k hlt
   obtain ⟨l, hl⟩ : ∃ l, l = xs.getD k default := ⟨_, rfl⟩
   rw [← hl] at h1
   have H1 : Hid (l = xs.getD k default) := hl
   clear hl hx
   obtain ⟨a0, a1, a2, a3, a4⟩ := hrdCells_below hbl h1
   go_wp2_with fail
   refine (toHeard_any l _).mono ?_
   rintro e wa ⟨rfl, hba⟩
   have ho1 := owns_below ho hba
   obtain ⟨u0, g0⟩ := owns_some ho1 (k * 5) (by omega)
   obtain ⟨u1, g1⟩ := owns_some ho1 (k * 5 + 1) (by omega)
   obtain ⟨u2, g2⟩ := owns_some ho1 (k * 5 + 2) (by omega)
   obtain ⟨u3, g3⟩ := owns_some ho1 (k * 5 + 3) (by omega)
   obtain ⟨u4, g4⟩ := owns_some ho1 (k * 5 + 4) (by omega)
   have hf := fun j => ho1.frozenAt j
   simp only [hrdV]
   go_wp2
   have s0 := ho1.stored (k * 5) (.int .i64 l.con)
   have s1 := s0.1.stored (k * 5 + 1) (.int .i64 l.sh)
   have s2 := s1.1.stored (k * 5 + 2) (.int .i64 l.bal)
   have s3 := s2.1.stored (k * 5 + 3) (.int .i64 l.val)
   have s4 := s3.1.stored (k * 5 + 4) (.int .i64 l.frm)
   refine ⟨⟨k + 1, _, by omega, by go_num, s4.1, hrdUpto_set HU.out (by have := HN.out; omega) (by have := HN.out; have := ho.1; omega) H1.out, ?_⟩, by simp [intOf]; omega⟩
   exact (((((bS hbl hba).setCell (Nat.le_refl _) _).setCell (Nat.le_refl _) _).setCell (Nat.le_refl _) _).setCell (Nat.le_refl _) _).setCell (Nat.le_refl _) _
  ·
   go_wp2; go_ret
   have hkn : k = n := by omega
   subst hkn
   have e := hrdUpto_full HU.out ho.1 HN.out
   subst e
   exact ⟨_, rfl, ho, hbl⟩
theorem szHeardS_any (x : Value) (xs : List Hrd) (left : Int) (w : World) (hx : HrdsV w x xs) (h0 : 0 ≤ left) (h1 : left ≤ 1048576) :
  Calls Tryz.prog 69 #[x, .int .i64 left] w fun e w' => e = .returned (.int .i64 (szLen left xs.length)) ∧ w' = w := by
 obtain ⟨ax, cx, rfl, hcx, hmx, hx⟩ := hx
 unfold maxLen at hmx
 generalize xs.length = n at *
 clear hx
 by_cases h : left < n
 ·
  have h' : left - (n : Int) < 0 := by omega
  go_enter Tryz.func69, Tryz.ntmps69
  go_wp2; go_ret
  exact ⟨by simp only [szLen, if_pos h]; rfl, rfl⟩
 ·
  have h' : ¬ left - (n : Int) < 0 := by omega
  go_enter Tryz.func69, Tryz.ntmps69
  go_wp2; go_ret
  exact ⟨by rw [szLen, if_neg (by omega)]; rfl, rfl⟩
variable [DecidableEq Hrd] [Inhabited Hrd]
def hrdsR : Rep (List Hrd) := fRep 143 5 hrdsC HrdsV HrdsV_below HrdsV_of_owns
def wtHrds (xs : List Hrd) : Nat := xs.length
theorem hrds_form {w : World} {v : Value} {xs : List Hrd} (h : hrdsR.V w v xs) : ∃ a c, v = .slice a xs.length c := by
 obtain ⟨a, c, rfl, _⟩ := h
 exact ⟨_, _, rfl⟩
theorem toHeardS_u (x : Value) (d : List Hrd) (w : World) (hx : hrdsR.V w x d) (hn : wtHrds d ≤ 1048576) :
  Calls Tryz.prog 91 #[x] w fun e w' => ∃ v F, e = .returned v ∧ hrdsR.O w' w.heap.size F v d ∧ Below w.heap.size w w' := by
 refine (toHeardS_any x d w hx hn).mono ?_
 rintro e w' ⟨v, rfl, ho, hb⟩
 exact ⟨v, _, rfl, ⟨ho, rfl⟩, hb⟩
theorem eqHeardS_u (x y : Value) (d d' : List Hrd) (w : World) (hx : hrdsR.V w x d) (hy : hrdsR.V w y d') :
  Calls Tryz.prog 116 #[x, y] w fun e w' => e = .returned (.bool (decide (d = d'))) ∧ Below w.heap.size w w' := eqHeardS_any x y d d' w hx hy
theorem szHeardS_u (x : Value) (d : List Hrd) (left : Int) (w : World) (hx : hrdsR.V w x d) (h0 : 0 ≤ left) (h1 : left ≤ 1048576) :
  Calls Tryz.prog 69 #[x, .int .i64 left] w fun e w' => e = .returned (.int .i64 (szLen left (wtHrds d))) ∧ Below w.heap.size w w' := by
 refine (szHeardS_any x d left w hx h0 h1).mono ?_
 rintro e w' ⟨rfl, rfl⟩
 exact ⟨rfl, Below.refl _ _⟩
variable [DecidableEq Leg] [Inhabited Leg] [DecidableEq Vot] [Inhabited Vot] [DecidableEq Trr] [Inhabited Trr]
structure Ldr where
 count : Int
 tries : List Trr
 known : List Hrd
variable [DecidableEq Ldr] [Inhabited Ldr]

def ldrR : Rep Ldr where
 V := fun w v x => ∃ u1 u2, v = .agg #[.int .i64 x.count, u1, u2] ∧ trysR.V w u1 x.tries ∧ hrdsR.V w u2 x.known
 O := fun w base F v x => ∃ u1 u2 F1 F2, v = .agg #[.int .i64 x.count, u1, u2] ∧ trysR.O w base F1 u1 x.tries ∧ hrdsR.O w base F2 u2 x.known ∧ (∀ b, F1 b → ¬ F2 b) ∧ (∀ b, F b ↔ (F1 b ∨ F2 b))
 below := fun h hb => by
  obtain ⟨u1, u2, rfl, h1, h2⟩ := h
  exact ⟨u1, u2, rfl, trysR.below h1 hb, hrdsR.below h2 hb⟩
 ofO := fun h => by
  obtain ⟨u1, u2, F1, F2, rfl, h1, h2, _⟩ := h
  exact ⟨u1, u2, rfl, trysR.ofO h1, hrdsR.ofO h2⟩
 mod := fun h hm hd => by
  obtain ⟨u1, u2, F1, F2, rfl, h1, h2, s12, hF⟩ := h
  exact ⟨u1, u2, F1, F2, rfl, trysR.mod h1 hm (fun b hb => hd b ((hF b).2 (.inl hb))), hrdsR.mod h2 hm (fun b hb => hd b ((hF b).2 (.inr hb))), s12, hF⟩
 rng := fun h b hb => by
  obtain ⟨u1, u2, F1, F2, rfl, h1, h2, s12, hF⟩ := h
  rcases (hF b).1 hb with hb | hb
  ·
   exact trysR.rng h1 b hb
  ·
   exact hrdsR.rng h2 b hb
 base := fun h hb => by
  obtain ⟨u1, u2, F1, F2, rfl, h1, h2, s12, hF⟩ := h
  exact ⟨u1, u2, F1, F2, rfl, trysR.base h1 hb, hrdsR.base h2 hb, s12, hF⟩
def wtLdr (x : Ldr) : Nat := wtTrys x.tries + wtHrds x.known
def lvLdr (v : Value) : List Value := match v with | .agg a => one (a.getD 0 (.int .i64 0)) ++ one (a.getD 1 (.int .i64 0)) ++ one (a.getD 2 (.int .i64 0)) | _ => []
theorem toLeader_u (x : Value) (d : Ldr) (w : World) (hx : ldrR.V w x d) (hn : wtLdr d ≤ 1048576) :
  Calls Tryz.prog 44 #[x] w fun e w' => ∃ v F, e = .returned v ∧ ldrR.O w' w.heap.size F v d ∧ Below w.heap.size w w' := by
 obtain ⟨u1, u2, rfl, h1, h2⟩ := hx
 unfold wtLdr at hn
 go_enter Tryz.func44, Tryz.ntmps44
 go_wp2_with fail
 refine (toTryS_u _ d.tries _ (trysR.below h1 (qBq)) (by omega)).mono ?_
 rintro e w1 ⟨v1, F1, rfl, o1, b1⟩
 obtain ⟨a1, n1, rfl⟩ := trys_form (trysR.ofO o1)
 obtain ⟨c1, f1⟩ := bcell b1
 have z1 := b1.size
 simp at z1
 have l1 := fun b hb => trysR.rng o1 b hb
 simp at l1
 replace o1 := trysR.base (base' := w.heap.size + 3) o1 (by simp; try omega)
 have y0 : w1.cell? ⟨w.heap.size, 0, none⟩ = some (.int .i64 d.count) := cK b1 (by simp [go_sem])
 have y1 : w1.cell? ⟨w.heap.size, 1, none⟩ = some (u1) := cK b1 (by simp [go_sem])
 have y2 : w1.cell? ⟨w.heap.size, 2, none⟩ = some (u2) := cK b1 (by simp [go_sem])
 have r0 : w1.cell? ⟨w.heap.size + 1, 0, none⟩ = some (.int .i64 0) := cK b1 (by simp [go_sem])
 have r1 : w1.cell? ⟨w.heap.size + 1, 1, none⟩ = some (.slice none 0 0) := cK b1 (by simp [go_sem])
 have r2 : w1.cell? ⟨w.heap.size + 1, 2, none⟩ = some (.slice none 0 0) := cK b1 (by simp [go_sem])
 have s0 : w1.cell? ⟨w.heap.size + 2, 0, none⟩ = some (.int .i64 d.count) := cK b1 (by simp [go_sem])
 have s1 : w1.cell? ⟨w.heap.size + 2, 1, none⟩ = some (.slice none 0 0) := cK b1 (by simp [go_sem])
 have s2 : w1.cell? ⟨w.heap.size + 2, 2, none⟩ = some (.slice none 0 0) := cK b1 (by simp [go_sem])
 have t1 : ∀ o, w1.frozen? ⟨w.heap.size + 1, o, none⟩ = false := fun o => by rw [f1 _ _ (by simp; try omega)]; simp [go_sem]
 have t2 : ∀ o, w1.frozen? ⟨w.heap.size + 2, o, none⟩ = false := fun o => by rw [f1 _ _ (by simp; try omega)]; simp [go_sem]
 clear c1 f1
 have x0 := y0
 have x1 := y1
 have x2 := y2
 have q0 := r0
 have q1 := r1
 have q2 := r2
 have p0 := s0
 have p1 := s1
 have p2 := s2
 have qf := t1
 have pf := t2
 clear t1 t2 y0 y1 y2 r0 r1 r2 s0 s1 s2
 go_wp2_with fail
 refine (toHeardS_u _ d.known _ (hrdsR.below h2 (qBq)) (by omega)).mono ?_
 rintro e w2 ⟨v2, F2, rfl, o2, b2⟩
 obtain ⟨a2, n2, rfl⟩ := hrds_form (hrdsR.ofO o2)
 obtain ⟨c2, f2⟩ := bcell b2
 have z2 := b2.size
 simp at z2
 have l2 := fun b hb => hrdsR.rng o2 b hb
 simp at l2
 replace o2 := hrdsR.base (base' := w.heap.size + 3) o2 (by simp; try omega)
 have y0 : w2.cell? ⟨w.heap.size, 0, none⟩ = some (.int .i64 d.count) := cK b2 (by simp [go_sem, x0, x1, x2, q0, q1, q2, p0, p1, p2])
 have y1 : w2.cell? ⟨w.heap.size, 1, none⟩ = some (u1) := cK b2 (by simp [go_sem, x0, x1, x2, q0, q1, q2, p0, p1, p2])
 have y2 : w2.cell? ⟨w.heap.size, 2, none⟩ = some (u2) := cK b2 (by simp [go_sem, x0, x1, x2, q0, q1, q2, p0, p1, p2])
 have r0 : w2.cell? ⟨w.heap.size + 1, 0, none⟩ = some (.int .i64 0) := cK b2 (by simp [go_sem, x0, x1, x2, q0, q1, q2, p0, p1, p2])
 have r1 : w2.cell? ⟨w.heap.size + 1, 1, none⟩ = some (.slice none 0 0) := cK b2 (by simp [go_sem, x0, x1, x2, q0, q1, q2, p0, p1, p2])
 have r2 : w2.cell? ⟨w.heap.size + 1, 2, none⟩ = some (.slice none 0 0) := cK b2 (by simp [go_sem, x0, x1, x2, q0, q1, q2, p0, p1, p2])
 have s0 : w2.cell? ⟨w.heap.size + 2, 0, none⟩ = some (.int .i64 d.count) := cK b2 (by simp [go_sem, x0, x1, x2, q0, q1, q2, p0, p1, p2])
 have s1 : w2.cell? ⟨w.heap.size + 2, 1, none⟩ = some (.slice a1 d.tries.length n1) := cK b2 (by simp [go_sem, x0, x1, x2, q0, q1, q2, p0, p1, p2])
 have s2 : w2.cell? ⟨w.heap.size + 2, 2, none⟩ = some (.slice none 0 0) := cK b2 (by simp [go_sem, x0, x1, x2, q0, q1, q2, p0, p1, p2])
 have t1 : ∀ o, w2.frozen? ⟨w.heap.size + 1, o, none⟩ = false := fun o => by rw [f2 _ _ (by simp; try omega)]; simp [go_sem, qf]
 have t2 : ∀ o, w2.frozen? ⟨w.heap.size + 2, o, none⟩ = false := fun o => by rw [f2 _ _ (by simp; try omega)]; simp [go_sem, pf]
 clear x0 x1 x2 q0 q1 q2 p0 p1 p2 qf pf
 clear c2 f2
 have x0 := y0
 have x1 := y1
 have x2 := y2
 have q0 := r0
 have q1 := r1
 have q2 := r2
 have p0 := s0
 have p1 := s1
 have p2 := s2
 have qf := t1
 have pf := t2
 clear t1 t2 y0 y1 y2 r0 r1 r2 s0 s1 s2
 go_wp2
 refine bodyPost_ret (v := .agg #[.int .i64 d.count, .slice a1 d.tries.length n1, .slice a2 d.known.length n2]) ?_ rfl ⟨_, fun b => F1 b ∨ F2 b, rfl, ⟨_, _, F1, F2, rfl, trysR.base (base := w.heap.size + 3) (by (repeat (first | assumption | refine Rep.set _ ?_ _ (by simp; omega) | refine Rep.set _ ?_ _ (by simp) | refine Rep.alloc _ ?_ _ | refine Rep.keep _ ?_ (by assumption)))) (by omega), hrdsR.base (base := w.heap.size + 3) (by (repeat (first | assumption | refine Rep.set _ ?_ _ (by simp; omega) | refine Rep.set _ ?_ _ (by simp) | refine Rep.alloc _ ?_ _ | refine Rep.keep _ ?_ (by assumption)))) (by omega), fun b p q => by have := (l1 b p).2; have := (l2 b q).1; omega, fun b => Iff.rfl⟩, qBq⟩
 simp [results, Tryz.results44, go_sem, q0, q1, q2, p0, p1, p2, qf, pf]
theorem szLeader_u (x : Value) (d : Ldr) (left : Int) (w : World) (hx : ldrR.V w x d) (h0 : 0 ≤ left) (h1 : left ≤ 1048576) :
  Calls Tryz.prog 32 #[x, .int .i64 left] w fun e w' => e = .returned (.int .i64 (szLen left (wtLdr d))) ∧ Below w.heap.size w w' := by
 obtain ⟨u1, u2, rfl, k1, k2⟩ := hx
 go_enter Tryz.func32, Tryz.ntmps32
 go_wp2_with fail
 refine (szTryS_u _ d.tries left _ (trysR.below k1 (qBq)) h0 h1).mono ?_
 rintro e w1 ⟨rfl, b1⟩
 have x0 : w1.cell? ⟨w.heap.size, 0, none⟩ = some (.int .i64 d.count) := cK b1 (by simp [go_sem])
 have x1 : w1.cell? ⟨w.heap.size, 1, none⟩ = some (u1) := cK b1 (by simp [go_sem])
 have x2 : w1.cell? ⟨w.heap.size, 2, none⟩ = some (u2) := cK b1 (by simp [go_sem])
 go_wp2_with fail
 ·
  rename_i h
  go_ret
  refine ⟨?_, qBq⟩
  rw [szLen_neg (n := wtTrys d.tries) (by omega) (wtLdr d) (by unfold wtLdr; omega)]
  rfl
 rename_i h
 refine (szHeardS_u _ d.known (szLen left (wtTrys d.tries : Nat)) _ (hrdsR.below k2 (qBq)) (by omega) (by have := szLen_le (n := wtTrys d.tries) h0; omega)).mono ?_
 rintro e w2 ⟨rfl, b2⟩
 rw [szLen_add (n := wtTrys d.tries) (by omega)]
 go_wp2
 ·
  rename_i h
  go_ret
  refine ⟨?_, qBq⟩
  rw [szLen_neg (n := wtTrys d.tries + wtHrds d.known) (by first | omega | (rw [Int.natCast_add]; omega)) (wtLdr d) (by unfold wtLdr; omega)]
  rfl
 rename_i h
 go_ret
 exact ⟨rfl, qBq⟩
theorem eqLeader_u (x y : Value) (d d' : Ldr) (w : World) (hx : ldrR.V w x d) (hy : ldrR.V w y d') :
  Calls Tryz.prog 61 #[x, y] w fun e w' => e = .returned (.bool (decide (d = d'))) ∧ Below w.heap.size w w' := by
 obtain ⟨u1, u2, rfl, h1, h2⟩ := hx
 obtain ⟨v1, v2, rfl, k1, k2⟩ := hy
 obtain ⟨count, tries, known⟩ := d
 obtain ⟨count', tries', known'⟩ := d'
 dsimp only at h1 k1 h2 k2
 go_enter Tryz.func61, Tryz.ntmps61
 go_wp2_with fail
 all_goals try (go_ret; exact ⟨by simp_all, qBq⟩)
 refine (eqTryS_u _ _ tries tries' _ (trysR.below h1 (qBq)) (trysR.below k1 (qBq))).mono ?_
 rintro e w1 ⟨rfl, b1⟩
 have x0 : w1.cell? ⟨w.heap.size, 0, none⟩ = some (.int .i64 count) := cK b1 (by simp [go_sem])
 have x1 : w1.cell? ⟨w.heap.size, 1, none⟩ = some (u1) := cK b1 (by simp [go_sem])
 have x2 : w1.cell? ⟨w.heap.size, 2, none⟩ = some (u2) := cK b1 (by simp [go_sem])
 have y0 : w1.cell? ⟨w.heap.size + 1, 0, none⟩ = some (.int .i64 count') := cK b1 (by simp [go_sem])
 have y1 : w1.cell? ⟨w.heap.size + 1, 1, none⟩ = some (v1) := cK b1 (by simp [go_sem])
 have y2 : w1.cell? ⟨w.heap.size + 1, 2, none⟩ = some (v2) := cK b1 (by simp [go_sem])
 go_wp2_with fail
 all_goals try (go_ret; exact ⟨by simp_all, qBq⟩)
 refine (eqHeardS_u _ _ known known' _ (hrdsR.below h2 (qBq)) (hrdsR.below k2 (qBq))).mono ?_
 rintro e w2 ⟨rfl, b2⟩
 go_wp2
 all_goals
  go_ret
  exact ⟨by simp_all, qBq⟩
variable [DecidableEq Ldr] [Inhabited Ldr]
def ldrsR : Rep (List Ldr) := nRep ldrR 106 3 lvLdr
def wtLdrs (xs : List Ldr) : Nat := wtL wtLdr xs
theorem ldrs_form {w : World} {v : Value} {xs : List Ldr} (h : ldrsR.V w v xs) : ∃ a c, v = .slice a xs.length c := by
 obtain ⟨a, c, rfl, _⟩ := h
 exact ⟨_, _, rfl⟩
theorem infoLdrs : (Tryz.prog.info? 106).map (fun i => (i.zero, i.size, i.bytes)) = some (some (.agg #[.int .i64 0, .slice none 0 0, .slice none 0 0]), 3, 56) := by kernel_rfl
theorem keepLdrs {w w' : World} {a0 a1 a2 a3 a4 a5 : Addr} {x0 x1 x2 x3 x4 x5 : Value} (hb : Below w.heap.size w w') (g0 : w.cell? a0 = some x0) (g1 : w.cell? a1 = some x1) (g2 : w.cell? a2 = some x2) (g3 : w.cell? a3 = some x3) (g4 : w.cell? a4 = some x4) (g5 : w.cell? a5 = some x5) : Below w.heap.size w w' ∧ w'.cell? a0 = some x0 ∧ w'.cell? a1 = some x1 ∧ w'.cell? a2 = some x2 ∧ w'.cell? a3 = some x3 ∧ w'.cell? a4 = some x4 ∧ w'.cell? a5 = some x5 :=
 ⟨hb, cK hb g0, cK hb g1, cK hb g2, cK hb g3, cK hb g4, cK hb g5⟩
theorem eqLeaderS_u (x y : Value) (xs ys : List Ldr) (w : World) (hx : ldrsR.V w x xs) (hy : ldrsR.V w y ys) :
  Calls Tryz.prog 27 #[x, y] w fun e w' => e = .returned (.bool (decide (xs = ys))) ∧ Below w.heap.size w w' := by
 obtain ⟨ax, cx, rfl, hcx, hmx, hx⟩ := hx
 obtain ⟨ay, cy, rfl, hcy, hmy, hy⟩ := hy
 unfold maxLen at hmx hmy
 by_cases hl : ys.length = xs.length
 ·
  rw [hl] at hcy hy ⊢
  have HL : Hid (ys.length = xs.length) := hl
  clear hl
  generalize hn : xs.length = n at *
  have HN : Hid (xs.length = n) := hn
  clear hn
  go_enter Tryz.func27, Tryz.ntmps27
  go_wp2
  go_loopw [5] (fun i w' => ∃ k : Nat, k ≤ n ∧ i = .int .i64 k ∧ (∀ j, j < k → xs.getD j default = ys.getD j default) ∧ Below w.heap.size w w') (fun i _ => n - (intOf i).toNat)
  case atStart => exact ⟨0, Nat.zero_le _, rfl, fun j h => absurd h (Nat.not_lt_zero _), Below.refl _ _⟩
  case round =>
   obtain ⟨k, hk, rfl, hpre, hbl⟩ := hrel
   have HP : Hid (∀ j, j < k → xs.getD j default = ys.getD j default) := hpre
   clear hpre
   by_cases hlt : k < n
   ·
    obtain ⟨bx, ox, ux, rfl, _, p1, hvx⟩ := hx k hlt
    obtain ⟨b2, oy, uy, rfl, _, p2, hvy⟩ := hy k hlt
    obtain ⟨l1, hl1⟩ : ∃ l, l = xs.getD k default := ⟨_, rfl⟩
    obtain ⟨l2, hl2⟩ : ∃ l, l = ys.getD k default := ⟨_, rfl⟩
    rw [← hl1] at hvx
    rw [← hl2] at hvy
    have H1 : Hid (l1 = xs.getD k default) := hl1
    have H2 : Hid (l2 = ys.getD k default) := hl2
    have hvx' := hvx
    obtain ⟨ux1, ux2, rfl, _, _⟩ := hvx'
    have hvy' := hvy
    obtain ⟨uy1, uy2, rfl, _, _⟩ := hvy'
    have g0 : w.cell? ⟨bx, ox + k * 3, none⟩ = some (.int .i64 l1.count) := p1 0 (by omega)
    have g1 : w.cell? ⟨bx, ox + k * 3 + 1, none⟩ = some (ux1) := p1 1 (by omega)
    have g2 : w.cell? ⟨bx, ox + k * 3 + 2, none⟩ = some (ux2) := p1 2 (by omega)
    have g3 : w.cell? ⟨b2, oy + k * 3, none⟩ = some (.int .i64 l2.count) := p2 0 (by omega)
    have g4 : w.cell? ⟨b2, oy + k * 3 + 1, none⟩ = some (uy1) := p2 1 (by omega)
    have g5 : w.cell? ⟨b2, oy + k * 3 + 2, none⟩ = some (uy2) := p2 2 (by omega)
    clear hl1 hl2 hx hy p1 p2
    go_wp2
    go_region_held3 (fun w' => Below w.heap.size w w' ∧ w'.cell? ⟨bx, ox + k * 3, none⟩ = some (.int .i64 l1.count) ∧ w'.cell? ⟨bx, ox + k * 3 + 1, none⟩ = some (ux1) ∧ w'.cell? ⟨bx, ox + k * 3 + 2, none⟩ = some (ux2) ∧ w'.cell? ⟨b2, oy + k * 3, none⟩ = some (.int .i64 l2.count) ∧ w'.cell? ⟨b2, oy + k * 3 + 1, none⟩ = some (uy1) ∧ w'.cell? ⟨b2, oy + k * 3 + 2, none⟩ = some (uy2)) ((refine keepLdrs ?_ g0 g1 g2 g3 g4 g5; (repeat (first | exact bR _ _ | assumption | refine bD ?_ | refine bA ?_ _ | refine bS ?_ (by assumption))))) (first | (go_at_call 61; refine (eqLeader_u (.agg #[.int .i64 l1.count, ux1, ux2]) (.agg #[.int .i64 l2.count, uy1, uy2]) l1 l2 _ (ldrR.below hvx (by (repeat (first | exact bR _ _ | assumption | refine bD ?_ | refine bA ?_ _ | refine bS ?_ (by assumption))))) (ldrR.below hvy (by (repeat (first | exact bR _ _ | assumption | refine bD ?_ | refine bA ?_ _ | refine bS ?_ (by assumption)))))).mono ?_; rintro e w' ⟨rfl, hb1⟩))
    rename_i hH
    have hB := hH.1
    clear hH
    go_wp2
    ·
     rename_i hle
     go_ret
     refine ⟨?_, hB⟩
     have : ¬ xs = ys := fun h => by
      have : l1 = l2 := by rw [H1.out, H2.out, h]
      simp [this] at hle
     simp [this]
    ·
     rename_i hle
     refine ⟨⟨k + 1, by omega, by go_num, fun j hj => ?_, hB⟩, by simp [intOf]; omega⟩
     by_cases hjk : j < k
     ·
      exact HP.out j hjk
     ·
      have : j = k := by omega
      subst this
      rw [← H1.out, ← H2.out]
      simpa using hle
   ·
    go_wp2; go_ret
    have : k = n := by omega
    subst this
    refine ⟨?_, hbl⟩
    have : xs = ys := rows_eq_of (by rw [HL.out, HN.out]) (by rw [HN.out]; exact HP.out)
    simp [this]
 ·
  go_enter Tryz.func27, Tryz.ntmps27
  have hl' : ((xs.length : Int) == (ys.length : Int)) = false := by simp; omega
  go_wp2; go_ret
  have : ¬ xs = ys := fun h => hl (by rw [h])
  exact ⟨by simp [this], Below.refl _ _⟩
theorem toLeaderS_u (x : Value) (xs : List Ldr) (w : World) (hx : ldrsR.V w x xs) (hn : wtLdrs xs ≤ 1048576) :
  Calls Tryz.prog 19 #[x] w fun e w' => ∃ v F, e = .returned v ∧ ldrsR.O w' w.heap.size F v xs ∧ Below w.heap.size w w' := by
 obtain ⟨ax, cx, rfl, hcx, hmx, hx⟩ := hx
 unfold maxLen at hmx
 unfold wtLdrs at hn
 have hlen : xs.length ≤ 1048576 := by unfold wtL at hn; omega
 have hW : ∀ k, k < xs.length → wtLdr (xs.getD k default) ≤ 1048576 := fun k hk => (wt_at hn hk).1
 obtain ⟨i0, hi, hz0, hz1, hz2⟩ := info_parts infoLdrs
 obtain ⟨w1, hmk, hown, hgr⟩ := run_make_full (P := Tryz.prog) w w.heap.size 34 106 i0 _ 3 Tryz.underlying34 hi hz0 hz1 .i64 .i64 xs.length (by rw [hz2]; omega) (by unfold maxLen; omega) (Nat.le_refl _)
 have hbl0 : Below w.heap.size w w1 := (Below.refl _ _).grown hgr (Nat.le_refl _) (fun k h => by cases h)
 clear hn
 generalize hn' : xs.length = n at *
 have HN : Hid (xs.length = n) := hn'
 clear hn'
 go_enter Tryz.func19, Tryz.ntmps19
 go_wp2
 go_loopw [4] (fun i w' => ∃ (k : Nat) (cs : List Value) (us : Nat → Value) (fs : Nat → Nat → Prop), k ≤ n ∧ i = .int .i64 k ∧ PO ldrR 106 3 lvLdr w' w.heap.size (.slice (some ⟨w.heap.size, 0, none⟩) n n) n k (fun i => xs.getD i default) cs us fs ∧ Below w.heap.size w w') (fun i _ => n - (intOf i).toNat)
 case atStart => exact ⟨0, _, fun _ => .int .i64 0, fun _ _ => False, Nat.zero_le _, rfl, ⟨hown, fun i h => by omega, fun i h => by omega, fun i h => by omega, fun i h => by omega, fun i j h => by omega⟩, hbl0⟩
 case round =>
  obtain ⟨k, cs, us, fs, hk, rfl, hp, hbl⟩ := hrel
  clear hown hmk hgr hbl0
  by_cases hlt : k < n
  ·
   obtain ⟨bx, ox, ux, rfl, _, p1, hvx⟩ := hx k hlt
   have hw := hW k hlt
   obtain ⟨l, hl⟩ : ∃ l, l = xs.getD k default := ⟨_, rfl⟩
   rw [← hl] at hvx hw
   have HL : Hid (l = xs.getD k default) := hl
   have hvx' := hvx
   obtain ⟨ux1, ux2, rfl, _, _⟩ := hvx'
   have g0 : w.cell? ⟨bx, ox + k * 3, none⟩ = some (.int .i64 l.count) := p1 0 (by omega)
   replace g0 := cK hbl g0
   have g1 : w.cell? ⟨bx, ox + k * 3 + 1, none⟩ = some (ux1) := p1 1 (by omega)
   replace g1 := cK hbl g1
   have g2 : w.cell? ⟨bx, ox + k * 3 + 2, none⟩ = some (ux2) := p1 2 (by omega)
   replace g2 := cK hbl g2
   clear hx p1 hW hl
   go_wp2_with fail
   refine (toLeader_u (.agg #[.int .i64 l.count, ux1, ux2]) l _ (ldrR.below hvx (by (repeat (first | exact bR _ _ | assumption | refine bD ?_ | refine bA ?_ _ | refine bS ?_ (by assumption))))) hw).mono ?_
   rintro e wa ⟨v1, F1, rfl, o1, b1⟩
   have ofm1 := ldrR.ofO o1
   obtain ⟨x1_1, x1_2, rfl, y1_1, y1_2⟩ := ofm1
   obtain ⟨a1_1, n1_1, rfl⟩ := trys_form y1_1
   obtain ⟨a1_2, n1_2, rfl⟩ := hrds_form y1_2
   have ho1 := (hp.keep b1).row
   obtain ⟨y0, q0⟩ := owns_some ho1 (k * 3) (by omega)
   obtain ⟨y1, q1⟩ := owns_some ho1 (k * 3 + 1) (by omega)
   obtain ⟨y2, q2⟩ := owns_some ho1 (k * 3 + 2) (by omega)
   have hf := fun j => ho1.frozenAt j
   go_wp2
   have s0 := ho1.stored (k * 3) (.int .i64 l.count)
   have s1 := s0.1.stored (k * 3 + 1) (.slice a1_1 l.tries.length n1_1)
   have s2 := s1.1.stored (k * 3 + 2) (.slice a1_2 l.known.length n1_2)
   have hrow : World.ownsRow _ w.heap.size 106 3 (.slice (some ⟨w.heap.size, 0, none⟩) n n) n (setRow cs (k * 3) [.int .i64 l.count, .slice a1_1 l.tries.length n1_1, .slice a1_2 l.known.length n1_2]) := s2.1
   have hcl := hp.row.1
   refine ⟨⟨k + 1, _, _, _, by omega, by go_num, hp.push (u := (.agg #[.int .i64 l.count, .slice a1_1 l.tries.length n1_1, .slice a1_2 l.known.length n1_2])) (F := F1) hbl.size b1 (by rw [← HL.out]; exact o1) rfl hrow (((Mod.of_grown s0.2).trans (Mod.of_grown s1.2)).trans (Mod.of_grown s2.2)) ?_ ?_, ?_⟩, by simp [intOf]; omega⟩
   ·
    intro i hi j hj
    exact setRow_old _ _ _ _ (.inl (by omega))
   ·
    intro j hj
    exact setRow_new _ _ _ _ (by simp only [List.length_cons, List.length_nil]; omega) hj
   ·
    exact ((((bS hbl b1).setCell (Nat.le_refl _) _).setCell (Nat.le_refl _) _).setCell (Nat.le_refl _) _)
  ·
   go_wp2; go_ret
   have hkn : k = n := by omega
   subst hkn
   have e := HN.out
   subst e
   exact ⟨_, _, rfl, ⟨cs, us, fs, hp, fun b => Iff.rfl⟩, hbl⟩
theorem szLeaderS_u (x : Value) (xs : List Ldr) (left : Int) (w : World) (hx : ldrsR.V w x xs) (h0 : 0 ≤ left) (h1 : left ≤ 1048576) :
  Calls Tryz.prog 12 #[x, .int .i64 left] w fun e w' => e = .returned (.int .i64 (szLen left (wtLdrs xs))) ∧ Below w.heap.size w w' := by
 obtain ⟨ax, cx, rfl, hcx, hmx, hx⟩ := hx
 unfold maxLen at hmx
 unfold wtLdrs wtL
 have HT : Hid (∀ k, k < xs.length → cntTo wtLdr (k + 1) xs = cntTo wtLdr k xs + wtLdr (xs.getD k default) ∧ cntTo wtLdr (k + 1) xs ≤ cntTo wtLdr xs.length xs) :=
  fun k hk => ⟨cntTo_succ _ k xs hk, cntTo_le _ _ _ _ hk⟩
 generalize xs.length = n at *
 by_cases h : left < n
 ·
  have h' : left - (n : Int) < 0 := by omega
  clear hx
  go_enter Tryz.func12, Tryz.ntmps12
  go_wp2; go_ret
  exact ⟨by simp only [szLen]; rw [if_pos (by omega)]; rfl, Below.refl _ _⟩
 ·
  have h' : ¬ left - (n : Int) < 0 := by omega
  go_enter Tryz.func12, Tryz.ntmps12
  go_wp2
  go_loopw [1, 5] (fun l i w' => ∃ k : Nat, k ≤ n ∧ i = .int .i64 k ∧ l = .int .i64 (left - n - cntTo wtLdr k xs) ∧ 0 ≤ left - n - cntTo wtLdr k xs ∧ Below w.heap.size w w') (fun _ i _ => n - (intOf i).toNat)
  case atStart => exact ⟨0, Nat.zero_le _, rfl, by simp [cntTo], by simp [cntTo]; omega, Below.refl _ _⟩
  case round =>
   obtain ⟨k, hk, rfl, rfl, hpos, hbl⟩ := hrel
   by_cases hlt : k < n
   ·
    obtain ⟨bx, ox, ux, rfl, _, p1, hvx⟩ := hx k hlt
    obtain ⟨t2, t3⟩ := HT.out k hlt
    generalize xs.getD k default = l at *
    have hvx' := hvx
    obtain ⟨ux1, ux2, rfl, _, _⟩ := hvx'
    have g0 : w.cell? ⟨bx, ox + k * 3, none⟩ = some (.int .i64 l.count) := p1 0 (by omega)
    replace g0 := cK hbl g0
    have g1 : w.cell? ⟨bx, ox + k * 3 + 1, none⟩ = some (ux1) := p1 1 (by omega)
    replace g1 := cK hbl g1
    have g2 : w.cell? ⟨bx, ox + k * 3 + 2, none⟩ = some (ux2) := p1 2 (by omega)
    replace g2 := cK hbl g2
    generalize hm : wtLdr l = m at *
    have HM : Hid (wtLdr l = m) := hm
    clear hx p1 hm
    generalize cntTo wtLdr k xs = c at *
    go_wp2_with fail
    refine (szLeader_u (.agg #[.int .i64 l.count, ux1, ux2]) l (left - n - c) _ (ldrR.below hvx (by (repeat (first | exact bR _ _ | assumption | refine bD ?_ | refine bA ?_ _ | refine bS ?_ (by assumption))))) hpos (by omega)).mono ?_
    rintro e wa ⟨rfl, b1⟩
    rw [HM.out]
    go_wp2
    ·
     rename_i hneg
     go_ret
     refine ⟨?_, by (repeat (first | exact bR _ _ | assumption | refine bD ?_ | refine bA ?_ _ | refine bS ?_ (by assumption)))⟩
     have : szLen left ↑(n + cntTo wtLdr n xs) = -1 := by
      unfold szLen at hneg ⊢
      rw [if_pos (by split at hneg <;> omega)]
     rw [this]
     rfl
    ·
     rename_i hneg
     refine ⟨⟨k + 1, by omega, by go_num, ?_, ?_, by (repeat (first | exact bR _ _ | assumption | refine bD ?_ | refine bA ?_ _ | refine bS ?_ (by assumption)))⟩, by simp [intOf]; omega⟩
     ·
      congr 1
      unfold szLen at hneg ⊢
      split at hneg <;> omega
     ·
      unfold szLen at hneg
      split at hneg <;> omega
   ·
    go_wp2; go_ret
    have hkn : k = n := by omega
    subst hkn
    refine ⟨?_, hbl⟩
    have : szLen left ↑(k + cntTo wtLdr k xs) = left - k - cntTo wtLdr k xs := by
     unfold szLen
     rw [if_neg (by omega)]
     omega
    rw [this]
    rfl
end Go.Proofs.YtackhljepbhpgaaGreat

namespace Go.Proofs.YtackhljepbhpgaaGreat
open Go.RowKit
variable [DecidableEq Vot] [Inhabited Vot]
attribute [local go_sem ↓] Go.wp_at_zero Go.wp_at_succ

structure Msg where
 kind : Int
 to : Int
 frm : Int
 con : Int
 sh : Int
 bal : Int
 val : Int
 ob : Int
 ov : Int
variable [DecidableEq Msg] [Inhabited Msg]

def msgV (x : Msg) : Value := .agg #[.int .i64 x.kind, .int .i64 x.to, .int .i64 x.frm, .int .i64 x.con, .int .i64 x.sh, .int .i64 x.bal, .int .i64 x.val, .int .i64 x.ob, .int .i64 x.ov]
theorem toMessage_any (x : Msg) (w : World) :
  Calls Tryz.prog 45 #[msgV x] w fun e w' => e = .returned (msgV x) ∧ Below w.heap.size w w' := by
 unfold msgV
 go_enter Tryz.func45, Tryz.ntmps45
 go_wp2_with fail
 refine (toVote_any ⟨x.ob, x.ov⟩ _).mono ?_
 rintro e w0 ⟨rfl, b0⟩
 have hB0 : Below w.heap.size w w0 := bS (qBq) b0
 obtain ⟨c0, f0⟩ := bcell b0
 have z0 := b0.size
 simp at z0
 have x0 : w0.cell? ⟨w.heap.size, 0, none⟩ = some (.int .i64 x.kind) := cK b0 (by simp [go_sem])
 have x1 : w0.cell? ⟨w.heap.size, 1, none⟩ = some (.int .i64 x.to) := cK b0 (by simp [go_sem])
 have x2 : w0.cell? ⟨w.heap.size, 2, none⟩ = some (.int .i64 x.frm) := cK b0 (by simp [go_sem])
 have x3 : w0.cell? ⟨w.heap.size, 3, none⟩ = some (.int .i64 x.con) := cK b0 (by simp [go_sem])
 have x4 : w0.cell? ⟨w.heap.size, 4, none⟩ = some (.int .i64 x.sh) := cK b0 (by simp [go_sem])
 have x5 : w0.cell? ⟨w.heap.size, 5, none⟩ = some (.int .i64 x.bal) := cK b0 (by simp [go_sem])
 have x6 : w0.cell? ⟨w.heap.size, 6, none⟩ = some (.int .i64 x.val) := cK b0 (by simp [go_sem])
 have x7 : w0.cell? ⟨w.heap.size, 7, none⟩ = some (.int .i64 x.ob) := cK b0 (by simp [go_sem])
 have x8 : w0.cell? ⟨w.heap.size, 8, none⟩ = some (.int .i64 x.ov) := cK b0 (by simp [go_sem])
 have q0 : w0.cell? ⟨w.heap.size + 1, 0, none⟩ = some (.int .i64 0) := cK b0 (by simp [go_sem])
 have q1 : w0.cell? ⟨w.heap.size + 1, 1, none⟩ = some (.int .i64 0) := cK b0 (by simp [go_sem])
 have q2 : w0.cell? ⟨w.heap.size + 1, 2, none⟩ = some (.int .i64 0) := cK b0 (by simp [go_sem])
 have q3 : w0.cell? ⟨w.heap.size + 1, 3, none⟩ = some (.int .i64 0) := cK b0 (by simp [go_sem])
 have q4 : w0.cell? ⟨w.heap.size + 1, 4, none⟩ = some (.int .i64 0) := cK b0 (by simp [go_sem])
 have q5 : w0.cell? ⟨w.heap.size + 1, 5, none⟩ = some (.int .i64 0) := cK b0 (by simp [go_sem])
 have q6 : w0.cell? ⟨w.heap.size + 1, 6, none⟩ = some (.int .i64 0) := cK b0 (by simp [go_sem])
 have q7 : w0.cell? ⟨w.heap.size + 1, 7, none⟩ = some (.int .i64 0) := cK b0 (by simp [go_sem])
 have q8 : w0.cell? ⟨w.heap.size + 1, 8, none⟩ = some (.int .i64 0) := cK b0 (by simp [go_sem])
 have p0 : w0.cell? ⟨w.heap.size + 2, 0, none⟩ = some (.int .i64 x.kind) := cK b0 (by simp [go_sem])
 have p1 : w0.cell? ⟨w.heap.size + 2, 1, none⟩ = some (.int .i64 x.to) := cK b0 (by simp [go_sem])
 have p2 : w0.cell? ⟨w.heap.size + 2, 2, none⟩ = some (.int .i64 x.frm) := cK b0 (by simp [go_sem])
 have p3 : w0.cell? ⟨w.heap.size + 2, 3, none⟩ = some (.int .i64 x.con) := cK b0 (by simp [go_sem])
 have p4 : w0.cell? ⟨w.heap.size + 2, 4, none⟩ = some (.int .i64 x.sh) := cK b0 (by simp [go_sem])
 have p5 : w0.cell? ⟨w.heap.size + 2, 5, none⟩ = some (.int .i64 x.bal) := cK b0 (by simp [go_sem])
 have p6 : w0.cell? ⟨w.heap.size + 2, 6, none⟩ = some (.int .i64 x.val) := cK b0 (by simp [go_sem])
 have p7 : w0.cell? ⟨w.heap.size + 2, 7, none⟩ = some (.int .i64 0) := cK b0 (by simp [go_sem])
 have p8 : w0.cell? ⟨w.heap.size + 2, 8, none⟩ = some (.int .i64 0) := cK b0 (by simp [go_sem])
 have qf : ∀ o, w0.frozen? ⟨w.heap.size + 1, o, none⟩ = false := fun o => by rw [f0 _ _ (by simp; try omega)]; simp [go_sem]
 have pf : ∀ o, w0.frozen? ⟨w.heap.size + 2, o, none⟩ = false := fun o => by rw [f0 _ _ (by simp; try omega)]; simp [go_sem]
 clear c0 f0 b0
 simp only [votV]
 go_wp2
 exact bodyPost_ret (v := .agg #[.int .i64 x.kind, .int .i64 x.to, .int .i64 x.frm, .int .i64 x.con, .int .i64 x.sh, .int .i64 x.bal, .int .i64 x.val, .int .i64 x.ob, .int .i64 x.ov]) (by simp [results, Tryz.results45, go_sem, q0, q1, q2, q3, q4, q5, q6, q7, q8, p0, p1, p2, p3, p4, p5, p6, p7, p8, qf, pf]) rfl ⟨rfl, by (repeat (first | refine bset ?_ (by simp; omega) _ | refine bset ?_ (by simp) _ | refine bA ?_ _ | assumption))⟩
theorem eqMessage_any (x y : Msg) (w : World) :
  Calls Tryz.prog 62 #[msgV x, msgV y] w fun e w' => e = .returned (.bool (decide (x = y))) ∧ Below w.heap.size w w' := by
 obtain ⟨a, b, c, d, e, f, g, h, i⟩ := x
 obtain ⟨a', b', c', d', e', f', g', h', i'⟩ := y
 unfold msgV
 go_enter Tryz.func62, Tryz.ntmps62
 go_wp2_with fail
 all_goals try (go_ret; exact ⟨by first | (simp_all; done) | (simp_all; intros; exfalso; omega), qBq⟩)
 refine (eqVote_any ⟨h, i⟩ ⟨h', i'⟩ _).mono ?_
 rintro e w0 ⟨rfl, b0⟩
 by_cases he : (⟨h, i⟩ : Vot) = ⟨h', i'⟩
 ·
  have he' := he
  simp only [Vot.mk.injEq] at he'
  obtain ⟨rfl, rfl⟩ := he'
  go_wp2
  all_goals
   go_ret
   exact ⟨by simp_all, qBq⟩
 ·
  have hne : ¬ (⟨a, b, c, d, e, f, g, h, i⟩ : Msg) = ⟨a', b', c', d', e', f', g', h', i'⟩ := fun h => he (by simp only [Msg.mk.injEq] at h; simp only [Vot.mk.injEq]; exact ⟨h.2.2.2.2.2.2.2.1, h.2.2.2.2.2.2.2.2⟩)
  simp only [he, decide_false]
  go_wp2
  all_goals
   go_ret
   exact ⟨by rw [decide_eq_false hne]; rfl, qBq⟩
def msgCells (w : World) (b o : Nat) (x : Msg) : Prop := w.cell? ⟨b, o, none⟩ = some (.int .i64 x.kind) ∧ w.cell? ⟨b, o + 1, none⟩ = some (.int .i64 x.to) ∧ w.cell? ⟨b, o + 2, none⟩ = some (.int .i64 x.frm) ∧ w.cell? ⟨b, o + 3, none⟩ = some (.int .i64 x.con) ∧ w.cell? ⟨b, o + 4, none⟩ = some (.int .i64 x.sh) ∧ w.cell? ⟨b, o + 5, none⟩ = some (.int .i64 x.bal) ∧ w.cell? ⟨b, o + 6, none⟩ = some (.int .i64 x.val) ∧ w.cell? ⟨b, o + 7, none⟩ = some (.int .i64 x.ob) ∧ w.cell? ⟨b, o + 8, none⟩ = some (.int .i64 x.ov)
def MsgsV (w : World) (v : Value) (xs : List Msg) : Prop :=
 ∃ a cap, v = .slice a xs.length cap ∧ xs.length ≤ cap ∧ cap ≤ maxLen ∧ ∀ i, i < xs.length → ∃ b o, a = some ⟨b, o, none⟩ ∧ msgCells w b (o + i * 9) (xs.getD i default)
theorem msgCells_below {w w' : World} {b o : Nat} {x : Msg} (hb : Below w.heap.size w w') (h : msgCells w b o x) : msgCells w' b o x := by
 obtain ⟨h0, h1, h2, h3, h4, h5, h6, h7, h8⟩ := h
 exact ⟨cK hb h0, cK hb h1, cK hb h2, cK hb h3, cK hb h4, cK hb h5, cK hb h6, cK hb h7, cK hb h8⟩
theorem MsgsV_below {w w' : World} {v : Value} {xs : List Msg} (h : MsgsV w v xs) (hb : Below w.heap.size w w') : MsgsV w' v xs := by
 obtain ⟨a, cap, rfl, h1, h2, h3⟩ := h
 exact ⟨a, cap, rfl, h1, h2, fun i hi => by
  obtain ⟨b, o, ha, hc⟩ := h3 i hi
  exact ⟨b, o, ha, msgCells_below hb hc⟩⟩
theorem msgKeep2 {w w' : World} {b o b' o' : Nat} {x y : Msg} (hb : Below w.heap.size w w') (h : msgCells w b o x) (h' : msgCells w b' o' y) :
  Below w.heap.size w w' ∧ (w'.cell? ⟨b, o, none⟩ = some (.int .i64 x.kind) ∧ w'.cell? ⟨b, o + 1, none⟩ = some (.int .i64 x.to) ∧ w'.cell? ⟨b, o + 2, none⟩ = some (.int .i64 x.frm) ∧ w'.cell? ⟨b, o + 3, none⟩ = some (.int .i64 x.con) ∧ w'.cell? ⟨b, o + 4, none⟩ = some (.int .i64 x.sh) ∧ w'.cell? ⟨b, o + 5, none⟩ = some (.int .i64 x.bal) ∧ w'.cell? ⟨b, o + 6, none⟩ = some (.int .i64 x.val) ∧ w'.cell? ⟨b, o + 7, none⟩ = some (.int .i64 x.ob) ∧ w'.cell? ⟨b, o + 8, none⟩ = some (.int .i64 x.ov)) ∧ (w'.cell? ⟨b', o', none⟩ = some (.int .i64 y.kind) ∧ w'.cell? ⟨b', o' + 1, none⟩ = some (.int .i64 y.to) ∧ w'.cell? ⟨b', o' + 2, none⟩ = some (.int .i64 y.frm) ∧ w'.cell? ⟨b', o' + 3, none⟩ = some (.int .i64 y.con) ∧ w'.cell? ⟨b', o' + 4, none⟩ = some (.int .i64 y.sh) ∧ w'.cell? ⟨b', o' + 5, none⟩ = some (.int .i64 y.bal) ∧ w'.cell? ⟨b', o' + 6, none⟩ = some (.int .i64 y.val) ∧ w'.cell? ⟨b', o' + 7, none⟩ = some (.int .i64 y.ob) ∧ w'.cell? ⟨b', o' + 8, none⟩ = some (.int .i64 y.ov)) :=
 ⟨hb, msgCells_below hb h, msgCells_below hb h'⟩
theorem msgs_eq_of {xs ys : List Msg} (hl : ys.length = xs.length) (h : ∀ j, j < xs.length → xs.getD j default = ys.getD j default) : xs = ys := by
 apply List.ext_getElem (by omega)
 intro i h1 h2
 have := h i h1
 simpa [List.getD, h1, h2] using this
theorem eqMessageS_any (x y : Value) (xs ys : List Msg) (w : World) (hx : MsgsV w x xs) (hy : MsgsV w y ys) :
  Calls Tryz.prog 28 #[x, y] w fun e w' => e = .returned (.bool (decide (xs = ys))) ∧ Below w.heap.size w w' := by
 obtain ⟨ax, cx, rfl, hcx, hmx, hx⟩ := hx
 obtain ⟨ay, cy, rfl, hcy, hmy, hy⟩ := hy
 unfold maxLen at hmx hmy
 by_cases hl : ys.length = xs.length
 ·
  rw [hl] at hcy hy ⊢
  have HL : Hid (ys.length = xs.length) := hl
  clear hl
  generalize hn : xs.length = n at *
  have HN : Hid (xs.length = n) := hn
  clear hn
  go_enter Tryz.func28, Tryz.ntmps28
  go_wp2
  go_loopw [5] (fun i w' => ∃ k : Nat, k ≤ n ∧ i = .int .i64 k ∧ (∀ j, j < k → xs.getD j default = ys.getD j default) ∧ Below w.heap.size w w') (fun i _ => n - (intOf i).toNat)
  case atStart => exact ⟨0, Nat.zero_le _, rfl, fun j h => absurd h (Nat.not_lt_zero _), Below.refl _ _⟩
  case round =>
   obtain ⟨k, hk, rfl, hpre, hbl⟩ := hrel
   have HP : Hid (∀ j, j < k → xs.getD j default = ys.getD j default) := hpre
   clear hpre
   by_cases hlt : k < n
   ·
    obtain ⟨bx, ox, rfl, h1⟩ := hx k hlt
    obtain ⟨b2, oy, rfl, h2⟩ := hy k hlt
    obtain ⟨l1, hl1⟩ : ∃ l, l = xs.getD k default := ⟨_, rfl⟩
    obtain ⟨l2, hl2⟩ : ∃ l, l = ys.getD k default := ⟨_, rfl⟩
    rw [← hl1] at h1
    rw [← hl2] at h2
    have H1 : Hid (l1 = xs.getD k default) := hl1
    have H2 : Hid (l2 = ys.getD k default) := hl2
    clear hl1 hl2 hx hy
    go_wp2
    go_region_held3 (fun w' => Below w.heap.size w w' ∧ (w'.cell? ⟨bx, ox + k * 9, none⟩ = some (.int .i64 l1.kind) ∧ w'.cell? ⟨bx, ox + k * 9 + 1, none⟩ = some (.int .i64 l1.to) ∧ w'.cell? ⟨bx, ox + k * 9 + 2, none⟩ = some (.int .i64 l1.frm) ∧ w'.cell? ⟨bx, ox + k * 9 + 3, none⟩ = some (.int .i64 l1.con) ∧ w'.cell? ⟨bx, ox + k * 9 + 4, none⟩ = some (.int .i64 l1.sh) ∧ w'.cell? ⟨bx, ox + k * 9 + 5, none⟩ = some (.int .i64 l1.bal) ∧ w'.cell? ⟨bx, ox + k * 9 + 6, none⟩ = some (.int .i64 l1.val) ∧ w'.cell? ⟨bx, ox + k * 9 + 7, none⟩ = some (.int .i64 l1.ob) ∧ w'.cell? ⟨bx, ox + k * 9 + 8, none⟩ = some (.int .i64 l1.ov)) ∧ (w'.cell? ⟨b2, oy + k * 9, none⟩ = some (.int .i64 l2.kind) ∧ w'.cell? ⟨b2, oy + k * 9 + 1, none⟩ = some (.int .i64 l2.to) ∧ w'.cell? ⟨b2, oy + k * 9 + 2, none⟩ = some (.int .i64 l2.frm) ∧ w'.cell? ⟨b2, oy + k * 9 + 3, none⟩ = some (.int .i64 l2.con) ∧ w'.cell? ⟨b2, oy + k * 9 + 4, none⟩ = some (.int .i64 l2.sh) ∧ w'.cell? ⟨b2, oy + k * 9 + 5, none⟩ = some (.int .i64 l2.bal) ∧ w'.cell? ⟨b2, oy + k * 9 + 6, none⟩ = some (.int .i64 l2.val) ∧ w'.cell? ⟨b2, oy + k * 9 + 7, none⟩ = some (.int .i64 l2.ob) ∧ w'.cell? ⟨b2, oy + k * 9 + 8, none⟩ = some (.int .i64 l2.ov))) ((refine msgKeep2 ?_ h1 h2; repeat (first | exact bR _ _ | assumption | refine bD ?_ | refine bA ?_ _ | refine bS ?_ (by assumption)))) (first | (go_at_call 62; refine (eqMessage_any l1 l2 _).mono ?_; rintro e w' ⟨rfl, hb1⟩))
    rename_i hH
    have hB := hH.1
    clear hH
    go_wp2
    ·
     rename_i hle
     go_ret
     refine ⟨?_, hB⟩
     have : ¬ xs = ys := fun h => by
      have : l1 = l2 := by rw [H1.out, H2.out, h]
      simp [this] at hle
     simp [this]
    ·
     rename_i hle
     refine ⟨⟨k + 1, by omega, by go_num, fun j hj => ?_, hB⟩, by simp [intOf]; omega⟩
     by_cases hjk : j < k
     ·
      exact HP.out j hjk
     ·
      have : j = k := by omega
      subst this
      rw [← H1.out, ← H2.out]
      simpa using hle
   ·
    go_wp2; go_ret
    have : k = n := by omega
    subst this
    refine ⟨?_, hbl⟩
    have : xs = ys := msgs_eq_of (by rw [HL.out, HN.out]) (by rw [HN.out]; exact HP.out)
    simp [this]
 ·
  go_enter Tryz.func28, Tryz.ntmps28
  have hl' : ((xs.length : Int) == (ys.length : Int)) = false := by simp; omega
  go_wp2; go_ret
  have : ¬ xs = ys := fun h => hl (by rw [h])
  exact ⟨by simp [this], Below.refl _ _⟩
def msgC (x : Msg) : List Value := [.int .i64 x.kind, .int .i64 x.to, .int .i64 x.frm, .int .i64 x.con, .int .i64 x.sh, .int .i64 x.bal, .int .i64 x.val, .int .i64 x.ob, .int .i64 x.ov]
def msgsC (xs : List Msg) : List Value := xs.flatMap msgC
theorem infoMsg : (Tryz.prog.info? 89).map (fun i => (i.zero, i.size, i.bytes)) = some (some (.agg #[.int .i64 0, .int .i64 0, .int .i64 0, .int .i64 0, .int .i64 0, .int .i64 0, .int .i64 0, .int .i64 0, .int .i64 0]), 9, 72) := by kernel_rfl
theorem length_msgsC (xs : List Msg) : (msgsC xs).length = xs.length * 9 := by
 induction xs with
 | nil => rfl
 | cons x r ih =>
  have e : msgsC (x :: r) = msgC x ++ msgsC r := by simp [msgsC]
  have l4 : (msgC x).length = 9 := rfl
  rw [e, List.length_append, l4, ih, List.length_cons]
  omega
theorem get_msgsC (xs : List Msg) : ∀ i, i < xs.length → (msgsC xs)[i * 9]? = some (.int .i64 (xs.getD i default).kind) ∧ (msgsC xs)[i * 9 + 1]? = some (.int .i64 (xs.getD i default).to) ∧ (msgsC xs)[i * 9 + 2]? = some (.int .i64 (xs.getD i default).frm) ∧ (msgsC xs)[i * 9 + 3]? = some (.int .i64 (xs.getD i default).con) ∧ (msgsC xs)[i * 9 + 4]? = some (.int .i64 (xs.getD i default).sh) ∧ (msgsC xs)[i * 9 + 5]? = some (.int .i64 (xs.getD i default).bal) ∧ (msgsC xs)[i * 9 + 6]? = some (.int .i64 (xs.getD i default).val) ∧ (msgsC xs)[i * 9 + 7]? = some (.int .i64 (xs.getD i default).ob) ∧ (msgsC xs)[i * 9 + 8]? = some (.int .i64 (xs.getD i default).ov) := by
 induction xs with
 | nil => intro i h; simp at h
 | cons x r ih =>
  intro i h
  cases i with
  | zero => simp [msgsC, msgC]
  | succ i =>
   have := ih i (by simpa using h)
   have e : msgsC (x :: r) = msgC x ++ msgsC r := by simp [msgsC]
   have l4 : (msgC x).length = 9 := rfl
   rw [e]
   refine ⟨?_, ?_, ?_, ?_, ?_, ?_, ?_, ?_, ?_⟩
   all_goals rw [List.getElem?_append_right (by omega), l4]
   ·
    rw [show (i + 1) * 9 - 9 = i * 9 by omega]; simpa using this.1
   ·
    rw [show (i + 1) * 9 + 1 - 9 = i * 9 + 1 by omega]; simpa using this.2.1
   ·
    rw [show (i + 1) * 9 + 2 - 9 = i * 9 + 2 by omega]; simpa using this.2.2.1
   ·
    rw [show (i + 1) * 9 + 3 - 9 = i * 9 + 3 by omega]; simpa using this.2.2.2.1
   ·
    rw [show (i + 1) * 9 + 4 - 9 = i * 9 + 4 by omega]; simpa using this.2.2.2.2.1
   ·
    rw [show (i + 1) * 9 + 5 - 9 = i * 9 + 5 by omega]; simpa using this.2.2.2.2.2.1
   ·
    rw [show (i + 1) * 9 + 6 - 9 = i * 9 + 6 by omega]; simpa using this.2.2.2.2.2.2.1
   ·
    rw [show (i + 1) * 9 + 7 - 9 = i * 9 + 7 by omega]; simpa using this.2.2.2.2.2.2.2.1
   ·
    rw [show (i + 1) * 9 + 8 - 9 = i * 9 + 8 by omega]; simpa using this.2.2.2.2.2.2.2.2
theorem MsgsV_of_owns {w : World} {base e : Nat} {v : Value} {xs : List Msg} (h : w.ownsRow base e 9 v xs.length (msgsC xs)) : MsgsV w v xs := by
 rcases h.2 with ⟨rfl, hn⟩ | ⟨g, cap, cur, rfl, hb, hg, hnc, hcm, hcs, htake⟩
 ·
  exact ⟨none, 0, by rw [hn], by omega, by unfold maxLen; omega, fun i hi => by omega⟩
 ·
  refine ⟨some ⟨g, 0, none⟩, cap, rfl, hnc, hcm, fun i hi => ⟨g, 0, rfl, ?_⟩⟩
  obtain ⟨h0, h1, h2, h3, h4, h5, h6, h7, h8⟩ := get_msgsC xs i hi
  simp only [Nat.zero_add, msgCells]
  exact ⟨(h.cellAt _ (by omega)).trans h0, (h.cellAt _ (by omega)).trans h1, (h.cellAt _ (by omega)).trans h2, (h.cellAt _ (by omega)).trans h3, (h.cellAt _ (by omega)).trans h4, (h.cellAt _ (by omega)).trans h5, (h.cellAt _ (by omega)).trans h6, (h.cellAt _ (by omega)).trans h7, (h.cellAt _ (by omega)).trans h8⟩
def msgUpto (k : Nat) (cs : List Value) (xs : List Msg) : Prop := ∀ j, j < k * 9 → cs[j]? = (msgsC xs)[j]?
theorem msgUpto_full {n : Nat} {cs : List Value} {xs : List Msg} (h : msgUpto n cs xs) (hl : cs.length = n * 9) (hn : xs.length = n) : cs = msgsC xs := by
 apply List.ext_getElem?
 intro j
 by_cases hj : j < n * 9
 ·
  exact h j hj
 ·
  rw [List.getElem?_eq_none (by omega), List.getElem?_eq_none (by rw [length_msgsC]; omega)]
theorem msgUpto_set {k : Nat} {cs : List Value} {xs : List Msg} {x : Msg} (h : msgUpto k cs xs) (hk : k < xs.length) (hl : cs.length = xs.length * 9) (he : x = xs.getD k default) :
  msgUpto (k + 1) (((((((((cs.set (k * 9) (.int .i64 x.kind)).set (k * 9 + 1) (.int .i64 x.to)).set (k * 9 + 2) (.int .i64 x.frm)).set (k * 9 + 3) (.int .i64 x.con)).set (k * 9 + 4) (.int .i64 x.sh)).set (k * 9 + 5) (.int .i64 x.bal)).set (k * 9 + 6) (.int .i64 x.val)).set (k * 9 + 7) (.int .i64 x.ob)).set (k * 9 + 8) (.int .i64 x.ov)) xs := by
 intro j hj
 obtain ⟨h0, h1, h2, h3, h4, h5, h6, h7, h8⟩ := get_msgsC xs k hk
 subst he
 simp only [List.getElem?_set, List.length_set]
 by_cases e8 : k * 9 + 8 = j
 ·
  subst e8; simp [h8]; omega
 by_cases e7 : k * 9 + 7 = j
 ·
  subst e7; simp [h7]; omega
 by_cases e6 : k * 9 + 6 = j
 ·
  subst e6; simp [h6]; omega
 by_cases e5 : k * 9 + 5 = j
 ·
  subst e5; simp [h5]; omega
 by_cases e4 : k * 9 + 4 = j
 ·
  subst e4; simp [h4]; omega
 by_cases e3 : k * 9 + 3 = j
 ·
  subst e3; simp [h3]; omega
 by_cases e2 : k * 9 + 2 = j
 ·
  subst e2; simp [h2]; omega
 by_cases e1 : k * 9 + 1 = j
 ·
  subst e1; simp [h1]; omega
 by_cases e0 : k * 9 = j
 ·
  subst e0; simp [h0]; omega
 simp [e0, e1, e2, e3, e4, e5, e6, e7, e8]
 exact h j (by omega)
theorem toMessageS_any (x : Value) (xs : List Msg) (w : World) (hx : MsgsV w x xs) (hn : xs.length ≤ 1048576) :
  Calls Tryz.prog 20 #[x] w fun e w' => ∃ v, e = .returned v ∧ w'.ownsRow w.heap.size 89 9 v xs.length (msgsC xs) ∧ Below w.heap.size w w' := by
 obtain ⟨ax, cx, rfl, hcx, hmx, hx⟩ := hx
 unfold maxLen at hmx
 obtain ⟨i0, hi, hz0, hz1, hz2⟩ := info_parts infoMsg
 obtain ⟨w1, hmk, hown, hgr⟩ := run_make_full (P := Tryz.prog) w w.heap.size 35 89 i0 _ 9 Tryz.underlying35 hi hz0 hz1 .i64 .i64 xs.length (by rw [hz2]; omega) (by unfold maxLen; omega) (Nat.le_refl _)
 have hbl0 : Below w.heap.size w w1 := (Below.refl _ _).grown hgr (Nat.le_refl _) (fun k h => by cases h)
 generalize hn' : xs.length = n at *
 have HN : Hid (xs.length = n) := hn'
 clear hn'
 go_enter Tryz.func20, Tryz.ntmps20
 go_wp2
 go_loopw [4] (fun i w' => ∃ (k : Nat) (cs : List Value), k ≤ n ∧ i = .int .i64 k ∧ w'.ownsRow w.heap.size 89 9 (.slice (some ⟨w.heap.size, 0, none⟩) n n) n cs ∧ msgUpto k cs xs ∧ Below w.heap.size w w') (fun i _ => n - (intOf i).toNat)
 case atStart => exact ⟨0, _, Nat.zero_le _, rfl, hown, fun j h => by omega, hbl0⟩
 case round =>
  obtain ⟨k, cs, hk, rfl, ho, hup, hbl⟩ := hrel
  have HU : Hid (msgUpto k cs xs) := hup
  clear hup hown hmk hgr hbl0
  by_cases hlt : k < n
  ·
   obtain ⟨bx, ox, rfl, h1⟩ := hx k hlt
   obtain ⟨l, hl⟩ : ∃ l, l = xs.getD k default := ⟨_, rfl⟩
   rw [← hl] at h1
   have H1 : Hid (l = xs.getD k default) := hl
   clear hl hx
   obtain ⟨a0, a1, a2, a3, a4, a5, a6, a7, a8⟩ := msgCells_below hbl h1
   go_wp2_with fail
   refine (toMessage_any l _).mono ?_
   rintro e wa ⟨rfl, hba⟩
   have ho1 := owns_below ho hba
   obtain ⟨u0, g0⟩ := owns_some ho1 (k * 9) (by omega)
   obtain ⟨u1, g1⟩ := owns_some ho1 (k * 9 + 1) (by omega)
   obtain ⟨u2, g2⟩ := owns_some ho1 (k * 9 + 2) (by omega)
   obtain ⟨u3, g3⟩ := owns_some ho1 (k * 9 + 3) (by omega)
   obtain ⟨u4, g4⟩ := owns_some ho1 (k * 9 + 4) (by omega)
   obtain ⟨u5, g5⟩ := owns_some ho1 (k * 9 + 5) (by omega)
   obtain ⟨u6, g6⟩ := owns_some ho1 (k * 9 + 6) (by omega)
   obtain ⟨u7, g7⟩ := owns_some ho1 (k * 9 + 7) (by omega)
   obtain ⟨u8, g8⟩ := owns_some ho1 (k * 9 + 8) (by omega)
   have hf := fun j => ho1.frozenAt j
   simp only [msgV]
   go_wp2
   have s0 := ho1.stored (k * 9) (.int .i64 l.kind)
   have s1 := s0.1.stored (k * 9 + 1) (.int .i64 l.to)
   have s2 := s1.1.stored (k * 9 + 2) (.int .i64 l.frm)
   have s3 := s2.1.stored (k * 9 + 3) (.int .i64 l.con)
   have s4 := s3.1.stored (k * 9 + 4) (.int .i64 l.sh)
   have s5 := s4.1.stored (k * 9 + 5) (.int .i64 l.bal)
   have s6 := s5.1.stored (k * 9 + 6) (.int .i64 l.val)
   have s7 := s6.1.stored (k * 9 + 7) (.int .i64 l.ob)
   have s8 := s7.1.stored (k * 9 + 8) (.int .i64 l.ov)
   refine ⟨⟨k + 1, _, by omega, by go_num, s8.1, msgUpto_set HU.out (by have := HN.out; omega) (by have := HN.out; have := ho.1; omega) H1.out, ?_⟩, by simp [intOf]; omega⟩
   exact (((((((((bS hbl hba).setCell (Nat.le_refl _) _).setCell (Nat.le_refl _) _).setCell (Nat.le_refl _) _).setCell (Nat.le_refl _) _).setCell (Nat.le_refl _) _).setCell (Nat.le_refl _) _).setCell (Nat.le_refl _) _).setCell (Nat.le_refl _) _).setCell (Nat.le_refl _) _
  ·
   go_wp2; go_ret
   have hkn : k = n := by omega
   subst hkn
   have e := msgUpto_full HU.out ho.1 HN.out
   subst e
   exact ⟨_, rfl, ho, hbl⟩
theorem szMessageS_any (x : Value) (xs : List Msg) (left : Int) (w : World) (hx : MsgsV w x xs) (h0 : 0 ≤ left) (h1 : left ≤ 1048576) :
  Calls Tryz.prog 13 #[x, .int .i64 left] w fun e w' => e = .returned (.int .i64 (szLen left xs.length)) ∧ w' = w := by
 obtain ⟨ax, cx, rfl, hcx, hmx, hx⟩ := hx
 unfold maxLen at hmx
 generalize xs.length = n at *
 clear hx
 by_cases h : left < n
 ·
  have h' : left - (n : Int) < 0 := by omega
  go_enter Tryz.func13, Tryz.ntmps13
  go_wp2; go_ret
  exact ⟨by simp only [szLen, if_pos h]; rfl, rfl⟩
 ·
  have h' : ¬ left - (n : Int) < 0 := by omega
  go_enter Tryz.func13, Tryz.ntmps13
  go_wp2; go_ret
  exact ⟨by rw [szLen, if_neg (by omega)]; rfl, rfl⟩
variable [DecidableEq Msg] [Inhabited Msg]
def msgsR : Rep (List Msg) := fRep 89 9 msgsC MsgsV MsgsV_below MsgsV_of_owns
def wtMsgs (xs : List Msg) : Nat := xs.length
theorem msgs_form {w : World} {v : Value} {xs : List Msg} (h : msgsR.V w v xs) : ∃ a c, v = .slice a xs.length c := by
 obtain ⟨a, c, rfl, _⟩ := h
 exact ⟨_, _, rfl⟩
theorem toMessageS_u (x : Value) (d : List Msg) (w : World) (hx : msgsR.V w x d) (hn : wtMsgs d ≤ 1048576) :
  Calls Tryz.prog 20 #[x] w fun e w' => ∃ v F, e = .returned v ∧ msgsR.O w' w.heap.size F v d ∧ Below w.heap.size w w' := by
 refine (toMessageS_any x d w hx hn).mono ?_
 rintro e w' ⟨v, rfl, ho, hb⟩
 exact ⟨v, _, rfl, ⟨ho, rfl⟩, hb⟩
theorem eqMessageS_u (x y : Value) (d d' : List Msg) (w : World) (hx : msgsR.V w x d) (hy : msgsR.V w y d') :
  Calls Tryz.prog 28 #[x, y] w fun e w' => e = .returned (.bool (decide (d = d'))) ∧ Below w.heap.size w w' := eqMessageS_any x y d d' w hx hy
theorem szMessageS_u (x : Value) (d : List Msg) (left : Int) (w : World) (hx : msgsR.V w x d) (h0 : 0 ≤ left) (h1 : left ≤ 1048576) :
  Calls Tryz.prog 13 #[x, .int .i64 left] w fun e w' => e = .returned (.int .i64 (szLen left (wtMsgs d))) ∧ Below w.heap.size w w' := by
 refine (szMessageS_any x d left w hx h0 h1).mono ?_
 rintro e w' ⟨rfl, rfl⟩
 exact ⟨rfl, Below.refl _ _⟩
variable [DecidableEq Leg] [Inhabited Leg] [DecidableEq Cont] [Inhabited Cont] [DecidableEq Bal] [Inhabited Bal] [DecidableEq Mrk] [Inhabited Mrk] [DecidableEq Shd] [Inhabited Shd] [DecidableEq Slt] [Inhabited Slt] [DecidableEq Acc] [Inhabited Acc] [DecidableEq Trr] [Inhabited Trr] [DecidableEq Hrd] [Inhabited Hrd] [DecidableEq Ldr] [Inhabited Ldr]
structure Clu where
 cons : List Cont
 shards : List Shd
 accs : List Acc
 ldrs : List Ldr
 msgs : List Msg
variable [DecidableEq Clu] [Inhabited Clu]

def cluR : Rep Clu where
 V := fun w v x => ∃ u1 u2 u3 u4 u5, v = .agg #[u1, u2, u3, u4, u5] ∧ contsR.V w u1 x.cons ∧ shdsR.V w u2 x.shards ∧ accsR.V w u3 x.accs ∧ ldrsR.V w u4 x.ldrs ∧ msgsR.V w u5 x.msgs
 O := fun w base F v x => ∃ u1 u2 u3 u4 u5 F1 F2 F3 F4 F5, v = .agg #[u1, u2, u3, u4, u5] ∧ contsR.O w base F1 u1 x.cons ∧ shdsR.O w base F2 u2 x.shards ∧ accsR.O w base F3 u3 x.accs ∧ ldrsR.O w base F4 u4 x.ldrs ∧ msgsR.O w base F5 u5 x.msgs ∧ (∀ b, F1 b → ¬ F2 b) ∧ (∀ b, F1 b → ¬ F3 b) ∧ (∀ b, F1 b → ¬ F4 b) ∧ (∀ b, F1 b → ¬ F5 b) ∧ (∀ b, F2 b → ¬ F3 b) ∧ (∀ b, F2 b → ¬ F4 b) ∧ (∀ b, F2 b → ¬ F5 b) ∧ (∀ b, F3 b → ¬ F4 b) ∧ (∀ b, F3 b → ¬ F5 b) ∧ (∀ b, F4 b → ¬ F5 b) ∧ (∀ b, F b ↔ (F1 b ∨ F2 b ∨ F3 b ∨ F4 b ∨ F5 b))
 below := fun h hb => by
  obtain ⟨u1, u2, u3, u4, u5, rfl, h1, h2, h3, h4, h5⟩ := h
  exact ⟨u1, u2, u3, u4, u5, rfl, contsR.below h1 hb, shdsR.below h2 hb, accsR.below h3 hb, ldrsR.below h4 hb, msgsR.below h5 hb⟩
 ofO := fun h => by
  obtain ⟨u1, u2, u3, u4, u5, F1, F2, F3, F4, F5, rfl, h1, h2, h3, h4, h5, _⟩ := h
  exact ⟨u1, u2, u3, u4, u5, rfl, contsR.ofO h1, shdsR.ofO h2, accsR.ofO h3, ldrsR.ofO h4, msgsR.ofO h5⟩
 mod := fun h hm hd => by
  obtain ⟨u1, u2, u3, u4, u5, F1, F2, F3, F4, F5, rfl, h1, h2, h3, h4, h5, s12, s13, s14, s15, s23, s24, s25, s34, s35, s45, hF⟩ := h
  exact ⟨u1, u2, u3, u4, u5, F1, F2, F3, F4, F5, rfl, contsR.mod h1 hm (fun b hb => hd b ((hF b).2 (.inl hb))), shdsR.mod h2 hm (fun b hb => hd b ((hF b).2 (.inr (.inl hb)))), accsR.mod h3 hm (fun b hb => hd b ((hF b).2 (.inr (.inr (.inl hb))))), ldrsR.mod h4 hm (fun b hb => hd b ((hF b).2 (.inr (.inr (.inr (.inl hb)))))), msgsR.mod h5 hm (fun b hb => hd b ((hF b).2 (.inr (.inr (.inr (.inr hb)))))), s12, s13, s14, s15, s23, s24, s25, s34, s35, s45, hF⟩
 rng := fun h b hb => by
  obtain ⟨u1, u2, u3, u4, u5, F1, F2, F3, F4, F5, rfl, h1, h2, h3, h4, h5, s12, s13, s14, s15, s23, s24, s25, s34, s35, s45, hF⟩ := h
  rcases (hF b).1 hb with hb | hb | hb | hb | hb
  ·
   exact contsR.rng h1 b hb
  ·
   exact shdsR.rng h2 b hb
  ·
   exact accsR.rng h3 b hb
  ·
   exact ldrsR.rng h4 b hb
  ·
   exact msgsR.rng h5 b hb
 base := fun h hb => by
  obtain ⟨u1, u2, u3, u4, u5, F1, F2, F3, F4, F5, rfl, h1, h2, h3, h4, h5, s12, s13, s14, s15, s23, s24, s25, s34, s35, s45, hF⟩ := h
  exact ⟨u1, u2, u3, u4, u5, F1, F2, F3, F4, F5, rfl, contsR.base h1 hb, shdsR.base h2 hb, accsR.base h3 hb, ldrsR.base h4 hb, msgsR.base h5 hb, s12, s13, s14, s15, s23, s24, s25, s34, s35, s45, hF⟩
def wtClu (x : Clu) : Nat := wtConts x.cons + wtShds x.shards + wtAccs x.accs + wtLdrs x.ldrs + wtMsgs x.msgs
theorem clu_form {w : World} {v : Value} {x : Clu} (h : cluR.V w v x) : ∃ a1 a2 a3 a4 a5 c1 c2 c3 c4 c5, v = .agg #[.slice a1 x.cons.length c1, .slice a2 x.shards.length c2, .slice a3 x.accs.length c3, .slice a4 x.ldrs.length c4, .slice a5 x.msgs.length c5] := by
 obtain ⟨u1, u2, u3, u4, u5, rfl, h1, h2, h3, h4, h5⟩ := h
 obtain ⟨a1, c1, rfl⟩ := conts_form h1
 obtain ⟨a2, c2, rfl⟩ := shds_form h2
 obtain ⟨a3, c3, rfl⟩ := accs_form h3
 obtain ⟨a4, c4, rfl⟩ := ldrs_form h4
 obtain ⟨a5, c5, rfl⟩ := msgs_form h5
 exact ⟨_, _, _, _, _, _, _, _, _, _, rfl⟩
theorem toCluster_u (x : Value) (d : Clu) (w : World) (hx : cluR.V w x d) (hn : wtClu d ≤ 1048576) :
  Calls Tryz.prog 6 #[x] w fun e w' => ∃ v F, e = .returned v ∧ cluR.O w' w.heap.size F v d ∧ Below w.heap.size w w' := by
 obtain ⟨u1, u2, u3, u4, u5, rfl, h1, h2, h3, h4, h5⟩ := hx
 unfold wtClu at hn
 go_enter Tryz.func6, Tryz.ntmps6
 go_wp2_with fail
 refine (toContractS_u _ d.cons _ (contsR.below h1 (qBq)) (by omega)).mono ?_
 rintro e w1 ⟨v1, F1, rfl, o1, b1⟩
 have hB1 : Below w.heap.size w w1 := bS (qBq) b1
 obtain ⟨a1, n1, rfl⟩ := conts_form (contsR.ofO o1)
 obtain ⟨c1, f1⟩ := bcell b1
 have z1 := b1.size
 simp at z1
 have l1 := fun b hb => contsR.rng o1 b hb
 simp at l1
 replace o1 := contsR.base (base' := w.heap.size + 3) o1 (by simp; try omega)
 have y0 : w1.cell? ⟨w.heap.size, 0, none⟩ = some (u1) := cK b1 (by simp [go_sem])
 have y1 : w1.cell? ⟨w.heap.size, 1, none⟩ = some (u2) := cK b1 (by simp [go_sem])
 have y2 : w1.cell? ⟨w.heap.size, 2, none⟩ = some (u3) := cK b1 (by simp [go_sem])
 have y3 : w1.cell? ⟨w.heap.size, 3, none⟩ = some (u4) := cK b1 (by simp [go_sem])
 have y4 : w1.cell? ⟨w.heap.size, 4, none⟩ = some (u5) := cK b1 (by simp [go_sem])
 have r0 : w1.cell? ⟨w.heap.size + 1, 0, none⟩ = some (.slice none 0 0) := cK b1 (by simp [go_sem])
 have r1 : w1.cell? ⟨w.heap.size + 1, 1, none⟩ = some (.slice none 0 0) := cK b1 (by simp [go_sem])
 have r2 : w1.cell? ⟨w.heap.size + 1, 2, none⟩ = some (.slice none 0 0) := cK b1 (by simp [go_sem])
 have r3 : w1.cell? ⟨w.heap.size + 1, 3, none⟩ = some (.slice none 0 0) := cK b1 (by simp [go_sem])
 have r4 : w1.cell? ⟨w.heap.size + 1, 4, none⟩ = some (.slice none 0 0) := cK b1 (by simp [go_sem])
 have s0 : w1.cell? ⟨w.heap.size + 2, 0, none⟩ = some (.slice none 0 0) := cK b1 (by simp [go_sem])
 have s1 : w1.cell? ⟨w.heap.size + 2, 1, none⟩ = some (.slice none 0 0) := cK b1 (by simp [go_sem])
 have s2 : w1.cell? ⟨w.heap.size + 2, 2, none⟩ = some (.slice none 0 0) := cK b1 (by simp [go_sem])
 have s3 : w1.cell? ⟨w.heap.size + 2, 3, none⟩ = some (.slice none 0 0) := cK b1 (by simp [go_sem])
 have s4 : w1.cell? ⟨w.heap.size + 2, 4, none⟩ = some (.slice none 0 0) := cK b1 (by simp [go_sem])
 have t1 : ∀ o, w1.frozen? ⟨w.heap.size + 1, o, none⟩ = false := fun o => by rw [f1 _ _ (by simp; try omega)]; simp [go_sem]
 have t2 : ∀ o, w1.frozen? ⟨w.heap.size + 2, o, none⟩ = false := fun o => by rw [f1 _ _ (by simp; try omega)]; simp [go_sem]
 clear c1 f1
 have x0 := y0
 have x1 := y1
 have x2 := y2
 have x3 := y3
 have x4 := y4
 have q0 := r0
 have q1 := r1
 have q2 := r2
 have q3 := r3
 have q4 := r4
 have p0 := s0
 have p1 := s1
 have p2 := s2
 have p3 := s3
 have p4 := s4
 have qf := t1
 have pf := t2
 clear t1 t2 y0 y1 y2 y3 y4 r0 r1 r2 r3 r4 s0 s1 s2 s3 s4
 clear b1
 go_wp2_with fail
 refine (toShardS_u _ d.shards _ (shdsR.below h2 (by (repeat (first | refine bset ?_ (by simp; omega) _ | refine bset ?_ (by simp) _ | refine bA ?_ _ | assumption)))) (by omega)).mono ?_
 rintro e w2 ⟨v2, F2, rfl, o2, b2⟩
 have hB2 : Below w.heap.size w w2 := bS (by (repeat (first | refine bset ?_ (by simp; omega) _ | refine bset ?_ (by simp) _ | refine bA ?_ _ | assumption))) b2
 obtain ⟨a2, n2, rfl⟩ := shds_form (shdsR.ofO o2)
 obtain ⟨c2, f2⟩ := bcell b2
 have z2 := b2.size
 simp at z2
 have l2 := fun b hb => shdsR.rng o2 b hb
 simp at l2
 replace o2 := shdsR.base (base' := w.heap.size + 3) o2 (by simp; try omega)
 have hk1 : ∀ F v x, contsR.O w1 (w.heap.size + 3) F v x → contsR.O w2 (w.heap.size + 3) F v x := fun F v x o => contsR.keep (by (repeat (first | refine Rep.set _ ?_ _ (by simp; omega) | refine Rep.set _ ?_ _ (by simp) | refine Rep.alloc _ ?_ _ | assumption))) b2
 replace o1 := hk1 _ _ _ o1
 clear hk1
 have y0 : w2.cell? ⟨w.heap.size, 0, none⟩ = some (u1) := cK b2 (by simp [go_sem, x0, x1, x2, x3, x4, q0, q1, q2, q3, q4, p0, p1, p2, p3, p4])
 have y1 : w2.cell? ⟨w.heap.size, 1, none⟩ = some (u2) := cK b2 (by simp [go_sem, x0, x1, x2, x3, x4, q0, q1, q2, q3, q4, p0, p1, p2, p3, p4])
 have y2 : w2.cell? ⟨w.heap.size, 2, none⟩ = some (u3) := cK b2 (by simp [go_sem, x0, x1, x2, x3, x4, q0, q1, q2, q3, q4, p0, p1, p2, p3, p4])
 have y3 : w2.cell? ⟨w.heap.size, 3, none⟩ = some (u4) := cK b2 (by simp [go_sem, x0, x1, x2, x3, x4, q0, q1, q2, q3, q4, p0, p1, p2, p3, p4])
 have y4 : w2.cell? ⟨w.heap.size, 4, none⟩ = some (u5) := cK b2 (by simp [go_sem, x0, x1, x2, x3, x4, q0, q1, q2, q3, q4, p0, p1, p2, p3, p4])
 have r0 : w2.cell? ⟨w.heap.size + 1, 0, none⟩ = some (.slice none 0 0) := cK b2 (by simp [go_sem, x0, x1, x2, x3, x4, q0, q1, q2, q3, q4, p0, p1, p2, p3, p4])
 have r1 : w2.cell? ⟨w.heap.size + 1, 1, none⟩ = some (.slice none 0 0) := cK b2 (by simp [go_sem, x0, x1, x2, x3, x4, q0, q1, q2, q3, q4, p0, p1, p2, p3, p4])
 have r2 : w2.cell? ⟨w.heap.size + 1, 2, none⟩ = some (.slice none 0 0) := cK b2 (by simp [go_sem, x0, x1, x2, x3, x4, q0, q1, q2, q3, q4, p0, p1, p2, p3, p4])
 have r3 : w2.cell? ⟨w.heap.size + 1, 3, none⟩ = some (.slice none 0 0) := cK b2 (by simp [go_sem, x0, x1, x2, x3, x4, q0, q1, q2, q3, q4, p0, p1, p2, p3, p4])
 have r4 : w2.cell? ⟨w.heap.size + 1, 4, none⟩ = some (.slice none 0 0) := cK b2 (by simp [go_sem, x0, x1, x2, x3, x4, q0, q1, q2, q3, q4, p0, p1, p2, p3, p4])
 have s0 : w2.cell? ⟨w.heap.size + 2, 0, none⟩ = some (.slice a1 d.cons.length n1) := cK b2 (by simp [go_sem, x0, x1, x2, x3, x4, q0, q1, q2, q3, q4, p0, p1, p2, p3, p4])
 have s1 : w2.cell? ⟨w.heap.size + 2, 1, none⟩ = some (.slice none 0 0) := cK b2 (by simp [go_sem, x0, x1, x2, x3, x4, q0, q1, q2, q3, q4, p0, p1, p2, p3, p4])
 have s2 : w2.cell? ⟨w.heap.size + 2, 2, none⟩ = some (.slice none 0 0) := cK b2 (by simp [go_sem, x0, x1, x2, x3, x4, q0, q1, q2, q3, q4, p0, p1, p2, p3, p4])
 have s3 : w2.cell? ⟨w.heap.size + 2, 3, none⟩ = some (.slice none 0 0) := cK b2 (by simp [go_sem, x0, x1, x2, x3, x4, q0, q1, q2, q3, q4, p0, p1, p2, p3, p4])
 have s4 : w2.cell? ⟨w.heap.size + 2, 4, none⟩ = some (.slice none 0 0) := cK b2 (by simp [go_sem, x0, x1, x2, x3, x4, q0, q1, q2, q3, q4, p0, p1, p2, p3, p4])
 have t1 : ∀ o, w2.frozen? ⟨w.heap.size + 1, o, none⟩ = false := fun o => by rw [f2 _ _ (by simp; try omega)]; simp [go_sem, qf]
 have t2 : ∀ o, w2.frozen? ⟨w.heap.size + 2, o, none⟩ = false := fun o => by rw [f2 _ _ (by simp; try omega)]; simp [go_sem, pf]
 clear x0 x1 x2 x3 x4 q0 q1 q2 q3 q4 p0 p1 p2 p3 p4 qf pf
 clear c2 f2
 have x0 := y0
 have x1 := y1
 have x2 := y2
 have x3 := y3
 have x4 := y4
 have q0 := r0
 have q1 := r1
 have q2 := r2
 have q3 := r3
 have q4 := r4
 have p0 := s0
 have p1 := s1
 have p2 := s2
 have p3 := s3
 have p4 := s4
 have qf := t1
 have pf := t2
 clear t1 t2 y0 y1 y2 y3 y4 r0 r1 r2 r3 r4 s0 s1 s2 s3 s4
 clear b2 hB1
 go_wp2_with fail
 refine (toAcceptorS_u _ d.accs _ (accsR.below h3 (by (repeat (first | refine bset ?_ (by simp; omega) _ | refine bset ?_ (by simp) _ | refine bA ?_ _ | assumption)))) (by omega)).mono ?_
 rintro e w3 ⟨v3, F3, rfl, o3, b3⟩
 have hB3 : Below w.heap.size w w3 := bS (by (repeat (first | refine bset ?_ (by simp; omega) _ | refine bset ?_ (by simp) _ | refine bA ?_ _ | assumption))) b3
 obtain ⟨a3, n3, rfl⟩ := accs_form (accsR.ofO o3)
 obtain ⟨c3, f3⟩ := bcell b3
 have z3 := b3.size
 simp at z3
 have l3 := fun b hb => accsR.rng o3 b hb
 simp at l3
 replace o3 := accsR.base (base' := w.heap.size + 3) o3 (by simp; try omega)
 have hk1 : ∀ F v x, contsR.O w2 (w.heap.size + 3) F v x → contsR.O w3 (w.heap.size + 3) F v x := fun F v x o => contsR.keep (by (repeat (first | refine Rep.set _ ?_ _ (by simp; omega) | refine Rep.set _ ?_ _ (by simp) | refine Rep.alloc _ ?_ _ | assumption))) b3
 replace o1 := hk1 _ _ _ o1
 clear hk1
 have hk2 : ∀ F v x, shdsR.O w2 (w.heap.size + 3) F v x → shdsR.O w3 (w.heap.size + 3) F v x := fun F v x o => shdsR.keep (by (repeat (first | refine Rep.set _ ?_ _ (by simp; omega) | refine Rep.set _ ?_ _ (by simp) | refine Rep.alloc _ ?_ _ | assumption))) b3
 replace o2 := hk2 _ _ _ o2
 clear hk2
 have y0 : w3.cell? ⟨w.heap.size, 0, none⟩ = some (u1) := cK b3 (by simp [go_sem, x0, x1, x2, x3, x4, q0, q1, q2, q3, q4, p0, p1, p2, p3, p4])
 have y1 : w3.cell? ⟨w.heap.size, 1, none⟩ = some (u2) := cK b3 (by simp [go_sem, x0, x1, x2, x3, x4, q0, q1, q2, q3, q4, p0, p1, p2, p3, p4])
 have y2 : w3.cell? ⟨w.heap.size, 2, none⟩ = some (u3) := cK b3 (by simp [go_sem, x0, x1, x2, x3, x4, q0, q1, q2, q3, q4, p0, p1, p2, p3, p4])
 have y3 : w3.cell? ⟨w.heap.size, 3, none⟩ = some (u4) := cK b3 (by simp [go_sem, x0, x1, x2, x3, x4, q0, q1, q2, q3, q4, p0, p1, p2, p3, p4])
 have y4 : w3.cell? ⟨w.heap.size, 4, none⟩ = some (u5) := cK b3 (by simp [go_sem, x0, x1, x2, x3, x4, q0, q1, q2, q3, q4, p0, p1, p2, p3, p4])
 have r0 : w3.cell? ⟨w.heap.size + 1, 0, none⟩ = some (.slice none 0 0) := cK b3 (by simp [go_sem, x0, x1, x2, x3, x4, q0, q1, q2, q3, q4, p0, p1, p2, p3, p4])
 have r1 : w3.cell? ⟨w.heap.size + 1, 1, none⟩ = some (.slice none 0 0) := cK b3 (by simp [go_sem, x0, x1, x2, x3, x4, q0, q1, q2, q3, q4, p0, p1, p2, p3, p4])
 have r2 : w3.cell? ⟨w.heap.size + 1, 2, none⟩ = some (.slice none 0 0) := cK b3 (by simp [go_sem, x0, x1, x2, x3, x4, q0, q1, q2, q3, q4, p0, p1, p2, p3, p4])
 have r3 : w3.cell? ⟨w.heap.size + 1, 3, none⟩ = some (.slice none 0 0) := cK b3 (by simp [go_sem, x0, x1, x2, x3, x4, q0, q1, q2, q3, q4, p0, p1, p2, p3, p4])
 have r4 : w3.cell? ⟨w.heap.size + 1, 4, none⟩ = some (.slice none 0 0) := cK b3 (by simp [go_sem, x0, x1, x2, x3, x4, q0, q1, q2, q3, q4, p0, p1, p2, p3, p4])
 have s0 : w3.cell? ⟨w.heap.size + 2, 0, none⟩ = some (.slice a1 d.cons.length n1) := cK b3 (by simp [go_sem, x0, x1, x2, x3, x4, q0, q1, q2, q3, q4, p0, p1, p2, p3, p4])
 have s1 : w3.cell? ⟨w.heap.size + 2, 1, none⟩ = some (.slice a2 d.shards.length n2) := cK b3 (by simp [go_sem, x0, x1, x2, x3, x4, q0, q1, q2, q3, q4, p0, p1, p2, p3, p4])
 have s2 : w3.cell? ⟨w.heap.size + 2, 2, none⟩ = some (.slice none 0 0) := cK b3 (by simp [go_sem, x0, x1, x2, x3, x4, q0, q1, q2, q3, q4, p0, p1, p2, p3, p4])
 have s3 : w3.cell? ⟨w.heap.size + 2, 3, none⟩ = some (.slice none 0 0) := cK b3 (by simp [go_sem, x0, x1, x2, x3, x4, q0, q1, q2, q3, q4, p0, p1, p2, p3, p4])
 have s4 : w3.cell? ⟨w.heap.size + 2, 4, none⟩ = some (.slice none 0 0) := cK b3 (by simp [go_sem, x0, x1, x2, x3, x4, q0, q1, q2, q3, q4, p0, p1, p2, p3, p4])
 have t1 : ∀ o, w3.frozen? ⟨w.heap.size + 1, o, none⟩ = false := fun o => by rw [f3 _ _ (by simp; try omega)]; simp [go_sem, qf]
 have t2 : ∀ o, w3.frozen? ⟨w.heap.size + 2, o, none⟩ = false := fun o => by rw [f3 _ _ (by simp; try omega)]; simp [go_sem, pf]
 clear x0 x1 x2 x3 x4 q0 q1 q2 q3 q4 p0 p1 p2 p3 p4 qf pf
 clear c3 f3
 have x0 := y0
 have x1 := y1
 have x2 := y2
 have x3 := y3
 have x4 := y4
 have q0 := r0
 have q1 := r1
 have q2 := r2
 have q3 := r3
 have q4 := r4
 have p0 := s0
 have p1 := s1
 have p2 := s2
 have p3 := s3
 have p4 := s4
 have qf := t1
 have pf := t2
 clear t1 t2 y0 y1 y2 y3 y4 r0 r1 r2 r3 r4 s0 s1 s2 s3 s4
 clear b3 hB2
 go_wp2_with fail
 refine (toLeaderS_u _ d.ldrs _ (ldrsR.below h4 (by (repeat (first | refine bset ?_ (by simp; omega) _ | refine bset ?_ (by simp) _ | refine bA ?_ _ | assumption)))) (by omega)).mono ?_
 rintro e w4 ⟨v4, F4, rfl, o4, b4⟩
 have hB4 : Below w.heap.size w w4 := bS (by (repeat (first | refine bset ?_ (by simp; omega) _ | refine bset ?_ (by simp) _ | refine bA ?_ _ | assumption))) b4
 obtain ⟨a4, n4, rfl⟩ := ldrs_form (ldrsR.ofO o4)
 obtain ⟨c4, f4⟩ := bcell b4
 have z4 := b4.size
 simp at z4
 have l4 := fun b hb => ldrsR.rng o4 b hb
 simp at l4
 replace o4 := ldrsR.base (base' := w.heap.size + 3) o4 (by simp; try omega)
 have hk1 : ∀ F v x, contsR.O w3 (w.heap.size + 3) F v x → contsR.O w4 (w.heap.size + 3) F v x := fun F v x o => contsR.keep (by (repeat (first | refine Rep.set _ ?_ _ (by simp; omega) | refine Rep.set _ ?_ _ (by simp) | refine Rep.alloc _ ?_ _ | assumption))) b4
 replace o1 := hk1 _ _ _ o1
 clear hk1
 have hk2 : ∀ F v x, shdsR.O w3 (w.heap.size + 3) F v x → shdsR.O w4 (w.heap.size + 3) F v x := fun F v x o => shdsR.keep (by (repeat (first | refine Rep.set _ ?_ _ (by simp; omega) | refine Rep.set _ ?_ _ (by simp) | refine Rep.alloc _ ?_ _ | assumption))) b4
 replace o2 := hk2 _ _ _ o2
 clear hk2
 have hk3 : ∀ F v x, accsR.O w3 (w.heap.size + 3) F v x → accsR.O w4 (w.heap.size + 3) F v x := fun F v x o => accsR.keep (by (repeat (first | refine Rep.set _ ?_ _ (by simp; omega) | refine Rep.set _ ?_ _ (by simp) | refine Rep.alloc _ ?_ _ | assumption))) b4
 replace o3 := hk3 _ _ _ o3
 clear hk3
 have y0 : w4.cell? ⟨w.heap.size, 0, none⟩ = some (u1) := cK b4 (by simp [go_sem, x0, x1, x2, x3, x4, q0, q1, q2, q3, q4, p0, p1, p2, p3, p4])
 have y1 : w4.cell? ⟨w.heap.size, 1, none⟩ = some (u2) := cK b4 (by simp [go_sem, x0, x1, x2, x3, x4, q0, q1, q2, q3, q4, p0, p1, p2, p3, p4])
 have y2 : w4.cell? ⟨w.heap.size, 2, none⟩ = some (u3) := cK b4 (by simp [go_sem, x0, x1, x2, x3, x4, q0, q1, q2, q3, q4, p0, p1, p2, p3, p4])
 have y3 : w4.cell? ⟨w.heap.size, 3, none⟩ = some (u4) := cK b4 (by simp [go_sem, x0, x1, x2, x3, x4, q0, q1, q2, q3, q4, p0, p1, p2, p3, p4])
 have y4 : w4.cell? ⟨w.heap.size, 4, none⟩ = some (u5) := cK b4 (by simp [go_sem, x0, x1, x2, x3, x4, q0, q1, q2, q3, q4, p0, p1, p2, p3, p4])
 have r0 : w4.cell? ⟨w.heap.size + 1, 0, none⟩ = some (.slice none 0 0) := cK b4 (by simp [go_sem, x0, x1, x2, x3, x4, q0, q1, q2, q3, q4, p0, p1, p2, p3, p4])
 have r1 : w4.cell? ⟨w.heap.size + 1, 1, none⟩ = some (.slice none 0 0) := cK b4 (by simp [go_sem, x0, x1, x2, x3, x4, q0, q1, q2, q3, q4, p0, p1, p2, p3, p4])
 have r2 : w4.cell? ⟨w.heap.size + 1, 2, none⟩ = some (.slice none 0 0) := cK b4 (by simp [go_sem, x0, x1, x2, x3, x4, q0, q1, q2, q3, q4, p0, p1, p2, p3, p4])
 have r3 : w4.cell? ⟨w.heap.size + 1, 3, none⟩ = some (.slice none 0 0) := cK b4 (by simp [go_sem, x0, x1, x2, x3, x4, q0, q1, q2, q3, q4, p0, p1, p2, p3, p4])
 have r4 : w4.cell? ⟨w.heap.size + 1, 4, none⟩ = some (.slice none 0 0) := cK b4 (by simp [go_sem, x0, x1, x2, x3, x4, q0, q1, q2, q3, q4, p0, p1, p2, p3, p4])
 have s0 : w4.cell? ⟨w.heap.size + 2, 0, none⟩ = some (.slice a1 d.cons.length n1) := cK b4 (by simp [go_sem, x0, x1, x2, x3, x4, q0, q1, q2, q3, q4, p0, p1, p2, p3, p4])
 have s1 : w4.cell? ⟨w.heap.size + 2, 1, none⟩ = some (.slice a2 d.shards.length n2) := cK b4 (by simp [go_sem, x0, x1, x2, x3, x4, q0, q1, q2, q3, q4, p0, p1, p2, p3, p4])
 have s2 : w4.cell? ⟨w.heap.size + 2, 2, none⟩ = some (.slice a3 d.accs.length n3) := cK b4 (by simp [go_sem, x0, x1, x2, x3, x4, q0, q1, q2, q3, q4, p0, p1, p2, p3, p4])
 have s3 : w4.cell? ⟨w.heap.size + 2, 3, none⟩ = some (.slice none 0 0) := cK b4 (by simp [go_sem, x0, x1, x2, x3, x4, q0, q1, q2, q3, q4, p0, p1, p2, p3, p4])
 have s4 : w4.cell? ⟨w.heap.size + 2, 4, none⟩ = some (.slice none 0 0) := cK b4 (by simp [go_sem, x0, x1, x2, x3, x4, q0, q1, q2, q3, q4, p0, p1, p2, p3, p4])
 have t1 : ∀ o, w4.frozen? ⟨w.heap.size + 1, o, none⟩ = false := fun o => by rw [f4 _ _ (by simp; try omega)]; simp [go_sem, qf]
 have t2 : ∀ o, w4.frozen? ⟨w.heap.size + 2, o, none⟩ = false := fun o => by rw [f4 _ _ (by simp; try omega)]; simp [go_sem, pf]
 clear x0 x1 x2 x3 x4 q0 q1 q2 q3 q4 p0 p1 p2 p3 p4 qf pf
 clear c4 f4
 have x0 := y0
 have x1 := y1
 have x2 := y2
 have x3 := y3
 have x4 := y4
 have q0 := r0
 have q1 := r1
 have q2 := r2
 have q3 := r3
 have q4 := r4
 have p0 := s0
 have p1 := s1
 have p2 := s2
 have p3 := s3
 have p4 := s4
 have qf := t1
 have pf := t2
 clear t1 t2 y0 y1 y2 y3 y4 r0 r1 r2 r3 r4 s0 s1 s2 s3 s4
 clear b4 hB3
 go_wp2_with fail
 refine (toMessageS_u _ d.msgs _ (msgsR.below h5 (by (repeat (first | refine bset ?_ (by simp; omega) _ | refine bset ?_ (by simp) _ | refine bA ?_ _ | assumption)))) (by omega)).mono ?_
 rintro e w5 ⟨v5, F5, rfl, o5, b5⟩
 have hB5 : Below w.heap.size w w5 := bS (by (repeat (first | refine bset ?_ (by simp; omega) _ | refine bset ?_ (by simp) _ | refine bA ?_ _ | assumption))) b5
 obtain ⟨a5, n5, rfl⟩ := msgs_form (msgsR.ofO o5)
 obtain ⟨c5, f5⟩ := bcell b5
 have z5 := b5.size
 simp at z5
 have l5 := fun b hb => msgsR.rng o5 b hb
 simp at l5
 replace o5 := msgsR.base (base' := w.heap.size + 3) o5 (by simp; try omega)
 have hk1 : ∀ F v x, contsR.O w4 (w.heap.size + 3) F v x → contsR.O w5 (w.heap.size + 3) F v x := fun F v x o => contsR.keep (by (repeat (first | refine Rep.set _ ?_ _ (by simp; omega) | refine Rep.set _ ?_ _ (by simp) | refine Rep.alloc _ ?_ _ | assumption))) b5
 replace o1 := hk1 _ _ _ o1
 clear hk1
 have hk2 : ∀ F v x, shdsR.O w4 (w.heap.size + 3) F v x → shdsR.O w5 (w.heap.size + 3) F v x := fun F v x o => shdsR.keep (by (repeat (first | refine Rep.set _ ?_ _ (by simp; omega) | refine Rep.set _ ?_ _ (by simp) | refine Rep.alloc _ ?_ _ | assumption))) b5
 replace o2 := hk2 _ _ _ o2
 clear hk2
 have hk3 : ∀ F v x, accsR.O w4 (w.heap.size + 3) F v x → accsR.O w5 (w.heap.size + 3) F v x := fun F v x o => accsR.keep (by (repeat (first | refine Rep.set _ ?_ _ (by simp; omega) | refine Rep.set _ ?_ _ (by simp) | refine Rep.alloc _ ?_ _ | assumption))) b5
 replace o3 := hk3 _ _ _ o3
 clear hk3
 have hk4 : ∀ F v x, ldrsR.O w4 (w.heap.size + 3) F v x → ldrsR.O w5 (w.heap.size + 3) F v x := fun F v x o => ldrsR.keep (by (repeat (first | refine Rep.set _ ?_ _ (by simp; omega) | refine Rep.set _ ?_ _ (by simp) | refine Rep.alloc _ ?_ _ | assumption))) b5
 replace o4 := hk4 _ _ _ o4
 clear hk4
 have y0 : w5.cell? ⟨w.heap.size, 0, none⟩ = some (u1) := cK b5 (by simp [go_sem, x0, x1, x2, x3, x4, q0, q1, q2, q3, q4, p0, p1, p2, p3, p4])
 have y1 : w5.cell? ⟨w.heap.size, 1, none⟩ = some (u2) := cK b5 (by simp [go_sem, x0, x1, x2, x3, x4, q0, q1, q2, q3, q4, p0, p1, p2, p3, p4])
 have y2 : w5.cell? ⟨w.heap.size, 2, none⟩ = some (u3) := cK b5 (by simp [go_sem, x0, x1, x2, x3, x4, q0, q1, q2, q3, q4, p0, p1, p2, p3, p4])
 have y3 : w5.cell? ⟨w.heap.size, 3, none⟩ = some (u4) := cK b5 (by simp [go_sem, x0, x1, x2, x3, x4, q0, q1, q2, q3, q4, p0, p1, p2, p3, p4])
 have y4 : w5.cell? ⟨w.heap.size, 4, none⟩ = some (u5) := cK b5 (by simp [go_sem, x0, x1, x2, x3, x4, q0, q1, q2, q3, q4, p0, p1, p2, p3, p4])
 have r0 : w5.cell? ⟨w.heap.size + 1, 0, none⟩ = some (.slice none 0 0) := cK b5 (by simp [go_sem, x0, x1, x2, x3, x4, q0, q1, q2, q3, q4, p0, p1, p2, p3, p4])
 have r1 : w5.cell? ⟨w.heap.size + 1, 1, none⟩ = some (.slice none 0 0) := cK b5 (by simp [go_sem, x0, x1, x2, x3, x4, q0, q1, q2, q3, q4, p0, p1, p2, p3, p4])
 have r2 : w5.cell? ⟨w.heap.size + 1, 2, none⟩ = some (.slice none 0 0) := cK b5 (by simp [go_sem, x0, x1, x2, x3, x4, q0, q1, q2, q3, q4, p0, p1, p2, p3, p4])
 have r3 : w5.cell? ⟨w.heap.size + 1, 3, none⟩ = some (.slice none 0 0) := cK b5 (by simp [go_sem, x0, x1, x2, x3, x4, q0, q1, q2, q3, q4, p0, p1, p2, p3, p4])
 have r4 : w5.cell? ⟨w.heap.size + 1, 4, none⟩ = some (.slice none 0 0) := cK b5 (by simp [go_sem, x0, x1, x2, x3, x4, q0, q1, q2, q3, q4, p0, p1, p2, p3, p4])
 have s0 : w5.cell? ⟨w.heap.size + 2, 0, none⟩ = some (.slice a1 d.cons.length n1) := cK b5 (by simp [go_sem, x0, x1, x2, x3, x4, q0, q1, q2, q3, q4, p0, p1, p2, p3, p4])
 have s1 : w5.cell? ⟨w.heap.size + 2, 1, none⟩ = some (.slice a2 d.shards.length n2) := cK b5 (by simp [go_sem, x0, x1, x2, x3, x4, q0, q1, q2, q3, q4, p0, p1, p2, p3, p4])
 have s2 : w5.cell? ⟨w.heap.size + 2, 2, none⟩ = some (.slice a3 d.accs.length n3) := cK b5 (by simp [go_sem, x0, x1, x2, x3, x4, q0, q1, q2, q3, q4, p0, p1, p2, p3, p4])
 have s3 : w5.cell? ⟨w.heap.size + 2, 3, none⟩ = some (.slice a4 d.ldrs.length n4) := cK b5 (by simp [go_sem, x0, x1, x2, x3, x4, q0, q1, q2, q3, q4, p0, p1, p2, p3, p4])
 have s4 : w5.cell? ⟨w.heap.size + 2, 4, none⟩ = some (.slice none 0 0) := cK b5 (by simp [go_sem, x0, x1, x2, x3, x4, q0, q1, q2, q3, q4, p0, p1, p2, p3, p4])
 have t1 : ∀ o, w5.frozen? ⟨w.heap.size + 1, o, none⟩ = false := fun o => by rw [f5 _ _ (by simp; try omega)]; simp [go_sem, qf]
 have t2 : ∀ o, w5.frozen? ⟨w.heap.size + 2, o, none⟩ = false := fun o => by rw [f5 _ _ (by simp; try omega)]; simp [go_sem, pf]
 clear x0 x1 x2 x3 x4 q0 q1 q2 q3 q4 p0 p1 p2 p3 p4 qf pf
 clear c5 f5
 have x0 := y0
 have x1 := y1
 have x2 := y2
 have x3 := y3
 have x4 := y4
 have q0 := r0
 have q1 := r1
 have q2 := r2
 have q3 := r3
 have q4 := r4
 have p0 := s0
 have p1 := s1
 have p2 := s2
 have p3 := s3
 have p4 := s4
 have qf := t1
 have pf := t2
 clear t1 t2 y0 y1 y2 y3 y4 r0 r1 r2 r3 r4 s0 s1 s2 s3 s4
 clear b5 hB4
 go_wp2
 refine bodyPost_ret (v := .agg #[.slice a1 d.cons.length n1, .slice a2 d.shards.length n2, .slice a3 d.accs.length n3, .slice a4 d.ldrs.length n4, .slice a5 d.msgs.length n5]) ?_ rfl ⟨_, fun b => F1 b ∨ F2 b ∨ F3 b ∨ F4 b ∨ F5 b, rfl, ⟨_, _, _, _, _, F1, F2, F3, F4, F5, rfl, contsR.base (base := w.heap.size + 3) (by (repeat (first | refine Rep.set _ ?_ _ (by simp; omega) | refine Rep.set _ ?_ _ (by simp) | refine Rep.alloc _ ?_ _ | assumption))) (by omega), shdsR.base (base := w.heap.size + 3) (by (repeat (first | refine Rep.set _ ?_ _ (by simp; omega) | refine Rep.set _ ?_ _ (by simp) | refine Rep.alloc _ ?_ _ | assumption))) (by omega), accsR.base (base := w.heap.size + 3) (by (repeat (first | refine Rep.set _ ?_ _ (by simp; omega) | refine Rep.set _ ?_ _ (by simp) | refine Rep.alloc _ ?_ _ | assumption))) (by omega), ldrsR.base (base := w.heap.size + 3) (by (repeat (first | refine Rep.set _ ?_ _ (by simp; omega) | refine Rep.set _ ?_ _ (by simp) | refine Rep.alloc _ ?_ _ | assumption))) (by omega), msgsR.base (base := w.heap.size + 3) (by (repeat (first | refine Rep.set _ ?_ _ (by simp; omega) | refine Rep.set _ ?_ _ (by simp) | refine Rep.alloc _ ?_ _ | assumption))) (by omega), fun b p q => by have := (l1 b p).2; have := (l2 b q).1; omega, fun b p q => by have := (l1 b p).2; have := (l3 b q).1; omega, fun b p q => by have := (l1 b p).2; have := (l4 b q).1; omega, fun b p q => by have := (l1 b p).2; have := (l5 b q).1; omega, fun b p q => by have := (l2 b p).2; have := (l3 b q).1; omega, fun b p q => by have := (l2 b p).2; have := (l4 b q).1; omega, fun b p q => by have := (l2 b p).2; have := (l5 b q).1; omega, fun b p q => by have := (l3 b p).2; have := (l4 b q).1; omega, fun b p q => by have := (l3 b p).2; have := (l5 b q).1; omega, fun b p q => by have := (l4 b p).2; have := (l5 b q).1; omega, fun b => Iff.rfl⟩, by (repeat (first | refine bset ?_ (by simp; omega) _ | refine bset ?_ (by simp) _ | refine bA ?_ _ | assumption))⟩
 simp [results, Tryz.results6, go_sem, q0, q1, q2, q3, q4, p0, p1, p2, p3, p4, qf, pf]
theorem szCluster_u (x : Value) (d : Clu) (left : Int) (w : World) (hx : cluR.V w x d) (h0 : 0 ≤ left) (h1 : left ≤ 1048576) :
  Calls Tryz.prog 4 #[x, .int .i64 left] w fun e w' => e = .returned (.int .i64 (szLen left (wtClu d))) ∧ Below w.heap.size w w' := by
 obtain ⟨u1, u2, u3, u4, u5, rfl, k1, k2, k3, k4, k5⟩ := hx
 go_enter Tryz.func4, Tryz.ntmps4
 go_wp2_with fail
 refine (szContractS_u _ d.cons left _ (contsR.below k1 (qBq)) h0 h1).mono ?_
 rintro e w1 ⟨rfl, b1⟩
 have x0 : w1.cell? ⟨w.heap.size, 0, none⟩ = some (u1) := cK b1 (by simp [go_sem])
 have x1 : w1.cell? ⟨w.heap.size, 1, none⟩ = some (u2) := cK b1 (by simp [go_sem])
 have x2 : w1.cell? ⟨w.heap.size, 2, none⟩ = some (u3) := cK b1 (by simp [go_sem])
 have x3 : w1.cell? ⟨w.heap.size, 3, none⟩ = some (u4) := cK b1 (by simp [go_sem])
 have x4 : w1.cell? ⟨w.heap.size, 4, none⟩ = some (u5) := cK b1 (by simp [go_sem])
 go_wp2_with fail
 ·
  rename_i h
  go_ret
  refine ⟨?_, qBq⟩
  rw [szLen_neg (n := wtConts d.cons) (by omega) (wtClu d) (by unfold wtClu; omega)]
  rfl
 rename_i h
 refine (szShardS_u _ d.shards (szLen left (wtConts d.cons : Nat)) _ (shdsR.below k2 (qBq)) (by omega) (by have := szLen_le (n := wtConts d.cons) h0; omega)).mono ?_
 rintro e w2 ⟨rfl, b2⟩
 replace x0 : w2.cell? ⟨w.heap.size, 0, none⟩ = some (u1) := cK b2 x0
 replace x1 : w2.cell? ⟨w.heap.size, 1, none⟩ = some (u2) := cK b2 x1
 replace x2 : w2.cell? ⟨w.heap.size, 2, none⟩ = some (u3) := cK b2 x2
 replace x3 : w2.cell? ⟨w.heap.size, 3, none⟩ = some (u4) := cK b2 x3
 replace x4 : w2.cell? ⟨w.heap.size, 4, none⟩ = some (u5) := cK b2 x4
 rw [szLen_add (n := wtConts d.cons) (by omega)]
 go_wp2_with fail
 ·
  rename_i h
  go_ret
  refine ⟨?_, qBq⟩
  rw [szLen_neg (n := wtConts d.cons + wtShds d.shards) (by first | omega | (rw [Int.natCast_add]; omega)) (wtClu d) (by unfold wtClu; omega)]
  rfl
 rename_i h
 refine (szAcceptorS_u _ d.accs (szLen left (wtConts d.cons + wtShds d.shards : Nat)) _ (accsR.below k3 (qBq)) (by first | omega | (simp only [Int.natCast_add] at *; omega)) (by have := szLen_le (n := wtConts d.cons + wtShds d.shards) h0; omega)).mono ?_
 rintro e w3 ⟨rfl, b3⟩
 replace x0 : w3.cell? ⟨w.heap.size, 0, none⟩ = some (u1) := cK b3 x0
 replace x1 : w3.cell? ⟨w.heap.size, 1, none⟩ = some (u2) := cK b3 x1
 replace x2 : w3.cell? ⟨w.heap.size, 2, none⟩ = some (u3) := cK b3 x2
 replace x3 : w3.cell? ⟨w.heap.size, 3, none⟩ = some (u4) := cK b3 x3
 replace x4 : w3.cell? ⟨w.heap.size, 4, none⟩ = some (u5) := cK b3 x4
 rw [szLen_add (n := wtConts d.cons + wtShds d.shards) (by first | omega | (simp only [Int.natCast_add] at *; omega))]
 go_wp2_with fail
 ·
  rename_i h
  go_ret
  refine ⟨?_, qBq⟩
  rw [szLen_neg (n := wtConts d.cons + wtShds d.shards + wtAccs d.accs) (by first | omega | (simp only [Int.natCast_add] at *; omega)) (wtClu d) (by unfold wtClu; omega)]
  rfl
 rename_i h
 refine (szLeaderS_u _ d.ldrs (szLen left (wtConts d.cons + wtShds d.shards + wtAccs d.accs : Nat)) _ (ldrsR.below k4 (qBq)) (by first | omega | (simp only [Int.natCast_add] at *; omega)) (by have := szLen_le (n := wtConts d.cons + wtShds d.shards + wtAccs d.accs) h0; omega)).mono ?_
 rintro e w4 ⟨rfl, b4⟩
 replace x0 : w4.cell? ⟨w.heap.size, 0, none⟩ = some (u1) := cK b4 x0
 replace x1 : w4.cell? ⟨w.heap.size, 1, none⟩ = some (u2) := cK b4 x1
 replace x2 : w4.cell? ⟨w.heap.size, 2, none⟩ = some (u3) := cK b4 x2
 replace x3 : w4.cell? ⟨w.heap.size, 3, none⟩ = some (u4) := cK b4 x3
 replace x4 : w4.cell? ⟨w.heap.size, 4, none⟩ = some (u5) := cK b4 x4
 rw [szLen_add (n := wtConts d.cons + wtShds d.shards + wtAccs d.accs) (by first | omega | (simp only [Int.natCast_add] at *; omega))]
 go_wp2_with fail
 ·
  rename_i h
  go_ret
  refine ⟨?_, qBq⟩
  rw [szLen_neg (n := wtConts d.cons + wtShds d.shards + wtAccs d.accs + wtLdrs d.ldrs) (by first | omega | (simp only [Int.natCast_add] at *; omega)) (wtClu d) (by unfold wtClu; omega)]
  rfl
 rename_i h
 refine (szMessageS_u _ d.msgs (szLen left (wtConts d.cons + wtShds d.shards + wtAccs d.accs + wtLdrs d.ldrs : Nat)) _ (msgsR.below k5 (qBq)) (by first | omega | (simp only [Int.natCast_add] at *; omega)) (by have := szLen_le (n := wtConts d.cons + wtShds d.shards + wtAccs d.accs + wtLdrs d.ldrs) h0; omega)).mono ?_
 rintro e w5 ⟨rfl, b5⟩
 rw [szLen_add (n := wtConts d.cons + wtShds d.shards + wtAccs d.accs + wtLdrs d.ldrs) (by first | omega | (simp only [Int.natCast_add] at *; omega))]
 go_wp2
 ·
  rename_i h
  go_ret
  refine ⟨?_, qBq⟩
  rw [szLen_neg (n := wtConts d.cons + wtShds d.shards + wtAccs d.accs + wtLdrs d.ldrs + wtMsgs d.msgs) (by first | omega | (simp only [Int.natCast_add] at *; omega)) (wtClu d) (by unfold wtClu; omega)]
  rfl
 rename_i h
 go_ret
 exact ⟨rfl, qBq⟩
theorem eqCluster_u (x y : Value) (d d' : Clu) (w : World) (hx : cluR.V w x d) (hy : cluR.V w y d') :
  Calls Tryz.prog 8 #[x, y] w fun e w' => e = .returned (.bool (decide (d = d'))) ∧ Below w.heap.size w w' := by
 obtain ⟨u1, u2, u3, u4, u5, rfl, h1, h2, h3, h4, h5⟩ := hx
 obtain ⟨v1, v2, v3, v4, v5, rfl, k1, k2, k3, k4, k5⟩ := hy
 obtain ⟨cons, shards, accs, ldrs, msgs⟩ := d
 obtain ⟨cons', shards', accs', ldrs', msgs'⟩ := d'
 dsimp only at h1 k1 h2 k2 h3 k3 h4 k4 h5 k5
 go_enter Tryz.func8, Tryz.ntmps8
 go_wp2_with fail
 all_goals try (go_ret; exact ⟨by simp_all, qBq⟩)
 refine (eqContractS_u _ _ cons cons' _ (contsR.below h1 (qBq)) (contsR.below k1 (qBq))).mono ?_
 rintro e w1 ⟨rfl, b1⟩
 have x0 : w1.cell? ⟨w.heap.size, 0, none⟩ = some (u1) := cK b1 (by simp [go_sem])
 have x1 : w1.cell? ⟨w.heap.size, 1, none⟩ = some (u2) := cK b1 (by simp [go_sem])
 have x2 : w1.cell? ⟨w.heap.size, 2, none⟩ = some (u3) := cK b1 (by simp [go_sem])
 have x3 : w1.cell? ⟨w.heap.size, 3, none⟩ = some (u4) := cK b1 (by simp [go_sem])
 have x4 : w1.cell? ⟨w.heap.size, 4, none⟩ = some (u5) := cK b1 (by simp [go_sem])
 have y0 : w1.cell? ⟨w.heap.size + 1, 0, none⟩ = some (v1) := cK b1 (by simp [go_sem])
 have y1 : w1.cell? ⟨w.heap.size + 1, 1, none⟩ = some (v2) := cK b1 (by simp [go_sem])
 have y2 : w1.cell? ⟨w.heap.size + 1, 2, none⟩ = some (v3) := cK b1 (by simp [go_sem])
 have y3 : w1.cell? ⟨w.heap.size + 1, 3, none⟩ = some (v4) := cK b1 (by simp [go_sem])
 have y4 : w1.cell? ⟨w.heap.size + 1, 4, none⟩ = some (v5) := cK b1 (by simp [go_sem])
 go_wp2_with fail
 all_goals try (go_ret; exact ⟨by simp_all, qBq⟩)
 refine (eqShardS_u _ _ shards shards' _ (shdsR.below h2 (qBq)) (shdsR.below k2 (qBq))).mono ?_
 rintro e w2 ⟨rfl, b2⟩
 replace x0 : w2.cell? ⟨w.heap.size, 0, none⟩ = some (u1) := cK b2 x0
 replace x1 : w2.cell? ⟨w.heap.size, 1, none⟩ = some (u2) := cK b2 x1
 replace x2 : w2.cell? ⟨w.heap.size, 2, none⟩ = some (u3) := cK b2 x2
 replace x3 : w2.cell? ⟨w.heap.size, 3, none⟩ = some (u4) := cK b2 x3
 replace x4 : w2.cell? ⟨w.heap.size, 4, none⟩ = some (u5) := cK b2 x4
 replace y0 : w2.cell? ⟨w.heap.size + 1, 0, none⟩ = some (v1) := cK b2 y0
 replace y1 : w2.cell? ⟨w.heap.size + 1, 1, none⟩ = some (v2) := cK b2 y1
 replace y2 : w2.cell? ⟨w.heap.size + 1, 2, none⟩ = some (v3) := cK b2 y2
 replace y3 : w2.cell? ⟨w.heap.size + 1, 3, none⟩ = some (v4) := cK b2 y3
 replace y4 : w2.cell? ⟨w.heap.size + 1, 4, none⟩ = some (v5) := cK b2 y4
 go_wp2_with fail
 all_goals try (go_ret; exact ⟨by simp_all, qBq⟩)
 refine (eqAcceptorS_u _ _ accs accs' _ (accsR.below h3 (qBq)) (accsR.below k3 (qBq))).mono ?_
 rintro e w3 ⟨rfl, b3⟩
 replace x0 : w3.cell? ⟨w.heap.size, 0, none⟩ = some (u1) := cK b3 x0
 replace x1 : w3.cell? ⟨w.heap.size, 1, none⟩ = some (u2) := cK b3 x1
 replace x2 : w3.cell? ⟨w.heap.size, 2, none⟩ = some (u3) := cK b3 x2
 replace x3 : w3.cell? ⟨w.heap.size, 3, none⟩ = some (u4) := cK b3 x3
 replace x4 : w3.cell? ⟨w.heap.size, 4, none⟩ = some (u5) := cK b3 x4
 replace y0 : w3.cell? ⟨w.heap.size + 1, 0, none⟩ = some (v1) := cK b3 y0
 replace y1 : w3.cell? ⟨w.heap.size + 1, 1, none⟩ = some (v2) := cK b3 y1
 replace y2 : w3.cell? ⟨w.heap.size + 1, 2, none⟩ = some (v3) := cK b3 y2
 replace y3 : w3.cell? ⟨w.heap.size + 1, 3, none⟩ = some (v4) := cK b3 y3
 replace y4 : w3.cell? ⟨w.heap.size + 1, 4, none⟩ = some (v5) := cK b3 y4
 go_wp2_with fail
 all_goals try (go_ret; exact ⟨by simp_all, qBq⟩)
 refine (eqLeaderS_u _ _ ldrs ldrs' _ (ldrsR.below h4 (qBq)) (ldrsR.below k4 (qBq))).mono ?_
 rintro e w4 ⟨rfl, b4⟩
 replace x0 : w4.cell? ⟨w.heap.size, 0, none⟩ = some (u1) := cK b4 x0
 replace x1 : w4.cell? ⟨w.heap.size, 1, none⟩ = some (u2) := cK b4 x1
 replace x2 : w4.cell? ⟨w.heap.size, 2, none⟩ = some (u3) := cK b4 x2
 replace x3 : w4.cell? ⟨w.heap.size, 3, none⟩ = some (u4) := cK b4 x3
 replace x4 : w4.cell? ⟨w.heap.size, 4, none⟩ = some (u5) := cK b4 x4
 replace y0 : w4.cell? ⟨w.heap.size + 1, 0, none⟩ = some (v1) := cK b4 y0
 replace y1 : w4.cell? ⟨w.heap.size + 1, 1, none⟩ = some (v2) := cK b4 y1
 replace y2 : w4.cell? ⟨w.heap.size + 1, 2, none⟩ = some (v3) := cK b4 y2
 replace y3 : w4.cell? ⟨w.heap.size + 1, 3, none⟩ = some (v4) := cK b4 y3
 replace y4 : w4.cell? ⟨w.heap.size + 1, 4, none⟩ = some (v5) := cK b4 y4
 go_wp2_with fail
 all_goals try (go_ret; exact ⟨by simp_all, qBq⟩)
 refine (eqMessageS_u _ _ msgs msgs' _ (msgsR.below h5 (qBq)) (msgsR.below k5 (qBq))).mono ?_
 rintro e w5 ⟨rfl, b5⟩
 go_wp2
 all_goals
  go_ret
  exact ⟨by simp_all, qBq⟩
end Go.Proofs.YtackhljepbhpgaaGreat


import Derived.Test.YtackhljepbhpgaaGreatPrnSettledAtLaw2
import Derived.Deep.RegionHeld3
import Derived.Deep.DrawnRows
set_option maxHeartbeats 2000000
set_option linter.unusedSectionVars false
set_option linter.unusedSimpArgs false

namespace Go.Proofs.YtackhljepbhpgaaGreat
open Go.RowKit
variable [DecidableEq Bal] [Inhabited Bal] [DecidableEq Mrk] [Inhabited Mrk] [DecidableEq Leg] [Inhabited Leg] [DecidableEq Cont] [Inhabited Cont] [DecidableEq Shd] [Inhabited Shd]
attribute [local go_sem ↓] Go.wp_at_zero Go.wp_at_succ

def shdsR : Rep (List Shd) := nRep shdR 96 6 lvShd
def wtShds (xs : List Shd) : Nat := wtL wtShd xs
theorem shds_form {w : World} {v : Value} {xs : List Shd} (h : shdsR.V w v xs) : ∃ a c, v = .slice a xs.length c := by
 obtain ⟨a, c, rfl, _⟩ := h
 exact ⟨_, _, rfl⟩
theorem infoShds : (Tryz.prog.info? 96).map (fun i => (i.zero, i.size, i.bytes)) = some (some (.agg #[.int .i64 0, .slice none 0 0, .slice none 0 0, .slice none 0 0, .slice none 0 0, .slice none 0 0]), 6, 128) := by kernel_rfl
theorem keepShds {w w' : World} {a0 a1 a2 a3 a4 a5 a6 a7 a8 a9 a10 a11 : Addr} {x0 x1 x2 x3 x4 x5 x6 x7 x8 x9 x10 x11 : Value} (hb : Below w.heap.size w w') (g0 : w.cell? a0 = some x0) (g1 : w.cell? a1 = some x1) (g2 : w.cell? a2 = some x2) (g3 : w.cell? a3 = some x3) (g4 : w.cell? a4 = some x4) (g5 : w.cell? a5 = some x5) (g6 : w.cell? a6 = some x6) (g7 : w.cell? a7 = some x7) (g8 : w.cell? a8 = some x8) (g9 : w.cell? a9 = some x9) (g10 : w.cell? a10 = some x10) (g11 : w.cell? a11 = some x11) : Below w.heap.size w w' ∧ w'.cell? a0 = some x0 ∧ w'.cell? a1 = some x1 ∧ w'.cell? a2 = some x2 ∧ w'.cell? a3 = some x3 ∧ w'.cell? a4 = some x4 ∧ w'.cell? a5 = some x5 ∧ w'.cell? a6 = some x6 ∧ w'.cell? a7 = some x7 ∧ w'.cell? a8 = some x8 ∧ w'.cell? a9 = some x9 ∧ w'.cell? a10 = some x10 ∧ w'.cell? a11 = some x11 :=
 ⟨hb, cK hb g0, cK hb g1, cK hb g2, cK hb g3, cK hb g4, cK hb g5, cK hb g6, cK hb g7, cK hb g8, cK hb g9, cK hb g10, cK hb g11⟩
theorem eqShardS_u (x y : Value) (xs ys : List Shd) (w : World) (hx : shdsR.V w x xs) (hy : shdsR.V w y ys) :
  Calls Tryz.prog 25 #[x, y] w fun e w' => e = .returned (.bool (decide (xs = ys))) ∧ Below w.heap.size w w' := by
 obtain ⟨ax, cx, rfl, hcx, hmx, hx⟩ := hx
 obtain ⟨ay, cy, rfl, hcy, hmy, hy⟩ := hy
 unfold maxLen at hmx hmy
 by_cases hl : ys.length = xs.length
 ·
  rw [hl] at hcy hy ⊢
  have HL : Hid (ys.length = xs.length) := hl
  clear hl
  generalize hn : xs.length = n at *
  have HN : Hid (xs.length = n) := hn
  clear hn
  go_enter Tryz.func25, Tryz.ntmps25
  go_wp2
  go_loopw [5] (fun i w' => ∃ k : Nat, k ≤ n ∧ i = .int .i64 k ∧ (∀ j, j < k → xs.getD j default = ys.getD j default) ∧ Below w.heap.size w w') (fun i _ => n - (intOf i).toNat)
  case atStart => exact ⟨0, Nat.zero_le _, rfl, fun j h => absurd h (Nat.not_lt_zero _), Below.refl _ _⟩
  case round =>
   obtain ⟨k, hk, rfl, hpre, hbl⟩ := hrel
   have HP : Hid (∀ j, j < k → xs.getD j default = ys.getD j default) := hpre
   clear hpre
   by_cases hlt : k < n
   ·
    obtain ⟨bx, ox, ux, rfl, _, p1, hvx⟩ := hx k hlt
    obtain ⟨b2, oy, uy, rfl, _, p2, hvy⟩ := hy k hlt
    obtain ⟨l1, hl1⟩ : ∃ l, l = xs.getD k default := ⟨_, rfl⟩
    obtain ⟨l2, hl2⟩ : ∃ l, l = ys.getD k default := ⟨_, rfl⟩
    rw [← hl1] at hvx
    rw [← hl2] at hvy
    have H1 : Hid (l1 = xs.getD k default) := hl1
    have H2 : Hid (l2 = ys.getD k default) := hl2
    have hvx' := hvx
    obtain ⟨ux1, ux2, ux3, ux4, ux5, rfl, _, _, _, _, _⟩ := hvx'
    have hvy' := hvy
    obtain ⟨uy1, uy2, uy3, uy4, uy5, rfl, _, _, _, _, _⟩ := hvy'
    have g0 : w.cell? ⟨bx, ox + k * 6, none⟩ = some (.int .i64 l1.idx) := p1 0 (by omega)
    have g1 : w.cell? ⟨bx, ox + k * 6 + 1, none⟩ = some (ux1) := p1 1 (by omega)
    have g2 : w.cell? ⟨bx, ox + k * 6 + 2, none⟩ = some (ux2) := p1 2 (by omega)
    have g3 : w.cell? ⟨bx, ox + k * 6 + 3, none⟩ = some (ux3) := p1 3 (by omega)
    have g4 : w.cell? ⟨bx, ox + k * 6 + 4, none⟩ = some (ux4) := p1 4 (by omega)
    have g5 : w.cell? ⟨bx, ox + k * 6 + 5, none⟩ = some (ux5) := p1 5 (by omega)
    have g6 : w.cell? ⟨b2, oy + k * 6, none⟩ = some (.int .i64 l2.idx) := p2 0 (by omega)
    have g7 : w.cell? ⟨b2, oy + k * 6 + 1, none⟩ = some (uy1) := p2 1 (by omega)
    have g8 : w.cell? ⟨b2, oy + k * 6 + 2, none⟩ = some (uy2) := p2 2 (by omega)
    have g9 : w.cell? ⟨b2, oy + k * 6 + 3, none⟩ = some (uy3) := p2 3 (by omega)
    have g10 : w.cell? ⟨b2, oy + k * 6 + 4, none⟩ = some (uy4) := p2 4 (by omega)
    have g11 : w.cell? ⟨b2, oy + k * 6 + 5, none⟩ = some (uy5) := p2 5 (by omega)
    clear hl1 hl2 hx hy p1 p2
    go_wp2
    go_region_held3 (fun w' => Below w.heap.size w w' ∧ w'.cell? ⟨bx, ox + k * 6, none⟩ = some (.int .i64 l1.idx) ∧ w'.cell? ⟨bx, ox + k * 6 + 1, none⟩ = some (ux1) ∧ w'.cell? ⟨bx, ox + k * 6 + 2, none⟩ = some (ux2) ∧ w'.cell? ⟨bx, ox + k * 6 + 3, none⟩ = some (ux3) ∧ w'.cell? ⟨bx, ox + k * 6 + 4, none⟩ = some (ux4) ∧ w'.cell? ⟨bx, ox + k * 6 + 5, none⟩ = some (ux5) ∧ w'.cell? ⟨b2, oy + k * 6, none⟩ = some (.int .i64 l2.idx) ∧ w'.cell? ⟨b2, oy + k * 6 + 1, none⟩ = some (uy1) ∧ w'.cell? ⟨b2, oy + k * 6 + 2, none⟩ = some (uy2) ∧ w'.cell? ⟨b2, oy + k * 6 + 3, none⟩ = some (uy3) ∧ w'.cell? ⟨b2, oy + k * 6 + 4, none⟩ = some (uy4) ∧ w'.cell? ⟨b2, oy + k * 6 + 5, none⟩ = some (uy5)) ((refine keepShds ?_ g0 g1 g2 g3 g4 g5 g6 g7 g8 g9 g10 g11; (repeat (first | exact bR _ _ | assumption | refine bD ?_ | refine bA ?_ _ | refine bS ?_ (by assumption))))) (first | (go_at_call 59; refine (eqShard_u (.agg #[.int .i64 l1.idx, ux1, ux2, ux3, ux4, ux5]) (.agg #[.int .i64 l2.idx, uy1, uy2, uy3, uy4, uy5]) l1 l2 _ (shdR.below hvx (by (repeat (first | exact bR _ _ | assumption | refine bD ?_ | refine bA ?_ _ | refine bS ?_ (by assumption))))) (shdR.below hvy (by (repeat (first | exact bR _ _ | assumption | refine bD ?_ | refine bA ?_ _ | refine bS ?_ (by assumption)))))).mono ?_; rintro e w' ⟨rfl, hb1⟩))
    rename_i hH
    have hB := hH.1
    clear hH
    go_wp2
    ·
     rename_i hle
     go_ret
     refine ⟨?_, hB⟩
     have : ¬ xs = ys := fun h => by
      have : l1 = l2 := by rw [H1.out, H2.out, h]
      simp [this] at hle
     simp [this]
    ·
     rename_i hle
     refine ⟨⟨k + 1, by omega, by go_num, fun j hj => ?_, hB⟩, by simp [intOf]; omega⟩
     by_cases hjk : j < k
     ·
      exact HP.out j hjk
     ·
      have : j = k := by omega
      subst this
      rw [← H1.out, ← H2.out]
      simpa using hle
   ·
    go_wp2; go_ret
    have : k = n := by omega
    subst this
    refine ⟨?_, hbl⟩
    have : xs = ys := rows_eq_of (by rw [HL.out, HN.out]) (by rw [HN.out]; exact HP.out)
    simp [this]
 ·
  go_enter Tryz.func25, Tryz.ntmps25
  have hl' : ((xs.length : Int) == (ys.length : Int)) = false := by simp; omega
  go_wp2; go_ret
  have : ¬ xs = ys := fun h => hl (by rw [h])
  exact ⟨by simp [this], Below.refl _ _⟩
theorem toShardS_u (x : Value) (xs : List Shd) (w : World) (hx : shdsR.V w x xs) (hn : wtShds xs ≤ 1048576) :
  Calls Tryz.prog 17 #[x] w fun e w' => ∃ v F, e = .returned v ∧ shdsR.O w' w.heap.size F v xs ∧ Below w.heap.size w w' := by
 obtain ⟨ax, cx, rfl, hcx, hmx, hx⟩ := hx
 unfold maxLen at hmx
 unfold wtShds at hn
 have hlen : xs.length ≤ 1048576 := by unfold wtL at hn; omega
 have hW : ∀ k, k < xs.length → wtShd (xs.getD k default) ≤ 1048576 := fun k hk => (wt_at hn hk).1
 obtain ⟨i0, hi, hz0, hz1, hz2⟩ := info_parts infoShds
 obtain ⟨w1, hmk, hown, hgr⟩ := run_make_full (P := Tryz.prog) w w.heap.size 32 96 i0 _ 6 Tryz.underlying32 hi hz0 hz1 .i64 .i64 xs.length (by rw [hz2]; omega) (by unfold maxLen; omega) (Nat.le_refl _)
 have hbl0 : Below w.heap.size w w1 := (Below.refl _ _).grown hgr (Nat.le_refl _) (fun k h => by cases h)
 clear hn
 generalize hn' : xs.length = n at *
 have HN : Hid (xs.length = n) := hn'
 clear hn'
 go_enter Tryz.func17, Tryz.ntmps17
 go_wp2
 go_loopw [4] (fun i w' => ∃ (k : Nat) (cs : List Value) (us : Nat → Value) (fs : Nat → Nat → Prop), k ≤ n ∧ i = .int .i64 k ∧ PO shdR 96 6 lvShd w' w.heap.size (.slice (some ⟨w.heap.size, 0, none⟩) n n) n k (fun i => xs.getD i default) cs us fs ∧ Below w.heap.size w w') (fun i _ => n - (intOf i).toNat)
 case atStart => exact ⟨0, _, fun _ => .int .i64 0, fun _ _ => False, Nat.zero_le _, rfl, ⟨hown, fun i h => by omega, fun i h => by omega, fun i h => by omega, fun i h => by omega, fun i j h => by omega⟩, hbl0⟩
 case round =>
  obtain ⟨k, cs, us, fs, hk, rfl, hp, hbl⟩ := hrel
  clear hown hmk hgr hbl0
  by_cases hlt : k < n
  ·
   obtain ⟨bx, ox, ux, rfl, _, p1, hvx⟩ := hx k hlt
   have hw := hW k hlt
   obtain ⟨l, hl⟩ : ∃ l, l = xs.getD k default := ⟨_, rfl⟩
   rw [← hl] at hvx hw
   have HL : Hid (l = xs.getD k default) := hl
   have hvx' := hvx
   obtain ⟨ux1, ux2, ux3, ux4, ux5, rfl, _, _, _, _, _⟩ := hvx'
   have g0 : w.cell? ⟨bx, ox + k * 6, none⟩ = some (.int .i64 l.idx) := p1 0 (by omega)
   replace g0 := cK hbl g0
   have g1 : w.cell? ⟨bx, ox + k * 6 + 1, none⟩ = some (ux1) := p1 1 (by omega)
   replace g1 := cK hbl g1
   have g2 : w.cell? ⟨bx, ox + k * 6 + 2, none⟩ = some (ux2) := p1 2 (by omega)
   replace g2 := cK hbl g2
   have g3 : w.cell? ⟨bx, ox + k * 6 + 3, none⟩ = some (ux3) := p1 3 (by omega)
   replace g3 := cK hbl g3
   have g4 : w.cell? ⟨bx, ox + k * 6 + 4, none⟩ = some (ux4) := p1 4 (by omega)
   replace g4 := cK hbl g4
   have g5 : w.cell? ⟨bx, ox + k * 6 + 5, none⟩ = some (ux5) := p1 5 (by omega)
   replace g5 := cK hbl g5
   clear hx p1 hW hl
   go_wp2_with fail
   refine (toShard_u (.agg #[.int .i64 l.idx, ux1, ux2, ux3, ux4, ux5]) l _ (shdR.below hvx (by (repeat (first | exact bR _ _ | assumption | refine bD ?_ | refine bA ?_ _ | refine bS ?_ (by assumption))))) hw).mono ?_
   rintro e wa ⟨v1, F1, rfl, o1, b1⟩
   have ofm1 := shdR.ofO o1
   obtain ⟨x1_1, x1_2, x1_3, x1_4, x1_5, rfl, y1_1, y1_2, y1_3, y1_4, y1_5⟩ := ofm1
   obtain ⟨a1_1, n1_1, rfl⟩ := bals_form y1_1
   obtain ⟨a1_2, n1_2, rfl⟩ := mrks_form y1_2
   obtain ⟨a1_3, n1_3, rfl⟩ := conts_form y1_3
   obtain ⟨a1_4, n1_4, rfl⟩ := mrks_form y1_4
   obtain ⟨a1_5, n1_5, rfl⟩ := ints_form y1_5
   have ho1 := (hp.keep b1).row
   obtain ⟨y0, q0⟩ := owns_some ho1 (k * 6) (by omega)
   obtain ⟨y1, q1⟩ := owns_some ho1 (k * 6 + 1) (by omega)
   obtain ⟨y2, q2⟩ := owns_some ho1 (k * 6 + 2) (by omega)
   obtain ⟨y3, q3⟩ := owns_some ho1 (k * 6 + 3) (by omega)
   obtain ⟨y4, q4⟩ := owns_some ho1 (k * 6 + 4) (by omega)
   obtain ⟨y5, q5⟩ := owns_some ho1 (k * 6 + 5) (by omega)
   have hf := fun j => ho1.frozenAt j
   go_wp2
   have s0 := ho1.stored (k * 6) (.int .i64 l.idx)
   have s1 := s0.1.stored (k * 6 + 1) (.slice a1_1 l.bals.length n1_1)
   have s2 := s1.1.stored (k * 6 + 2) (.slice a1_2 l.votes.length n1_2)
   have s3 := s2.1.stored (k * 6 + 3) (.slice a1_3 l.held.length n1_3)
   have s4 := s3.1.stored (k * 6 + 4) (.slice a1_4 l.done.length n1_4)
   have s5 := s4.1.stored (k * 6 + 5) (.slice a1_5 l.appl.length n1_5)
   have hrow : World.ownsRow _ w.heap.size 96 6 (.slice (some ⟨w.heap.size, 0, none⟩) n n) n (setRow cs (k * 6) [.int .i64 l.idx, .slice a1_1 l.bals.length n1_1, .slice a1_2 l.votes.length n1_2, .slice a1_3 l.held.length n1_3, .slice a1_4 l.done.length n1_4, .slice a1_5 l.appl.length n1_5]) := s5.1
   have hcl := hp.row.1
   refine ⟨⟨k + 1, _, _, _, by omega, by go_num, hp.push (u := (.agg #[.int .i64 l.idx, .slice a1_1 l.bals.length n1_1, .slice a1_2 l.votes.length n1_2, .slice a1_3 l.held.length n1_3, .slice a1_4 l.done.length n1_4, .slice a1_5 l.appl.length n1_5])) (F := F1) hbl.size b1 (by rw [← HL.out]; exact o1) rfl hrow ((((((Mod.of_grown s0.2).trans (Mod.of_grown s1.2)).trans (Mod.of_grown s2.2)).trans (Mod.of_grown s3.2)).trans (Mod.of_grown s4.2)).trans (Mod.of_grown s5.2)) ?_ ?_, ?_⟩, by simp [intOf]; omega⟩
   ·
    intro i hi j hj
    exact setRow_old _ _ _ _ (.inl (by omega))
   ·
    intro j hj
    exact setRow_new _ _ _ _ (by simp only [List.length_cons, List.length_nil]; omega) hj
   ·
    exact (((((((bS hbl b1).setCell (Nat.le_refl _) _).setCell (Nat.le_refl _) _).setCell (Nat.le_refl _) _).setCell (Nat.le_refl _) _).setCell (Nat.le_refl _) _).setCell (Nat.le_refl _) _)
  ·
   go_wp2; go_ret
   have hkn : k = n := by omega
   subst hkn
   have e := HN.out
   subst e
   exact ⟨_, _, rfl, ⟨cs, us, fs, hp, fun b => Iff.rfl⟩, hbl⟩
theorem szShardS_u (x : Value) (xs : List Shd) (left : Int) (w : World) (hx : shdsR.V w x xs) (h0 : 0 ≤ left) (h1 : left ≤ 1048576) :
  Calls Tryz.prog 10 #[x, .int .i64 left] w fun e w' => e = .returned (.int .i64 (szLen left (wtShds xs))) ∧ Below w.heap.size w w' := by
 obtain ⟨ax, cx, rfl, hcx, hmx, hx⟩ := hx
 unfold maxLen at hmx
 unfold wtShds wtL
 have HT : Hid (∀ k, k < xs.length → cntTo wtShd (k + 1) xs = cntTo wtShd k xs + wtShd (xs.getD k default) ∧ cntTo wtShd (k + 1) xs ≤ cntTo wtShd xs.length xs) :=
  fun k hk => ⟨cntTo_succ _ k xs hk, cntTo_le _ _ _ _ hk⟩
 generalize xs.length = n at *
 by_cases h : left < n
 ·
  have h' : left - (n : Int) < 0 := by omega
  clear hx
  go_enter Tryz.func10, Tryz.ntmps10
  go_wp2; go_ret
  exact ⟨by simp only [szLen]; rw [if_pos (by omega)]; rfl, Below.refl _ _⟩
 ·
  have h' : ¬ left - (n : Int) < 0 := by omega
  go_enter Tryz.func10, Tryz.ntmps10
  go_wp2
  go_loopw [1, 5] (fun l i w' => ∃ k : Nat, k ≤ n ∧ i = .int .i64 k ∧ l = .int .i64 (left - n - cntTo wtShd k xs) ∧ 0 ≤ left - n - cntTo wtShd k xs ∧ Below w.heap.size w w') (fun _ i _ => n - (intOf i).toNat)
  case atStart => exact ⟨0, Nat.zero_le _, rfl, by simp [cntTo], by simp [cntTo]; omega, Below.refl _ _⟩
  case round =>
   obtain ⟨k, hk, rfl, rfl, hpos, hbl⟩ := hrel
   by_cases hlt : k < n
   ·
    obtain ⟨bx, ox, ux, rfl, _, p1, hvx⟩ := hx k hlt
    obtain ⟨t2, t3⟩ := HT.out k hlt
    generalize xs.getD k default = l at *
    have hvx' := hvx
    obtain ⟨ux1, ux2, ux3, ux4, ux5, rfl, _, _, _, _, _⟩ := hvx'
    have g0 : w.cell? ⟨bx, ox + k * 6, none⟩ = some (.int .i64 l.idx) := p1 0 (by omega)
    replace g0 := cK hbl g0
    have g1 : w.cell? ⟨bx, ox + k * 6 + 1, none⟩ = some (ux1) := p1 1 (by omega)
    replace g1 := cK hbl g1
    have g2 : w.cell? ⟨bx, ox + k * 6 + 2, none⟩ = some (ux2) := p1 2 (by omega)
    replace g2 := cK hbl g2
    have g3 : w.cell? ⟨bx, ox + k * 6 + 3, none⟩ = some (ux3) := p1 3 (by omega)
    replace g3 := cK hbl g3
    have g4 : w.cell? ⟨bx, ox + k * 6 + 4, none⟩ = some (ux4) := p1 4 (by omega)
    replace g4 := cK hbl g4
    have g5 : w.cell? ⟨bx, ox + k * 6 + 5, none⟩ = some (ux5) := p1 5 (by omega)
    replace g5 := cK hbl g5
    generalize hm : wtShd l = m at *
    have HM : Hid (wtShd l = m) := hm
    clear hx p1 hm
    generalize cntTo wtShd k xs = c at *
    go_wp2_with fail
    refine (szShard_u (.agg #[.int .i64 l.idx, ux1, ux2, ux3, ux4, ux5]) l (left - n - c) _ (shdR.below hvx (by (repeat (first | exact bR _ _ | assumption | refine bD ?_ | refine bA ?_ _ | refine bS ?_ (by assumption))))) hpos (by omega)).mono ?_
    rintro e wa ⟨rfl, b1⟩
    rw [HM.out]
    go_wp2
    ·
     rename_i hneg
     go_ret
     refine ⟨?_, by (repeat (first | exact bR _ _ | assumption | refine bD ?_ | refine bA ?_ _ | refine bS ?_ (by assumption)))⟩
     have : szLen left ↑(n + cntTo wtShd n xs) = -1 := by
      unfold szLen at hneg ⊢
      rw [if_pos (by split at hneg <;> omega)]
     rw [this]
     rfl
    ·
     rename_i hneg
     refine ⟨⟨k + 1, by omega, by go_num, ?_, ?_, by (repeat (first | exact bR _ _ | assumption | refine bD ?_ | refine bA ?_ _ | refine bS ?_ (by assumption)))⟩, by simp [intOf]; omega⟩
     ·
      congr 1
      unfold szLen at hneg ⊢
      split at hneg <;> omega
     ·
      unfold szLen at hneg
      split at hneg <;> omega
   ·
    go_wp2; go_ret
    have hkn : k = n := by omega
    subst hkn
    refine ⟨?_, hbl⟩
    have : szLen left ↑(k + cntTo wtShd k xs) = left - k - cntTo wtShd k xs := by
     unfold szLen
     rw [if_neg (by omega)]
     omega
    rw [this]
    rfl
end Go.Proofs.YtackhljepbhpgaaGreat

namespace Go.Proofs.YtackhljepbhpgaaGreat
open Go.RowKit
attribute [local go_sem ↓] Go.wp_at_zero Go.wp_at_succ

structure Vot where
 bal : Int
 val : Int
variable [DecidableEq Vot] [Inhabited Vot]

def votV (x : Vot) : Value := .agg #[.int .i64 x.bal, .int .i64 x.val]
theorem toVote_any (x : Vot) (w : World) :
  Calls Tryz.prog 92 #[votV x] w fun e w' => e = .returned (votV x) ∧ Below w.heap.size w w' := by
 obtain ⟨a, b⟩ := x
 unfold votV
 go_enter Tryz.func92, Tryz.ntmps92
 go_wp2
 exact bodyPost_ret (v := .agg #[.int .i64 a, .int .i64 b]) (by simp [results, Tryz.results92, go_sem]) rfl ⟨rfl, bA (bA (bA (Below.refl _ _) _) _) _⟩
theorem eqVote_any (x y : Vot) (w : World) :
  Calls Tryz.prog 117 #[votV x, votV y] w fun e w' => e = .returned (.bool (decide (x = y))) ∧ Below w.heap.size w w' := by
 obtain ⟨a, b⟩ := x
 obtain ⟨a', b'⟩ := y
 unfold votV
 go_enter Tryz.func117, Tryz.ntmps117
 go_wp2
 all_goals
  go_ret
  exact ⟨by simp_all, bA (bA (Below.refl _ _) _) _⟩
def votCells (w : World) (b o : Nat) (x : Vot) : Prop := w.cell? ⟨b, o, none⟩ = some (.int .i64 x.bal) ∧ w.cell? ⟨b, o + 1, none⟩ = some (.int .i64 x.val)
def VotsV (w : World) (v : Value) (xs : List Vot) : Prop :=
 ∃ a cap, v = .slice a xs.length cap ∧ xs.length ≤ cap ∧ cap ≤ maxLen ∧ ∀ i, i < xs.length → ∃ b o, a = some ⟨b, o, none⟩ ∧ votCells w b (o + i * 2) (xs.getD i default)
theorem votCells_below {w w' : World} {b o : Nat} {x : Vot} (hb : Below w.heap.size w w') (h : votCells w b o x) : votCells w' b o x := by
 obtain ⟨h0, h1⟩ := h
 exact ⟨cK hb h0, cK hb h1⟩
theorem VotsV_below {w w' : World} {v : Value} {xs : List Vot} (h : VotsV w v xs) (hb : Below w.heap.size w w') : VotsV w' v xs := by
 obtain ⟨a, cap, rfl, h1, h2, h3⟩ := h
 exact ⟨a, cap, rfl, h1, h2, fun i hi => by
  obtain ⟨b, o, ha, hc⟩ := h3 i hi
  exact ⟨b, o, ha, votCells_below hb hc⟩⟩
theorem votKeep2 {w w' : World} {b o b' o' : Nat} {x y : Vot} (hb : Below w.heap.size w w') (h : votCells w b o x) (h' : votCells w b' o' y) :
  Below w.heap.size w w' ∧ (w'.cell? ⟨b, o, none⟩ = some (.int .i64 x.bal) ∧ w'.cell? ⟨b, o + 1, none⟩ = some (.int .i64 x.val)) ∧ (w'.cell? ⟨b', o', none⟩ = some (.int .i64 y.bal) ∧ w'.cell? ⟨b', o' + 1, none⟩ = some (.int .i64 y.val)) :=
 ⟨hb, votCells_below hb h, votCells_below hb h'⟩
theorem vots_eq_of {xs ys : List Vot} (hl : ys.length = xs.length) (h : ∀ j, j < xs.length → xs.getD j default = ys.getD j default) : xs = ys := by
 apply List.ext_getElem (by omega)
 intro i h1 h2
 have := h i h1
 simpa [List.getD, h1, h2] using this
theorem eqVoteS_any (x y : Value) (xs ys : List Vot) (w : World) (hx : VotsV w x xs) (hy : VotsV w y ys) :
  Calls Tryz.prog 215 #[x, y] w fun e w' => e = .returned (.bool (decide (xs = ys))) ∧ Below w.heap.size w w' := by
 obtain ⟨ax, cx, rfl, hcx, hmx, hx⟩ := hx
 obtain ⟨ay, cy, rfl, hcy, hmy, hy⟩ := hy
 unfold maxLen at hmx hmy
 by_cases hl : ys.length = xs.length
 ·
  rw [hl] at hcy hy ⊢
  have HL : Hid (ys.length = xs.length) := hl
  clear hl
  generalize hn : xs.length = n at *
  have HN : Hid (xs.length = n) := hn
  clear hn
  go_enter Tryz.func215, Tryz.ntmps215
  go_wp2
  go_loopw [5] (fun i w' => ∃ k : Nat, k ≤ n ∧ i = .int .i64 k ∧ (∀ j, j < k → xs.getD j default = ys.getD j default) ∧ Below w.heap.size w w') (fun i _ => n - (intOf i).toNat)
  case atStart => exact ⟨0, Nat.zero_le _, rfl, fun j h => absurd h (Nat.not_lt_zero _), Below.refl _ _⟩
  case round =>
   obtain ⟨k, hk, rfl, hpre, hbl⟩ := hrel
   have HP : Hid (∀ j, j < k → xs.getD j default = ys.getD j default) := hpre
   clear hpre
   by_cases hlt : k < n
   ·
    obtain ⟨bx, ox, rfl, h1⟩ := hx k hlt
    obtain ⟨b2, oy, rfl, h2⟩ := hy k hlt
    obtain ⟨l1, hl1⟩ : ∃ l, l = xs.getD k default := ⟨_, rfl⟩
    obtain ⟨l2, hl2⟩ : ∃ l, l = ys.getD k default := ⟨_, rfl⟩
    rw [← hl1] at h1
    rw [← hl2] at h2
    have H1 : Hid (l1 = xs.getD k default) := hl1
    have H2 : Hid (l2 = ys.getD k default) := hl2
    clear hl1 hl2 hx hy
    go_wp2
    go_region_held3 (fun w' => Below w.heap.size w w' ∧ (w'.cell? ⟨bx, ox + k * 2, none⟩ = some (.int .i64 l1.bal) ∧ w'.cell? ⟨bx, ox + k * 2 + 1, none⟩ = some (.int .i64 l1.val)) ∧ (w'.cell? ⟨b2, oy + k * 2, none⟩ = some (.int .i64 l2.bal) ∧ w'.cell? ⟨b2, oy + k * 2 + 1, none⟩ = some (.int .i64 l2.val))) ((refine votKeep2 ?_ h1 h2; repeat (first | exact bR _ _ | assumption | refine bD ?_ | refine bA ?_ _ | refine bS ?_ (by assumption)))) (first | (go_at_call 117; refine (eqVote_any l1 l2 _).mono ?_; rintro e w' ⟨rfl, hb1⟩))
    rename_i hH
    have hB := hH.1
    clear hH
    go_wp2
    ·
     rename_i hle
     go_ret
     refine ⟨?_, hB⟩
     have : ¬ xs = ys := fun h => by
      have : l1 = l2 := by rw [H1.out, H2.out, h]
      simp [this] at hle
     simp [this]
    ·
     rename_i hle
     refine ⟨⟨k + 1, by omega, by go_num, fun j hj => ?_, hB⟩, by simp [intOf]; omega⟩
     by_cases hjk : j < k
     ·
      exact HP.out j hjk
     ·
      have : j = k := by omega
      subst this
      rw [← H1.out, ← H2.out]
      simpa using hle
   ·
    go_wp2; go_ret
    have : k = n := by omega
    subst this
    refine ⟨?_, hbl⟩
    have : xs = ys := vots_eq_of (by rw [HL.out, HN.out]) (by rw [HN.out]; exact HP.out)
    simp [this]
 ·
  go_enter Tryz.func215, Tryz.ntmps215
  have hl' : ((xs.length : Int) == (ys.length : Int)) = false := by simp; omega
  go_wp2; go_ret
  have : ¬ xs = ys := fun h => hl (by rw [h])
  exact ⟨by simp [this], Below.refl _ _⟩
def votC (x : Vot) : List Value := [.int .i64 x.bal, .int .i64 x.val]
def votsC (xs : List Vot) : List Value := xs.flatMap votC
theorem infoVot : (Tryz.prog.info? 87).map (fun i => (i.zero, i.size, i.bytes)) = some (some (.agg #[.int .i64 0, .int .i64 0]), 2, 16) := by kernel_rfl
theorem length_votsC (xs : List Vot) : (votsC xs).length = xs.length * 2 := by
 induction xs with
 | nil => rfl
 | cons x r ih =>
  have e : votsC (x :: r) = votC x ++ votsC r := by simp [votsC]
  have l4 : (votC x).length = 2 := rfl
  rw [e, List.length_append, l4, ih, List.length_cons]
  omega
theorem get_votsC (xs : List Vot) : ∀ i, i < xs.length → (votsC xs)[i * 2]? = some (.int .i64 (xs.getD i default).bal) ∧ (votsC xs)[i * 2 + 1]? = some (.int .i64 (xs.getD i default).val) := by
 induction xs with
 | nil => intro i h; simp at h
 | cons x r ih =>
  intro i h
  cases i with
  | zero => simp [votsC, votC]
  | succ i =>
   have := ih i (by simpa using h)
   have e : votsC (x :: r) = votC x ++ votsC r := by simp [votsC]
   have l4 : (votC x).length = 2 := rfl
   rw [e]
   refine ⟨?_, ?_⟩
   all_goals rw [List.getElem?_append_right (by omega), l4]
   ·
    rw [show (i + 1) * 2 - 2 = i * 2 by omega]; simpa using this.1
   ·
    rw [show (i + 1) * 2 + 1 - 2 = i * 2 + 1 by omega]; simpa using this.2
theorem VotsV_of_owns {w : World} {base e : Nat} {v : Value} {xs : List Vot} (h : w.ownsRow base e 2 v xs.length (votsC xs)) : VotsV w v xs := by
 rcases h.2 with ⟨rfl, hn⟩ | ⟨g, cap, cur, rfl, hb, hg, hnc, hcm, hcs, htake⟩
 ·
  exact ⟨none, 0, by rw [hn], by omega, by unfold maxLen; omega, fun i hi => by omega⟩
 ·
  refine ⟨some ⟨g, 0, none⟩, cap, rfl, hnc, hcm, fun i hi => ⟨g, 0, rfl, ?_⟩⟩
  obtain ⟨h0, h1⟩ := get_votsC xs i hi
  simp only [Nat.zero_add, votCells]
  exact ⟨(h.cellAt _ (by omega)).trans h0, (h.cellAt _ (by omega)).trans h1⟩
def votUpto (k : Nat) (cs : List Value) (xs : List Vot) : Prop := ∀ j, j < k * 2 → cs[j]? = (votsC xs)[j]?
theorem votUpto_full {n : Nat} {cs : List Value} {xs : List Vot} (h : votUpto n cs xs) (hl : cs.length = n * 2) (hn : xs.length = n) : cs = votsC xs := by
 apply List.ext_getElem?
 intro j
 by_cases hj : j < n * 2
 ·
  exact h j hj
 ·
  rw [List.getElem?_eq_none (by omega), List.getElem?_eq_none (by rw [length_votsC]; omega)]
theorem votUpto_set {k : Nat} {cs : List Value} {xs : List Vot} {x : Vot} (h : votUpto k cs xs) (hk : k < xs.length) (hl : cs.length = xs.length * 2) (he : x = xs.getD k default) :
  votUpto (k + 1) ((cs.set (k * 2) (.int .i64 x.bal)).set (k * 2 + 1) (.int .i64 x.val)) xs := by
 intro j hj
 obtain ⟨h0, h1⟩ := get_votsC xs k hk
 subst he
 simp only [List.getElem?_set, List.length_set]
 by_cases e1 : k * 2 + 1 = j
 ·
  subst e1; simp [h1]; omega
 by_cases e0 : k * 2 = j
 ·
  subst e0; simp [h0]; omega
 simp [e0, e1]
 exact h j (by omega)
theorem toVoteS_any (x : Value) (xs : List Vot) (w : World) (hx : VotsV w x xs) (hn : xs.length ≤ 1048576) :
  Calls Tryz.prog 184 #[x] w fun e w' => ∃ v, e = .returned v ∧ w'.ownsRow w.heap.size 87 2 v xs.length (votsC xs) ∧ Below w.heap.size w w' := by
 obtain ⟨ax, cx, rfl, hcx, hmx, hx⟩ := hx
 unfold maxLen at hmx
 obtain ⟨i0, hi, hz0, hz1, hz2⟩ := info_parts infoVot
 obtain ⟨w1, hmk, hown, hgr⟩ := run_make_full (P := Tryz.prog) w w.heap.size 137 87 i0 _ 2 Tryz.underlying137 hi hz0 hz1 .i64 .i64 xs.length (by rw [hz2]; omega) (by unfold maxLen; omega) (Nat.le_refl _)
 have hbl0 : Below w.heap.size w w1 := (Below.refl _ _).grown hgr (Nat.le_refl _) (fun k h => by cases h)
 generalize hn' : xs.length = n at *
 have HN : Hid (xs.length = n) := hn'
 clear hn'
 go_enter Tryz.func184, Tryz.ntmps184
 go_wp2
 go_loopw [4] (fun i w' => ∃ (k : Nat) (cs : List Value), k ≤ n ∧ i = .int .i64 k ∧ w'.ownsRow w.heap.size 87 2 (.slice (some ⟨w.heap.size, 0, none⟩) n n) n cs ∧ votUpto k cs xs ∧ Below w.heap.size w w') (fun i _ => n - (intOf i).toNat)
 case atStart => exact ⟨0, _, Nat.zero_le _, rfl, hown, fun j h => by omega, hbl0⟩
 case round =>
  obtain ⟨k, cs, hk, rfl, ho, hup, hbl⟩ := hrel
  have HU : Hid (votUpto k cs xs) := hup
  clear hup hown hmk hgr hbl0
  by_cases hlt : k < n
  ·
   obtain ⟨bx, ox, rfl, h1⟩ := hx k hlt
   obtain ⟨l, hl⟩ : ∃ l, l = xs.getD k default := ⟨_, rfl⟩
   rw [← hl] at h1
   have H1 : Hid (l = xs.getD k default) := hl
   clear hl hx
   obtain ⟨a0, a1⟩ := votCells_below hbl h1
   go_wp2_with fail
   refine (toVote_any l _).mono ?_
   rintro e wa ⟨rfl, hba⟩
   have ho1 := owns_below ho hba
   obtain ⟨u0, g0⟩ := owns_some ho1 (k * 2) (by omega)
   obtain ⟨u1, g1⟩ := owns_some ho1 (k * 2 + 1) (by omega)
   have hf := fun j => ho1.frozenAt j
   simp only [votV]
   go_wp2
   have s0 := ho1.stored (k * 2) (.int .i64 l.bal)
   have s1 := s0.1.stored (k * 2 + 1) (.int .i64 l.val)
   refine ⟨⟨k + 1, _, by omega, by go_num, s1.1, votUpto_set HU.out (by have := HN.out; omega) (by have := HN.out; have := ho.1; omega) H1.out, ?_⟩, by simp [intOf]; omega⟩
   exact ((bS hbl hba).setCell (Nat.le_refl _) _).setCell (Nat.le_refl _) _
  ·
   go_wp2; go_ret
   have hkn : k = n := by omega
   subst hkn
   have e := votUpto_full HU.out ho.1 HN.out
   subst e
   exact ⟨_, rfl, ho, hbl⟩
theorem szVoteS_any (x : Value) (xs : List Vot) (left : Int) (w : World) (hx : VotsV w x xs) (h0 : 0 ≤ left) (h1 : left ≤ 1048576) :
  Calls Tryz.prog 176 #[x, .int .i64 left] w fun e w' => e = .returned (.int .i64 (szLen left xs.length)) ∧ w' = w := by
 obtain ⟨ax, cx, rfl, hcx, hmx, hx⟩ := hx
 unfold maxLen at hmx
 generalize xs.length = n at *
 clear hx
 by_cases h : left < n
 ·
  have h' : left - (n : Int) < 0 := by omega
  go_enter Tryz.func176, Tryz.ntmps176
  go_wp2; go_ret
  exact ⟨by simp only [szLen, if_pos h]; rfl, rfl⟩
 ·
  have h' : ¬ left - (n : Int) < 0 := by omega
  go_enter Tryz.func176, Tryz.ntmps176
  go_wp2; go_ret
  exact ⟨by rw [szLen, if_neg (by omega)]; rfl, rfl⟩
variable [DecidableEq Vot] [Inhabited Vot]
def votsR : Rep (List Vot) := fRep 87 2 votsC VotsV VotsV_below VotsV_of_owns
def wtVots (xs : List Vot) : Nat := xs.length
theorem vots_form {w : World} {v : Value} {xs : List Vot} (h : votsR.V w v xs) : ∃ a c, v = .slice a xs.length c := by
 obtain ⟨a, c, rfl, _⟩ := h
 exact ⟨_, _, rfl⟩
theorem toVoteS_u (x : Value) (d : List Vot) (w : World) (hx : votsR.V w x d) (hn : wtVots d ≤ 1048576) :
  Calls Tryz.prog 184 #[x] w fun e w' => ∃ v F, e = .returned v ∧ votsR.O w' w.heap.size F v d ∧ Below w.heap.size w w' := by
 refine (toVoteS_any x d w hx hn).mono ?_
 rintro e w' ⟨v, rfl, ho, hb⟩
 exact ⟨v, _, rfl, ⟨ho, rfl⟩, hb⟩
theorem eqVoteS_u (x y : Value) (d d' : List Vot) (w : World) (hx : votsR.V w x d) (hy : votsR.V w y d') :
  Calls Tryz.prog 215 #[x, y] w fun e w' => e = .returned (.bool (decide (d = d'))) ∧ Below w.heap.size w w' := eqVoteS_any x y d d' w hx hy
theorem szVoteS_u (x : Value) (d : List Vot) (left : Int) (w : World) (hx : votsR.V w x d) (h0 : 0 ≤ left) (h1 : left ≤ 1048576) :
  Calls Tryz.prog 176 #[x, .int .i64 left] w fun e w' => e = .returned (.int .i64 (szLen left (wtVots d))) ∧ Below w.heap.size w w' := by
 refine (szVoteS_any x d left w hx h0 h1).mono ?_
 rintro e w' ⟨rfl, rfl⟩
 exact ⟨rfl, Below.refl _ _⟩
structure Slt where
 con : Int
 sh : Int
 pr : Int
 lb : Int
 lv : Int
 cast : List Vot
variable [DecidableEq Slt] [Inhabited Slt]

def sltR : Rep Slt where
 V := fun w v x => ∃ u1, v = .agg #[.int .i64 x.con, .int .i64 x.sh, .int .i64 x.pr, .int .i64 x.lb, .int .i64 x.lv, u1] ∧ votsR.V w u1 x.cast
 O := fun w base F v x => ∃ u1 F1, v = .agg #[.int .i64 x.con, .int .i64 x.sh, .int .i64 x.pr, .int .i64 x.lb, .int .i64 x.lv, u1] ∧ votsR.O w base F1 u1 x.cast ∧ (∀ b, F b ↔ (F1 b))
 below := fun h hb => by
  obtain ⟨u1, rfl, h1⟩ := h
  exact ⟨u1, rfl, votsR.below h1 hb⟩
 ofO := fun h => by
  obtain ⟨u1, F1, rfl, h1, _⟩ := h
  exact ⟨u1, rfl, votsR.ofO h1⟩
 mod := fun h hm hd => by
  obtain ⟨u1, F1, rfl, h1, hF⟩ := h
  exact ⟨u1, F1, rfl, votsR.mod h1 hm (fun b hb => hd b ((hF b).2 hb)), hF⟩
 rng := fun h b hb => by
  obtain ⟨u1, F1, rfl, h1, hF⟩ := h
  rcases (hF b).1 hb with hb
  ·
   exact votsR.rng h1 b hb
 base := fun h hb => by
  obtain ⟨u1, F1, rfl, h1, hF⟩ := h
  exact ⟨u1, F1, rfl, votsR.base h1 hb, hF⟩
def wtSlt (x : Slt) : Nat := wtVots x.cast
def lvSlt (v : Value) : List Value := match v with | .agg a => one (a.getD 0 (.int .i64 0)) ++ one (a.getD 1 (.int .i64 0)) ++ one (a.getD 2 (.int .i64 0)) ++ one (a.getD 3 (.int .i64 0)) ++ one (a.getD 4 (.int .i64 0)) ++ one (a.getD 5 (.int .i64 0)) | _ => []
theorem toSlot_u (x : Value) (d : Slt) (w : World) (hx : sltR.V w x d) (hn : wtSlt d ≤ 1048576) :
  Calls Tryz.prog 131 #[x] w fun e w' => ∃ v F, e = .returned v ∧ sltR.O w' w.heap.size F v d ∧ Below w.heap.size w w' := by
 obtain ⟨u1, rfl, h1⟩ := hx
 unfold wtSlt at hn
 go_enter Tryz.func131, Tryz.ntmps131
 go_wp2_with fail
 refine (toVote_any ⟨d.lb, d.lv⟩ _).mono ?_
 rintro e w0 ⟨rfl, b0⟩
 have hB0 : Below w.heap.size w w0 := bS (qBq) b0
 obtain ⟨c0, f0⟩ := bcell b0
 have z0 := b0.size
 simp at z0
 have x0 : w0.cell? ⟨w.heap.size, 0, none⟩ = some (.int .i64 d.con) := cK b0 (by simp [go_sem])
 have x1 : w0.cell? ⟨w.heap.size, 1, none⟩ = some (.int .i64 d.sh) := cK b0 (by simp [go_sem])
 have x2 : w0.cell? ⟨w.heap.size, 2, none⟩ = some (.int .i64 d.pr) := cK b0 (by simp [go_sem])
 have x3 : w0.cell? ⟨w.heap.size, 3, none⟩ = some (.int .i64 d.lb) := cK b0 (by simp [go_sem])
 have x4 : w0.cell? ⟨w.heap.size, 4, none⟩ = some (.int .i64 d.lv) := cK b0 (by simp [go_sem])
 have x5 : w0.cell? ⟨w.heap.size, 5, none⟩ = some (u1) := cK b0 (by simp [go_sem])
 have q0 : w0.cell? ⟨w.heap.size + 1, 0, none⟩ = some (.int .i64 0) := cK b0 (by simp [go_sem])
 have q1 : w0.cell? ⟨w.heap.size + 1, 1, none⟩ = some (.int .i64 0) := cK b0 (by simp [go_sem])
 have q2 : w0.cell? ⟨w.heap.size + 1, 2, none⟩ = some (.int .i64 0) := cK b0 (by simp [go_sem])
 have q3 : w0.cell? ⟨w.heap.size + 1, 3, none⟩ = some (.int .i64 0) := cK b0 (by simp [go_sem])
 have q4 : w0.cell? ⟨w.heap.size + 1, 4, none⟩ = some (.int .i64 0) := cK b0 (by simp [go_sem])
 have q5 : w0.cell? ⟨w.heap.size + 1, 5, none⟩ = some (.slice none 0 0) := cK b0 (by simp [go_sem])
 have p0 : w0.cell? ⟨w.heap.size + 2, 0, none⟩ = some (.int .i64 d.con) := cK b0 (by simp [go_sem])
 have p1 : w0.cell? ⟨w.heap.size + 2, 1, none⟩ = some (.int .i64 d.sh) := cK b0 (by simp [go_sem])
 have p2 : w0.cell? ⟨w.heap.size + 2, 2, none⟩ = some (.int .i64 d.pr) := cK b0 (by simp [go_sem])
 have p3 : w0.cell? ⟨w.heap.size + 2, 3, none⟩ = some (.int .i64 0) := cK b0 (by simp [go_sem])
 have p4 : w0.cell? ⟨w.heap.size + 2, 4, none⟩ = some (.int .i64 0) := cK b0 (by simp [go_sem])
 have p5 : w0.cell? ⟨w.heap.size + 2, 5, none⟩ = some (.slice none 0 0) := cK b0 (by simp [go_sem])
 have qf : ∀ o, w0.frozen? ⟨w.heap.size + 1, o, none⟩ = false := fun o => by rw [f0 _ _ (by simp; try omega)]; simp [go_sem]
 have pf : ∀ o, w0.frozen? ⟨w.heap.size + 2, o, none⟩ = false := fun o => by rw [f0 _ _ (by simp; try omega)]; simp [go_sem]
 clear c0 f0 b0
 simp only [votV]
 go_wp2_with fail
 refine (toVoteS_u _ d.cast _ (votsR.below h1 (by (repeat (first | refine bset ?_ (by simp; omega) _ | refine bset ?_ (by simp) _ | refine bA ?_ _ | assumption)))) (by omega)).mono ?_
 rintro e w1 ⟨v1, F1, rfl, o1, b1⟩
 have hB1 : Below w.heap.size w w1 := bS (by (repeat (first | refine bset ?_ (by simp; omega) _ | refine bset ?_ (by simp) _ | refine bA ?_ _ | assumption))) b1
 obtain ⟨a1, n1, rfl⟩ := vots_form (votsR.ofO o1)
 obtain ⟨c1, f1⟩ := bcell b1
 have z1 := b1.size
 simp at z1
 replace o1 := votsR.base (base' := w.heap.size + 3) o1 (by simp; try omega)
 have y0 : w1.cell? ⟨w.heap.size, 0, none⟩ = some (.int .i64 d.con) := cK b1 (by simp [go_sem, x0, x1, x2, x3, x4, x5, q0, q1, q2, q3, q4, q5, p0, p1, p2, p3, p4, p5])
 have y1 : w1.cell? ⟨w.heap.size, 1, none⟩ = some (.int .i64 d.sh) := cK b1 (by simp [go_sem, x0, x1, x2, x3, x4, x5, q0, q1, q2, q3, q4, q5, p0, p1, p2, p3, p4, p5])
 have y2 : w1.cell? ⟨w.heap.size, 2, none⟩ = some (.int .i64 d.pr) := cK b1 (by simp [go_sem, x0, x1, x2, x3, x4, x5, q0, q1, q2, q3, q4, q5, p0, p1, p2, p3, p4, p5])
 have y3 : w1.cell? ⟨w.heap.size, 3, none⟩ = some (.int .i64 d.lb) := cK b1 (by simp [go_sem, x0, x1, x2, x3, x4, x5, q0, q1, q2, q3, q4, q5, p0, p1, p2, p3, p4, p5])
 have y4 : w1.cell? ⟨w.heap.size, 4, none⟩ = some (.int .i64 d.lv) := cK b1 (by simp [go_sem, x0, x1, x2, x3, x4, x5, q0, q1, q2, q3, q4, q5, p0, p1, p2, p3, p4, p5])
 have y5 : w1.cell? ⟨w.heap.size, 5, none⟩ = some (u1) := cK b1 (by simp [go_sem, x0, x1, x2, x3, x4, x5, q0, q1, q2, q3, q4, q5, p0, p1, p2, p3, p4, p5])
 have r0 : w1.cell? ⟨w.heap.size + 1, 0, none⟩ = some (.int .i64 0) := cK b1 (by simp [go_sem, x0, x1, x2, x3, x4, x5, q0, q1, q2, q3, q4, q5, p0, p1, p2, p3, p4, p5])
 have r1 : w1.cell? ⟨w.heap.size + 1, 1, none⟩ = some (.int .i64 0) := cK b1 (by simp [go_sem, x0, x1, x2, x3, x4, x5, q0, q1, q2, q3, q4, q5, p0, p1, p2, p3, p4, p5])
 have r2 : w1.cell? ⟨w.heap.size + 1, 2, none⟩ = some (.int .i64 0) := cK b1 (by simp [go_sem, x0, x1, x2, x3, x4, x5, q0, q1, q2, q3, q4, q5, p0, p1, p2, p3, p4, p5])
 have r3 : w1.cell? ⟨w.heap.size + 1, 3, none⟩ = some (.int .i64 0) := cK b1 (by simp [go_sem, x0, x1, x2, x3, x4, x5, q0, q1, q2, q3, q4, q5, p0, p1, p2, p3, p4, p5])
 have r4 : w1.cell? ⟨w.heap.size + 1, 4, none⟩ = some (.int .i64 0) := cK b1 (by simp [go_sem, x0, x1, x2, x3, x4, x5, q0, q1, q2, q3, q4, q5, p0, p1, p2, p3, p4, p5])
 have r5 : w1.cell? ⟨w.heap.size + 1, 5, none⟩ = some (.slice none 0 0) := cK b1 (by simp [go_sem, x0, x1, x2, x3, x4, x5, q0, q1, q2, q3, q4, q5, p0, p1, p2, p3, p4, p5])
 have s0 : w1.cell? ⟨w.heap.size + 2, 0, none⟩ = some (.int .i64 d.con) := cK b1 (by simp [go_sem, x0, x1, x2, x3, x4, x5, q0, q1, q2, q3, q4, q5, p0, p1, p2, p3, p4, p5])
 have s1 : w1.cell? ⟨w.heap.size + 2, 1, none⟩ = some (.int .i64 d.sh) := cK b1 (by simp [go_sem, x0, x1, x2, x3, x4, x5, q0, q1, q2, q3, q4, q5, p0, p1, p2, p3, p4, p5])
 have s2 : w1.cell? ⟨w.heap.size + 2, 2, none⟩ = some (.int .i64 d.pr) := cK b1 (by simp [go_sem, x0, x1, x2, x3, x4, x5, q0, q1, q2, q3, q4, q5, p0, p1, p2, p3, p4, p5])
 have s3 : w1.cell? ⟨w.heap.size + 2, 3, none⟩ = some (.int .i64 d.lb) := cK b1 (by simp [go_sem, x0, x1, x2, x3, x4, x5, q0, q1, q2, q3, q4, q5, p0, p1, p2, p3, p4, p5])
 have s4 : w1.cell? ⟨w.heap.size + 2, 4, none⟩ = some (.int .i64 d.lv) := cK b1 (by simp [go_sem, x0, x1, x2, x3, x4, x5, q0, q1, q2, q3, q4, q5, p0, p1, p2, p3, p4, p5])
 have s5 : w1.cell? ⟨w.heap.size + 2, 5, none⟩ = some (.slice none 0 0) := cK b1 (by simp [go_sem, x0, x1, x2, x3, x4, x5, q0, q1, q2, q3, q4, q5, p0, p1, p2, p3, p4, p5])
 have t1 : ∀ o, w1.frozen? ⟨w.heap.size + 1, o, none⟩ = false := fun o => by rw [f1 _ _ (by simp; try omega)]; simp [go_sem, qf]
 have t2 : ∀ o, w1.frozen? ⟨w.heap.size + 2, o, none⟩ = false := fun o => by rw [f1 _ _ (by simp; try omega)]; simp [go_sem, pf]
 clear x0 x1 x2 x3 x4 x5 q0 q1 q2 q3 q4 q5 p0 p1 p2 p3 p4 p5 qf pf
 clear c1 f1
 have x0 := y0
 have x1 := y1
 have x2 := y2
 have x3 := y3
 have x4 := y4
 have x5 := y5
 have q0 := r0
 have q1 := r1
 have q2 := r2
 have q3 := r3
 have q4 := r4
 have q5 := r5
 have p0 := s0
 have p1 := s1
 have p2 := s2
 have p3 := s3
 have p4 := s4
 have p5 := s5
 have qf := t1
 have pf := t2
 clear t1 t2 y0 y1 y2 y3 y4 y5 r0 r1 r2 r3 r4 r5 s0 s1 s2 s3 s4 s5
 clear b1 hB0
 go_wp2
 refine bodyPost_ret (v := .agg #[.int .i64 d.con, .int .i64 d.sh, .int .i64 d.pr, .int .i64 d.lb, .int .i64 d.lv, .slice a1 d.cast.length n1]) ?_ rfl ⟨_, fun b => F1 b, rfl, ⟨_, F1, rfl, votsR.base (base := w.heap.size + 3) (by (repeat (first | refine Rep.set _ ?_ _ (by simp; omega) | refine Rep.set _ ?_ _ (by simp) | refine Rep.alloc _ ?_ _ | assumption))) (by omega), fun b => Iff.rfl⟩, by (repeat (first | refine bset ?_ (by simp; omega) _ | refine bset ?_ (by simp) _ | refine bA ?_ _ | assumption))⟩
 simp [results, Tryz.results131, go_sem, q0, q1, q2, q3, q4, q5, p0, p1, p2, p3, p4, p5, qf, pf]
theorem szSlot_u (x : Value) (d : Slt) (left : Int) (w : World) (hx : sltR.V w x d) (h0 : 0 ≤ left) (h1 : left ≤ 1048576) :
  Calls Tryz.prog 118 #[x, .int .i64 left] w fun e w' => e = .returned (.int .i64 (szLen left (wtSlt d))) ∧ Below w.heap.size w w' := by
 obtain ⟨u1, rfl, k1⟩ := hx
 go_enter Tryz.func118, Tryz.ntmps118
 go_wp2_with fail
 refine (szVoteS_u _ d.cast left _ (votsR.below k1 (qBq)) h0 h1).mono ?_
 rintro e w1 ⟨rfl, b1⟩
 go_wp2
 ·
  rename_i h
  go_ret
  refine ⟨?_, qBq⟩
  rw [szLen_neg (n := wtVots d.cast) (by omega) (wtSlt d) (by unfold wtSlt; omega)]
  rfl
 rename_i h
 go_ret
 exact ⟨rfl, qBq⟩
theorem eqSlot_u (x y : Value) (d d' : Slt) (w : World) (hx : sltR.V w x d) (hy : sltR.V w y d') :
  Calls Tryz.prog 173 #[x, y] w fun e w' => e = .returned (.bool (decide (d = d'))) ∧ Below w.heap.size w w' := by
 obtain ⟨u1, rfl, h1⟩ := hx
 obtain ⟨v1, rfl, k1⟩ := hy
 obtain ⟨con, sh, pr, lb, lv, cast⟩ := d
 obtain ⟨con', sh', pr', lb', lv', cast'⟩ := d'
 dsimp only at h1 k1
 go_enter Tryz.func173, Tryz.ntmps173
 go_wp2_with fail
 all_goals try (go_ret; exact ⟨by first | (simp_all; done) | (simp_all; intros; exfalso; omega), qBq⟩)
 refine (eqVote_any ⟨lb, lv⟩ ⟨lb', lv'⟩ _).mono ?_
 rintro e w0 ⟨rfl, b0⟩
 have x0 : w0.cell? ⟨w.heap.size, 0, none⟩ = some (.int .i64 con) := cK b0 (by simp [go_sem])
 have x1 : w0.cell? ⟨w.heap.size, 1, none⟩ = some (.int .i64 sh) := cK b0 (by simp [go_sem])
 have x2 : w0.cell? ⟨w.heap.size, 2, none⟩ = some (.int .i64 pr) := cK b0 (by simp [go_sem])
 have x3 : w0.cell? ⟨w.heap.size, 3, none⟩ = some (.int .i64 lb) := cK b0 (by simp [go_sem])
 have x4 : w0.cell? ⟨w.heap.size, 4, none⟩ = some (.int .i64 lv) := cK b0 (by simp [go_sem])
 have x5 : w0.cell? ⟨w.heap.size, 5, none⟩ = some (u1) := cK b0 (by simp [go_sem])
 have y0 : w0.cell? ⟨w.heap.size + 1, 0, none⟩ = some (.int .i64 con') := cK b0 (by simp [go_sem])
 have y1 : w0.cell? ⟨w.heap.size + 1, 1, none⟩ = some (.int .i64 sh') := cK b0 (by simp [go_sem])
 have y2 : w0.cell? ⟨w.heap.size + 1, 2, none⟩ = some (.int .i64 pr') := cK b0 (by simp [go_sem])
 have y3 : w0.cell? ⟨w.heap.size + 1, 3, none⟩ = some (.int .i64 lb') := cK b0 (by simp [go_sem])
 have y4 : w0.cell? ⟨w.heap.size + 1, 4, none⟩ = some (.int .i64 lv') := cK b0 (by simp [go_sem])
 have y5 : w0.cell? ⟨w.heap.size + 1, 5, none⟩ = some (v1) := cK b0 (by simp [go_sem])
 go_wp2_with fail
 all_goals try (go_ret; exact ⟨by first | (simp_all; done) | (simp_all; intros; exfalso; omega), qBq⟩)
 refine (eqVoteS_u _ _ cast cast' _ (votsR.below h1 (qBq)) (votsR.below k1 (qBq))).mono ?_
 rintro e w1 ⟨rfl, b1⟩
 go_wp2
 all_goals
  go_ret
  exact ⟨by first | (simp_all; done) | (simp_all; intros; exfalso; omega), qBq⟩
variable [DecidableEq Slt] [Inhabited Slt]
def sltsR : Rep (List Slt) := nRep sltR 139 6 lvSlt
def wtSlts (xs : List Slt) : Nat := wtL wtSlt xs
theorem slts_form {w : World} {v : Value} {xs : List Slt} (h : sltsR.V w v xs) : ∃ a c, v = .slice a xs.length c := by
 obtain ⟨a, c, rfl, _⟩ := h
 exact ⟨_, _, rfl⟩
theorem infoSlts : (Tryz.prog.info? 139).map (fun i => (i.zero, i.size, i.bytes)) = some (some (.agg #[.int .i64 0, .int .i64 0, .int .i64 0, .int .i64 0, .int .i64 0, .slice none 0 0]), 6, 64) := by kernel_rfl
theorem keepSlts {w w' : World} {a0 a1 a2 a3 a4 a5 a6 a7 a8 a9 a10 a11 : Addr} {x0 x1 x2 x3 x4 x5 x6 x7 x8 x9 x10 x11 : Value} (hb : Below w.heap.size w w') (g0 : w.cell? a0 = some x0) (g1 : w.cell? a1 = some x1) (g2 : w.cell? a2 = some x2) (g3 : w.cell? a3 = some x3) (g4 : w.cell? a4 = some x4) (g5 : w.cell? a5 = some x5) (g6 : w.cell? a6 = some x6) (g7 : w.cell? a7 = some x7) (g8 : w.cell? a8 = some x8) (g9 : w.cell? a9 = some x9) (g10 : w.cell? a10 = some x10) (g11 : w.cell? a11 = some x11) : Below w.heap.size w w' ∧ w'.cell? a0 = some x0 ∧ w'.cell? a1 = some x1 ∧ w'.cell? a2 = some x2 ∧ w'.cell? a3 = some x3 ∧ w'.cell? a4 = some x4 ∧ w'.cell? a5 = some x5 ∧ w'.cell? a6 = some x6 ∧ w'.cell? a7 = some x7 ∧ w'.cell? a8 = some x8 ∧ w'.cell? a9 = some x9 ∧ w'.cell? a10 = some x10 ∧ w'.cell? a11 = some x11 :=
 ⟨hb, cK hb g0, cK hb g1, cK hb g2, cK hb g3, cK hb g4, cK hb g5, cK hb g6, cK hb g7, cK hb g8, cK hb g9, cK hb g10, cK hb g11⟩
theorem eqSlotS_u (x y : Value) (xs ys : List Slt) (w : World) (hx : sltsR.V w x xs) (hy : sltsR.V w y ys) :
  Calls Tryz.prog 114 #[x, y] w fun e w' => e = .returned (.bool (decide (xs = ys))) ∧ Below w.heap.size w w' := by
 obtain ⟨ax, cx, rfl, hcx, hmx, hx⟩ := hx
 obtain ⟨ay, cy, rfl, hcy, hmy, hy⟩ := hy
 unfold maxLen at hmx hmy
 by_cases hl : ys.length = xs.length
 ·
  rw [hl] at hcy hy ⊢
  have HL : Hid (ys.length = xs.length) := hl
  clear hl
  generalize hn : xs.length = n at *
  have HN : Hid (xs.length = n) := hn
  clear hn
  go_enter Tryz.func114, Tryz.ntmps114
  go_wp2
  go_loopw [5] (fun i w' => ∃ k : Nat, k ≤ n ∧ i = .int .i64 k ∧ (∀ j, j < k → xs.getD j default = ys.getD j default) ∧ Below w.heap.size w w') (fun i _ => n - (intOf i).toNat)
  case atStart => exact ⟨0, Nat.zero_le _, rfl, fun j h => absurd h (Nat.not_lt_zero _), Below.refl _ _⟩
  case round =>
   obtain ⟨k, hk, rfl, hpre, hbl⟩ := hrel
   have HP : Hid (∀ j, j < k → xs.getD j default = ys.getD j default) := hpre
   clear hpre
   by_cases hlt : k < n
   ·
    obtain ⟨bx, ox, ux, rfl, _, p1, hvx⟩ := hx k hlt
    obtain ⟨b2, oy, uy, rfl, _, p2, hvy⟩ := hy k hlt
    obtain ⟨l1, hl1⟩ : ∃ l, l = xs.getD k default := ⟨_, rfl⟩
    obtain ⟨l2, hl2⟩ : ∃ l, l = ys.getD k default := ⟨_, rfl⟩
    rw [← hl1] at hvx
    rw [← hl2] at hvy
    have H1 : Hid (l1 = xs.getD k default) := hl1
    have H2 : Hid (l2 = ys.getD k default) := hl2
    have hvx' := hvx
    obtain ⟨ux1, rfl, _⟩ := hvx'
    have hvy' := hvy
    obtain ⟨uy1, rfl, _⟩ := hvy'
    have g0 : w.cell? ⟨bx, ox + k * 6, none⟩ = some (.int .i64 l1.con) := p1 0 (by omega)
    have g1 : w.cell? ⟨bx, ox + k * 6 + 1, none⟩ = some (.int .i64 l1.sh) := p1 1 (by omega)
    have g2 : w.cell? ⟨bx, ox + k * 6 + 2, none⟩ = some (.int .i64 l1.pr) := p1 2 (by omega)
    have g3 : w.cell? ⟨bx, ox + k * 6 + 3, none⟩ = some (.int .i64 l1.lb) := p1 3 (by omega)
    have g4 : w.cell? ⟨bx, ox + k * 6 + 4, none⟩ = some (.int .i64 l1.lv) := p1 4 (by omega)
    have g5 : w.cell? ⟨bx, ox + k * 6 + 5, none⟩ = some (ux1) := p1 5 (by omega)
    have g6 : w.cell? ⟨b2, oy + k * 6, none⟩ = some (.int .i64 l2.con) := p2 0 (by omega)
    have g7 : w.cell? ⟨b2, oy + k * 6 + 1, none⟩ = some (.int .i64 l2.sh) := p2 1 (by omega)
    have g8 : w.cell? ⟨b2, oy + k * 6 + 2, none⟩ = some (.int .i64 l2.pr) := p2 2 (by omega)
    have g9 : w.cell? ⟨b2, oy + k * 6 + 3, none⟩ = some (.int .i64 l2.lb) := p2 3 (by omega)
    have g10 : w.cell? ⟨b2, oy + k * 6 + 4, none⟩ = some (.int .i64 l2.lv) := p2 4 (by omega)
    have g11 : w.cell? ⟨b2, oy + k * 6 + 5, none⟩ = some (uy1) := p2 5 (by omega)
    clear hl1 hl2 hx hy p1 p2
    go_wp2
    go_region_held3 (fun w' => Below w.heap.size w w' ∧ w'.cell? ⟨bx, ox + k * 6, none⟩ = some (.int .i64 l1.con) ∧ w'.cell? ⟨bx, ox + k * 6 + 1, none⟩ = some (.int .i64 l1.sh) ∧ w'.cell? ⟨bx, ox + k * 6 + 2, none⟩ = some (.int .i64 l1.pr) ∧ w'.cell? ⟨bx, ox + k * 6 + 3, none⟩ = some (.int .i64 l1.lb) ∧ w'.cell? ⟨bx, ox + k * 6 + 4, none⟩ = some (.int .i64 l1.lv) ∧ w'.cell? ⟨bx, ox + k * 6 + 5, none⟩ = some (ux1) ∧ w'.cell? ⟨b2, oy + k * 6, none⟩ = some (.int .i64 l2.con) ∧ w'.cell? ⟨b2, oy + k * 6 + 1, none⟩ = some (.int .i64 l2.sh) ∧ w'.cell? ⟨b2, oy + k * 6 + 2, none⟩ = some (.int .i64 l2.pr) ∧ w'.cell? ⟨b2, oy + k * 6 + 3, none⟩ = some (.int .i64 l2.lb) ∧ w'.cell? ⟨b2, oy + k * 6 + 4, none⟩ = some (.int .i64 l2.lv) ∧ w'.cell? ⟨b2, oy + k * 6 + 5, none⟩ = some (uy1)) ((refine keepSlts ?_ g0 g1 g2 g3 g4 g5 g6 g7 g8 g9 g10 g11; (repeat (first | exact bR _ _ | assumption | refine bD ?_ | refine bA ?_ _ | refine bS ?_ (by assumption))))) (first | (go_at_call 173; refine (eqSlot_u (.agg #[.int .i64 l1.con, .int .i64 l1.sh, .int .i64 l1.pr, .int .i64 l1.lb, .int .i64 l1.lv, ux1]) (.agg #[.int .i64 l2.con, .int .i64 l2.sh, .int .i64 l2.pr, .int .i64 l2.lb, .int .i64 l2.lv, uy1]) l1 l2 _ (sltR.below hvx (by (repeat (first | exact bR _ _ | assumption | refine bD ?_ | refine bA ?_ _ | refine bS ?_ (by assumption))))) (sltR.below hvy (by (repeat (first | exact bR _ _ | assumption | refine bD ?_ | refine bA ?_ _ | refine bS ?_ (by assumption)))))).mono ?_; rintro e w' ⟨rfl, hb1⟩))
    rename_i hH
    have hB := hH.1
    clear hH
    go_wp2
    ·
     rename_i hle
     go_ret
     refine ⟨?_, hB⟩
     have : ¬ xs = ys := fun h => by
      have : l1 = l2 := by rw [H1.out, H2.out, h]
      simp [this] at hle
     simp [this]
    ·
     rename_i hle
     refine ⟨⟨k + 1, by omega, by go_num, fun j hj => ?_, hB⟩, by simp [intOf]; omega⟩
     by_cases hjk : j < k
     ·
      exact HP.out j hjk
     ·
      have : j = k := by omega
      subst this
      rw [← H1.out, ← H2.out]
      simpa using hle
   ·
    go_wp2; go_ret
    have : k = n := by omega
    subst this
    refine ⟨?_, hbl⟩
    have : xs = ys := rows_eq_of (by rw [HL.out, HN.out]) (by rw [HN.out]; exact HP.out)
    simp [this]
 ·
  go_enter Tryz.func114, Tryz.ntmps114
  have hl' : ((xs.length : Int) == (ys.length : Int)) = false := by simp; omega
  go_wp2; go_ret
  have : ¬ xs = ys := fun h => hl (by rw [h])
  exact ⟨by simp [this], Below.refl _ _⟩
theorem toSlotS_u (x : Value) (xs : List Slt) (w : World) (hx : sltsR.V w x xs) (hn : wtSlts xs ≤ 1048576) :
  Calls Tryz.prog 89 #[x] w fun e w' => ∃ v F, e = .returned v ∧ sltsR.O w' w.heap.size F v xs ∧ Below w.heap.size w w' := by
 obtain ⟨ax, cx, rfl, hcx, hmx, hx⟩ := hx
 unfold maxLen at hmx
 unfold wtSlts at hn
 have hlen : xs.length ≤ 1048576 := by unfold wtL at hn; omega
 have hW : ∀ k, k < xs.length → wtSlt (xs.getD k default) ≤ 1048576 := fun k hk => (wt_at hn hk).1
 obtain ⟨i0, hi, hz0, hz1, hz2⟩ := info_parts infoSlts
 obtain ⟨w1, hmk, hown, hgr⟩ := run_make_full (P := Tryz.prog) w w.heap.size 99 139 i0 _ 6 Tryz.underlying99 hi hz0 hz1 .i64 .i64 xs.length (by rw [hz2]; omega) (by unfold maxLen; omega) (Nat.le_refl _)
 have hbl0 : Below w.heap.size w w1 := (Below.refl _ _).grown hgr (Nat.le_refl _) (fun k h => by cases h)
 clear hn
 generalize hn' : xs.length = n at *
 have HN : Hid (xs.length = n) := hn'
 clear hn'
 go_enter Tryz.func89, Tryz.ntmps89
 go_wp2
 go_loopw [4] (fun i w' => ∃ (k : Nat) (cs : List Value) (us : Nat → Value) (fs : Nat → Nat → Prop), k ≤ n ∧ i = .int .i64 k ∧ PO sltR 139 6 lvSlt w' w.heap.size (.slice (some ⟨w.heap.size, 0, none⟩) n n) n k (fun i => xs.getD i default) cs us fs ∧ Below w.heap.size w w') (fun i _ => n - (intOf i).toNat)
 case atStart => exact ⟨0, _, fun _ => .int .i64 0, fun _ _ => False, Nat.zero_le _, rfl, ⟨hown, fun i h => by omega, fun i h => by omega, fun i h => by omega, fun i h => by omega, fun i j h => by omega⟩, hbl0⟩
 case round =>
  obtain ⟨k, cs, us, fs, hk, rfl, hp, hbl⟩ := hrel
  clear hown hmk hgr hbl0
  by_cases hlt : k < n
  ·
   obtain ⟨bx, ox, ux, rfl, _, p1, hvx⟩ := hx k hlt
   have hw := hW k hlt
   obtain ⟨l, hl⟩ : ∃ l, l = xs.getD k default := ⟨_, rfl⟩
   rw [← hl] at hvx hw
   have HL : Hid (l = xs.getD k default) := hl
   have hvx' := hvx
   obtain ⟨ux1, rfl, _⟩ := hvx'
   have g0 : w.cell? ⟨bx, ox + k * 6, none⟩ = some (.int .i64 l.con) := p1 0 (by omega)
   replace g0 := cK hbl g0
   have g1 : w.cell? ⟨bx, ox + k * 6 + 1, none⟩ = some (.int .i64 l.sh) := p1 1 (by omega)
   replace g1 := cK hbl g1
   have g2 : w.cell? ⟨bx, ox + k * 6 + 2, none⟩ = some (.int .i64 l.pr) := p1 2 (by omega)
   replace g2 := cK hbl g2
   have g3 : w.cell? ⟨bx, ox + k * 6 + 3, none⟩ = some (.int .i64 l.lb) := p1 3 (by omega)
   replace g3 := cK hbl g3
   have g4 : w.cell? ⟨bx, ox + k * 6 + 4, none⟩ = some (.int .i64 l.lv) := p1 4 (by omega)
   replace g4 := cK hbl g4
   have g5 : w.cell? ⟨bx, ox + k * 6 + 5, none⟩ = some (ux1) := p1 5 (by omega)
   replace g5 := cK hbl g5
   clear hx p1 hW hl
   go_wp2_with fail
   refine (toSlot_u (.agg #[.int .i64 l.con, .int .i64 l.sh, .int .i64 l.pr, .int .i64 l.lb, .int .i64 l.lv, ux1]) l _ (sltR.below hvx (by (repeat (first | exact bR _ _ | assumption | refine bD ?_ | refine bA ?_ _ | refine bS ?_ (by assumption))))) hw).mono ?_
   rintro e wa ⟨v1, F1, rfl, o1, b1⟩
   have ofm1 := sltR.ofO o1
   obtain ⟨x1_1, rfl, y1_1⟩ := ofm1
   obtain ⟨a1_1, n1_1, rfl⟩ := vots_form y1_1
   have ho1 := (hp.keep b1).row
   obtain ⟨y0, q0⟩ := owns_some ho1 (k * 6) (by omega)
   obtain ⟨y1, q1⟩ := owns_some ho1 (k * 6 + 1) (by omega)
   obtain ⟨y2, q2⟩ := owns_some ho1 (k * 6 + 2) (by omega)
   obtain ⟨y3, q3⟩ := owns_some ho1 (k * 6 + 3) (by omega)
   obtain ⟨y4, q4⟩ := owns_some ho1 (k * 6 + 4) (by omega)
   obtain ⟨y5, q5⟩ := owns_some ho1 (k * 6 + 5) (by omega)
   have hf := fun j => ho1.frozenAt j
   go_wp2
   have s0 := ho1.stored (k * 6) (.int .i64 l.con)
   have s1 := s0.1.stored (k * 6 + 1) (.int .i64 l.sh)
   have s2 := s1.1.stored (k * 6 + 2) (.int .i64 l.pr)
   have s3 := s2.1.stored (k * 6 + 3) (.int .i64 l.lb)
   have s4 := s3.1.stored (k * 6 + 4) (.int .i64 l.lv)
   have s5 := s4.1.stored (k * 6 + 5) (.slice a1_1 l.cast.length n1_1)
   have hrow : World.ownsRow _ w.heap.size 139 6 (.slice (some ⟨w.heap.size, 0, none⟩) n n) n (setRow cs (k * 6) [.int .i64 l.con, .int .i64 l.sh, .int .i64 l.pr, .int .i64 l.lb, .int .i64 l.lv, .slice a1_1 l.cast.length n1_1]) := s5.1
   have hcl := hp.row.1
   refine ⟨⟨k + 1, _, _, _, by omega, by go_num, hp.push (u := (.agg #[.int .i64 l.con, .int .i64 l.sh, .int .i64 l.pr, .int .i64 l.lb, .int .i64 l.lv, .slice a1_1 l.cast.length n1_1])) (F := F1) hbl.size b1 (by rw [← HL.out]; exact o1) rfl hrow ((((((Mod.of_grown s0.2).trans (Mod.of_grown s1.2)).trans (Mod.of_grown s2.2)).trans (Mod.of_grown s3.2)).trans (Mod.of_grown s4.2)).trans (Mod.of_grown s5.2)) ?_ ?_, ?_⟩, by simp [intOf]; omega⟩
   ·
    intro i hi j hj
    exact setRow_old _ _ _ _ (.inl (by omega))
   ·
    intro j hj
    exact setRow_new _ _ _ _ (by simp only [List.length_cons, List.length_nil]; omega) hj
   ·
    exact (((((((bS hbl b1).setCell (Nat.le_refl _) _).setCell (Nat.le_refl _) _).setCell (Nat.le_refl _) _).setCell (Nat.le_refl _) _).setCell (Nat.le_refl _) _).setCell (Nat.le_refl _) _)
  ·
   go_wp2; go_ret
   have hkn : k = n := by omega
   subst hkn
   have e := HN.out
   subst e
   exact ⟨_, _, rfl, ⟨cs, us, fs, hp, fun b => Iff.rfl⟩, hbl⟩
theorem szSlotS_u (x : Value) (xs : List Slt) (left : Int) (w : World) (hx : sltsR.V w x xs) (h0 : 0 ≤ left) (h1 : left ≤ 1048576) :
  Calls Tryz.prog 67 #[x, .int .i64 left] w fun e w' => e = .returned (.int .i64 (szLen left (wtSlts xs))) ∧ Below w.heap.size w w' := by
 obtain ⟨ax, cx, rfl, hcx, hmx, hx⟩ := hx
 unfold maxLen at hmx
 unfold wtSlts wtL
 have HT : Hid (∀ k, k < xs.length → cntTo wtSlt (k + 1) xs = cntTo wtSlt k xs + wtSlt (xs.getD k default) ∧ cntTo wtSlt (k + 1) xs ≤ cntTo wtSlt xs.length xs) :=
  fun k hk => ⟨cntTo_succ _ k xs hk, cntTo_le _ _ _ _ hk⟩
 generalize xs.length = n at *
 by_cases h : left < n
 ·
  have h' : left - (n : Int) < 0 := by omega
  clear hx
  go_enter Tryz.func67, Tryz.ntmps67
  go_wp2; go_ret
  exact ⟨by simp only [szLen]; rw [if_pos (by omega)]; rfl, Below.refl _ _⟩
 ·
  have h' : ¬ left - (n : Int) < 0 := by omega
  go_enter Tryz.func67, Tryz.ntmps67
  go_wp2
  go_loopw [1, 5] (fun l i w' => ∃ k : Nat, k ≤ n ∧ i = .int .i64 k ∧ l = .int .i64 (left - n - cntTo wtSlt k xs) ∧ 0 ≤ left - n - cntTo wtSlt k xs ∧ Below w.heap.size w w') (fun _ i _ => n - (intOf i).toNat)
  case atStart => exact ⟨0, Nat.zero_le _, rfl, by simp [cntTo], by simp [cntTo]; omega, Below.refl _ _⟩
  case round =>
   obtain ⟨k, hk, rfl, rfl, hpos, hbl⟩ := hrel
   by_cases hlt : k < n
   ·
    obtain ⟨bx, ox, ux, rfl, _, p1, hvx⟩ := hx k hlt
    obtain ⟨t2, t3⟩ := HT.out k hlt
    generalize xs.getD k default = l at *
    have hvx' := hvx
    obtain ⟨ux1, rfl, _⟩ := hvx'
    have g0 : w.cell? ⟨bx, ox + k * 6, none⟩ = some (.int .i64 l.con) := p1 0 (by omega)
    replace g0 := cK hbl g0
    have g1 : w.cell? ⟨bx, ox + k * 6 + 1, none⟩ = some (.int .i64 l.sh) := p1 1 (by omega)
    replace g1 := cK hbl g1
    have g2 : w.cell? ⟨bx, ox + k * 6 + 2, none⟩ = some (.int .i64 l.pr) := p1 2 (by omega)
    replace g2 := cK hbl g2
    have g3 : w.cell? ⟨bx, ox + k * 6 + 3, none⟩ = some (.int .i64 l.lb) := p1 3 (by omega)
    replace g3 := cK hbl g3
    have g4 : w.cell? ⟨bx, ox + k * 6 + 4, none⟩ = some (.int .i64 l.lv) := p1 4 (by omega)
    replace g4 := cK hbl g4
    have g5 : w.cell? ⟨bx, ox + k * 6 + 5, none⟩ = some (ux1) := p1 5 (by omega)
    replace g5 := cK hbl g5
    generalize hm : wtSlt l = m at *
    have HM : Hid (wtSlt l = m) := hm
    clear hx p1 hm
    generalize cntTo wtSlt k xs = c at *
    go_wp2_with fail
    refine (szSlot_u (.agg #[.int .i64 l.con, .int .i64 l.sh, .int .i64 l.pr, .int .i64 l.lb, .int .i64 l.lv, ux1]) l (left - n - c) _ (sltR.below hvx (by (repeat (first | exact bR _ _ | assumption | refine bD ?_ | refine bA ?_ _ | refine bS ?_ (by assumption))))) hpos (by omega)).mono ?_
    rintro e wa ⟨rfl, b1⟩
    rw [HM.out]
    go_wp2
    ·
     rename_i hneg
     go_ret
     refine ⟨?_, by (repeat (first | exact bR _ _ | assumption | refine bD ?_ | refine bA ?_ _ | refine bS ?_ (by assumption)))⟩
     have : szLen left ↑(n + cntTo wtSlt n xs) = -1 := by
      unfold szLen at hneg ⊢
      rw [if_pos (by split at hneg <;> omega)]
     rw [this]
     rfl
    ·
     rename_i hneg
     refine ⟨⟨k + 1, by omega, by go_num, ?_, ?_, by (repeat (first | exact bR _ _ | assumption | refine bD ?_ | refine bA ?_ _ | refine bS ?_ (by assumption)))⟩, by simp [intOf]; omega⟩
     ·
      congr 1
      unfold szLen at hneg ⊢
      split at hneg <;> omega
     ·
      unfold szLen at hneg
      split at hneg <;> omega
   ·
    go_wp2; go_ret
    have hkn : k = n := by omega
    subst hkn
    refine ⟨?_, hbl⟩
    have : szLen left ↑(k + cntTo wtSlt k xs) = left - k - cntTo wtSlt k xs := by
     unfold szLen
     rw [if_neg (by omega)]
     omega
    rw [this]
    rfl
structure Acc where
 slots : List Slt
variable [DecidableEq Acc] [Inhabited Acc]

def accR : Rep Acc where
 V := fun w v x => ∃ u1, v = .agg #[u1] ∧ sltsR.V w u1 x.slots
 O := fun w base F v x => ∃ u1 F1, v = .agg #[u1] ∧ sltsR.O w base F1 u1 x.slots ∧ (∀ b, F b ↔ (F1 b))
 below := fun h hb => by
  obtain ⟨u1, rfl, h1⟩ := h
  exact ⟨u1, rfl, sltsR.below h1 hb⟩
 ofO := fun h => by
  obtain ⟨u1, F1, rfl, h1, _⟩ := h
  exact ⟨u1, rfl, sltsR.ofO h1⟩
 mod := fun h hm hd => by
  obtain ⟨u1, F1, rfl, h1, hF⟩ := h
  exact ⟨u1, F1, rfl, sltsR.mod h1 hm (fun b hb => hd b ((hF b).2 hb)), hF⟩
 rng := fun h b hb => by
  obtain ⟨u1, F1, rfl, h1, hF⟩ := h
  rcases (hF b).1 hb with hb
  ·
   exact sltsR.rng h1 b hb
 base := fun h hb => by
  obtain ⟨u1, F1, rfl, h1, hF⟩ := h
  exact ⟨u1, F1, rfl, sltsR.base h1 hb, hF⟩
def wtAcc (x : Acc) : Nat := wtSlts x.slots
def lvAcc (v : Value) : List Value := match v with | .agg a => one (a.getD 0 (.int .i64 0)) | _ => []
theorem toAcceptor_u (x : Value) (d : Acc) (w : World) (hx : accR.V w x d) (hn : wtAcc d ≤ 1048576) :
  Calls Tryz.prog 43 #[x] w fun e w' => ∃ v F, e = .returned v ∧ accR.O w' w.heap.size F v d ∧ Below w.heap.size w w' := by
 obtain ⟨u1, rfl, h1⟩ := hx
 unfold wtAcc at hn
 go_enter Tryz.func43, Tryz.ntmps43
 go_wp2_with fail
 refine (toSlotS_u _ d.slots _ (sltsR.below h1 (qBq)) (by omega)).mono ?_
 rintro e w1 ⟨v1, F1, rfl, o1, b1⟩
 obtain ⟨a1, n1, rfl⟩ := slts_form (sltsR.ofO o1)
 obtain ⟨c1, f1⟩ := bcell b1
 have z1 := b1.size
 simp at z1
 replace o1 := sltsR.base (base' := w.heap.size + 3) o1 (by simp; try omega)
 go_wp2
 refine bodyPost_ret (v := .agg #[.slice a1 d.slots.length n1]) ?_ rfl ⟨_, fun b => F1 b, rfl, ⟨_, F1, rfl, sltsR.base (base := w.heap.size + 3) (by (repeat (first | assumption | refine Rep.set _ ?_ _ (by simp; omega) | refine Rep.set _ ?_ _ (by simp) | refine Rep.alloc _ ?_ _ | refine Rep.keep _ ?_ (by assumption)))) (by omega), fun b => Iff.rfl⟩, qBq⟩
 simp [results, Tryz.results43, go_sem, c1]
theorem szAcceptor_u (x : Value) (d : Acc) (left : Int) (w : World) (hx : accR.V w x d) (h0 : 0 ≤ left) (h1 : left ≤ 1048576) :
  Calls Tryz.prog 31 #[x, .int .i64 left] w fun e w' => e = .returned (.int .i64 (szLen left (wtAcc d))) ∧ Below w.heap.size w w' := by
 obtain ⟨u1, rfl, k1⟩ := hx
 go_enter Tryz.func31, Tryz.ntmps31
 go_wp2_with fail
 refine (szSlotS_u _ d.slots left _ (sltsR.below k1 (qBq)) h0 h1).mono ?_
 rintro e w1 ⟨rfl, b1⟩
 go_wp2
 ·
  rename_i h
  go_ret
  refine ⟨?_, qBq⟩
  rw [szLen_neg (n := wtSlts d.slots) (by omega) (wtAcc d) (by unfold wtAcc; omega)]
  rfl
 rename_i h
 go_ret
 exact ⟨rfl, qBq⟩
theorem eqAcceptor_u (x y : Value) (d d' : Acc) (w : World) (hx : accR.V w x d) (hy : accR.V w y d') :
  Calls Tryz.prog 60 #[x, y] w fun e w' => e = .returned (.bool (decide (d = d'))) ∧ Below w.heap.size w w' := by
 obtain ⟨u1, rfl, h1⟩ := hx
 obtain ⟨v1, rfl, k1⟩ := hy
 obtain ⟨slots⟩ := d
 obtain ⟨slots'⟩ := d'
 dsimp only at h1 k1
 go_enter Tryz.func60, Tryz.ntmps60
 go_wp2_with fail
 all_goals try (go_ret; exact ⟨by simp_all, qBq⟩)
 refine (eqSlotS_u _ _ slots slots' _ (sltsR.below h1 (qBq)) (sltsR.below k1 (qBq))).mono ?_
 rintro e w1 ⟨rfl, b1⟩
 go_wp2
 all_goals
  go_ret
  exact ⟨by simp_all, qBq⟩
variable [DecidableEq Acc] [Inhabited Acc]
def accsR : Rep (List Acc) := nRep accR 101 1 lvAcc
def wtAccs (xs : List Acc) : Nat := wtL wtAcc xs
theorem accs_form {w : World} {v : Value} {xs : List Acc} (h : accsR.V w v xs) : ∃ a c, v = .slice a xs.length c := by
 obtain ⟨a, c, rfl, _⟩ := h
 exact ⟨_, _, rfl⟩
theorem infoAccs : (Tryz.prog.info? 101).map (fun i => (i.zero, i.size, i.bytes)) = some (some (.agg #[.slice none 0 0]), 1, 24) := by kernel_rfl
theorem keepAccs {w w' : World} {a0 a1 : Addr} {x0 x1 : Value} (hb : Below w.heap.size w w') (g0 : w.cell? a0 = some x0) (g1 : w.cell? a1 = some x1) : Below w.heap.size w w' ∧ w'.cell? a0 = some x0 ∧ w'.cell? a1 = some x1 :=
 ⟨hb, cK hb g0, cK hb g1⟩
theorem eqAcceptorS_u (x y : Value) (xs ys : List Acc) (w : World) (hx : accsR.V w x xs) (hy : accsR.V w y ys) :
  Calls Tryz.prog 26 #[x, y] w fun e w' => e = .returned (.bool (decide (xs = ys))) ∧ Below w.heap.size w w' := by
 obtain ⟨ax, cx, rfl, hcx, hmx, hx⟩ := hx
 obtain ⟨ay, cy, rfl, hcy, hmy, hy⟩ := hy
 unfold maxLen at hmx hmy
 by_cases hl : ys.length = xs.length
 ·
  rw [hl] at hcy hy ⊢
  have HL : Hid (ys.length = xs.length) := hl
  clear hl
  generalize hn : xs.length = n at *
  have HN : Hid (xs.length = n) := hn
  clear hn
  go_enter Tryz.func26, Tryz.ntmps26
  go_wp2
  go_loopw [5] (fun i w' => ∃ k : Nat, k ≤ n ∧ i = .int .i64 k ∧ (∀ j, j < k → xs.getD j default = ys.getD j default) ∧ Below w.heap.size w w') (fun i _ => n - (intOf i).toNat)
  case atStart => exact ⟨0, Nat.zero_le _, rfl, fun j h => absurd h (Nat.not_lt_zero _), Below.refl _ _⟩
  case round =>
   obtain ⟨k, hk, rfl, hpre, hbl⟩ := hrel
   have HP : Hid (∀ j, j < k → xs.getD j default = ys.getD j default) := hpre
   clear hpre
   by_cases hlt : k < n
   ·
    obtain ⟨bx, ox, ux, rfl, _, p1, hvx⟩ := hx k hlt
    obtain ⟨b2, oy, uy, rfl, _, p2, hvy⟩ := hy k hlt
    obtain ⟨l1, hl1⟩ : ∃ l, l = xs.getD k default := ⟨_, rfl⟩
    obtain ⟨l2, hl2⟩ : ∃ l, l = ys.getD k default := ⟨_, rfl⟩
    rw [← hl1] at hvx
    rw [← hl2] at hvy
    have H1 : Hid (l1 = xs.getD k default) := hl1
    have H2 : Hid (l2 = ys.getD k default) := hl2
    have hvx' := hvx
    obtain ⟨ux1, rfl, _⟩ := hvx'
    have hvy' := hvy
    obtain ⟨uy1, rfl, _⟩ := hvy'
    have g0 : w.cell? ⟨bx, ox + k, none⟩ = some (ux1) := cells1 p1
    have g1 : w.cell? ⟨b2, oy + k, none⟩ = some (uy1) := cells1 p2
    clear hl1 hl2 hx hy p1 p2
    go_wp2
    go_region_held3 (fun w' => Below w.heap.size w w' ∧ w'.cell? ⟨bx, ox + k, none⟩ = some (ux1) ∧ w'.cell? ⟨b2, oy + k, none⟩ = some (uy1)) ((refine keepAccs ?_ g0 g1; (repeat (first | exact bR _ _ | assumption | refine bD ?_ | refine bA ?_ _ | refine bS ?_ (by assumption))))) (first | (go_at_call 60; refine (eqAcceptor_u (.agg #[ux1]) (.agg #[uy1]) l1 l2 _ (accR.below hvx (by (repeat (first | exact bR _ _ | assumption | refine bD ?_ | refine bA ?_ _ | refine bS ?_ (by assumption))))) (accR.below hvy (by (repeat (first | exact bR _ _ | assumption | refine bD ?_ | refine bA ?_ _ | refine bS ?_ (by assumption)))))).mono ?_; rintro e w' ⟨rfl, hb1⟩))
    rename_i hH
    have hB := hH.1
    clear hH
    go_wp2
    ·
     rename_i hle
     go_ret
     refine ⟨?_, hB⟩
     have : ¬ xs = ys := fun h => by
      have : l1 = l2 := by rw [H1.out, H2.out, h]
      simp [this] at hle
     simp [this]
    ·
     rename_i hle
     refine ⟨⟨k + 1, by omega, by go_num, fun j hj => ?_, hB⟩, by simp [intOf]; omega⟩
     by_cases hjk : j < k
     ·
      exact HP.out j hjk
     ·
      have : j = k := by omega
      subst this
      rw [← H1.out, ← H2.out]
      simpa using hle
   ·
    go_wp2; go_ret
    have : k = n := by omega
    subst this
    refine ⟨?_, hbl⟩
    have : xs = ys := rows_eq_of (by rw [HL.out, HN.out]) (by rw [HN.out]; exact HP.out)
    simp [this]
 ·
  go_enter Tryz.func26, Tryz.ntmps26
  have hl' : ((xs.length : Int) == (ys.length : Int)) = false := by simp; omega
  go_wp2; go_ret
  have : ¬ xs = ys := fun h => hl (by rw [h])
  exact ⟨by simp [this], Below.refl _ _⟩
theorem toAcceptorS_u (x : Value) (xs : List Acc) (w : World) (hx : accsR.V w x xs) (hn : wtAccs xs ≤ 1048576) :
  Calls Tryz.prog 18 #[x] w fun e w' => ∃ v F, e = .returned v ∧ accsR.O w' w.heap.size F v xs ∧ Below w.heap.size w w' := by
 obtain ⟨ax, cx, rfl, hcx, hmx, hx⟩ := hx
 unfold maxLen at hmx
 unfold wtAccs at hn
 have hlen : xs.length ≤ 1048576 := by unfold wtL at hn; omega
 have hW : ∀ k, k < xs.length → wtAcc (xs.getD k default) ≤ 1048576 := fun k hk => (wt_at hn hk).1
 obtain ⟨i0, hi, hz0, hz1, hz2⟩ := info_parts infoAccs
 obtain ⟨w1, hmk, hown, hgr⟩ := run_make_full (P := Tryz.prog) w w.heap.size 33 101 i0 _ 1 Tryz.underlying33 hi hz0 hz1 .i64 .i64 xs.length (by rw [hz2]; omega) (by unfold maxLen; omega) (Nat.le_refl _)
 have hbl0 : Below w.heap.size w w1 := (Below.refl _ _).grown hgr (Nat.le_refl _) (fun k h => by cases h)
 clear hn
 generalize hn' : xs.length = n at *
 have HN : Hid (xs.length = n) := hn'
 clear hn'
 go_enter Tryz.func18, Tryz.ntmps18
 go_wp2
 go_loopw [4] (fun i w' => ∃ (k : Nat) (cs : List Value) (us : Nat → Value) (fs : Nat → Nat → Prop), k ≤ n ∧ i = .int .i64 k ∧ PO accR 101 1 lvAcc w' w.heap.size (.slice (some ⟨w.heap.size, 0, none⟩) n n) n k (fun i => xs.getD i default) cs us fs ∧ Below w.heap.size w w') (fun i _ => n - (intOf i).toNat)
 case atStart => exact ⟨0, _, fun _ => .int .i64 0, fun _ _ => False, Nat.zero_le _, rfl, ⟨hown, fun i h => by omega, fun i h => by omega, fun i h => by omega, fun i h => by omega, fun i j h => by omega⟩, hbl0⟩
 case round =>
  obtain ⟨k, cs, us, fs, hk, rfl, hp, hbl⟩ := hrel
  clear hown hmk hgr hbl0
  by_cases hlt : k < n
  ·
   obtain ⟨bx, ox, ux, rfl, _, p1, hvx⟩ := hx k hlt
   have hw := hW k hlt
   obtain ⟨l, hl⟩ : ∃ l, l = xs.getD k default := ⟨_, rfl⟩
   rw [← hl] at hvx hw
   have HL : Hid (l = xs.getD k default) := hl
   have hvx' := hvx
   obtain ⟨ux1, rfl, _⟩ := hvx'
   have g0 : w.cell? ⟨bx, ox + k, none⟩ = some (ux1) := cells1 p1
   replace g0 := cK hbl g0
   clear hx p1 hW hl
   go_wp2_with fail
   refine (toAcceptor_u (.agg #[ux1]) l _ (accR.below hvx (by (repeat (first | exact bR _ _ | assumption | refine bD ?_ | refine bA ?_ _ | refine bS ?_ (by assumption))))) hw).mono ?_
   rintro e wa ⟨v1, F1, rfl, o1, b1⟩
   have ofm1 := accR.ofO o1
   obtain ⟨x1_1, rfl, y1_1⟩ := ofm1
   obtain ⟨a1_1, n1_1, rfl⟩ := slts_form y1_1
   have ho1 := (hp.keep b1).row
   obtain ⟨y0, q0⟩ := owns_some ho1 (k) (by omega)
   have hf := fun j => ho1.frozenAt j
   go_wp2
   have s0 := ho1.stored (k) (.slice a1_1 l.slots.length n1_1)
   have hcs : cs.set k (.slice a1_1 l.slots.length n1_1) = setRow cs (k * 1) [.slice a1_1 l.slots.length n1_1] := by rw [Nat.mul_one]; rfl
   have hrow := s0.1
   rw [hcs] at hrow
   have hcl := hp.row.1
   refine ⟨⟨k + 1, _, _, _, by omega, by go_num, hp.push (u := (.agg #[.slice a1_1 l.slots.length n1_1])) (F := F1) hbl.size b1 (by rw [← HL.out]; exact o1) rfl hrow (Mod.of_grown s0.2) ?_ ?_, ?_⟩, by simp [intOf]; omega⟩
   ·
    intro i hi j hj
    exact setRow_old _ _ _ _ (.inl (by omega))
   ·
    intro j hj
    exact setRow_new _ _ _ _ (by simp only [List.length_cons, List.length_nil]; omega) hj
   ·
    exact ((bS hbl b1).setCell (Nat.le_refl _) _)
  ·
   go_wp2; go_ret
   have hkn : k = n := by omega
   subst hkn
   have e := HN.out
   subst e
   exact ⟨_, _, rfl, ⟨cs, us, fs, hp, fun b => Iff.rfl⟩, hbl⟩
theorem szAcceptorS_u (x : Value) (xs : List Acc) (left : Int) (w : World) (hx : accsR.V w x xs) (h0 : 0 ≤ left) (h1 : left ≤ 1048576) :
  Calls Tryz.prog 11 #[x, .int .i64 left] w fun e w' => e = .returned (.int .i64 (szLen left (wtAccs xs))) ∧ Below w.heap.size w w' := by
 obtain ⟨ax, cx, rfl, hcx, hmx, hx⟩ := hx
 unfold maxLen at hmx
 unfold wtAccs wtL
 have HT : Hid (∀ k, k < xs.length → cntTo wtAcc (k + 1) xs = cntTo wtAcc k xs + wtAcc (xs.getD k default) ∧ cntTo wtAcc (k + 1) xs ≤ cntTo wtAcc xs.length xs) :=
  fun k hk => ⟨cntTo_succ _ k xs hk, cntTo_le _ _ _ _ hk⟩
 generalize xs.length = n at *
 by_cases h : left < n
 ·
  have h' : left - (n : Int) < 0 := by omega
  clear hx
  go_enter Tryz.func11, Tryz.ntmps11
  go_wp2; go_ret
  exact ⟨by simp only [szLen]; rw [if_pos (by omega)]; rfl, Below.refl _ _⟩
 ·
  have h' : ¬ left - (n : Int) < 0 := by omega
  go_enter Tryz.func11, Tryz.ntmps11
  go_wp2
  go_loopw [1, 5] (fun l i w' => ∃ k : Nat, k ≤ n ∧ i = .int .i64 k ∧ l = .int .i64 (left - n - cntTo wtAcc k xs) ∧ 0 ≤ left - n - cntTo wtAcc k xs ∧ Below w.heap.size w w') (fun _ i _ => n - (intOf i).toNat)
  case atStart => exact ⟨0, Nat.zero_le _, rfl, by simp [cntTo], by simp [cntTo]; omega, Below.refl _ _⟩
  case round =>
   obtain ⟨k, hk, rfl, rfl, hpos, hbl⟩ := hrel
   by_cases hlt : k < n
   ·
    obtain ⟨bx, ox, ux, rfl, _, p1, hvx⟩ := hx k hlt
    obtain ⟨t2, t3⟩ := HT.out k hlt
    generalize xs.getD k default = l at *
    have hvx' := hvx
    obtain ⟨ux1, rfl, _⟩ := hvx'
    have g0 : w.cell? ⟨bx, ox + k, none⟩ = some (ux1) := cells1 p1
    replace g0 := cK hbl g0
    generalize hm : wtAcc l = m at *
    have HM : Hid (wtAcc l = m) := hm
    clear hx p1 hm
    generalize cntTo wtAcc k xs = c at *
    go_wp2_with fail
    refine (szAcceptor_u (.agg #[ux1]) l (left - n - c) _ (accR.below hvx (by (repeat (first | exact bR _ _ | assumption | refine bD ?_ | refine bA ?_ _ | refine bS ?_ (by assumption))))) hpos (by omega)).mono ?_
    rintro e wa ⟨rfl, b1⟩
    rw [HM.out]
    go_wp2
    ·
     rename_i hneg
     go_ret
     refine ⟨?_, by (repeat (first | exact bR _ _ | assumption | refine bD ?_ | refine bA ?_ _ | refine bS ?_ (by assumption)))⟩
     have : szLen left ↑(n + cntTo wtAcc n xs) = -1 := by
      unfold szLen at hneg ⊢
      rw [if_pos (by split at hneg <;> omega)]
     rw [this]
     rfl
    ·
     rename_i hneg
     refine ⟨⟨k + 1, by omega, by go_num, ?_, ?_, by (repeat (first | exact bR _ _ | assumption | refine bD ?_ | refine bA ?_ _ | refine bS ?_ (by assumption)))⟩, by simp [intOf]; omega⟩
     ·
      congr 1
      unfold szLen at hneg ⊢
      split at hneg <;> omega
     ·
      unfold szLen at hneg
      split at hneg <;> omega
   ·
    go_wp2; go_ret
    have hkn : k = n := by omega
    subst hkn
    refine ⟨?_, hbl⟩
    have : szLen left ↑(k + cntTo wtAcc k xs) = left - k - cntTo wtAcc k xs := by
     unfold szLen
     rw [if_neg (by omega)]
     omega
    rw [this]
    rfl
end Go.Proofs.YtackhljepbhpgaaGreat

namespace Go.Proofs.YtackhljepbhpgaaGreat
open Go.RowKit
variable [DecidableEq Leg] [Inhabited Leg] [DecidableEq Vot] [Inhabited Vot]
attribute [local go_sem ↓] Go.wp_at_zero Go.wp_at_succ


structure Trr where
 con : Int
 sh : Int
 bal : Int
 val : Int
 frm : List Int
 olds : List Vot
variable [DecidableEq Trr] [Inhabited Trr]

def trrR : Rep Trr where
 V := fun w v x => ∃ u1 u2, v = .agg #[.int .i64 x.con, .int .i64 x.sh, .int .i64 x.bal, .int .i64 x.val, u1, u2] ∧ intsR.V w u1 x.frm ∧ votsR.V w u2 x.olds
 O := fun w base F v x => ∃ u1 u2 F1 F2, v = .agg #[.int .i64 x.con, .int .i64 x.sh, .int .i64 x.bal, .int .i64 x.val, u1, u2] ∧ intsR.O w base F1 u1 x.frm ∧ votsR.O w base F2 u2 x.olds ∧ (∀ b, F1 b → ¬ F2 b) ∧ (∀ b, F b ↔ (F1 b ∨ F2 b))
 below := fun h hb => by
  obtain ⟨u1, u2, rfl, h1, h2⟩ := h
  exact ⟨u1, u2, rfl, intsR.below h1 hb, votsR.below h2 hb⟩
 ofO := fun h => by
  obtain ⟨u1, u2, F1, F2, rfl, h1, h2, _⟩ := h
  exact ⟨u1, u2, rfl, intsR.ofO h1, votsR.ofO h2⟩
 mod := fun h hm hd => by
  obtain ⟨u1, u2, F1, F2, rfl, h1, h2, s12, hF⟩ := h
  exact ⟨u1, u2, F1, F2, rfl, intsR.mod h1 hm (fun b hb => hd b ((hF b).2 (.inl hb))), votsR.mod h2 hm (fun b hb => hd b ((hF b).2 (.inr hb))), s12, hF⟩
 rng := fun h b hb => by
  obtain ⟨u1, u2, F1, F2, rfl, h1, h2, s12, hF⟩ := h
  rcases (hF b).1 hb with hb | hb
  ·
   exact intsR.rng h1 b hb
  ·
   exact votsR.rng h2 b hb
 base := fun h hb => by
  obtain ⟨u1, u2, F1, F2, rfl, h1, h2, s12, hF⟩ := h
  exact ⟨u1, u2, F1, F2, rfl, intsR.base h1 hb, votsR.base h2 hb, s12, hF⟩
def wtTrr (x : Trr) : Nat := wtInts x.frm + wtVots x.olds
def lvTrr (v : Value) : List Value := match v with | .agg a => one (a.getD 0 (.int .i64 0)) ++ one (a.getD 1 (.int .i64 0)) ++ one (a.getD 2 (.int .i64 0)) ++ one (a.getD 3 (.int .i64 0)) ++ one (a.getD 4 (.int .i64 0)) ++ one (a.getD 5 (.int .i64 0)) | _ => []
theorem toTry_u (x : Value) (d : Trr) (w : World) (hx : trrR.V w x d) (hn : wtTrr d ≤ 1048576) :
  Calls Tryz.prog 132 #[x] w fun e w' => ∃ v F, e = .returned v ∧ trrR.O w' w.heap.size F v d ∧ Below w.heap.size w w' := by
 obtain ⟨u1, u2, rfl, h1, h2⟩ := hx
 unfold wtTrr at hn
 go_enter Tryz.func132, Tryz.ntmps132
 go_wp2_with fail
 refine (toInt64S_u _ d.frm _ (intsR.below h1 (qBq)) (by omega)).mono ?_
 rintro e w1 ⟨v1, F1, rfl, o1, b1⟩
 have hB1 : Below w.heap.size w w1 := bS (qBq) b1
 obtain ⟨a1, n1, rfl⟩ := ints_form (intsR.ofO o1)
 obtain ⟨c1, f1⟩ := bcell b1
 have z1 := b1.size
 simp at z1
 have l1 := fun b hb => intsR.rng o1 b hb
 simp at l1
 replace o1 := intsR.base (base' := w.heap.size + 3) o1 (by simp; try omega)
 have y0 : w1.cell? ⟨w.heap.size, 0, none⟩ = some (.int .i64 d.con) := cK b1 (by simp [go_sem])
 have y1 : w1.cell? ⟨w.heap.size, 1, none⟩ = some (.int .i64 d.sh) := cK b1 (by simp [go_sem])
 have y2 : w1.cell? ⟨w.heap.size, 2, none⟩ = some (.int .i64 d.bal) := cK b1 (by simp [go_sem])
 have y3 : w1.cell? ⟨w.heap.size, 3, none⟩ = some (.int .i64 d.val) := cK b1 (by simp [go_sem])
 have y4 : w1.cell? ⟨w.heap.size, 4, none⟩ = some (u1) := cK b1 (by simp [go_sem])
 have y5 : w1.cell? ⟨w.heap.size, 5, none⟩ = some (u2) := cK b1 (by simp [go_sem])
 have r0 : w1.cell? ⟨w.heap.size + 1, 0, none⟩ = some (.int .i64 0) := cK b1 (by simp [go_sem])
 have r1 : w1.cell? ⟨w.heap.size + 1, 1, none⟩ = some (.int .i64 0) := cK b1 (by simp [go_sem])
 have r2 : w1.cell? ⟨w.heap.size + 1, 2, none⟩ = some (.int .i64 0) := cK b1 (by simp [go_sem])
 have r3 : w1.cell? ⟨w.heap.size + 1, 3, none⟩ = some (.int .i64 0) := cK b1 (by simp [go_sem])
 have r4 : w1.cell? ⟨w.heap.size + 1, 4, none⟩ = some (.slice none 0 0) := cK b1 (by simp [go_sem])
 have r5 : w1.cell? ⟨w.heap.size + 1, 5, none⟩ = some (.slice none 0 0) := cK b1 (by simp [go_sem])
 have s0 : w1.cell? ⟨w.heap.size + 2, 0, none⟩ = some (.int .i64 d.con) := cK b1 (by simp [go_sem])
 have s1 : w1.cell? ⟨w.heap.size + 2, 1, none⟩ = some (.int .i64 d.sh) := cK b1 (by simp [go_sem])
 have s2 : w1.cell? ⟨w.heap.size + 2, 2, none⟩ = some (.int .i64 d.bal) := cK b1 (by simp [go_sem])
 have s3 : w1.cell? ⟨w.heap.size + 2, 3, none⟩ = some (.int .i64 d.val) := cK b1 (by simp [go_sem])
 have s4 : w1.cell? ⟨w.heap.size + 2, 4, none⟩ = some (.slice none 0 0) := cK b1 (by simp [go_sem])
 have s5 : w1.cell? ⟨w.heap.size + 2, 5, none⟩ = some (.slice none 0 0) := cK b1 (by simp [go_sem])
 have t1 : ∀ o, w1.frozen? ⟨w.heap.size + 1, o, none⟩ = false := fun o => by rw [f1 _ _ (by simp; try omega)]; simp [go_sem]
 have t2 : ∀ o, w1.frozen? ⟨w.heap.size + 2, o, none⟩ = false := fun o => by rw [f1 _ _ (by simp; try omega)]; simp [go_sem]
 clear c1 f1
 have x0 := y0
 have x1 := y1
 have x2 := y2
 have x3 := y3
 have x4 := y4
 have x5 := y5
 have q0 := r0
 have q1 := r1
 have q2 := r2
 have q3 := r3
 have q4 := r4
 have q5 := r5
 have p0 := s0
 have p1 := s1
 have p2 := s2
 have p3 := s3
 have p4 := s4
 have p5 := s5
 have qf := t1
 have pf := t2
 clear t1 t2 y0 y1 y2 y3 y4 y5 r0 r1 r2 r3 r4 r5 s0 s1 s2 s3 s4 s5
 clear b1
 go_wp2_with fail
 refine (toVoteS_u _ d.olds _ (votsR.below h2 (by (repeat (first | refine bset ?_ (by simp; omega) _ | refine bset ?_ (by simp) _ | refine bA ?_ _ | assumption)))) (by omega)).mono ?_
 rintro e w2 ⟨v2, F2, rfl, o2, b2⟩
 have hB2 : Below w.heap.size w w2 := bS (by (repeat (first | refine bset ?_ (by simp; omega) _ | refine bset ?_ (by simp) _ | refine bA ?_ _ | assumption))) b2
 obtain ⟨a2, n2, rfl⟩ := vots_form (votsR.ofO o2)
 obtain ⟨c2, f2⟩ := bcell b2
 have z2 := b2.size
 simp at z2
 have l2 := fun b hb => votsR.rng o2 b hb
 simp at l2
 replace o2 := votsR.base (base' := w.heap.size + 3) o2 (by simp; try omega)
 have hk1 : ∀ F v x, intsR.O w1 (w.heap.size + 3) F v x → intsR.O w2 (w.heap.size + 3) F v x := fun F v x o => intsR.keep (by (repeat (first | refine Rep.set _ ?_ _ (by simp; omega) | refine Rep.set _ ?_ _ (by simp) | refine Rep.alloc _ ?_ _ | assumption))) b2
 replace o1 := hk1 _ _ _ o1
 clear hk1
 have y0 : w2.cell? ⟨w.heap.size, 0, none⟩ = some (.int .i64 d.con) := cK b2 (by simp [go_sem, x0, x1, x2, x3, x4, x5, q0, q1, q2, q3, q4, q5, p0, p1, p2, p3, p4, p5])
 have y1 : w2.cell? ⟨w.heap.size, 1, none⟩ = some (.int .i64 d.sh) := cK b2 (by simp [go_sem, x0, x1, x2, x3, x4, x5, q0, q1, q2, q3, q4, q5, p0, p1, p2, p3, p4, p5])
 have y2 : w2.cell? ⟨w.heap.size, 2, none⟩ = some (.int .i64 d.bal) := cK b2 (by simp [go_sem, x0, x1, x2, x3, x4, x5, q0, q1, q2, q3, q4, q5, p0, p1, p2, p3, p4, p5])
 have y3 : w2.cell? ⟨w.heap.size, 3, none⟩ = some (.int .i64 d.val) := cK b2 (by simp [go_sem, x0, x1, x2, x3, x4, x5, q0, q1, q2, q3, q4, q5, p0, p1, p2, p3, p4, p5])
 have y4 : w2.cell? ⟨w.heap.size, 4, none⟩ = some (u1) := cK b2 (by simp [go_sem, x0, x1, x2, x3, x4, x5, q0, q1, q2, q3, q4, q5, p0, p1, p2, p3, p4, p5])
 have y5 : w2.cell? ⟨w.heap.size, 5, none⟩ = some (u2) := cK b2 (by simp [go_sem, x0, x1, x2, x3, x4, x5, q0, q1, q2, q3, q4, q5, p0, p1, p2, p3, p4, p5])
 have r0 : w2.cell? ⟨w.heap.size + 1, 0, none⟩ = some (.int .i64 0) := cK b2 (by simp [go_sem, x0, x1, x2, x3, x4, x5, q0, q1, q2, q3, q4, q5, p0, p1, p2, p3, p4, p5])
 have r1 : w2.cell? ⟨w.heap.size + 1, 1, none⟩ = some (.int .i64 0) := cK b2 (by simp [go_sem, x0, x1, x2, x3, x4, x5, q0, q1, q2, q3, q4, q5, p0, p1, p2, p3, p4, p5])
 have r2 : w2.cell? ⟨w.heap.size + 1, 2, none⟩ = some (.int .i64 0) := cK b2 (by simp [go_sem, x0, x1, x2, x3, x4, x5, q0, q1, q2, q3, q4, q5, p0, p1, p2, p3, p4, p5])
 have r3 : w2.cell? ⟨w.heap.size + 1, 3, none⟩ = some (.int .i64 0) := cK b2 (by simp [go_sem, x0, x1, x2, x3, x4, x5, q0, q1, q2, q3, q4, q5, p0, p1, p2, p3, p4, p5])
 have r4 : w2.cell? ⟨w.heap.size + 1, 4, none⟩ = some (.slice none 0 0) := cK b2 (by simp [go_sem, x0, x1, x2, x3, x4, x5, q0, q1, q2, q3, q4, q5, p0, p1, p2, p3, p4, p5])
 have r5 : w2.cell? ⟨w.heap.size + 1, 5, none⟩ = some (.slice none 0 0) := cK b2 (by simp [go_sem, x0, x1, x2, x3, x4, x5, q0, q1, q2, q3, q4, q5, p0, p1, p2, p3, p4, p5])
 have s0 : w2.cell? ⟨w.heap.size + 2, 0, none⟩ = some (.int .i64 d.con) := cK b2 (by simp [go_sem, x0, x1, x2, x3, x4, x5, q0, q1, q2, q3, q4, q5, p0, p1, p2, p3, p4, p5])
 have s1 : w2.cell? ⟨w.heap.size + 2, 1, none⟩ = some (.int .i64 d.sh) := cK b2 (by simp [go_sem, x0, x1, x2, x3, x4, x5, q0, q1, q2, q3, q4, q5, p0, p1, p2, p3, p4, p5])
 have s2 : w2.cell? ⟨w.heap.size + 2, 2, none⟩ = some (.int .i64 d.bal) := cK b2 (by simp [go_sem, x0, x1, x2, x3, x4, x5, q0, q1, q2, q3, q4, q5, p0, p1, p2, p3, p4, p5])
 have s3 : w2.cell? ⟨w.heap.size + 2, 3, none⟩ = some (.int .i64 d.val) := cK b2 (by simp [go_sem, x0, x1, x2, x3, x4, x5, q0, q1, q2, q3, q4, q5, p0, p1, p2, p3, p4, p5])
 have s4 : w2.cell? ⟨w.heap.size + 2, 4, none⟩ = some (.slice a1 d.frm.length n1) := cK b2 (by simp [go_sem, x0, x1, x2, x3, x4, x5, q0, q1, q2, q3, q4, q5, p0, p1, p2, p3, p4, p5])
 have s5 : w2.cell? ⟨w.heap.size + 2, 5, none⟩ = some (.slice none 0 0) := cK b2 (by simp [go_sem, x0, x1, x2, x3, x4, x5, q0, q1, q2, q3, q4, q5, p0, p1, p2, p3, p4, p5])
 have t1 : ∀ o, w2.frozen? ⟨w.heap.size + 1, o, none⟩ = false := fun o => by rw [f2 _ _ (by simp; try omega)]; simp [go_sem, qf]
 have t2 : ∀ o, w2.frozen? ⟨w.heap.size + 2, o, none⟩ = false := fun o => by rw [f2 _ _ (by simp; try omega)]; simp [go_sem, pf]
 clear x0 x1 x2 x3 x4 x5 q0 q1 q2 q3 q4 q5 p0 p1 p2 p3 p4 p5 qf pf
 clear c2 f2
 have x0 := y0
 have x1 := y1
 have x2 := y2
 have x3 := y3
 have x4 := y4
 have x5 := y5
 have q0 := r0
 have q1 := r1
 have q2 := r2
 have q3 := r3
 have q4 := r4
 have q5 := r5
 have p0 := s0
 have p1 := s1
 have p2 := s2
 have p3 := s3
 have p4 := s4
 have p5 := s5
 have qf := t1
 have pf := t2
 clear t1 t2 y0 y1 y2 y3 y4 y5 r0 r1 r2 r3 r4 r5 s0 s1 s2 s3 s4 s5
 clear b2 hB1
 go_wp2
 refine bodyPost_ret (v := .agg #[.int .i64 d.con, .int .i64 d.sh, .int .i64 d.bal, .int .i64 d.val, .slice a1 d.frm.length n1, .slice a2 d.olds.length n2]) ?_ rfl ⟨_, fun b => F1 b ∨ F2 b, rfl, ⟨_, _, F1, F2, rfl, intsR.base (base := w.heap.size + 3) (by (repeat (first | refine Rep.set _ ?_ _ (by simp; omega) | refine Rep.set _ ?_ _ (by simp) | refine Rep.alloc _ ?_ _ | assumption))) (by omega), votsR.base (base := w.heap.size + 3) (by (repeat (first | refine Rep.set _ ?_ _ (by simp; omega) | refine Rep.set _ ?_ _ (by simp) | refine Rep.alloc _ ?_ _ | assumption))) (by omega), fun b p q => by have := (l1 b p).2; have := (l2 b q).1; omega, fun b => Iff.rfl⟩, by (repeat (first | refine bset ?_ (by simp; omega) _ | refine bset ?_ (by simp) _ | refine bA ?_ _ | assumption))⟩
 simp [results, Tryz.results132, go_sem, q0, q1, q2, q3, q4, q5, p0, p1, p2, p3, p4, p5, qf, pf]
theorem szTry_u (x : Value) (d : Trr) (left : Int) (w : World) (hx : trrR.V w x d) (h0 : 0 ≤ left) (h1 : left ≤ 1048576) :
  Calls Tryz.prog 119 #[x, .int .i64 left] w fun e w' => e = .returned (.int .i64 (szLen left (wtTrr d))) ∧ Below w.heap.size w w' := by
 obtain ⟨u1, u2, rfl, k1, k2⟩ := hx
 go_enter Tryz.func119, Tryz.ntmps119
 go_wp2_with fail
 refine (szInt64S_u _ d.frm left _ (intsR.below k1 (qBq)) h0 h1).mono ?_
 rintro e w1 ⟨rfl, b1⟩
 have x0 : w1.cell? ⟨w.heap.size, 0, none⟩ = some (.int .i64 d.con) := cK b1 (by simp [go_sem])
 have x1 : w1.cell? ⟨w.heap.size, 1, none⟩ = some (.int .i64 d.sh) := cK b1 (by simp [go_sem])
 have x2 : w1.cell? ⟨w.heap.size, 2, none⟩ = some (.int .i64 d.bal) := cK b1 (by simp [go_sem])
 have x3 : w1.cell? ⟨w.heap.size, 3, none⟩ = some (.int .i64 d.val) := cK b1 (by simp [go_sem])
 have x4 : w1.cell? ⟨w.heap.size, 4, none⟩ = some (u1) := cK b1 (by simp [go_sem])
 have x5 : w1.cell? ⟨w.heap.size, 5, none⟩ = some (u2) := cK b1 (by simp [go_sem])
 go_wp2_with fail
 ·
  rename_i h
  go_ret
  refine ⟨?_, qBq⟩
  rw [szLen_neg (n := wtInts d.frm) (by omega) (wtTrr d) (by unfold wtTrr; omega)]
  rfl
 rename_i h
 refine (szVoteS_u _ d.olds (szLen left (wtInts d.frm : Nat)) _ (votsR.below k2 (qBq)) (by omega) (by have := szLen_le (n := wtInts d.frm) h0; omega)).mono ?_
 rintro e w2 ⟨rfl, b2⟩
 rw [szLen_add (n := wtInts d.frm) (by omega)]
 go_wp2
 ·
  rename_i h
  go_ret
  refine ⟨?_, qBq⟩
  rw [szLen_neg (n := wtInts d.frm + wtVots d.olds) (by first | omega | (rw [Int.natCast_add]; omega)) (wtTrr d) (by unfold wtTrr; omega)]
  rfl
 rename_i h
 go_ret
 exact ⟨rfl, qBq⟩
theorem eqTry_u (x y : Value) (d d' : Trr) (w : World) (hx : trrR.V w x d) (hy : trrR.V w y d') :
  Calls Tryz.prog 174 #[x, y] w fun e w' => e = .returned (.bool (decide (d = d'))) ∧ Below w.heap.size w w' := by
 obtain ⟨u1, u2, rfl, h1, h2⟩ := hx
 obtain ⟨v1, v2, rfl, k1, k2⟩ := hy
 obtain ⟨con, sh, bal, val, frm, olds⟩ := d
 obtain ⟨con', sh', bal', val', frm', olds'⟩ := d'
 dsimp only at h1 k1 h2 k2
 go_enter Tryz.func174, Tryz.ntmps174
 go_wp2_with fail
 all_goals try (go_ret; exact ⟨by simp_all, qBq⟩)
 refine (eqInt64S_u _ _ frm frm' _ (intsR.below h1 (qBq)) (intsR.below k1 (qBq))).mono ?_
 rintro e w1 ⟨rfl, b1⟩
 have x0 : w1.cell? ⟨w.heap.size, 0, none⟩ = some (.int .i64 con) := cK b1 (by simp [go_sem])
 have x1 : w1.cell? ⟨w.heap.size, 1, none⟩ = some (.int .i64 sh) := cK b1 (by simp [go_sem])
 have x2 : w1.cell? ⟨w.heap.size, 2, none⟩ = some (.int .i64 bal) := cK b1 (by simp [go_sem])
 have x3 : w1.cell? ⟨w.heap.size, 3, none⟩ = some (.int .i64 val) := cK b1 (by simp [go_sem])
 have x4 : w1.cell? ⟨w.heap.size, 4, none⟩ = some (u1) := cK b1 (by simp [go_sem])
 have x5 : w1.cell? ⟨w.heap.size, 5, none⟩ = some (u2) := cK b1 (by simp [go_sem])
 have y0 : w1.cell? ⟨w.heap.size + 1, 0, none⟩ = some (.int .i64 con') := cK b1 (by simp [go_sem])
 have y1 : w1.cell? ⟨w.heap.size + 1, 1, none⟩ = some (.int .i64 sh') := cK b1 (by simp [go_sem])
 have y2 : w1.cell? ⟨w.heap.size + 1, 2, none⟩ = some (.int .i64 bal') := cK b1 (by simp [go_sem])
 have y3 : w1.cell? ⟨w.heap.size + 1, 3, none⟩ = some (.int .i64 val') := cK b1 (by simp [go_sem])
 have y4 : w1.cell? ⟨w.heap.size + 1, 4, none⟩ = some (v1) := cK b1 (by simp [go_sem])
 have y5 : w1.cell? ⟨w.heap.size + 1, 5, none⟩ = some (v2) := cK b1 (by simp [go_sem])
 go_wp2_with fail
 all_goals try (go_ret; exact ⟨by simp_all, qBq⟩)
 refine (eqVoteS_u _ _ olds olds' _ (votsR.below h2 (qBq)) (votsR.below k2 (qBq))).mono ?_
 rintro e w2 ⟨rfl, b2⟩
 go_wp2
 all_goals
  go_ret
  exact ⟨by simp_all, qBq⟩
end Go.Proofs.YtackhljepbhpgaaGreat


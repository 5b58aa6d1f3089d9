import Derived.Test.YtncmdeijimgchaaGreatPrnRunBallotLaw5
import Derived.Test.YtncmdeijimgchaaGreatPrnRunBallotLaw1
import Derived.Deep.RegionHeld3
import Derived.Deep.DrawnRows
import Derived.Test.YtncmdeijimgchaaGreatPrnRunBallotLaw4

/-
  Rows of Acceptor. (Written by program: nest.py.)
-/
namespace Go.Proofs.YtncmdeijimgchaaGreat
open Go.RowKit
set_option linter.unusedSectionVars false
variable [DecidableEq Vot] [Inhabited Vot] [DecidableEq Slt] [Inhabited Slt] [DecidableEq Acc] [Inhabited Acc]
attribute [local go_sem ↓] Go.wp_at_zero Go.wp_at_succ

def accsR : Rep (List Acc) := nRep accR 67 1 lvAcc
def wtAccs (xs : List Acc) : Nat := wtL wtAcc xs
def cntAccs (xs : List Acc) : Nat := cntL cntElAcc xs
def mkAccs (k : Int) (xs : List Acc) : List Acc := mkL mkElAcc cntElAcc k xs
theorem accs_form {w : World} {v : Value} {xs : List Acc} (h : accsR.V w v xs) : ∃ a c, v = .slice a xs.length c := by
  obtain ⟨a, c, rfl, _⟩ := h
  exact ⟨_, _, rfl⟩
theorem accs_cnt (d : List Acc) : cntAccs d ≤ 7 * wtAccs d := cntL_le (fun x => acc_cntEl x) d
theorem infoAccs : (Tryz.prog.info? 67).map (fun i => (i.zero, i.size, i.bytes)) = some (some (.agg #[.slice none 0 0]), 1, 24) := by kernel_rfl
theorem keepAccs {w w' : World} {a0 a1 : Addr} {x0 x1 : Value} (hb : Below w.heap.size w w') (g0 : w.cell? a0 = some x0) (g1 : w.cell? a1 = some x1) : Below w.heap.size w w' ∧ w'.cell? a0 = some x0 ∧ w'.cell? a1 = some x1 :=
  ⟨hb, cell_keep hb g0, cell_keep hb g1⟩
set_option maxHeartbeats 1000000 in
theorem eqAcceptorS_u (x y : Value) (xs ys : List Acc) (w : World) (hx : accsR.V w x xs) (hy : accsR.V w y ys) :
    Calls Tryz.prog 11 #[x, y] w fun e w' => e = .returned (.bool (decide (xs = ys))) ∧ Below w.heap.size w w' := by
  obtain ⟨ax, cx, rfl, hcx, hmx, hx⟩ := hx
  obtain ⟨ay, cy, rfl, hcy, hmy, hy⟩ := hy
  unfold maxLen at hmx hmy
  by_cases hl : ys.length = xs.length
  · rw [hl] at hcy hy ⊢
    have HL : Hid (ys.length = xs.length) := hl
    clear hl
    generalize hn : xs.length = n at *
    have HN : Hid (xs.length = n) := hn
    clear hn
    go_enter Tryz.func11, Tryz.ntmps11
    go_wp2
    go_loopw [5] (fun i w' => ∃ k : Nat, k ≤ n ∧ i = .int .i64 k ∧ (∀ j, j < k → xs.getD j default = ys.getD j default) ∧ Below w.heap.size w w') (fun i _ => n - (intOf i).toNat)
    case atStart => exact ⟨0, Nat.zero_le _, rfl, fun j h => absurd h (Nat.not_lt_zero _), Below.refl _ _⟩
    case round =>
      obtain ⟨k, hk, rfl, hpre, hbl⟩ := hrel
      have HP : Hid (∀ j, j < k → xs.getD j default = ys.getD j default) := hpre
      clear hpre
      by_cases hlt : k < n
      · obtain ⟨bx, ox, ux, rfl, _, p1, hvx⟩ := hx k hlt
        obtain ⟨b2, oy, uy, rfl, _, p2, hvy⟩ := hy k hlt
        obtain ⟨l1, hl1⟩ : ∃ l, l = xs.getD k default := ⟨_, rfl⟩
        obtain ⟨l2, hl2⟩ : ∃ l, l = ys.getD k default := ⟨_, rfl⟩
        rw [← hl1] at hvx
        rw [← hl2] at hvy
        have H1 : Hid (l1 = xs.getD k default) := hl1
        have H2 : Hid (l2 = ys.getD k default) := hl2
        have hvx' := hvx
        obtain ⟨ux1, rfl, _⟩ := hvx'
        have hvy' := hvy
        obtain ⟨uy1, rfl, _⟩ := hvy'
        have g0 : w.cell? ⟨bx, ox + k, none⟩ = some (ux1) := cells1 p1
        have g1 : w.cell? ⟨b2, oy + k, none⟩ = some (uy1) := cells1 p2
        clear hl1 hl2 hx hy p1 p2
        go_wp2
        go_region_held3 (fun w' => Below w.heap.size w w' ∧ w'.cell? ⟨bx, ox + k, none⟩ = some (ux1) ∧ w'.cell? ⟨b2, oy + k, none⟩ = some (uy1)) ((refine keepAccs ?_ g0 g1; (repeat (first | exact Below.refl _ _ | assumption | refine Below.drew ?_ | refine balloc ?_ _ | refine bstep ?_ (by assumption))))) (first | (go_at_call 42; refine (eqAcceptor_u (.agg #[ux1]) (.agg #[uy1]) l1 l2 _ (accR.below hvx (by (repeat (first | exact Below.refl _ _ | assumption | refine Below.drew ?_ | refine balloc ?_ _ | refine bstep ?_ (by assumption))))) (accR.below hvy (by (repeat (first | exact Below.refl _ _ | assumption | refine Below.drew ?_ | refine balloc ?_ _ | refine bstep ?_ (by assumption)))))).mono ?_; rintro e w' ⟨rfl, hb1⟩))
        rename_i hH
        have hB := hH.1
        clear hH
        go_wp2
        · rename_i hle
          go_ret
          refine ⟨?_, hB⟩
          have : ¬ xs = ys := fun h => by
            have : l1 = l2 := by rw [H1.out, H2.out, h]
            simp [this] at hle
          simp [this]
        · rename_i hle
          refine ⟨⟨k + 1, by omega, by go_num, fun j hj => ?_, hB⟩, by simp [intOf]; omega⟩
          by_cases hjk : j < k
          · exact HP.out j hjk
          · have : j = k := by omega
            subst this
            rw [← H1.out, ← H2.out]
            simpa using hle
      · go_wp2
        go_ret
        have : k = n := by omega
        subst this
        refine ⟨?_, hbl⟩
        have : xs = ys := rows_eq_of (by rw [HL.out, HN.out]) (by rw [HN.out]; exact HP.out)
        simp [this]
  · go_enter Tryz.func11, Tryz.ntmps11
    have hl' : ((xs.length : Int) == (ys.length : Int)) = false := by simp; omega
    go_wp2
    go_ret
    have : ¬ xs = ys := fun h => hl (by rw [h])
    exact ⟨by simp [this], Below.refl _ _⟩
set_option maxHeartbeats 1000000 in
theorem toAcceptorS_u (x : Value) (xs : List Acc) (w : World) (hx : accsR.V w x xs) (hn : wtAccs xs ≤ 1048576) :
    Calls Tryz.prog 7 #[x] w fun e w' => ∃ v F, e = .returned v ∧ accsR.O w' w.heap.size F v xs ∧ Below w.heap.size w w' := by
  obtain ⟨ax, cx, rfl, hcx, hmx, hx⟩ := hx
  unfold maxLen at hmx
  unfold wtAccs at hn
  have hlen : xs.length ≤ 1048576 := by unfold wtL at hn; omega
  have hW : ∀ k, k < xs.length → wtAcc (xs.getD k default) ≤ 1048576 := fun k hk => (wt_at hn hk).1
  obtain ⟨i0, hi, hz0, hz1, hz2⟩ := info_parts infoAccs
  obtain ⟨w1, hmk, hown, hgr⟩ := run_make_full (P := Tryz.prog) w w.heap.size 25 67 i0 _ 1 Tryz.underlying25 hi hz0 hz1 .i64 .i64 xs.length (by rw [hz2]; omega) (by unfold maxLen; omega) (Nat.le_refl _)
  have hbl0 : Below w.heap.size w w1 := (Below.refl _ _).grown hgr (Nat.le_refl _) (fun k h => by cases h)
  clear hn
  generalize hn' : xs.length = n at *
  have HN : Hid (xs.length = n) := hn'
  clear hn'
  go_enter Tryz.func7, Tryz.ntmps7
  go_wp2
  go_loopw [4] (fun i w' => ∃ (k : Nat) (cs : List Value) (us : Nat → Value) (fs : Nat → Nat → Prop), k ≤ n ∧ i = .int .i64 k ∧ PO accR 67 1 lvAcc w' w.heap.size (.slice (some ⟨w.heap.size, 0, none⟩) n n) n k (fun i => xs.getD i default) cs us fs ∧ Below w.heap.size w w') (fun i _ => n - (intOf i).toNat)
  case atStart => exact ⟨0, _, fun _ => .int .i64 0, fun _ _ => False, Nat.zero_le _, rfl, ⟨hown, fun i h => by omega, fun i h => by omega, fun i h => by omega, fun i h => by omega, fun i j h => by omega⟩, hbl0⟩
  case round =>
    obtain ⟨k, cs, us, fs, hk, rfl, hp, hbl⟩ := hrel
    clear hown hmk hgr hbl0
    by_cases hlt : k < n
    · obtain ⟨bx, ox, ux, rfl, _, p1, hvx⟩ := hx k hlt
      have hw := hW k hlt
      obtain ⟨l, hl⟩ : ∃ l, l = xs.getD k default := ⟨_, rfl⟩
      rw [← hl] at hvx hw
      have HL : Hid (l = xs.getD k default) := hl
      have hvx' := hvx
      obtain ⟨ux1, rfl, _⟩ := hvx'
      have g0 : w.cell? ⟨bx, ox + k, none⟩ = some (ux1) := cells1 p1
      replace g0 := cell_keep hbl g0
      clear hx p1 hW hl
      go_wp2_with fail
      refine (toAcceptor_u (.agg #[ux1]) l _ (accR.below hvx (by (repeat (first | exact Below.refl _ _ | assumption | refine Below.drew ?_ | refine balloc ?_ _ | refine bstep ?_ (by assumption))))) hw).mono ?_
      rintro e wa ⟨v1, F1, rfl, o1, b1⟩
      have ofm1 := accR.ofO o1
      obtain ⟨x1_1, rfl, y1_1⟩ := ofm1
      obtain ⟨a1_1, n1_1, rfl⟩ := slts_form y1_1
      have ho1 := (hp.keep b1).row
      obtain ⟨y0, q0⟩ := owns_some ho1 (k) (by omega)
      have hf := fun j => ho1.frozenAt j
      go_wp2
      have s0 := ho1.stored (k) (.slice a1_1 l.slots.length n1_1)
      have hcs : cs.set k (.slice a1_1 l.slots.length n1_1) = setRow cs (k * 1) [.slice a1_1 l.slots.length n1_1] := by rw [Nat.mul_one]; rfl
      have hrow := s0.1
      rw [hcs] at hrow
      have hcl := hp.row.1
      refine ⟨⟨k + 1, _, _, _, by omega, by go_num, hp.push (u := (.agg #[.slice a1_1 l.slots.length n1_1])) (F := F1) hbl.size b1 (by rw [← HL.out]; exact o1) rfl hrow (Mod.of_grown s0.2) ?_ ?_, ?_⟩, by simp [intOf]; omega⟩
      · intro i hi j hj
        exact setRow_old _ _ _ _ (.inl (by omega))
      · intro j hj
        exact setRow_new _ _ _ _ (by simp only [List.length_cons, List.length_nil]; omega) hj
      · exact ((bstep hbl b1).setCell (Nat.le_refl _) _)
    · go_wp2
      go_ret
      have hkn : k = n := by omega
      subst hkn
      have e := HN.out
      subst e
      exact ⟨_, _, rfl, ⟨cs, us, fs, hp, fun b => Iff.rfl⟩, hbl⟩
set_option maxHeartbeats 1000000 in
theorem szAcceptorS_u (x : Value) (xs : List Acc) (left : Int) (w : World) (hx : accsR.V w x xs) (h0 : 0 ≤ left) (h1 : left ≤ 1048576) :
    Calls Tryz.prog 5 #[x, .int .i64 left] w fun e w' => e = .returned (.int .i64 (szLen left (wtAccs xs))) ∧ Below w.heap.size w w' := by
  obtain ⟨ax, cx, rfl, hcx, hmx, hx⟩ := hx
  unfold maxLen at hmx
  unfold wtAccs wtL
  have HT : Hid (∀ k, k < xs.length → cntTo wtAcc (k + 1) xs = cntTo wtAcc k xs + wtAcc (xs.getD k default) ∧ cntTo wtAcc (k + 1) xs ≤ cntTo wtAcc xs.length xs) :=
    fun k hk => ⟨cntTo_succ _ k xs hk, cntTo_le _ _ _ _ hk⟩
  generalize xs.length = n at *
  by_cases h : left < n
  · have h' : left - (n : Int) < 0 := by omega
    clear hx
    go_enter Tryz.func5, Tryz.ntmps5
    go_wp2
    go_ret
    exact ⟨by simp only [szLen]; rw [if_pos (by omega)]; rfl, Below.refl _ _⟩
  · have h' : ¬ left - (n : Int) < 0 := by omega
    go_enter Tryz.func5, Tryz.ntmps5
    go_wp2
    go_loopw [1, 5] (fun l i w' => ∃ k : Nat, k ≤ n ∧ i = .int .i64 k ∧ l = .int .i64 (left - n - cntTo wtAcc k xs) ∧ 0 ≤ left - n - cntTo wtAcc k xs ∧ Below w.heap.size w w') (fun _ i _ => n - (intOf i).toNat)
    case atStart => exact ⟨0, Nat.zero_le _, rfl, by simp [cntTo], by simp [cntTo]; omega, Below.refl _ _⟩
    case round =>
      obtain ⟨k, hk, rfl, rfl, hpos, hbl⟩ := hrel
      by_cases hlt : k < n
      · obtain ⟨bx, ox, ux, rfl, _, p1, hvx⟩ := hx k hlt
        obtain ⟨t2, t3⟩ := HT.out k hlt
        generalize xs.getD k default = l at *
        have hvx' := hvx
        obtain ⟨ux1, rfl, _⟩ := hvx'
        have g0 : w.cell? ⟨bx, ox + k, none⟩ = some (ux1) := cells1 p1
        replace g0 := cell_keep hbl g0
        generalize hm : wtAcc l = m at *
        have HM : Hid (wtAcc l = m) := hm
        clear hx p1 hm
        generalize cntTo wtAcc k xs = c at *
        go_wp2_with fail
        refine (szAcceptor_u (.agg #[ux1]) l (left - n - c) _ (accR.below hvx (by (repeat (first | exact Below.refl _ _ | assumption | refine Below.drew ?_ | refine balloc ?_ _ | refine bstep ?_ (by assumption))))) hpos (by omega)).mono ?_
        rintro e wa ⟨rfl, b1⟩
        rw [HM.out]
        go_wp2
        · rename_i hneg
          go_ret
          refine ⟨?_, by (repeat (first | exact Below.refl _ _ | assumption | refine Below.drew ?_ | refine balloc ?_ _ | refine bstep ?_ (by assumption)))⟩
          have : szLen left ↑(n + cntTo wtAcc n xs) = -1 := by
            unfold szLen at hneg ⊢
            rw [if_pos (by split at hneg <;> omega)]
          rw [this]
          rfl
        · rename_i hneg
          refine ⟨⟨k + 1, by omega, by go_num, ?_, ?_, by (repeat (first | exact Below.refl _ _ | assumption | refine Below.drew ?_ | refine balloc ?_ _ | refine bstep ?_ (by assumption)))⟩, by simp [intOf]; omega⟩
          · congr 1
            unfold szLen at hneg ⊢
            split at hneg <;> omega
          · unfold szLen at hneg
            split at hneg <;> omega
      · go_wp2
        go_ret
        have hkn : k = n := by omega
        subst hkn
        refine ⟨?_, hbl⟩
        have : szLen left ↑(k + cntTo wtAcc k xs) = left - k - cntTo wtAcc k xs := by
          unfold szLen
          rw [if_neg (by omega)]
          omega
        rw [this]
        rfl
set_option maxHeartbeats 1000000 in
theorem heldAcceptorS_u (v : Value) (xs : List Acc) (k : Int) (w : World) (hv : accsR.V w v (mkAccs k xs)) (hw : wtAccs xs ≤ 1048576) (hn : k + cntAccs xs ≤ 1073741824) (hk0 : 0 ≤ k) :
    Calls Tryz.prog 44 #[v, .int .i64 k] w fun r w' => r = .returned (.int .i64 (k + cntAccs xs)) ∧ Below w.heap.size w w' := by
  obtain ⟨a, cap, rfl, hnc, hcm, hc⟩ := hv
  unfold mkAccs at hnc hc ⊢
  rw [length_mkL] at hnc hc ⊢
  unfold maxLen at hcm
  have hW : ∀ k, k < xs.length → wtAcc (xs.getD k default) ≤ 1048576 := fun k hk => (wt_at hw hk).1
  unfold cntAccs cntL at hn ⊢
  have HT : Hid (∀ j, j < xs.length → (mkL mkElAcc cntElAcc k xs).getD j default = mkElAcc (k + cntTo cntElAcc j xs) (xs.getD j default) ∧ cntTo cntElAcc (j + 1) xs = cntTo cntElAcc j xs + cntElAcc (xs.getD j default) ∧ cntTo cntElAcc (j + 1) xs ≤ cntTo cntElAcc xs.length xs) :=
    fun j hj => ⟨getD_mkL _ _ _ _ _ hj, cntTo_succ _ j xs hj, cntTo_le _ _ _ _ hj⟩
  clear hw
  generalize xs.length = n at *
  go_enter Tryz.func44, Tryz.ntmps44
  go_wp2
  go_loopw [1, 5] (fun q i w' => ∃ j : Nat, j ≤ n ∧ i = .int .i64 j ∧ q = .int .i64 (k + cntTo cntElAcc j xs) ∧ Below w.heap.size w w') (fun _ i _ => n - (intOf i).toNat)
  case atStart => exact ⟨0, Nat.zero_le _, rfl, by simp [cntTo], Below.refl _ _⟩
  case round =>
    obtain ⟨j, hj, rfl, rfl, hbl⟩ := hrel
    by_cases hlt : j < n
    · obtain ⟨bx, ox, ux, rfl, _, p1, hvx⟩ := hc j hlt
      obtain ⟨t1, t2, t3⟩ := HT.out j hlt
      have hw1 := hW j hlt
      rw [t1] at hvx
      generalize xs.getD j default = l at *
      have tC : cntElAcc l = cntSlts l.slots := rfl
      rw [tC] at t2
      have tW : wtAcc l = wtSlts l.slots := rfl
      rw [tW] at hw1
      clear tC tW
      obtain ⟨q, hq⟩ : ∃ q, q = k + cntTo cntElAcc j xs := ⟨_, rfl⟩
      have hq0 : 0 ≤ q := by omega
      rw [← hq] at hvx ⊢
      have T2 : Hid (k + cntTo cntElAcc (j + 1) xs = q + cntSlts l.slots) := by show _ = _; omega
      have hq1 : q + cntSlts l.slots ≤ 1073741824 := by omega
      obtain ⟨ux1, rfl, hv1⟩ := hvx
      dsimp only [mkElAcc] at hv1
      have g0 : w.cell? ⟨bx, ox + j, none⟩ = some (ux1) := cells1 p1
      replace g0 := cell_keep hbl g0
      clear hc p1 t1 t2 t3 hW hq
      go_wp2_with fail
      refine (heldSlotS_u ux1 l.slots (q) _ (sltsR.below hv1 (by (repeat (first | exact Below.refl _ _ | assumption | refine Below.drew ?_ | refine balloc ?_ _ | refine bstep ?_ (by assumption))))) (by omega) (by omega) (by omega)).mono ?_
      rintro e wb1 ⟨rfl, b1⟩
      go_wp2
      refine ⟨⟨j + 1, by omega, by go_num, ?_, by (repeat (first | exact Below.refl _ _ | assumption | refine Below.drew ?_ | refine balloc ?_ _ | refine bstep ?_ (by assumption)))⟩, by simp [intOf]; omega⟩
      rw [T2.out]
    · go_wp2
      go_ret
      have hjn : j = n := by omega
      subst hjn
      exact ⟨rfl, hbl⟩
set_option maxHeartbeats 1000000 in
theorem markAcceptorS_u (v : Value) (xs : List Acc) (base : Nat) (F : Nat → Prop) (k : Int) (w : World) (ho : accsR.O w base F v xs) (hw : wtAccs xs ≤ 1048576) (hn : k + cntAccs xs ≤ 1073741824) (hk0 : 0 ≤ k) :
    Calls Tryz.prog 13 #[v, .int .i64 k] w fun r w' => r = .returned (.int .i64 (k + cntAccs xs)) ∧ accsR.O w' base F v (mkAccs k xs) ∧ Mod F w w' := by
  obtain ⟨cs, us, fs, hp, hF⟩ := ho
  have hW : ∀ k, k < xs.length → wtAcc (xs.getD k default) ≤ 1048576 := fun k hk => (wt_at hw hk).1
  unfold cntAccs cntL at hn ⊢
  have HT : Hid (∀ j, j < xs.length → (mkL mkElAcc cntElAcc k xs).getD j default = mkElAcc (k + cntTo cntElAcc j xs) (xs.getD j default) ∧ cntTo cntElAcc (j + 1) xs = cntTo cntElAcc j xs + cntElAcc (xs.getD j default) ∧ cntTo cntElAcc (j + 1) xs ≤ cntTo cntElAcc xs.length xs) :=
    fun j hj => ⟨getD_mkL _ _ _ _ _ hj, cntTo_succ _ j xs hj, cntTo_le _ _ _ _ hj⟩
  clear hw
  have hcap := hp.len
  obtain ⟨av, cv, hav⟩ := owns_form hp.row
  subst hav
  have HF : Hid (∀ b, F b ↔ ((Value.slice av xs.length cv).ownBlock = some b ∨ ∃ i, i < xs.length ∧ fs i b)) := hF
  have HM : Hid ((mkL mkElAcc cntElAcc k xs).length = xs.length) := length_mkL _ _ _ _
  clear hF
  generalize hxl : xs.length = n at *
  clear hxl
  go_enter Tryz.func13, Tryz.ntmps13
  go_wp2
  go_loopw [1, 5] (fun q i w' => ∃ (j : Nat) (cs : List Value) (us : Nat → Value), j ≤ n ∧ i = .int .i64 j ∧ q = .int .i64 (k + cntTo cntElAcc j xs) ∧ PO accR 67 1 lvAcc w' base (.slice av n cv) n n (fun i => if i < j then (mkL mkElAcc cntElAcc k xs).getD i default else xs.getD i default) cs us fs ∧ Mod F w w') (fun _ i _ => n - (intOf i).toNat)
  case atStart => exact ⟨0, cs, us, Nat.zero_le _, rfl, by simp [cntTo], hp.cast (fun i hi => by simp), Mod.refl _ _⟩
  case round =>
    clear hp
    obtain ⟨j, cs, us, hj, rfl, rfl, hp1, hm⟩ := hrel
    by_cases hlt : j < n
    · have he := hp1.el j hlt
      simp only [Nat.lt_irrefl, if_false] at he
      obtain ⟨g, rfl, hcl⟩ := hp1.at hlt hlt
      obtain ⟨t1, t2, t3⟩ := HT.out j hlt
      have hw1 := hW j hlt
      obtain ⟨l, hl⟩ : ∃ l, l = xs.getD j default := ⟨_, rfl⟩
      rw [← hl] at t1 t2 hw1 he
      have tC : cntElAcc l = cntSlts l.slots := rfl
      rw [tC] at t2
      have tW : wtAcc l = wtSlts l.slots := rfl
      rw [tW] at hw1
      clear tC tW
      obtain ⟨q, hq⟩ : ∃ q, q = k + cntTo cntElAcc j xs := ⟨_, rfl⟩
      have hq0 : 0 ≤ q := by omega
      rw [← hq] at t1 ⊢
      have T1 : Hid ((mkL mkElAcc cntElAcc k xs).getD j default = mkElAcc q l) := t1
      have T2 : Hid (k + cntTo cntElAcc (j + 1) xs = q + cntSlts l.slots) := by show _ = _; omega
      have hq1 : q + cntSlts l.slots ≤ 1073741824 := by omega
      obtain ⟨ux1, F1, hu, h1, hF⟩ := he
      rw [hu] at hcl
      have g0 : wr.cell? ⟨g, j, none⟩ = some (ux1) := by simpa [one, lvAcc] using hcl 0 (by omega)
      have hrow := hp1.row
      have hclen := hrow.1
      have hf := fun j => hrow.frozenAt j
      clear hl t1 t2 t3 hW hq hcl
      go_wp2_with fail
      refine (markSlotS_u ux1 l.slots base F1 (q) _ h1 (by omega) (by omega) (by omega)).mono ?_
      rintro e wb1 ⟨rfl, r1, m1⟩
      have rw1 := m1.owns hrow (fun b he hb => hp1.out j hlt b ((hF b).2 hb) he)
      have M1 := m1.mono (G := fun b => (Value.slice (some ⟨g, 0, none⟩) n cv).ownBlock = some b ∨ fs j b) (fun b hb => .inr ((hF b).2 hb))
      go_wp2
      have hq := hp1.turn (u := (.agg #[ux1])) (x := mkElAcc q l) hlt M1 ⟨ux1, F1, rfl, r1, hF⟩ rfl rw1 ?_ ?_
      · refine ⟨⟨j + 1, _, _, by omega, by go_num, by rw [T2.out], hq.cast fun i hi => ?_, hm.trans (M1.mono fun b hb => (HF.out b).2 ?_)⟩, by simp [intOf]; omega⟩
        · by_cases hij : i = j
          · subst hij
            rw [upd_at, if_pos (by omega)]
            exact T1.out
          · rw [upd_ne _ _ hij]
            by_cases h : i < j
            · rw [if_pos h, if_pos (by omega)]
            · rw [if_neg h, if_neg (by omega)]
        · rcases hb with hb | hb
          · exact .inl hb
          · exact .inr ⟨j, hlt, hb⟩
      · exact fun _ _ _ _ _ => rfl
      · intro o ho
        rw [← hu]
        exact hp1.cell j hlt o ho
    · go_wp2
      go_ret
      have hjn : j = n := by omega
      subst hjn
      refine ⟨rfl, ⟨cs, us, fs, ?_, ?_⟩, hm⟩
      · unfold mkAccs
        rw [HM.out]
        exact hp1.cast (fun i hi => by rw [if_pos hi])
      · unfold mkAccs
        rw [HM.out]
        exact HF.out
end Go.Proofs.YtncmdeijimgchaaGreat

/-
  AcceptorsResult. (Written by program: nest.py.)
-/
namespace Go.Proofs.YtncmdeijimgchaaGreat
open Go.RowKit
set_option linter.unusedSectionVars false
variable [DecidableEq Vot] [Inhabited Vot] [DecidableEq Slt] [Inhabited Slt] [DecidableEq Acc] [Inhabited Acc]
attribute [local go_sem ↓] Go.wp_at_zero Go.wp_at_succ

structure AccsR where
  code : Int
  value : Int
  accs : List Acc
variable [DecidableEq AccsR] [Inhabited AccsR]

def accsRR : Rep AccsR where
  V := fun w v x => ∃ u1, v = .agg #[.int .i64 x.code, .int .i64 x.value, u1] ∧ accsR.V w u1 x.accs
  O := fun w base F v x => ∃ u1 F1, v = .agg #[.int .i64 x.code, .int .i64 x.value, u1] ∧ accsR.O w base F1 u1 x.accs ∧ (∀ b, F b ↔ (F1 b))
  below := fun h hb => by
    obtain ⟨u1, rfl, h1⟩ := h
    exact ⟨u1, rfl, accsR.below h1 hb⟩
  ofO := fun h => by
    obtain ⟨u1, F1, rfl, h1, _⟩ := h
    exact ⟨u1, rfl, accsR.ofO h1⟩
  mod := fun h hm hd => by
    obtain ⟨u1, F1, rfl, h1, hF⟩ := h
    exact ⟨u1, F1, rfl, accsR.mod h1 hm (fun b hb => hd b ((hF b).2 hb)), hF⟩
  rng := fun h b hb => by
    obtain ⟨u1, F1, rfl, h1, hF⟩ := h
    rcases (hF b).1 hb with hb
    · exact accsR.rng h1 b hb
  base := fun h hb => by
    obtain ⟨u1, F1, rfl, h1, hF⟩ := h
    exact ⟨u1, F1, rfl, accsR.base h1 hb, hF⟩
def wtAccsR (x : AccsR) : Nat := wtAccs x.accs
def cntAccsR (x : AccsR) : Nat := cntAccs x.accs
def mkAccsR (k : Int) (x : AccsR) : AccsR := { x with accs := mkAccs k x.accs }
theorem accsR_form {w : World} {v : Value} {x : AccsR} (h : accsRR.V w v x) : ∃ a1 c1, v = .agg #[.int .i64 x.code, .int .i64 x.value, .slice a1 x.accs.length c1] := by
  obtain ⟨u1, rfl, h1⟩ := h
  obtain ⟨a1, c1, rfl⟩ := accs_form h1
  exact ⟨_, _, rfl⟩
theorem accsR_cnt (d : AccsR) : cntAccsR d ≤ 7 * wtAccsR d := by
  unfold cntAccsR wtAccsR
  have q1 := accs_cnt d.accs
  omega
set_option maxHeartbeats 1000000 in
theorem eqAcceptorsResult_u (x y : Value) (d d' : AccsR) (w : World) (hx : accsRR.V w x d) (hy : accsRR.V w y d') :
    Calls Tryz.prog 10 #[x, y] w fun e w' => e = .returned (.bool (decide (d = d'))) ∧ Below w.heap.size w w' := by
  obtain ⟨u1, rfl, h1⟩ := hx
  obtain ⟨v1, rfl, k1⟩ := hy
  obtain ⟨code, value, accs⟩ := d
  obtain ⟨code', value', accs'⟩ := d'
  dsimp only at h1 k1
  go_enter Tryz.func10, Tryz.ntmps10
  go_wp2_with fail
  all_goals try (go_ret; exact ⟨by simp_all, by (repeat (first | exact Below.refl _ _ | assumption | refine Below.drew ?_ | refine balloc ?_ _ | refine bset ?_ (by simp; omega) _ | refine bset ?_ (by simp) _ | refine bstep ?_ (by assumption)))⟩)
  refine (eqAcceptorS_u _ _ accs accs' _ (accsR.below h1 (by (repeat (first | exact Below.refl _ _ | assumption | refine Below.drew ?_ | refine balloc ?_ _ | refine bset ?_ (by simp; omega) _ | refine bset ?_ (by simp) _ | refine bstep ?_ (by assumption))))) (accsR.below k1 (by (repeat (first | exact Below.refl _ _ | assumption | refine Below.drew ?_ | refine balloc ?_ _ | refine bset ?_ (by simp; omega) _ | refine bset ?_ (by simp) _ | refine bstep ?_ (by assumption)))))).mono ?_
  rintro e w1 ⟨rfl, b1⟩
  go_wp2
  all_goals
    go_ret
    exact ⟨by simp_all, by (repeat (first | exact Below.refl _ _ | assumption | refine Below.drew ?_ | refine balloc ?_ _ | refine bset ?_ (by simp; omega) _ | refine bset ?_ (by simp) _ | refine bstep ?_ (by assumption)))⟩
set_option maxHeartbeats 1000000 in
theorem markAcceptorsResult_u (v : Value) (d : AccsR) (base : Nat) (F : Nat → Prop) (k : Int) (w : World) (ho : accsRR.O w base F v d) (hw : wtAccsR d ≤ 1048576) (hn : k + cntAccsR d ≤ 1073741824) (hk0 : 0 ≤ k) :
    Calls Tryz.prog 15 #[v, .int .i64 k] w fun r w' => r = .returned (.int .i64 (k + cntAccsR d)) ∧ accsRR.O w' base F v (mkAccsR k d) ∧ Mod F w w' := by
  obtain ⟨u1, F1, rfl, h1, hF⟩ := ho
  unfold wtAccsR at hw
  unfold cntAccsR at hn ⊢
  have HF : Hid (∀ b, F b ↔ (F1 b)) := hF
  clear hF
  go_enter Tryz.func15, Tryz.ntmps15
  go_wp2_with fail
  refine (markAcceptorS_u _ d.accs base F1 k _ (accsR.alloc h1 _) (by omega) (by omega) (by omega)).mono ?_
  rintro e w1 ⟨rfl, r1, m1⟩
  go_wp2
  go_ret
  refine ⟨?_, ⟨_, F1, rfl, r1, HF.out⟩, ((Mod.refl F w).alloc _).trans (m1.mono (fun b hb => (HF.out b).2 hb))⟩
  simp
  try omega
set_option maxHeartbeats 1000000 in
theorem heldAcceptorsResult_u (v : Value) (d : AccsR) (k : Int) (w : World) (hv : accsRR.V w v (mkAccsR k d)) (hw : wtAccsR d ≤ 1048576) (hn : k + cntAccsR d ≤ 1073741824) (hk0 : 0 ≤ k) :
    Calls Tryz.prog 16 #[v, .int .i64 k] w fun r w' => r = .returned (.int .i64 (k + cntAccsR d)) ∧ Below w.heap.size w w' := by
  obtain ⟨u1, rfl, h1⟩ := hv
  unfold wtAccsR at hw
  unfold cntAccsR at hn ⊢
  go_enter Tryz.func16, Tryz.ntmps16
  go_wp2_with fail
  refine (heldAcceptorS_u _ d.accs k _ (accsR.below h1 (by (repeat (first | exact Below.refl _ _ | assumption | refine Below.drew ?_ | refine balloc ?_ _ | refine bset ?_ (by simp; omega) _ | refine bset ?_ (by simp) _ | refine bstep ?_ (by assumption))))) (by omega) (by omega) (by omega)).mono ?_
  rintro e w1 ⟨rfl, b1⟩
  go_wp2
  go_ret
  refine ⟨?_, by (repeat (first | exact Below.refl _ _ | assumption | refine Below.drew ?_ | refine balloc ?_ _ | refine bset ?_ (by simp; omega) _ | refine bset ?_ (by simp) _ | refine bstep ?_ (by assumption)))⟩
  simp
  try omega
end Go.Proofs.YtncmdeijimgchaaGreat

/-
  SlotsResult. (Written by program: nest.py.)
-/
namespace Go.Proofs.YtncmdeijimgchaaGreat
open Go.RowKit
set_option linter.unusedSectionVars false
variable [DecidableEq Vot] [Inhabited Vot] [DecidableEq Slt] [Inhabited Slt]
attribute [local go_sem ↓] Go.wp_at_zero Go.wp_at_succ

structure SltsR where
  code : Int
  slots : List Slt
variable [DecidableEq SltsR] [Inhabited SltsR]

def sltsRR : Rep SltsR where
  V := fun w v x => ∃ u1, v = .agg #[.int .i64 x.code, u1] ∧ sltsR.V w u1 x.slots
  O := fun w base F v x => ∃ u1 F1, v = .agg #[.int .i64 x.code, u1] ∧ sltsR.O w base F1 u1 x.slots ∧ (∀ b, F b ↔ (F1 b))
  below := fun h hb => by
    obtain ⟨u1, rfl, h1⟩ := h
    exact ⟨u1, rfl, sltsR.below h1 hb⟩
  ofO := fun h => by
    obtain ⟨u1, F1, rfl, h1, _⟩ := h
    exact ⟨u1, rfl, sltsR.ofO h1⟩
  mod := fun h hm hd => by
    obtain ⟨u1, F1, rfl, h1, hF⟩ := h
    exact ⟨u1, F1, rfl, sltsR.mod h1 hm (fun b hb => hd b ((hF b).2 hb)), hF⟩
  rng := fun h b hb => by
    obtain ⟨u1, F1, rfl, h1, hF⟩ := h
    rcases (hF b).1 hb with hb
    · exact sltsR.rng h1 b hb
  base := fun h hb => by
    obtain ⟨u1, F1, rfl, h1, hF⟩ := h
    exact ⟨u1, F1, rfl, sltsR.base h1 hb, hF⟩
end Go.Proofs.YtncmdeijimgchaaGreat

/-
  Acceptors, in mathematics: their fault, the slot that is asked, a slot put in its place, what is answered.
-/
set_option linter.unusedVariables false
namespace Go.Proofs.YtncmdeijimgchaaGreat
open Go.RowKit
set_option linter.unusedSectionVars false
variable [DecidableEq Vot] [Inhabited Vot] [DecidableEq Slt] [Inhabited Slt] [DecidableEq SltR] [Inhabited SltR] [DecidableEq Bal] [Inhabited Bal] [DecidableEq Ledg] [Inhabited Ledg] [DecidableEq Leg] [Inhabited Leg] [DecidableEq Acc] [Inhabited Acc] [DecidableEq AccR] [Inhabited AccR] [DecidableEq AccsR] [Inhabited AccsR] [DecidableEq SltsR] [Inhabited SltsR]

def cmpZ (x y : Int) : Int := if x < y then -1 else if y < x then 1 else 0
def orZ (x y : Int) : Int := if x = 0 then y else x
def cmpS (x y : Slt) : Int := orZ (cmpZ x.con y.con) (cmpZ x.sh y.sh)
def aheadS (x y : Slt) : Bool := decide (cmpS x y < 0)
theorem cmpZ_lt {x y : Int} : cmpZ x y < 0 ↔ x < y := by unfold cmpZ; (repeat' split) <;> omega
theorem cmpZ_eq {x y : Int} : cmpZ x y = 0 ↔ x = y := by unfold cmpZ; (repeat' split) <;> omega
theorem cmpS_lt {x y : Slt} : cmpS x y < 0 ↔ x.con < y.con ∨ (x.con = y.con ∧ x.sh < y.sh) := by
  have h1 := cmpZ_lt (x := x.con) (y := y.con)
  have h2 := cmpZ_lt (x := x.sh) (y := y.sh)
  have h3 := cmpZ_eq (x := x.con) (y := y.con)
  unfold cmpS orZ
  split <;> omega
theorem cmpS_eq {x y : Slt} : cmpS x y = 0 ↔ x.con = y.con ∧ x.sh = y.sh := by
  have h2 := cmpZ_eq (x := x.sh) (y := y.sh)
  have h3 := cmpZ_eq (x := x.con) (y := y.con)
  unfold cmpS orZ
  split <;> omega
theorem aheadS_iff {x y : Slt} : aheadS x y = true ↔ x.con < y.con ∨ (x.con = y.con ∧ x.sh < y.sh) := by unfold aheadS; rw [decide_eq_true_eq]; exact cmpS_lt
theorem aheadS_no {x y : Slt} : aheadS x y = false ↔ ¬ (x.con < y.con ∨ (x.con = y.con ∧ x.sh < y.sh)) := by
  rw [← aheadS_iff]; simp
def accAt (xs : List Slt) (k : Nat) : Int := if sltFault (xs.getD k default) = 0 then (if k = 0 then 0 else if aheadS (xs.getD (k - 1) default) (xs.getD k default) = true then 0 else 1) else sltFault (xs.getD k default)
def accF (xs : List Slt) : Int := if 60 < xs.length then 2 else scanI (accAt xs) xs.length
theorem accF_many {xs : List Slt} (h : 60 < xs.length) : accF xs = 2 := by unfold accF; rw [if_pos h]
theorem accF_hit {xs : List Slt} {k : Nat} {c : Int} (h : ¬ 60 < xs.length) (hk : k < xs.length) (hs : scanI (accAt xs) k = 0) (hc : accAt xs k = c) (h0 : ¬ c = 0) : accF xs = c := by
  have e := scanI_hit hs (by rw [hc]; exact h0) _ hk
  unfold accF
  rw [if_neg h, e, hc]
theorem accF_end {xs : List Slt} (h : ¬ 60 < xs.length) (hs : scanI (accAt xs) xs.length = 0) : accF xs = 0 := by unfold accF; rw [if_neg h, hs]
theorem accAt_first {xs : List Slt} (h : sltFault (xs.getD 0 default) = 0) : accAt xs 0 = 0 := by unfold accAt; rw [if_pos h, if_pos rfl]
theorem accAt_ok {xs : List Slt} {p : Nat} (h : sltFault (xs.getD (p + 1) default) = 0) (h1 : aheadS (xs.getD p default) (xs.getD (p + 1) default) = true) : accAt xs (p + 1) = 0 := by
  unfold accAt
  rw [if_pos h, if_neg (by omega), Nat.add_sub_cancel, if_pos h1]
theorem accAt_form {xs : List Slt} {p : Nat} (h : sltFault (xs.getD (p + 1) default) = 0) (h1 : aheadS (xs.getD p default) (xs.getD (p + 1) default) = false) : accAt xs (p + 1) = 1 := by
  unfold accAt
  rw [if_pos h, if_neg (by omega), Nat.add_sub_cancel, h1]
  rfl
structure AccOk (xs : List Slt) : Prop where
  len : xs.length ≤ 60
  ok : ∀ k, k < xs.length → sltFault (xs.getD k default) = 0
  ord : ∀ i j, i < j → j < xs.length → aheadS (xs.getD i default) (xs.getD j default) = true
theorem aheadS_trans {x y z : Slt} (h1 : aheadS x y = true) (h2 : aheadS y z = true) : aheadS x z = true := by
  rw [aheadS_iff] at *
  omega
theorem accOk_of {xs : List Slt} (h : accF xs = 0) : AccOk xs := by
  unfold accF at h
  by_cases h6 : 60 < xs.length
  · rw [if_pos h6] at h; omega
  · rw [if_neg h6] at h
    have hk := scanI_zero h
    have hf : ∀ k, k < xs.length → sltFault (xs.getD k default) = 0 := fun k hk' => by
      have h1 := hk k hk'
      unfold accAt at h1
      split at h1
      · assumption
      · exact h1
    have hs : ∀ k, k + 1 < xs.length → aheadS (xs.getD k default) (xs.getD (k + 1) default) = true := fun k hk' => by
      have h1 := hk (k + 1) hk'
      cases e : aheadS (xs.getD k default) (xs.getD (k + 1) default) with
      | true => rfl
      | false => rw [accAt_form (hf _ hk') e] at h1; omega
    refine ⟨by omega, hf, fun i j hij hj => ?_⟩
    obtain ⟨q, rfl⟩ : ∃ q, j = i + 1 + q := ⟨j - (i + 1), by omega⟩
    clear hij
    induction q with
    | zero => exact hs i (by omega)
    | succ q ih => exact aheadS_trans (ih (by omega)) (hs (i + 1 + q) hj)
def sameS (x f : Slt) : Bool := decide (x.con = f.con) && decide (x.sh = f.sh)
def slotO (xs : List Slt) (f : Slt) : Slt := (xs.find? (fun x => sameS x f)).getD f
theorem sameS_iff {x f : Slt} : sameS x f = true ↔ x.con = f.con ∧ x.sh = f.sh := by simp [sameS]
theorem slotO_none {xs : List Slt} {f : Slt} (h : ∀ k, k < xs.length → sameS (xs.getD k default) f = false) : slotO xs f = f := by
  unfold slotO
  have e : xs.find? (fun x => sameS x f) = none := by
    rw [List.find?_eq_none]
    intro x hx
    obtain ⟨i, hi, rfl⟩ := List.getElem_of_mem hx
    have := h i hi
    rw [List.getD_eq_getElem?_getD, List.getElem?_eq_getElem hi] at this
    simpa using this
  rw [e]
  rfl
theorem slotO_at : ∀ {xs : List Slt} {f : Slt} {i : Nat}, i < xs.length → (∀ k, k < i → sameS (xs.getD k default) f = false) → sameS (xs.getD i default) f = true → slotO xs f = xs.getD i default
  | [], _, _, h, _, _ => by simp at h
  | x :: xs, f, 0, _, _, h => by
    have h' : sameS x f = true := by simpa using h
    unfold slotO
    rw [List.find?_cons, h']
    rfl
  | x :: xs, f, i + 1, hi, hk, h => by
    have h0 : sameS x f = false := by simpa using hk 0 (by omega)
    have ih := slotO_at (xs := xs) (f := f) (i := i) (by simpa using hi) (fun k hk' => by simpa using hk (k + 1) (by omega)) (by simpa using h)
    unfold slotO at ih ⊢
    rw [List.find?_cons, h0]
    simpa using ih
theorem slotO_mem (xs : List Slt) (f : Slt) : slotO xs f = f ∨ (∃ i, i < xs.length ∧ slotO xs f = xs.getD i default ∧ sameS (xs.getD i default) f = true) := by
  unfold slotO
  cases e : xs.find? (fun x => sameS x f) with
  | none => exact .inl rfl
  | some x =>
    have h1 := List.find?_some e
    have h2 := List.mem_of_find?_eq_some e
    obtain ⟨i, hi, hx⟩ := List.getElem_of_mem h2
    have hg : xs.getD i default = x := by rw [List.getD_eq_getElem?_getD, List.getElem?_eq_getElem hi, hx]; rfl
    exact .inr ⟨i, hi, hg.symm, by rw [hg]; exact h1⟩
def freS (c s : Int) : Slt := ⟨c, s, -1, -1, 0, []⟩
def idOk (c s : Int) : Bool := inB c 1 1000000000 && inB s 0 2
theorem newSlt_ok {c s : Int} (h : idOk c s = true) : newSlt c s = ⟨0, 0, 0, freS c s⟩ := by unfold idOk at h; unfold newSlt; rw [h]; rfl
theorem freS_ok {c s : Int} (h : idOk c s = true) : sltFault (freS c s) = 0 := by
  unfold idOk at h
  simp only [Bool.and_eq_true] at h
  have hr : sltRange (freS c s) = true := by unfold sltRange freS; simp only []; rw [h.1, h.2]; decide
  rw [sltF_end hr (by simp [freS]) (by simp [freS, scanI])]
  simp [freS, lastV, noV]
theorem slotO_ok {xs : List Slt} {c s : Int} (ha : AccOk xs) (h : idOk c s = true) : sltFault (slotO xs (freS c s)) = 0 := by
  rcases slotO_mem xs (freS c s) with e | ⟨i, hi, e, _⟩
  · rw [e]; exact freS_ok h
  · rw [e]; exact ha.ok i hi
def posS (s : Slt) : List Slt → Nat
  | [] => 0
  | x :: xs => if aheadS x s = true then posS s xs + 1 else 0
theorem posS_eq {s : Slt} : ∀ {xs : List Slt} {i : Nat}, i ≤ xs.length → (∀ k, k < i → aheadS (xs.getD k default) s = true) → (i < xs.length → aheadS (xs.getD i default) s = false) → posS s xs = i
  | [], i, hi, _, _ => by simp at hi; simp [posS, hi]
  | x :: xs, 0, _, _, h => by
    have : aheadS x s = false := by simpa using h (by simp)
    simp [posS, this]
  | x :: xs, i + 1, hi, h1, h2 => by
    have h0 : aheadS x s = true := by simpa using h1 0 (by omega)
    have ih := posS_eq (s := s) (xs := xs) (i := i) (by simpa using hi) (fun k hk => by simpa using h1 (k + 1) (by omega)) (fun h => by simpa using h2 (by simpa using h))
    simp [posS, h0, ih]
theorem posS_le (s : Slt) : ∀ xs : List Slt, posS s xs ≤ xs.length
  | [] => by simp [posS]
  | x :: xs => by
    have := posS_le s xs
    unfold posS
    split <;> simp <;> omega
def putS (xs : List Slt) (s : Slt) : List Slt := if posS s xs < xs.length ∧ aheadS s (xs.getD (posS s xs) default) = false then xs.set (posS s xs) s else xs.take (posS s xs) ++ [s] ++ xs.drop (posS s xs)
theorem putS_set {xs : List Slt} {s : Slt} {i : Nat} (h0 : posS s xs = i) (h1 : i < xs.length) (h2 : aheadS s (xs.getD i default) = false) : putS xs s = xs.set i s := by unfold putS; rw [h0, if_pos ⟨h1, h2⟩]
theorem putS_ins {xs : List Slt} {s : Slt} {i : Nat} (h0 : posS s xs = i) (h1 : ¬ (i < xs.length ∧ aheadS s (xs.getD i default) = false)) : putS xs s = xs.take i ++ [s] ++ xs.drop i := by unfold putS; rw [h0, if_neg h1]
theorem len_ins (xs : List Slt) (s : Slt) (i : Nat) : (xs.take i ++ [s] ++ xs.drop i).length = xs.length + 1 := by simp only [List.length_append, List.length_take, List.length_drop, List.length_cons, List.length_nil]; omega
theorem putS_len (xs : List Slt) (s : Slt) : (putS xs s).length ≤ xs.length + 1 := by
  unfold putS
  split
  · simp
  · rw [len_ins]; exact Nat.le_refl _
def errA (c : Int) : AccR := ⟨c, 0, 0, ⟨[]⟩⟩
def toldD (xs : List Slt) (r : SltR) : AccR := if r.code = 0 then (if 60 < (putS xs r.slot).length then errA 2 else ⟨0, r.ob, r.ov, ⟨putS xs r.slot⟩⟩) else errA r.code
def promAtD (xs : List Slt) (c s b : Int) : AccR := if accF xs = 0 then (if idOk c s = true then toldD xs (promD (slotO xs (freS c s)) b) else errA 3) else errA (accF xs)
def accAtD (xs : List Slt) (c s b v : Int) : AccR := if accF xs = 0 then (if idOk c s = true then toldD xs (accD (slotO xs (freS c s)) b v) else errA 3) else errA (accF xs)
theorem toldD_code {xs : List Slt} {r : SltR} (h : ¬ r.code = 0) : toldD xs r = errA r.code := by unfold toldD; rw [if_neg h]
theorem toldD_many {xs : List Slt} {r : SltR} (h : r.code = 0) (h1 : 60 < (putS xs r.slot).length) : toldD xs r = errA 2 := by unfold toldD; rw [if_pos h, if_pos h1]
theorem toldD_ok {xs : List Slt} {r : SltR} (h : r.code = 0) (h1 : ¬ 60 < (putS xs r.slot).length) : toldD xs r = ⟨0, r.ob, r.ov, ⟨putS xs r.slot⟩⟩ := by unfold toldD; rw [if_pos h, if_neg h1]
def listF (l : List Acc) : Int := if l.length < 1 ∨ 5 < l.length then 2 else scanI (fun k => accF (l.getD k default).slots) l.length
theorem listF_many {l : List Acc} (h : l.length < 1 ∨ 5 < l.length) : listF l = 2 := by unfold listF; rw [if_pos h]
theorem listF_hit {l : List Acc} {k : Nat} {c : Int} (h : ¬ (l.length < 1 ∨ 5 < l.length)) (hk : k < l.length) (hs : scanI (fun k => accF (l.getD k default).slots) k = 0) (hc : accF (l.getD k default).slots = c) (h0 : ¬ c = 0) : listF l = c := by
  have e := scanI_hit (f := fun k => accF (l.getD k default).slots) hs (by show ¬ accF _ = 0; rw [hc]; exact h0) _ hk
  unfold listF
  rw [if_neg h, e]
  exact hc
theorem listF_end {l : List Acc} (h : ¬ (l.length < 1 ∨ 5 < l.length)) (hs : scanI (fun k => accF (l.getD k default).slots) l.length = 0) : listF l = 0 := by unfold listF; rw [if_neg h, hs]
structure ListOk (l : List Acc) : Prop where
  lo : 1 ≤ l.length
  hi : l.length ≤ 5
  ok : ∀ k, k < l.length → accF (l.getD k default).slots = 0
theorem listOk_of {l : List Acc} (h : listF l = 0) : ListOk l := by
  unfold listF at h
  by_cases h1 : l.length < 1 ∨ 5 < l.length
  · rw [if_pos h1] at h; omega
  · rw [if_neg h1] at h
    exact ⟨by omega, by omega, scanI_zero h⟩
def slotsL (l : List Acc) (c s : Int) : List Slt := l.map (fun a => slotO a.slots (freS c s))
def slotsD (l : List Acc) (c s : Int) : SltsR := if listF l = 0 then (if idOk c s = true then ⟨0, slotsL l c s⟩ else ⟨3, []⟩) else ⟨listF l, []⟩
end Go.Proofs.YtncmdeijimgchaaGreat


import Derived.Test.YtdfapehonegeeaaGreatPrnCompactEngineLaw6
import Derived.Test.YtdfapehonegeeaaGreatPrnCompactEngineLaw1
import Derived.Deep.RegionHeld3
import Derived.Deep.DrawnRows
import Derived.Test.YtdfapehonegeeaaGreatPrnCompactEngineLaw10
import Derived.Test.YtdfapehonegeeaaGreatPrnCompactEngineLaw9
import Derived.Test.YtdfapehonegeeaaGreatPrnCompactEngineLaw3

/-
  Rows of []Row. (Written by program: nest.py.)
-/
namespace Go.Proofs.YtdfapehonegeeaaGreat
open Go.RowKit
set_option linter.unusedSectionVars false
variable [DecidableEq Rw] [Inhabited Rw]
attribute [local go_sem ↓] Go.wp_at_zero Go.wp_at_succ

def rowssR : Rep (List (List Rw)) := nRep rowsR 32 1 one
def wtRowss (xs : List (List Rw)) : Nat := wtL wtRows xs
def cntRowss (xs : List (List Rw)) : Nat := cntL cntRows xs
def mkRowss (k : Int) (xs : List (List Rw)) : List (List Rw) := mkL mkRows cntRows k xs
theorem rowss_form {w : World} {v : Value} {xs : List (List Rw)} (h : rowssR.V w v xs) : ∃ a c, v = .slice a xs.length c := by
  obtain ⟨a, c, rfl, _⟩ := h
  exact ⟨_, _, rfl⟩
theorem rowss_cnt (d : List (List Rw)) : cntRowss d ≤ 4 * wtRowss d := cntL_le (fun x => by have := rows_cnt x; omega) d
theorem infoRowss : (Tryz.prog.info? 32).map (fun i => (i.zero, i.size, i.bytes)) = some (some (.slice none 0 0), 1, 24) := by kernel_rfl
theorem keepRowss {w w' : World} {a0 a1 : Addr} {x0 x1 : Value} (hb : Below w.heap.size w w') (g0 : w.cell? a0 = some x0) (g1 : w.cell? a1 = some x1) : Below w.heap.size w w' ∧ w'.cell? a0 = some x0 ∧ w'.cell? a1 = some x1 :=
  ⟨hb, cell_keep hb g0, cell_keep hb g1⟩
set_option maxHeartbeats 1000000 in
theorem eqRowSS_u (x y : Value) (xs ys : List (List Rw)) (w : World) (hx : rowssR.V w x xs) (hy : rowssR.V w y ys) :
    Calls Tryz.prog 60 #[x, y] w fun e w' => e = .returned (.bool (decide (xs = ys))) ∧ Below w.heap.size w w' := by
  obtain ⟨ax, cx, rfl, hcx, hmx, hx⟩ := hx
  obtain ⟨ay, cy, rfl, hcy, hmy, hy⟩ := hy
  unfold maxLen at hmx hmy
  by_cases hl : ys.length = xs.length
  · rw [hl] at hcy hy ⊢
    have HL : Hid (ys.length = xs.length) := hl
    clear hl
    generalize hn : xs.length = n at *
    have HN : Hid (xs.length = n) := hn
    clear hn
    go_enter Tryz.func60, Tryz.ntmps60
    go_wp2
    go_loopw [5] (fun i w' => ∃ k : Nat, k ≤ n ∧ i = .int .i64 k ∧ (∀ j, j < k → xs.getD j default = ys.getD j default) ∧ Below w.heap.size w w') (fun i _ => n - (intOf i).toNat)
    case atStart => exact ⟨0, Nat.zero_le _, rfl, fun j h => absurd h (Nat.not_lt_zero _), Below.refl _ _⟩
    case round =>
      obtain ⟨k, hk, rfl, hpre, hbl⟩ := hrel
      have HP : Hid (∀ j, j < k → xs.getD j default = ys.getD j default) := hpre
      clear hpre
      by_cases hlt : k < n
      · obtain ⟨bx, ox, ux, rfl, _, p1, hvx⟩ := hx k hlt
        obtain ⟨b2, oy, uy, rfl, _, p2, hvy⟩ := hy k hlt
        obtain ⟨l1, hl1⟩ : ∃ l, l = xs.getD k default := ⟨_, rfl⟩
        obtain ⟨l2, hl2⟩ : ∃ l, l = ys.getD k default := ⟨_, rfl⟩
        rw [← hl1] at hvx
        rw [← hl2] at hvy
        have H1 : Hid (l1 = xs.getD k default) := hl1
        have H2 : Hid (l2 = ys.getD k default) := hl2
        have g0 : w.cell? ⟨bx, ox + k, none⟩ = some (ux) := cells1 p1
        have g1 : w.cell? ⟨b2, oy + k, none⟩ = some (uy) := cells1 p2
        clear hl1 hl2 hx hy p1 p2
        go_wp2
        go_region_held3 (fun w' => Below w.heap.size w w' ∧ w'.cell? ⟨bx, ox + k, none⟩ = some (ux) ∧ w'.cell? ⟨b2, oy + k, none⟩ = some (uy)) ((refine keepRowss ?_ g0 g1; (repeat (first | exact Below.refl _ _ | assumption | refine Below.drew ?_ | refine balloc ?_ _ | refine bstep ?_ (by assumption))))) (first | (go_at_call 59; refine (eqRowS_u (ux) (uy) l1 l2 _ (rowsR.below hvx (by (repeat (first | exact Below.refl _ _ | assumption | refine Below.drew ?_ | refine balloc ?_ _ | refine bstep ?_ (by assumption))))) (rowsR.below hvy (by (repeat (first | exact Below.refl _ _ | assumption | refine Below.drew ?_ | refine balloc ?_ _ | refine bstep ?_ (by assumption)))))).mono ?_; rintro e w' ⟨rfl, hb1⟩))
        rename_i hH
        have hB := hH.1
        clear hH
        go_wp2
        · rename_i hle
          go_ret
          refine ⟨?_, hB⟩
          have : ¬ xs = ys := fun h => by
            have : l1 = l2 := by rw [H1.out, H2.out, h]
            simp [this] at hle
          simp [this]
        · rename_i hle
          refine ⟨⟨k + 1, by omega, by go_num, fun j hj => ?_, hB⟩, by simp [intOf]; omega⟩
          by_cases hjk : j < k
          · exact HP.out j hjk
          · have : j = k := by omega
            subst this
            rw [← H1.out, ← H2.out]
            simpa using hle
      · go_wp2
        go_ret
        have : k = n := by omega
        subst this
        refine ⟨?_, hbl⟩
        have : xs = ys := rows_eq_of (by rw [HL.out, HN.out]) (by rw [HN.out]; exact HP.out)
        simp [this]
  · go_enter Tryz.func60, Tryz.ntmps60
    have hl' : ((xs.length : Int) == (ys.length : Int)) = false := by simp; omega
    go_wp2
    go_ret
    have : ¬ xs = ys := fun h => hl (by rw [h])
    exact ⟨by simp [this], Below.refl _ _⟩
set_option maxHeartbeats 1000000 in
theorem toRowSS_u (x : Value) (xs : List (List Rw)) (w : World) (hx : rowssR.V w x xs) (hn : wtRowss xs ≤ 1048576) :
    Calls Tryz.prog 50 #[x] w fun e w' => ∃ v F, e = .returned v ∧ rowssR.O w' w.heap.size F v xs ∧ Below w.heap.size w w' := by
  obtain ⟨ax, cx, rfl, hcx, hmx, hx⟩ := hx
  unfold maxLen at hmx
  unfold wtRowss at hn
  have hlen : xs.length ≤ 1048576 := by unfold wtL at hn; omega
  have hW : ∀ k, k < xs.length → wtRows (xs.getD k default) ≤ 1048576 := fun k hk => (wt_at hn hk).1
  obtain ⟨i0, hi, hz0, hz1, hz2⟩ := info_parts infoRowss
  obtain ⟨w1, hmk, hown, hgr⟩ := run_make_full (P := Tryz.prog) w w.heap.size 33 32 i0 _ 1 Tryz.underlying33 hi hz0 hz1 .i64 .i64 xs.length (by rw [hz2]; omega) (by unfold maxLen; omega) (Nat.le_refl _)
  have hbl0 : Below w.heap.size w w1 := (Below.refl _ _).grown hgr (Nat.le_refl _) (fun k h => by cases h)
  clear hn
  generalize hn' : xs.length = n at *
  have HN : Hid (xs.length = n) := hn'
  clear hn'
  go_enter Tryz.func50, Tryz.ntmps50
  go_wp2
  go_loopw [4] (fun i w' => ∃ (k : Nat) (cs : List Value) (us : Nat → Value) (fs : Nat → Nat → Prop), k ≤ n ∧ i = .int .i64 k ∧ PO rowsR 32 1 one w' w.heap.size (.slice (some ⟨w.heap.size, 0, none⟩) n n) n k (fun i => xs.getD i default) cs us fs ∧ Below w.heap.size w w') (fun i _ => n - (intOf i).toNat)
  case atStart => exact ⟨0, _, fun _ => .int .i64 0, fun _ _ => False, Nat.zero_le _, rfl, ⟨hown, fun i h => by omega, fun i h => by omega, fun i h => by omega, fun i h => by omega, fun i j h => by omega⟩, hbl0⟩
  case round =>
    obtain ⟨k, cs, us, fs, hk, rfl, hp, hbl⟩ := hrel
    clear hown hmk hgr hbl0
    by_cases hlt : k < n
    · obtain ⟨bx, ox, ux, rfl, _, p1, hvx⟩ := hx k hlt
      have hw := hW k hlt
      obtain ⟨l, hl⟩ : ∃ l, l = xs.getD k default := ⟨_, rfl⟩
      rw [← hl] at hvx hw
      have HL : Hid (l = xs.getD k default) := hl
      have g0 : w.cell? ⟨bx, ox + k, none⟩ = some (ux) := cells1 p1
      replace g0 := cell_keep hbl g0
      clear hx p1 hW hl
      go_wp2_with fail
      refine (toRowS_u (ux) l _ (rowsR.below hvx (by (repeat (first | exact Below.refl _ _ | assumption | refine Below.drew ?_ | refine balloc ?_ _ | refine bstep ?_ (by assumption))))) hw).mono ?_
      rintro e wa ⟨v1, F1, rfl, o1, b1⟩
      obtain ⟨a1, n1, rfl⟩ := rows_form (rowsR.ofO o1)
      have ho1 := (hp.keep b1).row
      obtain ⟨y0, q0⟩ := owns_some ho1 (k) (by omega)
      have hf := fun j => ho1.frozenAt j
      go_wp2
      have s0 := ho1.stored (k) (.slice a1 l.length n1)
      have hcs : cs.set k (.slice a1 l.length n1) = setRow cs (k * 1) [.slice a1 l.length n1] := by rw [Nat.mul_one]; rfl
      have hrow := s0.1
      rw [hcs] at hrow
      have hcl := hp.row.1
      refine ⟨⟨k + 1, _, _, _, by omega, by go_num, hp.push (u := (.slice a1 l.length n1)) (F := F1) hbl.size b1 (by rw [← HL.out]; exact o1) rfl hrow (Mod.of_grown s0.2) ?_ ?_, ?_⟩, by simp [intOf]; omega⟩
      · intro i hi j hj
        exact setRow_old _ _ _ _ (.inl (by omega))
      · intro j hj
        exact setRow_new _ _ _ _ (by simp only [List.length_cons, List.length_nil]; omega) hj
      · exact ((bstep hbl b1).setCell (Nat.le_refl _) _)
    · go_wp2
      go_ret
      have hkn : k = n := by omega
      subst hkn
      have e := HN.out
      subst e
      exact ⟨_, _, rfl, ⟨cs, us, fs, hp, fun b => Iff.rfl⟩, hbl⟩
set_option maxHeartbeats 1000000 in
theorem szRowSS_u (x : Value) (xs : List (List Rw)) (left : Int) (w : World) (hx : rowssR.V w x xs) (h0 : 0 ≤ left) (h1 : left ≤ 1048576) :
    Calls Tryz.prog 41 #[x, .int .i64 left] w fun e w' => e = .returned (.int .i64 (szLen left (wtRowss xs))) ∧ Below w.heap.size w w' := by
  obtain ⟨ax, cx, rfl, hcx, hmx, hx⟩ := hx
  unfold maxLen at hmx
  unfold wtRowss wtL
  have HT : Hid (∀ k, k < xs.length → cntTo wtRows (k + 1) xs = cntTo wtRows k xs + wtRows (xs.getD k default) ∧ cntTo wtRows (k + 1) xs ≤ cntTo wtRows xs.length xs) :=
    fun k hk => ⟨cntTo_succ _ k xs hk, cntTo_le _ _ _ _ hk⟩
  generalize xs.length = n at *
  by_cases h : left < n
  · have h' : left - (n : Int) < 0 := by omega
    clear hx
    go_enter Tryz.func41, Tryz.ntmps41
    go_wp2
    go_ret
    exact ⟨by simp only [szLen]; rw [if_pos (by omega)]; rfl, Below.refl _ _⟩
  · have h' : ¬ left - (n : Int) < 0 := by omega
    go_enter Tryz.func41, Tryz.ntmps41
    go_wp2
    go_loopw [1, 5] (fun l i w' => ∃ k : Nat, k ≤ n ∧ i = .int .i64 k ∧ l = .int .i64 (left - n - cntTo wtRows k xs) ∧ 0 ≤ left - n - cntTo wtRows k xs ∧ Below w.heap.size w w') (fun _ i _ => n - (intOf i).toNat)
    case atStart => exact ⟨0, Nat.zero_le _, rfl, by simp [cntTo], by simp [cntTo]; omega, Below.refl _ _⟩
    case round =>
      obtain ⟨k, hk, rfl, rfl, hpos, hbl⟩ := hrel
      by_cases hlt : k < n
      · obtain ⟨bx, ox, ux, rfl, _, p1, hvx⟩ := hx k hlt
        obtain ⟨t2, t3⟩ := HT.out k hlt
        generalize xs.getD k default = l at *
        have g0 : w.cell? ⟨bx, ox + k, none⟩ = some (ux) := cells1 p1
        replace g0 := cell_keep hbl g0
        generalize hm : wtRows l = m at *
        have HM : Hid (wtRows l = m) := hm
        clear hx p1 hm
        generalize cntTo wtRows k xs = c at *
        go_wp2_with fail
        refine (szRowS_u (ux) l (left - n - c) _ (rowsR.below hvx (by (repeat (first | exact Below.refl _ _ | assumption | refine Below.drew ?_ | refine balloc ?_ _ | refine bstep ?_ (by assumption))))) hpos (by omega)).mono ?_
        rintro e wa ⟨rfl, b1⟩
        rw [HM.out]
        go_wp2
        · rename_i hneg
          go_ret
          refine ⟨?_, by (repeat (first | exact Below.refl _ _ | assumption | refine Below.drew ?_ | refine balloc ?_ _ | refine bstep ?_ (by assumption)))⟩
          have : szLen left ↑(n + cntTo wtRows n xs) = -1 := by
            unfold szLen at hneg ⊢
            rw [if_pos (by split at hneg <;> omega)]
          rw [this]
          rfl
        · rename_i hneg
          refine ⟨⟨k + 1, by omega, by go_num, ?_, ?_, by (repeat (first | exact Below.refl _ _ | assumption | refine Below.drew ?_ | refine balloc ?_ _ | refine bstep ?_ (by assumption)))⟩, by simp [intOf]; omega⟩
          · congr 1
            unfold szLen at hneg ⊢
            split at hneg <;> omega
          · unfold szLen at hneg
            split at hneg <;> omega
      · go_wp2
        go_ret
        have hkn : k = n := by omega
        subst hkn
        refine ⟨?_, hbl⟩
        have : szLen left ↑(k + cntTo wtRows k xs) = left - k - cntTo wtRows k xs := by
          unfold szLen
          rw [if_neg (by omega)]
          omega
        rw [this]
        rfl
set_option maxHeartbeats 1000000 in
theorem heldRowSS_u (v : Value) (xs : List (List Rw)) (k : Int) (w : World) (hv : rowssR.V w v (mkRowss k xs)) (hw : wtRowss xs ≤ 1048576) (hn : k + cntRowss xs ≤ 1073741824) (hk0 : 0 ≤ k) :
    Calls Tryz.prog 135 #[v, .int .i64 k] w fun r w' => r = .returned (.int .i64 (k + cntRowss xs)) ∧ Below w.heap.size w w' := by
  obtain ⟨a, cap, rfl, hnc, hcm, hc⟩ := hv
  unfold mkRowss at hnc hc ⊢
  rw [length_mkL] at hnc hc ⊢
  unfold maxLen at hcm
  have hW : ∀ k, k < xs.length → wtRows (xs.getD k default) ≤ 1048576 := fun k hk => (wt_at hw hk).1
  unfold cntRowss cntL at hn ⊢
  have HT : Hid (∀ j, j < xs.length → (mkL mkRows cntRows k xs).getD j default = mkRows (k + cntTo cntRows j xs) (xs.getD j default) ∧ cntTo cntRows (j + 1) xs = cntTo cntRows j xs + cntRows (xs.getD j default) ∧ cntTo cntRows (j + 1) xs ≤ cntTo cntRows xs.length xs) :=
    fun j hj => ⟨getD_mkL _ _ _ _ _ hj, cntTo_succ _ j xs hj, cntTo_le _ _ _ _ hj⟩
  clear hw
  generalize xs.length = n at *
  go_enter Tryz.func135, Tryz.ntmps135
  go_wp2
  go_loopw [1, 5] (fun q i w' => ∃ j : Nat, j ≤ n ∧ i = .int .i64 j ∧ q = .int .i64 (k + cntTo cntRows j xs) ∧ Below w.heap.size w w') (fun _ i _ => n - (intOf i).toNat)
  case atStart => exact ⟨0, Nat.zero_le _, rfl, by simp [cntTo], Below.refl _ _⟩
  case round =>
    obtain ⟨j, hj, rfl, rfl, hbl⟩ := hrel
    by_cases hlt : j < n
    · obtain ⟨bx, ox, ux, rfl, _, p1, hvx⟩ := hc j hlt
      obtain ⟨t1, t2, t3⟩ := HT.out j hlt
      have hw1 := hW j hlt
      rw [t1] at hvx
      generalize xs.getD j default = l at *
      obtain ⟨q, hq⟩ : ∃ q, q = k + cntTo cntRows j xs := ⟨_, rfl⟩
      have hq0 : 0 ≤ q := by omega
      rw [← hq] at hvx ⊢
      have T2 : Hid (k + cntTo cntRows (j + 1) xs = q + cntRows l) := by show _ = _; omega
      have hq1 : q + cntRows l ≤ 1073741824 := by omega
      have hv1 := hvx
      have g0 : w.cell? ⟨bx, ox + j, none⟩ = some (ux) := cells1 p1
      replace g0 := cell_keep hbl g0
      clear hc p1 t1 t2 t3 hW hq
      go_wp2_with fail
      refine (heldRowS_u ux l (q) _ (rowsR.below hv1 (by (repeat (first | exact Below.refl _ _ | assumption | refine Below.drew ?_ | refine balloc ?_ _ | refine bstep ?_ (by assumption))))) (by omega) (by omega) (by omega)).mono ?_
      rintro e wb1 ⟨rfl, b1⟩
      go_wp2
      refine ⟨⟨j + 1, by omega, by go_num, ?_, by (repeat (first | exact Below.refl _ _ | assumption | refine Below.drew ?_ | refine balloc ?_ _ | refine bstep ?_ (by assumption)))⟩, by simp [intOf]; omega⟩
      rw [T2.out]
    · go_wp2
      go_ret
      have hjn : j = n := by omega
      subst hjn
      exact ⟨rfl, hbl⟩
set_option maxHeartbeats 1000000 in
theorem markRowSS_u (v : Value) (xs : List (List Rw)) (base : Nat) (F : Nat → Prop) (k : Int) (w : World) (ho : rowssR.O w base F v xs) (hw : wtRowss xs ≤ 1048576) (hn : k + cntRowss xs ≤ 1073741824) (hk0 : 0 ≤ k) :
    Calls Tryz.prog 83 #[v, .int .i64 k] w fun r w' => r = .returned (.int .i64 (k + cntRowss xs)) ∧ rowssR.O w' base F v (mkRowss k xs) ∧ Mod F w w' := by
  obtain ⟨cs, us, fs, hp, hF⟩ := ho
  have hW : ∀ k, k < xs.length → wtRows (xs.getD k default) ≤ 1048576 := fun k hk => (wt_at hw hk).1
  unfold cntRowss cntL at hn ⊢
  have HT : Hid (∀ j, j < xs.length → (mkL mkRows cntRows k xs).getD j default = mkRows (k + cntTo cntRows j xs) (xs.getD j default) ∧ cntTo cntRows (j + 1) xs = cntTo cntRows j xs + cntRows (xs.getD j default) ∧ cntTo cntRows (j + 1) xs ≤ cntTo cntRows xs.length xs) :=
    fun j hj => ⟨getD_mkL _ _ _ _ _ hj, cntTo_succ _ j xs hj, cntTo_le _ _ _ _ hj⟩
  clear hw
  have hcap := hp.len
  obtain ⟨av, cv, hav⟩ := owns_form hp.row
  subst hav
  have HF : Hid (∀ b, F b ↔ ((Value.slice av xs.length cv).ownBlock = some b ∨ ∃ i, i < xs.length ∧ fs i b)) := hF
  have HM : Hid ((mkL mkRows cntRows k xs).length = xs.length) := length_mkL _ _ _ _
  clear hF
  generalize hxl : xs.length = n at *
  clear hxl
  go_enter Tryz.func83, Tryz.ntmps83
  go_wp2
  go_loopw [1, 5] (fun q i w' => ∃ (j : Nat) (cs : List Value) (us : Nat → Value), j ≤ n ∧ i = .int .i64 j ∧ q = .int .i64 (k + cntTo cntRows j xs) ∧ PO rowsR 32 1 one w' base (.slice av n cv) n n (fun i => if i < j then (mkL mkRows cntRows k xs).getD i default else xs.getD i default) cs us fs ∧ Mod F w w') (fun _ i _ => n - (intOf i).toNat)
  case atStart => exact ⟨0, cs, us, Nat.zero_le _, rfl, by simp [cntTo], hp.cast (fun i hi => by simp), Mod.refl _ _⟩
  case round =>
    clear hp
    obtain ⟨j, cs, us, hj, rfl, rfl, hp1, hm⟩ := hrel
    by_cases hlt : j < n
    · have he := hp1.el j hlt
      simp only [Nat.lt_irrefl, if_false] at he
      obtain ⟨g, rfl, hcl⟩ := hp1.at hlt hlt
      obtain ⟨t1, t2, t3⟩ := HT.out j hlt
      have hw1 := hW j hlt
      obtain ⟨l, hl⟩ : ∃ l, l = xs.getD j default := ⟨_, rfl⟩
      rw [← hl] at t1 t2 hw1 he
      obtain ⟨q, hq⟩ : ∃ q, q = k + cntTo cntRows j xs := ⟨_, rfl⟩
      have hq0 : 0 ≤ q := by omega
      rw [← hq] at t1 ⊢
      have T1 : Hid ((mkL mkRows cntRows k xs).getD j default = mkRows q l) := t1
      have T2 : Hid (k + cntTo cntRows (j + 1) xs = q + cntRows l) := by show _ = _; omega
      have hq1 : q + cntRows l ≤ 1073741824 := by omega
      have h1 := he
      have g0 : wr.cell? ⟨g, j, none⟩ = some (us j) := by simpa [one] using hcl 0 (by omega)
      have hrow := hp1.row
      have hclen := hrow.1
      have hf := fun j => hrow.frozenAt j
      clear hl t1 t2 t3 hW hq hcl
      go_wp2_with fail
      refine (markRowS_u (us j) l base (fs j) (q) _ h1 (by omega) (by omega) (by omega)).mono ?_
      rintro e wb1 ⟨rfl, r1, m1⟩
      have rw1 := m1.owns hrow (fun b he hb => hp1.out j hlt b hb he)
      have M1 := m1.mono (G := fun b => (Value.slice (some ⟨g, 0, none⟩) n cv).ownBlock = some b ∨ fs j b) (fun b hb => .inr hb)
      go_wp2
      have hq := hp1.turn (u := (us j)) (x := mkRows q l) hlt M1 r1 rfl rw1 ?_ ?_
      · refine ⟨⟨j + 1, _, _, by omega, by go_num, by rw [T2.out], hq.cast fun i hi => ?_, hm.trans (M1.mono fun b hb => (HF.out b).2 ?_)⟩, by simp [intOf]; omega⟩
        · by_cases hij : i = j
          · subst hij
            rw [upd_at, if_pos (by omega)]
            exact T1.out
          · rw [upd_ne _ _ hij]
            by_cases h : i < j
            · rw [if_pos h, if_pos (by omega)]
            · rw [if_neg h, if_neg (by omega)]
        · rcases hb with hb | hb
          · exact .inl hb
          · exact .inr ⟨j, hlt, hb⟩
      · exact fun _ _ _ _ _ => rfl
      · exact hp1.cell j hlt
    · go_wp2
      go_ret
      have hjn : j = n := by omega
      subst hjn
      refine ⟨rfl, ⟨cs, us, fs, ?_, ?_⟩, hm⟩
      · unfold mkRowss
        rw [HM.out]
        exact hp1.cast (fun i hi => by rw [if_pos hi])
      · unfold mkRowss
        rw [HM.out]
        exact HF.out
end Go.Proofs.YtdfapehonegeeaaGreat

/-
  The specification's MergeTables.
-/
namespace Go.Proofs.YtdfapehonegeeaaGreat
open Go.RowKit
set_option linter.unusedSectionVars false
variable [DecidableEq Rw] [Inhabited Rw] [DecidableEq TabR] [Inhabited TabR]
set_option linter.unusedVariables false
set_option linter.unusedSimpArgs false
attribute [local go_sem ↓] Go.wp_at_zero Go.wp_at_succ

def flatTo (xss : Nat → List Rw) : Nat → List Rw
  | 0 => []
  | k + 1 => flatTo xss k ++ xss k
theorem flatTo_le (xss : Nat → List Rw) : ∀ {k n : Nat}, k ≤ n → flatTo xss k <+: flatTo xss n
  | k, 0, h => by
    have : k = 0 := by omega
    subst this
    exact List.prefix_refl _
  | k, n + 1, h => by
    by_cases e : k = n + 1
    · subst e; exact List.prefix_refl _
    · exact (flatTo_le xss (k := k) (n := n) (by omega)).trans (List.prefix_append _ _)
theorem putL_pos (ys : List Rw) (r : Rw) : 1 ≤ (putL ys r).length := by
  cases ys with
  | nil => simp [putL]
  | cons y ys =>
    have := (length_putL (y :: ys) r).1
    simp only [List.length_cons] at this
    omega
def OutS (W : World) (base : Nat) (v : Value) (ys : List Rw) : Prop := (∃ g c, v = .slice (some ⟨g, 0, none⟩) ys.length c) ∧ W.ownsRow base 76 4 v ys.length (rwsC ys)
theorem OutS.below {W W' : World} {base : Nat} {v : Value} {ys : List Rw} (h : OutS W base v ys) (hb : Below W.heap.size W W') : OutS W' base v ys := ⟨h.1, owns_below h.2 hb⟩
theorem l5Put_L (x : Value) (ys : List Rw) (r : Rw) (base : Nat) (w : World) (hx : OutS w base x ys) (hbase : base ≤ w.heap.size) (hn : ys.length ≤ 1048000) :
    Calls Tryz.prog 68 #[x, rowV r] w fun e w' => ∃ v, e = .returned v ∧ OutS w' base v (putL ys r) ∧ Below w.heap.size w w' := by
  obtain ⟨⟨g, c, rfl⟩, ho⟩ := hx
  refine (l5Put_any _ ys r w (RowsV_of_owns ho) ⟨g, 0, c, rfl⟩ hn).mono ?_
  rintro e w' ⟨k, hk, hb, h⟩
  rw [putK_putL ys r k hk] at h
  rcases h with ⟨e1, rfl⟩ | ⟨v, rfl, h⟩
  · rw [e1]
    exact ⟨_, rfl, ⟨⟨g, c, rfl⟩, owns_below ho hb⟩, hb⟩
  · refine ⟨v, rfl, ⟨?_, owns_base h hbase⟩, hb⟩
    have hp := putL_pos ys r
    rcases h.2 with ⟨_, h0⟩ | ⟨g', cap, _, rfl, _⟩
    · omega
    · exact ⟨g', cap, rfl⟩
set_option maxRecDepth 20000 in
set_option maxHeartbeats 4000000 in
theorem l5Merge_any (x : Value) (xss : List (List Rw)) (w : World) (hx : rowssR.V w x xss) (htot : (flatTo (fun i => xss.getD i default) xss.length).length ≤ 1000000) :
    Calls Tryz.prog 138 #[x] w fun e w' => ∃ v, e = .returned v ∧ OutS w' w.heap.size v (putsL [] (flatTo (fun i => xss.getD i default) xss.length)) ∧ Below w.heap.size w w' := by
  obtain ⟨ax, cx, rfl, hcx, hmx, hx⟩ := hx
  unfold maxLen at hmx
  obtain ⟨f, hf⟩ : ∃ f, f = fun i => xss.getD i default := ⟨_, rfl⟩
  have Hf : Hid (∀ i, f i = xss.getD i default) := fun i => by rw [hf]
  rw [← hf] at htot ⊢
  clear hf
  generalize hN : xss.length = n at *
  have HTOT : Hid ((flatTo f n).length ≤ 1000000) := htot
  clear hN htot
  go_enter Tryz.func138, Tryz.ntmps138
  go_wp2
  go_loopw [3, 4] (fun o i W => ∃ k : Nat, k ≤ n ∧ i = .int .i64 k ∧ Hid (OutS W w.heap.size o (putsL [] (flatTo f k))) ∧ Below w.heap.size w W) (fun _ i _ => n - (intOf i).toNat)
  case atStart =>
    refine ⟨0, Nat.zero_le _, rfl, ⟨⟨w.heap.size, 0, rfl⟩, ?_⟩, balloc (Below.refl _ _) _⟩
    exact World.ownsRow_lit (base := w.heap.size) (e := 76) (size := 4) w #[] 0 (Nat.le_refl _) (by unfold maxLen; omega) rfl
  case round =>
    obtain ⟨k, hk, rfl, HO, hbl⟩ := hrel
    have hi4 : (0 : Int) ≤ k := by omega
    by_cases hlt : k < n
    · obtain ⟨b, o, u, rfl, _, hc, hu⟩ := hx k hlt
      have g0 : w.cell? ⟨b, o + k, none⟩ = some u := cells1 hc
      have hX := hu.1
      rw [← Hf.out k] at hX
      clear hc hu hx
      obtain ⟨au, cu, rfl, hcu, hmu, hrow⟩ := hX
      unfold maxLen at hmu
      obtain ⟨l, hl⟩ : ∃ l, f k = l := ⟨_, rfl⟩
      have HL : Hid (f k = l) := hl
      rw [hl] at hrow g0 hcu
      generalize hM : l.length = m at *
      have HM : Hid (l.length = m) := hM
      clear hM hl
      have hi5 : (k : Int) < n := by omega
      have HS : Hid (∀ j, j < m → (putsL [] (flatTo f k ++ l.take j)).length ≤ 1048000) := fun j hj => by
        have h1 := (length_putsL (flatTo f k ++ l.take j) []).2
        have h2 := (flatTo_le f (k := k + 1) (n := n) (by omega)).length_le
        have h3 : flatTo f (k + 1) = flatTo f k ++ f k := rfl
        have h4 := HTOT.out
        rw [h3, HL.out, List.length_append] at h2
        simp only [List.length_nil, List.length_append, Nat.zero_add, List.length_take] at h1
        omega
      go_wp2
      go_loopw [3, 5] (fun o j W => ∃ q : Nat, q ≤ m ∧ j = .int .i64 q ∧ Hid (OutS W w.heap.size o (putsL [] (flatTo f k ++ l.take q))) ∧ Below w.heap.size w W) (fun _ j _ => m - (intOf j).toNat)
      case atStart =>
        refine ⟨0, Nat.zero_le _, rfl, ?_, hbl⟩
        rw [List.take_zero, List.append_nil]
        exact HO
      case round =>
        obtain ⟨q, hq, rfl, HO2, hbl2⟩ := hrel
        have hj4 : (0 : Int) ≤ q := by omega
        have g1 := cell_keep hbl2 g0
        by_cases hql : q < m
        · obtain ⟨b', o', rfl, hcq⟩ := hrow q hql
          obtain ⟨c0, c1, c2, c3⟩ := rowCells_below hbl2 hcq
          have hj5 : (q : Int) < m := by omega
          have HP : Hid (putsL [] (flatTo f k ++ l.take (q + 1)) = putL (putsL [] (flatTo f k ++ l.take q)) (l.getD q default)) := by
            rw [Hid, ← take_snoc l (by rw [HM.out]; exact hql), ← List.append_assoc, putsL_snoc]
          have hsz := HS.out q hql
          have hbs := hbl2.size
          obtain ⟨r, hr⟩ : ∃ r, l.getD q default = r := ⟨_, rfl⟩
          rw [hr] at c0 c1 c2 c3 HP
          clear hr
          have hO2 := HO2.out
          obtain ⟨⟨g, c, rfl⟩, _⟩ := hO2
          obtain ⟨ys, hys⟩ : ∃ ys, putsL [] (flatTo f k ++ l.take q) = ys := ⟨_, rfl⟩
          rw [hys] at HO2 HP hsz ⊢
          have HY : Hid (putsL [] (flatTo f k ++ l.take q) = ys) := hys
          clear hys
          obtain ⟨N1, hN1⟩ : ∃ N1, ys.length = N1 := ⟨_, rfl⟩
          have HN1 : Hid (ys.length = N1) := hN1
          have hC := l5Put_L (.slice (some ⟨g, 0, none⟩) ys.length c) ys r w.heap.size wr HO2.out hbs (by omega)
          rw [hN1] at hC ⊢
          clear hN1
          unfold rowV at hC
          go_wp2_with fail
          refine hC.mono ?_
          rintro e w4 ⟨v4, rfl, HO4, hb4⟩
          have hO4 := HO4.1
          obtain ⟨g4, c4, rfl⟩ := hO4
          have HO5 : Hid (OutS w4 w.heap.size (.slice (some ⟨g4, 0, none⟩) (putL ys r).length c4) (putL ys r)) := HO4
          clear HO4
          obtain ⟨N4, hN4⟩ : ∃ N4, (putL ys r).length = N4 := ⟨_, rfl⟩
          rw [hN4] at HO5 ⊢
          clear hN4 hC
          go_wp2
          refine ⟨⟨q + 1, by omega, by go_num, ?_, bstep hbl2 hb4⟩, by simp [intOf]; omega⟩
          rw [HP.out]
          exact HO5
        · obtain rfl : q = m := by omega
          have hj5 : ¬ ((q : Int) < q) := by omega
          have HE : Hid (OutS wr w.heap.size u3 (putsL [] (flatTo f (k + 1)))) := by
            have h3 : flatTo f (k + 1) = flatTo f k ++ f k := rfl
            have h5 := HO2.out
            rw [List.take_of_length_le (by rw [HM.out]; exact Nat.le_refl _)] at h5
            rw [Hid, h3, HL.out]
            exact h5
          go_wp2
          exact ⟨⟨k + 1, by omega, by go_num, HE, hbl2⟩, by simp [intOf]; omega⟩
    · obtain rfl : k = n := by omega
      have hi5 : ¬ ((k : Int) < k) := by omega
      have h1 := HO.out.1
      obtain ⟨g, c, rfl⟩ := h1
      obtain ⟨N4, hN4⟩ : ∃ N4, (putsL [] (flatTo f k)).length = N4 := ⟨_, rfl⟩
      rw [hN4] at HO ⊢
      clear hN4
      go_wp2
      go_ret
      exact ⟨_, rfl, HO.out, hbl⟩
end Go.Proofs.YtdfapehonegeeaaGreat

/-
  MergeTables: what is answered; the specification's side.
-/
namespace Go.Proofs.YtdfapehonegeeaaGreat
open Go.RowKit
set_option linter.unusedSectionVars false
variable [DecidableEq Rw] [Inhabited Rw] [DecidableEq TabR] [Inhabited TabR]
set_option linter.unusedVariables false
set_option linter.unusedSimpArgs false
attribute [local go_sem ↓] Go.wp_at_zero Go.wp_at_succ

theorem find_first : ∀ {l : List Int} {k : Nat}, k < l.length → (∀ j, j < k → l.getD j 0 = 0) → l.getD k 0 ≠ 0 → (l.find? (fun c => decide (c ≠ 0))).getD 0 = l.getD k 0
  | [], _, h, _, _ => by simp at h
  | x :: l, 0, _, _, hc => by
    have hx : x ≠ 0 := by simpa using hc
    rw [List.find?_cons_of_pos (by simpa using hx)]
    simp
  | x :: l, k + 1, hk, h, hc => by
    have hx : x = 0 := by simpa using h 0 (by omega)
    rw [List.find?_cons_of_neg (by simp [hx])]
    rw [find_first (l := l) (k := k) (by simpa using hk) (fun j hj => by simpa using h (j + 1) (by omega)) (by simpa using hc)]
    simp
theorem find_none : ∀ {l : List Int}, (∀ j, j < l.length → l.getD j 0 = 0) → (l.find? (fun c => decide (c ≠ 0))).getD 0 = 0
  | [], _ => rfl
  | x :: l, h => by
    have hx : x = 0 := by simpa using h 0 (by simp)
    rw [List.find?_cons_of_neg (by simp [hx])]
    exact find_none (fun j hj => by simpa using h (j + 1) (by simpa using hj))
def firstF (xss : List (List Rw)) : Int := ((xss.map tabF).find? (fun c => decide (c ≠ 0))).getD 0
theorem getD_tabF (xss : List (List Rw)) {j : Nat} (hj : j < xss.length) : (xss.map tabF).getD j 0 = tabF (xss.getD j default) := by simp [List.getD, hj]
theorem firstF_at {xss : List (List Rw)} {k : Nat} (hk : k < xss.length) (h : ∀ j, j < k → tabF (xss.getD j default) = 0) (hc : tabF (xss.getD k default) ≠ 0) : firstF xss = tabF (xss.getD k default) := by
  unfold firstF
  rw [find_first (k := k) (by simpa using hk) (fun j hj => by rw [getD_tabF xss (by omega)]; exact h j hj) (by rw [getD_tabF xss hk]; exact hc), getD_tabF xss hk]
theorem firstF_none {xss : List (List Rw)} (h : ∀ j, j < xss.length → tabF (xss.getD j default) = 0) : firstF xss = 0 :=
  find_none (fun j hj => by rw [List.length_map] at hj; rw [getD_tabF xss hj]; exact h j hj)
def mergeL (xss : List (List Rw)) : List Rw := putsL [] (flatTo (fun i => xss.getD i default) xss.length)
def mergeD (xss : List (List Rw)) : TabR :=
  if 8 < xss.length then ⟨2, []⟩ else if firstF xss ≠ 0 then ⟨firstF xss, []⟩ else if 200 < (mergeL xss).length then ⟨2, []⟩ else ⟨0, mergeL xss⟩
theorem flatTo_len {f : Nat → List Rw} {M : Nat} : ∀ {n : Nat}, (∀ i, i < n → (f i).length ≤ M) → (flatTo f n).length ≤ n * M
  | 0, _ => by simp [flatTo]
  | n + 1, h => by
    have ih := flatTo_len (n := n) (fun i hi => h i (by omega))
    have h1 := h n (by omega)
    have e : flatTo f (n + 1) = flatTo f n ++ f n := rfl
    rw [e, List.length_append, Nat.succ_mul]
    omega
theorem mem_flatTo {f : Nat → List Rw} {x : Rw} : ∀ {n : Nat}, x ∈ flatTo f n → ∃ i, i < n ∧ x ∈ f i
  | 0, h => by simp [flatTo] at h
  | n + 1, h => by
    have e : flatTo f (n + 1) = flatTo f n ++ f n := rfl
    rw [e] at h
    rcases List.mem_append.1 h with h | h
    · obtain ⟨i, hi, hx⟩ := mem_flatTo h
      exact ⟨i, by omega, hx⟩
    · exact ⟨n, by omega, h⟩
theorem mergeL_fit {xss : List (List Rw)} (h : ∀ i, i < xss.length → Fit (xss.getD i default)) : Fit (mergeL xss) := by
  rw [fit_mem]
  intro x hx
  rcases mem_putsL hx with hx | hx
  · simp at hx
  · obtain ⟨i, hi, hx⟩ := mem_flatTo hx
    exact fit_mem.1 (h i hi) x hx
theorem rowFault_small {x : Rw} (h : rowFault x = 0) : x.key.size ≤ 20 ∧ x.val.size ≤ 100 := by
  unfold rowFault at h
  split at h
  · omega
  · rename_i h1
    split at h
    · omega
    · rename_i h2
      exact ⟨by omega, by omega⟩
theorem tab_small {xs : List Rw} (h : tabF xs = 0) : ∀ x ∈ xs, rowFault x = 0 := by
  intro x hx
  obtain ⟨i, hi, rfl⟩ := List.mem_iff_getElem.1 hx
  have := (tabAt_zero ((tabF_all h).2 i hi)).1
  simpa [List.getD, hi] using this
theorem wt_small : ∀ {ys : List Rw}, (∀ x ∈ ys, rowFault x = 0) → wtRows ys ≤ ys.length * 121
  | [], _ => by simp [wtRows]
  | y :: ys, h => by
    have ih := wt_small (ys := ys) (fun x hx => h x (List.mem_cons_of_mem _ hx))
    have h1 := rowFault_small (h y (List.mem_cons_self ..))
    unfold wtRows at ih ⊢
    simp only [List.length_cons, List.map_cons, List.sum_cons, Nat.succ_mul]
    have h2 : wtRw y = y.key.size + y.val.size := rfl
    omega
theorem firstF_zero {xss : List (List Rw)} (h : firstF xss = 0) : ∀ j, j < xss.length → tabF (xss.getD j default) = 0 := by
  intro j
  induction j using Nat.strongRecOn with
  | _ j ih =>
    intro hj
    by_cases hc : tabF (xss.getD j default) = 0
    · exact hc
    · have := firstF_at hj (fun i hi => ih i hi (by omega)) hc
      omega
theorem mergeL_small {xss : List (List Rw)} (h : ∀ j, j < xss.length → tabF (xss.getD j default) = 0) : ∀ x ∈ mergeL xss, rowFault x = 0 := by
  intro x hx
  rcases mem_putsL hx with hx | hx
  · simp at hx
  · obtain ⟨i, hi, hx⟩ := mem_flatTo hx
    exact tab_small (h i hi) x hx
set_option maxRecDepth 20000 in
set_option maxHeartbeats 4000000 in
theorem specMerge_u (x : Value) (xss : List (List Rw)) (w : World) (hx : rowssR.V w x xss) :
    Calls Tryz.prog 88 #[x] w fun e w' => ∃ v F, e = .returned v ∧ tabRR.O w' w.heap.size F v (mergeD xss) ∧ Below w.heap.size w w' := by
  have HX : Hid (rowssR.V w x xss) := hx
  obtain ⟨ax, cx, rfl, hcx, hmx, hx⟩ := hx
  unfold maxLen at hmx
  have HN : Hid (Fit (mergeL xss)) := mergeL_fit (fun i hi => by
    obtain ⟨_, _, _, _, _, _, h⟩ := hx i hi
    exact h.2)
  have HD8 : Hid (8 < xss.length → mergeD xss = ⟨2, []⟩) := fun h => by unfold mergeD; rw [if_pos h]
  have HDF : Hid (¬ 8 < xss.length → ∀ k, k < xss.length → (∀ j, j < k → tabF (xss.getD j default) = 0) → tabF (xss.getD k default) ≠ 0 → mergeD xss = ⟨tabF (xss.getD k default), []⟩) := fun h k hk h1 h2 => by
    have e := firstF_at hk h1 h2
    unfold mergeD
    rw [if_neg h, if_pos (by rw [e]; exact h2), e]
  have HDM : Hid (¬ 8 < xss.length → (∀ j, j < xss.length → tabF (xss.getD j default) = 0) → mergeD xss = if 200 < (mergeL xss).length then ⟨2, []⟩ else ⟨0, mergeL xss⟩) := fun h h1 => by
    have e := firstF_none h1
    unfold mergeD
    rw [if_neg h, if_neg (by rw [e]; simp)]
  have HTL : Hid (¬ 8 < xss.length → (∀ j, j < xss.length → tabF (xss.getD j default) = 0) → (flatTo (fun i => xss.getD i default) xss.length).length ≤ 1000000) := fun h h1 => by
    have h2 := flatTo_len (f := fun i => xss.getD i default) (M := 200) (n := xss.length) (fun i hi => (tabF_all (h1 i hi)).1)
    omega
  obtain ⟨D, hD⟩ : ∃ D, mergeD xss = D := ⟨_, rfl⟩
  rw [hD] at HD8 HDF HDM ⊢
  clear hD
  generalize hN : xss.length = n at *
  have HNN : Hid (xss.length = n) := hN
  clear hN
  by_cases h8 : 8 < n
  · have hi8 : decide ((8 : Int) < n) = true := decide_eq_true (by omega)
    have hi9 : (8 : Int) < n := by omega
    have E := HD8.out h8
    subst E
    go_enter Tryz.func88, Tryz.ntmps88
    go_wp2
    refine bodyPost_ret (v := .agg #[.int .i64 2, .slice none 0 0]) (by simp [results, Tryz.results88, go_sem]) rfl ?_
    obtain ⟨F, hF⟩ := tabRR_nil (w.alloc (.cells #[.int .i64 2, .slice none 0 0] 61)) w.heap.size 2
    exact ⟨_, rfl, ⟨F, hF⟩, by (repeat (first | exact Below.refl _ _ | assumption | refine Below.drew ?_ | refine balloc ?_ _ | refine bset ?_ (by simp; omega) _ | refine bset ?_ (by simp) _ | refine bstep ?_ (by assumption)))⟩
  · have hi8 : decide ((8 : Int) < n) = false := decide_eq_false (by omega)
    have hi9 : ¬ ((8 : Int) < n) := by omega
    have HDF2 := HDF.out h8
    have HDF : Hid (∀ k, k < n → (∀ j, j < k → tabF (xss.getD j default) = 0) → tabF (xss.getD k default) ≠ 0 → D = ⟨tabF (xss.getD k default), []⟩) := HDF2
    clear HDF2
    go_enter Tryz.func88, Tryz.ntmps88
    go_wp2
    go_loopw [3] (fun i W => ∃ k : Nat, k ≤ n ∧ i = .int .i64 k ∧ Hid (∀ j, j < k → tabF (xss.getD j default) = 0) ∧ W.cell? ⟨w.heap.size, 0, none⟩ = some (.int .i64 0) ∧ W.cell? ⟨w.heap.size, 1, none⟩ = some (.slice none 0 0) ∧ (∀ o, W.frozen? ⟨w.heap.size, o, none⟩ = false) ∧ w.heap.size < W.heap.size ∧ Below w.heap.size w W) (fun i _ => n - (intOf i).toNat)
    case atStart => exact ⟨0, Nat.zero_le _, rfl, fun j h => absurd h (Nat.not_lt_zero _), by simp [go_sem], by simp [go_sem], fun o => by simp [go_sem], by simp, balloc (Below.refl _ _) _⟩
    case round =>
      obtain ⟨k, hk, rfl, HZ, b0, b1, bf, bz, hbl⟩ := hrel
      have hi4 : (0 : Int) ≤ k := by omega
      by_cases hlt : k < n
      · obtain ⟨b, o, u, rfl, _, hc, hu⟩ := hx k hlt
        have g0 : wr.cell? ⟨b, o + k, none⟩ = some u := cell_keep hbl (cells1 hc)
        have hX := RowsV_below hu.1 hbl
        have hi5 : (k : Int) < n := by omega
        clear hc hu hx
        have hXf := hX
        obtain ⟨au, cu, rfl, _⟩ := hXf
        have hC := specTableFault_any _ (xss.getD k default) wr hX
        obtain ⟨m, hm⟩ : ∃ m, (xss.getD k default).length = m := ⟨_, rfl⟩
        rw [hm] at hC g0
        clear hm hX
        obtain ⟨T, hT⟩ : ∃ T, tabF (xss.getD k default) = T := ⟨_, rfl⟩
        have HT : Hid (tabF (xss.getD k default) = T) := hT
        rw [hT] at hC
        clear hT
        go_wp2_with fail
        refine hC.mono ?_
        rintro e w1 ⟨rfl, hb1⟩
        have hB1 := bstep hbl hb1
        have q0 := cell_keep hb1 b0
        have q1 := cell_keep hb1 b1
        have qf := boxKeep ⟨bf, bz⟩ hb1
        clear hC
        by_cases h0 : T = 0
        · subst h0
          go_wp2
          refine ⟨⟨k + 1, by omega, by go_num, fun j hj => ?_, q0, q1, qf.1, qf.2, hB1⟩, by simp [intOf]; omega⟩
          by_cases h : j < k
          · exact HZ.out j h
          · have : j = k := by omega
            subst this
            exact HT.out
        · have h0' : (T == 0) = false := by rw [beq_eq_false_iff_ne]; exact h0
          have E := HDF.out k hlt HZ.out (by rw [HT.out]; exact h0)
          rw [HT.out] at E
          have HE : Hid (D = ⟨T, []⟩) := E
          clear E
          have qf1 := qf.1
          go_wp2
          refine bodyPost_ret (v := .agg #[.int .i64 T, .slice none 0 0]) (by simp [results, Tryz.results88, go_sem, q0, q1]) rfl ?_
          obtain ⟨F, hF⟩ := tabRR_nil ((w1.setCell ⟨w.heap.size, 0, none⟩ (.int .i64 T)).setCell ⟨w.heap.size, 1, none⟩ (.slice none 0 0)) w.heap.size T
          rw [HE.out]
          first | exact ⟨_, F, rfl, hF, by (repeat (first | exact Below.refl _ _ | assumption | refine Below.drew ?_ | refine balloc ?_ _ | refine bset ?_ (by simp; omega) _ | refine bset ?_ (by simp) _ | refine bstep ?_ (by assumption)))⟩ | exact ⟨_, rfl, ⟨F, hF⟩, by (repeat (first | exact Below.refl _ _ | assumption | refine Below.drew ?_ | refine balloc ?_ _ | refine bset ?_ (by simp; omega) _ | refine bset ?_ (by simp) _ | refine bstep ?_ (by assumption)))⟩
      · obtain rfl : k = n := by omega
        have hi5 : ¬ ((k : Int) < k) := by omega
        have HE := HDM.out h8 (fun j hj => HZ.out j hj)
        have hTL := HTL.out h8 (fun j hj => HZ.out j hj)
        have hC := l5Merge_any (.slice ax k cx) xss wr (rowssR.below HX.out hbl) (by rw [HNN.out]; exact hTL)
        have hM : putsL [] (flatTo (fun i => xss.getD i default) xss.length) = mergeL xss := rfl
        rw [hM] at hC
        have HE2 : Hid (D = if 200 < (mergeL xss).length then ⟨2, []⟩ else ⟨0, mergeL xss⟩) := HE
        clear HE hTL hM
        generalize mergeL xss = ys at *
        obtain ⟨L, hL⟩ : ∃ L, ys.length = L := ⟨_, rfl⟩
        rw [hL] at HE2
        go_wp2_with fail
        refine hC.mono ?_
        rintro e w1 ⟨v, rfl, ⟨⟨g, c, rfl⟩, ho⟩, hb1⟩
        rw [hL] at ho ⊢
        have HL : Hid (ys.length = L) := hL
        clear hL hC
        have hB1 := bstep hbl hb1
        have q0 := cell_keep hb1 b0
        have q1 := cell_keep hb1 b1
        have qf := boxKeep ⟨bf, bz⟩ hb1
        have qf1 := qf.1
        have hbz := hbl.size
        have hLm : L ≤ 9223372036854775807 := by
          rcases ho.2 with ⟨_, h⟩ | ⟨_, cap, _, _, _, _, h1, h2, _⟩
          · omega
          · unfold maxLen at h2; omega
        by_cases h2 : 200 < L
        · have hi7 : (200 : Int) < L := by omega
          have HE : Hid (D = ⟨2, []⟩) := by rw [Hid, HE2.out, if_pos h2]
          go_wp2
          refine bodyPost_ret (v := .agg #[.int .i64 2, .slice none 0 0]) (by simp [results, Tryz.results88, go_sem, q0, q1]) rfl ?_
          obtain ⟨F, hF⟩ := tabRR_nil ((w1.setCell ⟨w.heap.size, 0, none⟩ (.int .i64 2)).setCell ⟨w.heap.size, 1, none⟩ (.slice none 0 0)) w.heap.size 2
          rw [HE.out]
          first | exact ⟨_, F, rfl, hF, by (repeat (first | exact Below.refl _ _ | assumption | refine Below.drew ?_ | refine balloc ?_ _ | refine bset ?_ (by simp; omega) _ | refine bset ?_ (by simp) _ | refine bstep ?_ (by assumption)))⟩ | exact ⟨_, rfl, ⟨F, hF⟩, by (repeat (first | exact Below.refl _ _ | assumption | refine Below.drew ?_ | refine balloc ?_ _ | refine bset ?_ (by simp; omega) _ | refine bset ?_ (by simp) _ | refine bstep ?_ (by assumption)))⟩
        · have hi7 : ¬ ((200 : Int) < L) := by omega
          have HE : Hid (D = ⟨0, ys⟩) := by rw [Hid, HE2.out, if_neg h2]
          go_wp2
          refine bodyPost_ret (v := .agg #[.int .i64 0, .slice (some ⟨g, 0, none⟩) L c]) (by simp [results, Tryz.results88, go_sem, q0, q1]) rfl ?_
          have hg : w.heap.size < g := by have := (ho.lt g rfl).1; omega
          have ho2 : ((w1.setCell ⟨w.heap.size, 0, none⟩ (.int .i64 0)).setCell ⟨w.heap.size, 1, none⟩ (.slice (some ⟨g, 0, none⟩) L c)).ownsRow w.heap.size 76 4 (.slice (some ⟨g, 0, none⟩) ys.length c) ys.length (rwsC ys) := by
            rw [HL.out]
            exact owns_base (owns_setCell (owns_setCell ho (by dsimp only; omega) _) (by dsimp only; omega) _) (by omega)
          obtain ⟨F, hF⟩ := tabRR_of (c := 0) ho2 HN.out
          rw [HL.out] at hF
          rw [HE.out]
          first | exact ⟨_, F, rfl, hF, by (repeat (first | exact Below.refl _ _ | assumption | refine Below.drew ?_ | refine balloc ?_ _ | refine bset ?_ (by simp; omega) _ | refine bset ?_ (by simp) _ | refine bstep ?_ (by assumption)))⟩ | exact ⟨_, rfl, ⟨F, hF⟩, by (repeat (first | exact Below.refl _ _ | assumption | refine Below.drew ?_ | refine balloc ?_ _ | refine bset ?_ (by simp; omega) _ | refine bset ?_ (by simp) _ | refine bstep ?_ (by assumption)))⟩
end Go.Proofs.YtdfapehonegeeaaGreat

/-
  Log. (Written by program: nest.py.)
-/
namespace Go.Proofs.YtdfapehonegeeaaGreat
open Go.RowKit
set_option linter.unusedSectionVars false
attribute [local go_sem ↓] Go.wp_at_zero Go.wp_at_succ

set_option linter.unusedSimpArgs false

structure Logg where
  synced : List Byte
  loose : List Byte
variable [DecidableEq Logg] [Inhabited Logg]

def loggR : Rep Logg where
  V := fun w v x => ∃ u1 u2, v = .agg #[u1, u2] ∧ bytesR.V w u1 x.synced ∧ bytesR.V w u2 x.loose
  O := fun w base F v x => ∃ u1 u2 F1 F2, v = .agg #[u1, u2] ∧ bytesR.O w base F1 u1 x.synced ∧ bytesR.O w base F2 u2 x.loose ∧ (∀ b, F1 b → ¬ F2 b) ∧ (∀ b, F b ↔ (F1 b ∨ F2 b))
  below := fun h hb => by
    obtain ⟨u1, u2, rfl, h1, h2⟩ := h
    exact ⟨u1, u2, rfl, bytesR.below h1 hb, bytesR.below h2 hb⟩
  ofO := fun h => by
    obtain ⟨u1, u2, F1, F2, rfl, h1, h2, _⟩ := h
    exact ⟨u1, u2, rfl, bytesR.ofO h1, bytesR.ofO h2⟩
  mod := fun h hm hd => by
    obtain ⟨u1, u2, F1, F2, rfl, h1, h2, s12, hF⟩ := h
    exact ⟨u1, u2, F1, F2, rfl, bytesR.mod h1 hm (fun b hb => hd b ((hF b).2 (.inl hb))), bytesR.mod h2 hm (fun b hb => hd b ((hF b).2 (.inr hb))), s12, hF⟩
  rng := fun h b hb => by
    obtain ⟨u1, u2, F1, F2, rfl, h1, h2, s12, hF⟩ := h
    rcases (hF b).1 hb with hb | hb
    · exact bytesR.rng h1 b hb
    · exact bytesR.rng h2 b hb
  base := fun h hb => by
    obtain ⟨u1, u2, F1, F2, rfl, h1, h2, s12, hF⟩ := h
    exact ⟨u1, u2, F1, F2, rfl, bytesR.base h1 hb, bytesR.base h2 hb, s12, hF⟩
def wtLogg (x : Logg) : Nat := wtBytes x.synced + wtBytes x.loose
def cntLogg (x : Logg) : Nat := cntBytes x.synced + cntBytes x.loose
def mkLogg (k : Int) (x : Logg) : Logg := { x with synced := mkBytes k x.synced, loose := mkBytes (k + cntBytes x.synced) x.loose }
theorem logg_form {w : World} {v : Value} {x : Logg} (h : loggR.V w v x) : ∃ a1 a2 c1 c2, v = .agg #[.slice a1 x.synced.length c1, .slice a2 x.loose.length c2] := by
  obtain ⟨u1, u2, rfl, h1, h2⟩ := h
  obtain ⟨a1, c1, rfl⟩ := bytes_form h1
  obtain ⟨a2, c2, rfl⟩ := bytes_form h2
  exact ⟨_, _, _, _, rfl⟩
theorem logg_cnt (d : Logg) : cntLogg d ≤ 1 * wtLogg d := by
  unfold cntLogg wtLogg
  have q1 := bytes_cnt d.synced
  have q2 := bytes_cnt d.loose
  omega
set_option maxHeartbeats 1000000 in
theorem toLog_u (x : Value) (d : Logg) (w : World) (hx : loggR.V w x d) (hn : wtLogg d ≤ 1048576) :
    Calls Tryz.prog 48 #[x] w fun e w' => ∃ v F, e = .returned v ∧ loggR.O w' w.heap.size F v d ∧ Below w.heap.size w w' := by
  obtain ⟨u1, u2, rfl, h1, h2⟩ := hx
  unfold wtLogg at hn
  go_enter Tryz.func48, Tryz.ntmps48
  go_wp2_with fail
  refine (toByteS_u _ d.synced _ (bytesR.below h1 (by (repeat (first | exact Below.refl _ _ | assumption | refine Below.drew ?_ | refine balloc ?_ _ | refine bset ?_ (by simp; omega) _ | refine bset ?_ (by simp) _ | refine bstep ?_ (by assumption))))) (by omega)).mono ?_
  rintro e w1 ⟨v1, F1, rfl, o1, b1⟩
  obtain ⟨a1, n1, rfl⟩ := bytes_form (bytesR.ofO o1)
  obtain ⟨c1, f1⟩ := bcell b1
  have z1 := b1.size
  simp at z1
  have l1 := fun b hb => bytesR.rng o1 b hb
  simp at l1
  replace o1 := bytesR.base (base' := w.heap.size + 3) o1 (by simp; try omega)
  have y0 : w1.cell? ⟨w.heap.size, 0, none⟩ = some (u1) := cell_keep b1 (by simp [go_sem])
  have y1 : w1.cell? ⟨w.heap.size, 1, none⟩ = some (u2) := cell_keep b1 (by simp [go_sem])
  have r0 : w1.cell? ⟨w.heap.size + 1, 0, none⟩ = some (.slice none 0 0) := cell_keep b1 (by simp [go_sem])
  have r1 : w1.cell? ⟨w.heap.size + 1, 1, none⟩ = some (.slice none 0 0) := cell_keep b1 (by simp [go_sem])
  have s0 : w1.cell? ⟨w.heap.size + 2, 0, none⟩ = some (.slice none 0 0) := cell_keep b1 (by simp [go_sem])
  have s1 : w1.cell? ⟨w.heap.size + 2, 1, none⟩ = some (.slice none 0 0) := cell_keep b1 (by simp [go_sem])
  have t1 : ∀ o, w1.frozen? ⟨w.heap.size + 1, o, none⟩ = false := fun o => by rw [f1 _ _ (by simp; try omega)]; simp [go_sem]
  have t2 : ∀ o, w1.frozen? ⟨w.heap.size + 2, o, none⟩ = false := fun o => by rw [f1 _ _ (by simp; try omega)]; simp [go_sem]
  clear c1 f1
  have x0 := y0
  have x1 := y1
  have q0 := r0
  have q1 := r1
  have p0 := s0
  have p1 := s1
  have qf := t1
  have pf := t2
  clear t1 t2 y0 y1 r0 r1 s0 s1
  go_wp2_with fail
  refine (toByteS_u _ d.loose _ (bytesR.below h2 (by (repeat (first | exact Below.refl _ _ | assumption | refine Below.drew ?_ | refine balloc ?_ _ | refine bset ?_ (by simp; omega) _ | refine bset ?_ (by simp) _ | refine bstep ?_ (by assumption))))) (by omega)).mono ?_
  rintro e w2 ⟨v2, F2, rfl, o2, b2⟩
  obtain ⟨a2, n2, rfl⟩ := bytes_form (bytesR.ofO o2)
  obtain ⟨c2, f2⟩ := bcell b2
  have z2 := b2.size
  simp at z2
  have l2 := fun b hb => bytesR.rng o2 b hb
  simp at l2
  replace o2 := bytesR.base (base' := w.heap.size + 3) o2 (by simp; try omega)
  have y0 : w2.cell? ⟨w.heap.size, 0, none⟩ = some (u1) := cell_keep b2 (by simp [go_sem, x0, x1, q0, q1, p0, p1])
  have y1 : w2.cell? ⟨w.heap.size, 1, none⟩ = some (u2) := cell_keep b2 (by simp [go_sem, x0, x1, q0, q1, p0, p1])
  have r0 : w2.cell? ⟨w.heap.size + 1, 0, none⟩ = some (.slice none 0 0) := cell_keep b2 (by simp [go_sem, x0, x1, q0, q1, p0, p1])
  have r1 : w2.cell? ⟨w.heap.size + 1, 1, none⟩ = some (.slice none 0 0) := cell_keep b2 (by simp [go_sem, x0, x1, q0, q1, p0, p1])
  have s0 : w2.cell? ⟨w.heap.size + 2, 0, none⟩ = some (.slice a1 d.synced.length n1) := cell_keep b2 (by simp [go_sem, x0, x1, q0, q1, p0, p1])
  have s1 : w2.cell? ⟨w.heap.size + 2, 1, none⟩ = some (.slice none 0 0) := cell_keep b2 (by simp [go_sem, x0, x1, q0, q1, p0, p1])
  have t1 : ∀ o, w2.frozen? ⟨w.heap.size + 1, o, none⟩ = false := fun o => by rw [f2 _ _ (by simp; try omega)]; simp [go_sem, qf]
  have t2 : ∀ o, w2.frozen? ⟨w.heap.size + 2, o, none⟩ = false := fun o => by rw [f2 _ _ (by simp; try omega)]; simp [go_sem, pf]
  clear x0 x1 q0 q1 p0 p1 qf pf
  clear c2 f2
  have x0 := y0
  have x1 := y1
  have q0 := r0
  have q1 := r1
  have p0 := s0
  have p1 := s1
  have qf := t1
  have pf := t2
  clear t1 t2 y0 y1 r0 r1 s0 s1
  go_wp2
  refine bodyPost_ret (v := .agg #[.slice a1 d.synced.length n1, .slice a2 d.loose.length n2]) ?_ rfl ⟨_, fun b => F1 b ∨ F2 b, rfl, ⟨_, _, F1, F2, rfl, bytesR.base (base := w.heap.size + 3) (by (repeat (first | assumption | refine Rep.set _ ?_ _ (by simp; omega) | refine Rep.set _ ?_ _ (by simp) | refine Rep.alloc _ ?_ _ | refine Rep.keep _ ?_ (by assumption)))) (by omega), bytesR.base (base := w.heap.size + 3) (by (repeat (first | assumption | refine Rep.set _ ?_ _ (by simp; omega) | refine Rep.set _ ?_ _ (by simp) | refine Rep.alloc _ ?_ _ | refine Rep.keep _ ?_ (by assumption)))) (by omega), fun b p q => by have := (l1 b p).2; have := (l2 b q).1; omega, fun b => Iff.rfl⟩, by (repeat (first | exact Below.refl _ _ | assumption | refine Below.drew ?_ | refine balloc ?_ _ | refine bset ?_ (by simp; omega) _ | refine bset ?_ (by simp) _ | refine bstep ?_ (by assumption)))⟩
  simp [results, Tryz.results48, go_sem, q0, q1, p0, p1, qf, pf]
set_option maxHeartbeats 1000000 in
theorem szLog_u (x : Value) (d : Logg) (left : Int) (w : World) (hx : loggR.V w x d) (h0 : 0 ≤ left) (h1 : left ≤ 1048576) :
    Calls Tryz.prog 39 #[x, .int .i64 left] w fun e w' => e = .returned (.int .i64 (szLen left (wtLogg d))) ∧ Below w.heap.size w w' := by
  obtain ⟨u1, u2, rfl, k1, k2⟩ := hx
  go_enter Tryz.func39, Tryz.ntmps39
  go_wp2_with fail
  refine (szByteS_u _ d.synced left _ (bytesR.below k1 (by (repeat (first | exact Below.refl _ _ | assumption | refine Below.drew ?_ | refine balloc ?_ _ | refine bset ?_ (by simp; omega) _ | refine bset ?_ (by simp) _ | refine bstep ?_ (by assumption))))) h0 h1).mono ?_
  rintro e w1 ⟨rfl, b1⟩
  have x0 : w1.cell? ⟨w.heap.size, 0, none⟩ = some (u1) := cell_keep b1 (by simp [go_sem])
  have x1 : w1.cell? ⟨w.heap.size, 1, none⟩ = some (u2) := cell_keep b1 (by simp [go_sem])
  go_wp2_with fail
  · rename_i h
    go_ret
    refine ⟨?_, by (repeat (first | exact Below.refl _ _ | assumption | refine Below.drew ?_ | refine balloc ?_ _ | refine bset ?_ (by simp; omega) _ | refine bset ?_ (by simp) _ | refine bstep ?_ (by assumption)))⟩
    rw [szLen_neg (n := wtBytes d.synced) (by omega) (wtLogg d) (by unfold wtLogg; omega)]
    rfl
  rename_i h
  refine (szByteS_u _ d.loose (szLen left (wtBytes d.synced : Nat)) _ (bytesR.below k2 (by (repeat (first | exact Below.refl _ _ | assumption | refine Below.drew ?_ | refine balloc ?_ _ | refine bset ?_ (by simp; omega) _ | refine bset ?_ (by simp) _ | refine bstep ?_ (by assumption))))) (by omega) (by have := szLen_le (n := wtBytes d.synced) h0; omega)).mono ?_
  rintro e w2 ⟨rfl, b2⟩
  rw [szLen_add (n := wtBytes d.synced) (by omega)]
  go_wp2
  · rename_i h
    go_ret
    refine ⟨?_, by (repeat (first | exact Below.refl _ _ | assumption | refine Below.drew ?_ | refine balloc ?_ _ | refine bset ?_ (by simp; omega) _ | refine bset ?_ (by simp) _ | refine bstep ?_ (by assumption)))⟩
    rw [szLen_neg (n := wtBytes d.synced + wtBytes d.loose) (by first | omega | (rw [Int.natCast_add]; omega)) (wtLogg d) (by unfold wtLogg; omega)]
    rfl
  rename_i h
  go_ret
  exact ⟨rfl, by (repeat (first | exact Below.refl _ _ | assumption | refine Below.drew ?_ | refine balloc ?_ _ | refine bset ?_ (by simp; omega) _ | refine bset ?_ (by simp) _ | refine bstep ?_ (by assumption)))⟩
set_option maxHeartbeats 1000000 in
theorem eqLog_u (x y : Value) (d d' : Logg) (w : World) (hx : loggR.V w x d) (hy : loggR.V w y d') :
    Calls Tryz.prog 58 #[x, y] w fun e w' => e = .returned (.bool (decide (d = d'))) ∧ Below w.heap.size w w' := by
  obtain ⟨u1, u2, rfl, h1, h2⟩ := hx
  obtain ⟨v1, v2, rfl, k1, k2⟩ := hy
  obtain ⟨synced, loose⟩ := d
  obtain ⟨synced', loose'⟩ := d'
  dsimp only at h1 k1 h2 k2
  go_enter Tryz.func58, Tryz.ntmps58
  go_wp2_with fail
  all_goals try (go_ret; exact ⟨by simp_all, by (repeat (first | exact Below.refl _ _ | assumption | refine Below.drew ?_ | refine balloc ?_ _ | refine bset ?_ (by simp; omega) _ | refine bset ?_ (by simp) _ | refine bstep ?_ (by assumption)))⟩)
  refine (eqByteS_u _ _ synced synced' _ (bytesR.below h1 (by (repeat (first | exact Below.refl _ _ | assumption | refine Below.drew ?_ | refine balloc ?_ _ | refine bset ?_ (by simp; omega) _ | refine bset ?_ (by simp) _ | refine bstep ?_ (by assumption))))) (bytesR.below k1 (by (repeat (first | exact Below.refl _ _ | assumption | refine Below.drew ?_ | refine balloc ?_ _ | refine bset ?_ (by simp; omega) _ | refine bset ?_ (by simp) _ | refine bstep ?_ (by assumption)))))).mono ?_
  rintro e w1 ⟨rfl, b1⟩
  have x0 : w1.cell? ⟨w.heap.size, 0, none⟩ = some (u1) := cell_keep b1 (by simp [go_sem])
  have x1 : w1.cell? ⟨w.heap.size, 1, none⟩ = some (u2) := cell_keep b1 (by simp [go_sem])
  have y0 : w1.cell? ⟨w.heap.size + 1, 0, none⟩ = some (v1) := cell_keep b1 (by simp [go_sem])
  have y1 : w1.cell? ⟨w.heap.size + 1, 1, none⟩ = some (v2) := cell_keep b1 (by simp [go_sem])
  go_wp2_with fail
  all_goals try (go_ret; exact ⟨by simp_all, by (repeat (first | exact Below.refl _ _ | assumption | refine Below.drew ?_ | refine balloc ?_ _ | refine bset ?_ (by simp; omega) _ | refine bset ?_ (by simp) _ | refine bstep ?_ (by assumption)))⟩)
  refine (eqByteS_u _ _ loose loose' _ (bytesR.below h2 (by (repeat (first | exact Below.refl _ _ | assumption | refine Below.drew ?_ | refine balloc ?_ _ | refine bset ?_ (by simp; omega) _ | refine bset ?_ (by simp) _ | refine bstep ?_ (by assumption))))) (bytesR.below k2 (by (repeat (first | exact Below.refl _ _ | assumption | refine Below.drew ?_ | refine balloc ?_ _ | refine bset ?_ (by simp; omega) _ | refine bset ?_ (by simp) _ | refine bstep ?_ (by assumption)))))).mono ?_
  rintro e w2 ⟨rfl, b2⟩
  go_wp2
  all_goals
    go_ret
    exact ⟨by simp_all, by (repeat (first | exact Below.refl _ _ | assumption | refine Below.drew ?_ | refine balloc ?_ _ | refine bset ?_ (by simp; omega) _ | refine bset ?_ (by simp) _ | refine bstep ?_ (by assumption)))⟩
set_option maxHeartbeats 1000000 in
theorem markLog_u (v : Value) (d : Logg) (base : Nat) (F : Nat → Prop) (k : Int) (w : World) (ho : loggR.O w base F v d) (hw : wtLogg d ≤ 1048576) (hn : k + cntLogg d ≤ 1073741824) (hk0 : 0 ≤ k) :
    Calls Tryz.prog 81 #[v, .int .i64 k] w fun r w' => r = .returned (.int .i64 (k + cntLogg d)) ∧ loggR.O w' base F v (mkLogg k d) ∧ Mod F w w' := by
  obtain ⟨u1, u2, F1, F2, rfl, h1, h2, s12, hF⟩ := ho
  unfold wtLogg at hw
  unfold cntLogg at hn ⊢
  have HF : Hid (∀ b, F b ↔ (F1 b ∨ F2 b)) := hF
  clear hF
  go_enter Tryz.func81, Tryz.ntmps81
  go_wp2_with fail
  refine (markByteS_u _ d.synced base F1 k _ (bytesR.alloc h1 _) (by omega) (by omega) (by omega)).mono ?_
  rintro e w1 ⟨rfl, r1, m1⟩
  have h2' := bytesR.mod (bytesR.alloc h2 _) m1 (fun b p q => s12 b q p)
  have x0 : w1.cell? ⟨w.heap.size, 0, none⟩ = some (u1) := m1.cell (by simp [go_sem]) (fun hf => by have := bytesR.rng h1 _ hf; dsimp only at this; omega)
  have x1 : w1.cell? ⟨w.heap.size, 1, none⟩ = some (u2) := m1.cell (by simp [go_sem]) (fun hf => by have := bytesR.rng h1 _ hf; dsimp only at this; omega)
  go_wp2_with fail
  refine (markByteS_u _ d.loose base F2 (k + cntBytes d.synced) _ h2' (by omega) (by omega) (by omega)).mono ?_
  rintro e w2 ⟨rfl, r2, m2⟩
  replace r1 := bytesR.mod r1 m2 (fun b p q => s12 b p q)
  go_wp2
  go_ret
  refine ⟨?_, ⟨_, _, F1, F2, rfl, r1, r2, s12, HF.out⟩, (((Mod.refl F w).alloc _).trans (m1.mono (fun b hb => (HF.out b).2 (.inl hb)))).trans (m2.mono (fun b hb => (HF.out b).2 (.inr hb)))⟩
  simp
  try omega
set_option maxHeartbeats 1000000 in
theorem heldLog_u (v : Value) (d : Logg) (k : Int) (w : World) (hv : loggR.V w v (mkLogg k d)) (hw : wtLogg d ≤ 1048576) (hn : k + cntLogg d ≤ 1073741824) (hk0 : 0 ≤ k) :
    Calls Tryz.prog 134 #[v, .int .i64 k] w fun r w' => r = .returned (.int .i64 (k + cntLogg d)) ∧ Below w.heap.size w w' := by
  obtain ⟨u1, u2, rfl, h1, h2⟩ := hv
  unfold wtLogg at hw
  unfold cntLogg at hn ⊢
  go_enter Tryz.func134, Tryz.ntmps134
  go_wp2_with fail
  refine (heldByteS_u _ d.synced k _ (bytesR.below h1 (by (repeat (first | exact Below.refl _ _ | assumption | refine Below.drew ?_ | refine balloc ?_ _ | refine bset ?_ (by simp; omega) _ | refine bset ?_ (by simp) _ | refine bstep ?_ (by assumption))))) (by omega) (by omega) (by omega)).mono ?_
  rintro e w1 ⟨rfl, b1⟩
  have x0 : w1.cell? ⟨w.heap.size, 0, none⟩ = some (u1) := cell_keep b1 (by simp [go_sem])
  have x1 : w1.cell? ⟨w.heap.size, 1, none⟩ = some (u2) := cell_keep b1 (by simp [go_sem])
  go_wp2_with fail
  refine (heldByteS_u _ d.loose (k + cntBytes d.synced) _ (bytesR.below h2 (by (repeat (first | exact Below.refl _ _ | assumption | refine Below.drew ?_ | refine balloc ?_ _ | refine bset ?_ (by simp; omega) _ | refine bset ?_ (by simp) _ | refine bstep ?_ (by assumption))))) (by omega) (by omega) (by omega)).mono ?_
  rintro e w2 ⟨rfl, b2⟩
  go_wp2
  go_ret
  refine ⟨?_, by (repeat (first | exact Below.refl _ _ | assumption | refine Below.drew ?_ | refine balloc ?_ _ | refine bset ?_ (by simp; omega) _ | refine bset ?_ (by simp) _ | refine bstep ?_ (by assumption)))⟩
  simp
  try omega
end Go.Proofs.YtdfapehonegeeaaGreat


import Derived.Test.YtolihmobkoiplaaGreatPrnOutcomeOfLaw5
import Derived.Test.YtolihmobkoiplaaGreatPrnOutcomeOfLaw1
import Derived.Deep.RegionHeld3
import Derived.Deep.DrawnRows
import Derived.Test.YtolihmobkoiplaaGreatPrnOutcomeOfLaw4

/-
  Rows of Acceptor. (Written by program: nest.py.)
-/
namespace Go.Proofs.YtolihmobkoiplaaGreat
open Go.RowKit
set_option linter.unusedSectionVars false
variable [DecidableEq Vot] [Inhabited Vot] [DecidableEq Slt] [Inhabited Slt] [DecidableEq Acc] [Inhabited Acc]
attribute [local go_sem ↓] Go.wp_at_zero Go.wp_at_succ

def accsR : Rep (List Acc) := nRep accR 51 1 lvAcc
def wtAccs (xs : List Acc) : Nat := wtL wtAcc xs
theorem accs_form {w : World} {v : Value} {xs : List Acc} (h : accsR.V w v xs) : ∃ a c, v = .slice a xs.length c := by
  obtain ⟨a, c, rfl, _⟩ := h
  exact ⟨_, _, rfl⟩
theorem infoAccs : (Tryz.prog.info? 51).map (fun i => (i.zero, i.size, i.bytes)) = some (some (.agg #[.slice none 0 0]), 1, 24) := by kernel_rfl
theorem keepAccs {w w' : World} {a0 a1 : Addr} {x0 x1 : Value} (hb : Below w.heap.size w w') (g0 : w.cell? a0 = some x0) (g1 : w.cell? a1 = some x1) : Below w.heap.size w w' ∧ w'.cell? a0 = some x0 ∧ w'.cell? a1 = some x1 :=
  ⟨hb, cell_keep hb g0, cell_keep hb g1⟩
set_option maxHeartbeats 1000000 in
theorem eqAcceptorS_u (x y : Value) (xs ys : List Acc) (w : World) (hx : accsR.V w x xs) (hy : accsR.V w y ys) :
    Calls Tryz.prog 11 #[x, y] w fun e w' => e = .returned (.bool (decide (xs = ys))) ∧ Below w.heap.size w w' := by
  obtain ⟨ax, cx, rfl, hcx, hmx, hx⟩ := hx
  obtain ⟨ay, cy, rfl, hcy, hmy, hy⟩ := hy
  unfold maxLen at hmx hmy
  by_cases hl : ys.length = xs.length
  · rw [hl] at hcy hy ⊢
    have HL : Hid (ys.length = xs.length) := hl
    clear hl
    generalize hn : xs.length = n at *
    have HN : Hid (xs.length = n) := hn
    clear hn
    go_enter Tryz.func11, Tryz.ntmps11
    go_wp2
    go_loopw [5] (fun i w' => ∃ k : Nat, k ≤ n ∧ i = .int .i64 k ∧ (∀ j, j < k → xs.getD j default = ys.getD j default) ∧ Below w.heap.size w w') (fun i _ => n - (intOf i).toNat)
    case atStart => exact ⟨0, Nat.zero_le _, rfl, fun j h => absurd h (Nat.not_lt_zero _), Below.refl _ _⟩
    case round =>
      obtain ⟨k, hk, rfl, hpre, hbl⟩ := hrel
      have HP : Hid (∀ j, j < k → xs.getD j default = ys.getD j default) := hpre
      clear hpre
      by_cases hlt : k < n
      · obtain ⟨bx, ox, ux, rfl, _, p1, hvx⟩ := hx k hlt
        obtain ⟨b2, oy, uy, rfl, _, p2, hvy⟩ := hy k hlt
        obtain ⟨l1, hl1⟩ : ∃ l, l = xs.getD k default := ⟨_, rfl⟩
        obtain ⟨l2, hl2⟩ : ∃ l, l = ys.getD k default := ⟨_, rfl⟩
        rw [← hl1] at hvx
        rw [← hl2] at hvy
        have H1 : Hid (l1 = xs.getD k default) := hl1
        have H2 : Hid (l2 = ys.getD k default) := hl2
        have hvx' := hvx
        obtain ⟨ux1, rfl, _⟩ := hvx'
        have hvy' := hvy
        obtain ⟨uy1, rfl, _⟩ := hvy'
        have g0 : w.cell? ⟨bx, ox + k, none⟩ = some (ux1) := cells1 p1
        have g1 : w.cell? ⟨b2, oy + k, none⟩ = some (uy1) := cells1 p2
        clear hl1 hl2 hx hy p1 p2
        go_wp2
        go_region_held3 (fun w' => Below w.heap.size w w' ∧ w'.cell? ⟨bx, ox + k, none⟩ = some (ux1) ∧ w'.cell? ⟨b2, oy + k, none⟩ = some (uy1)) ((refine keepAccs ?_ g0 g1; (repeat (first | exact Below.refl _ _ | assumption | refine Below.drew ?_ | refine balloc ?_ _ | refine bstep ?_ (by assumption))))) (first | (go_at_call 26; refine (eqAcceptor_u (.agg #[ux1]) (.agg #[uy1]) l1 l2 _ (accR.below hvx (by (repeat (first | exact Below.refl _ _ | assumption | refine Below.drew ?_ | refine balloc ?_ _ | refine bstep ?_ (by assumption))))) (accR.below hvy (by (repeat (first | exact Below.refl _ _ | assumption | refine Below.drew ?_ | refine balloc ?_ _ | refine bstep ?_ (by assumption)))))).mono ?_; rintro e w' ⟨rfl, hb1⟩))
        rename_i hH
        have hB := hH.1
        clear hH
        go_wp2
        · rename_i hle
          go_ret
          refine ⟨?_, hB⟩
          have : ¬ xs = ys := fun h => by
            have : l1 = l2 := by rw [H1.out, H2.out, h]
            simp [this] at hle
          simp [this]
        · rename_i hle
          refine ⟨⟨k + 1, by omega, by go_num, fun j hj => ?_, hB⟩, by simp [intOf]; omega⟩
          by_cases hjk : j < k
          · exact HP.out j hjk
          · have : j = k := by omega
            subst this
            rw [← H1.out, ← H2.out]
            simpa using hle
      · go_wp2
        go_ret
        have : k = n := by omega
        subst this
        refine ⟨?_, hbl⟩
        have : xs = ys := rows_eq_of (by rw [HL.out, HN.out]) (by rw [HN.out]; exact HP.out)
        simp [this]
  · go_enter Tryz.func11, Tryz.ntmps11
    have hl' : ((xs.length : Int) == (ys.length : Int)) = false := by simp; omega
    go_wp2
    go_ret
    have : ¬ xs = ys := fun h => hl (by rw [h])
    exact ⟨by simp [this], Below.refl _ _⟩
set_option maxHeartbeats 1000000 in
theorem toAcceptorS_u (x : Value) (xs : List Acc) (w : World) (hx : accsR.V w x xs) (hn : wtAccs xs ≤ 1048576) :
    Calls Tryz.prog 7 #[x] w fun e w' => ∃ v F, e = .returned v ∧ accsR.O w' w.heap.size F v xs ∧ Below w.heap.size w w' := by
  obtain ⟨ax, cx, rfl, hcx, hmx, hx⟩ := hx
  unfold maxLen at hmx
  unfold wtAccs at hn
  have hlen : xs.length ≤ 1048576 := by unfold wtL at hn; omega
  have hW : ∀ k, k < xs.length → wtAcc (xs.getD k default) ≤ 1048576 := fun k hk => (wt_at hn hk).1
  obtain ⟨i0, hi, hz0, hz1, hz2⟩ := info_parts infoAccs
  obtain ⟨w1, hmk, hown, hgr⟩ := run_make_full (P := Tryz.prog) w w.heap.size 31 51 i0 _ 1 Tryz.underlying31 hi hz0 hz1 .i64 .i64 xs.length (by rw [hz2]; omega) (by unfold maxLen; omega) (Nat.le_refl _)
  have hbl0 : Below w.heap.size w w1 := (Below.refl _ _).grown hgr (Nat.le_refl _) (fun k h => by cases h)
  clear hn
  generalize hn' : xs.length = n at *
  have HN : Hid (xs.length = n) := hn'
  clear hn'
  go_enter Tryz.func7, Tryz.ntmps7
  go_wp2
  go_loopw [4] (fun i w' => ∃ (k : Nat) (cs : List Value) (us : Nat → Value) (fs : Nat → Nat → Prop), k ≤ n ∧ i = .int .i64 k ∧ PO accR 51 1 lvAcc w' w.heap.size (.slice (some ⟨w.heap.size, 0, none⟩) n n) n k (fun i => xs.getD i default) cs us fs ∧ Below w.heap.size w w') (fun i _ => n - (intOf i).toNat)
  case atStart => exact ⟨0, _, fun _ => .int .i64 0, fun _ _ => False, Nat.zero_le _, rfl, ⟨hown, fun i h => by omega, fun i h => by omega, fun i h => by omega, fun i h => by omega, fun i j h => by omega⟩, hbl0⟩
  case round =>
    obtain ⟨k, cs, us, fs, hk, rfl, hp, hbl⟩ := hrel
    clear hown hmk hgr hbl0
    by_cases hlt : k < n
    · obtain ⟨bx, ox, ux, rfl, _, p1, hvx⟩ := hx k hlt
      have hw := hW k hlt
      obtain ⟨l, hl⟩ : ∃ l, l = xs.getD k default := ⟨_, rfl⟩
      rw [← hl] at hvx hw
      have HL : Hid (l = xs.getD k default) := hl
      have hvx' := hvx
      obtain ⟨ux1, rfl, _⟩ := hvx'
      have g0 : w.cell? ⟨bx, ox + k, none⟩ = some (ux1) := cells1 p1
      replace g0 := cell_keep hbl g0
      clear hx p1 hW hl
      go_wp2_with fail
      refine (toAcceptor_u (.agg #[ux1]) l _ (accR.below hvx (by (repeat (first | exact Below.refl _ _ | assumption | refine Below.drew ?_ | refine balloc ?_ _ | refine bstep ?_ (by assumption))))) hw).mono ?_
      rintro e wa ⟨v1, F1, rfl, o1, b1⟩
      have ofm1 := accR.ofO o1
      obtain ⟨x1_1, rfl, y1_1⟩ := ofm1
      obtain ⟨a1_1, n1_1, rfl⟩ := slts_form y1_1
      have ho1 := (hp.keep b1).row
      obtain ⟨y0, q0⟩ := owns_some ho1 (k) (by omega)
      have hf := fun j => ho1.frozenAt j
      go_wp2
      have s0 := ho1.stored (k) (.slice a1_1 l.slots.length n1_1)
      have hcs : cs.set k (.slice a1_1 l.slots.length n1_1) = setRow cs (k * 1) [.slice a1_1 l.slots.length n1_1] := by rw [Nat.mul_one]; rfl
      have hrow := s0.1
      rw [hcs] at hrow
      have hcl := hp.row.1
      refine ⟨⟨k + 1, _, _, _, by omega, by go_num, hp.push (u := (.agg #[.slice a1_1 l.slots.length n1_1])) (F := F1) hbl.size b1 (by rw [← HL.out]; exact o1) rfl hrow (Mod.of_grown s0.2) ?_ ?_, ?_⟩, by simp [intOf]; omega⟩
      · intro i hi j hj
        exact setRow_old _ _ _ _ (.inl (by omega))
      · intro j hj
        exact setRow_new _ _ _ _ (by simp only [List.length_cons, List.length_nil]; omega) hj
      · exact ((bstep hbl b1).setCell (Nat.le_refl _) _)
    · go_wp2
      go_ret
      have hkn : k = n := by omega
      subst hkn
      have e := HN.out
      subst e
      exact ⟨_, _, rfl, ⟨cs, us, fs, hp, fun b => Iff.rfl⟩, hbl⟩
set_option maxHeartbeats 1000000 in
theorem szAcceptorS_u (x : Value) (xs : List Acc) (left : Int) (w : World) (hx : accsR.V w x xs) (h0 : 0 ≤ left) (h1 : left ≤ 1048576) :
    Calls Tryz.prog 4 #[x, .int .i64 left] w fun e w' => e = .returned (.int .i64 (szLen left (wtAccs xs))) ∧ Below w.heap.size w w' := by
  obtain ⟨ax, cx, rfl, hcx, hmx, hx⟩ := hx
  unfold maxLen at hmx
  unfold wtAccs wtL
  have HT : Hid (∀ k, k < xs.length → cntTo wtAcc (k + 1) xs = cntTo wtAcc k xs + wtAcc (xs.getD k default) ∧ cntTo wtAcc (k + 1) xs ≤ cntTo wtAcc xs.length xs) :=
    fun k hk => ⟨cntTo_succ _ k xs hk, cntTo_le _ _ _ _ hk⟩
  generalize xs.length = n at *
  by_cases h : left < n
  · have h' : left - (n : Int) < 0 := by omega
    clear hx
    go_enter Tryz.func4, Tryz.ntmps4
    go_wp2
    go_ret
    exact ⟨by simp only [szLen]; rw [if_pos (by omega)]; rfl, Below.refl _ _⟩
  · have h' : ¬ left - (n : Int) < 0 := by omega
    go_enter Tryz.func4, Tryz.ntmps4
    go_wp2
    go_loopw [1, 5] (fun l i w' => ∃ k : Nat, k ≤ n ∧ i = .int .i64 k ∧ l = .int .i64 (left - n - cntTo wtAcc k xs) ∧ 0 ≤ left - n - cntTo wtAcc k xs ∧ Below w.heap.size w w') (fun _ i _ => n - (intOf i).toNat)
    case atStart => exact ⟨0, Nat.zero_le _, rfl, by simp [cntTo], by simp [cntTo]; omega, Below.refl _ _⟩
    case round =>
      obtain ⟨k, hk, rfl, rfl, hpos, hbl⟩ := hrel
      by_cases hlt : k < n
      · obtain ⟨bx, ox, ux, rfl, _, p1, hvx⟩ := hx k hlt
        obtain ⟨t2, t3⟩ := HT.out k hlt
        generalize xs.getD k default = l at *
        have hvx' := hvx
        obtain ⟨ux1, rfl, _⟩ := hvx'
        have g0 : w.cell? ⟨bx, ox + k, none⟩ = some (ux1) := cells1 p1
        replace g0 := cell_keep hbl g0
        generalize hm : wtAcc l = m at *
        have HM : Hid (wtAcc l = m) := hm
        clear hx p1 hm
        generalize cntTo wtAcc k xs = c at *
        go_wp2_with fail
        refine (szAcceptor_u (.agg #[ux1]) l (left - n - c) _ (accR.below hvx (by (repeat (first | exact Below.refl _ _ | assumption | refine Below.drew ?_ | refine balloc ?_ _ | refine bstep ?_ (by assumption))))) hpos (by omega)).mono ?_
        rintro e wa ⟨rfl, b1⟩
        rw [HM.out]
        go_wp2
        · rename_i hneg
          go_ret
          refine ⟨?_, by (repeat (first | exact Below.refl _ _ | assumption | refine Below.drew ?_ | refine balloc ?_ _ | refine bstep ?_ (by assumption)))⟩
          have : szLen left ↑(n + cntTo wtAcc n xs) = -1 := by
            unfold szLen at hneg ⊢
            rw [if_pos (by split at hneg <;> omega)]
          rw [this]
          rfl
        · rename_i hneg
          refine ⟨⟨k + 1, by omega, by go_num, ?_, ?_, by (repeat (first | exact Below.refl _ _ | assumption | refine Below.drew ?_ | refine balloc ?_ _ | refine bstep ?_ (by assumption)))⟩, by simp [intOf]; omega⟩
          · congr 1
            unfold szLen at hneg ⊢
            split at hneg <;> omega
          · unfold szLen at hneg
            split at hneg <;> omega
      · go_wp2
        go_ret
        have hkn : k = n := by omega
        subst hkn
        refine ⟨?_, hbl⟩
        have : szLen left ↑(k + cntTo wtAcc k xs) = left - k - cntTo wtAcc k xs := by
          unfold szLen
          rw [if_neg (by omega)]
          omega
        rw [this]
        rfl
end Go.Proofs.YtolihmobkoiplaaGreat

/-
  AcceptorsResult. (Written by program: nest.py.)
-/
namespace Go.Proofs.YtolihmobkoiplaaGreat
open Go.RowKit
set_option linter.unusedSectionVars false
variable [DecidableEq Vot] [Inhabited Vot] [DecidableEq Slt] [Inhabited Slt] [DecidableEq Acc] [Inhabited Acc]
attribute [local go_sem ↓] Go.wp_at_zero Go.wp_at_succ

structure AccsR where
  code : Int
  value : Int
  accs : List Acc
variable [DecidableEq AccsR] [Inhabited AccsR]

end Go.Proofs.YtolihmobkoiplaaGreat

/-
  SlotsResult. (Written by program: nest.py.)
-/
namespace Go.Proofs.YtolihmobkoiplaaGreat
open Go.RowKit
set_option linter.unusedSectionVars false
variable [DecidableEq Vot] [Inhabited Vot] [DecidableEq Slt] [Inhabited Slt]
attribute [local go_sem ↓] Go.wp_at_zero Go.wp_at_succ

structure SltsR where
  code : Int
  slots : List Slt
variable [DecidableEq SltsR] [Inhabited SltsR]

end Go.Proofs.YtolihmobkoiplaaGreat

/-
  Acceptors, in mathematics: their fault, the slot that is asked, a slot put in its place, what is answered.
-/
set_option linter.unusedVariables false
namespace Go.Proofs.YtolihmobkoiplaaGreat
open Go.RowKit
set_option linter.unusedSectionVars false
variable [DecidableEq Vot] [Inhabited Vot] [DecidableEq Slt] [Inhabited Slt] [DecidableEq SltR] [Inhabited SltR] [DecidableEq Bal] [Inhabited Bal] [DecidableEq Ledg] [Inhabited Ledg] [DecidableEq Leg] [Inhabited Leg] [DecidableEq Acc] [Inhabited Acc] [DecidableEq AccR] [Inhabited AccR] [DecidableEq AccsR] [Inhabited AccsR] [DecidableEq SltsR] [Inhabited SltsR]

def cmpZ (x y : Int) : Int := if x < y then -1 else if y < x then 1 else 0
def orZ (x y : Int) : Int := if x = 0 then y else x
def cmpS (x y : Slt) : Int := orZ (cmpZ x.con y.con) (cmpZ x.sh y.sh)
def aheadS (x y : Slt) : Bool := decide (cmpS x y < 0)
theorem cmpZ_lt {x y : Int} : cmpZ x y < 0 ↔ x < y := by unfold cmpZ; (repeat' split) <;> omega
theorem cmpZ_eq {x y : Int} : cmpZ x y = 0 ↔ x = y := by unfold cmpZ; (repeat' split) <;> omega
theorem cmpS_lt {x y : Slt} : cmpS x y < 0 ↔ x.con < y.con ∨ (x.con = y.con ∧ x.sh < y.sh) := by
  have h1 := cmpZ_lt (x := x.con) (y := y.con)
  have h2 := cmpZ_lt (x := x.sh) (y := y.sh)
  have h3 := cmpZ_eq (x := x.con) (y := y.con)
  unfold cmpS orZ
  split <;> omega
theorem cmpS_eq {x y : Slt} : cmpS x y = 0 ↔ x.con = y.con ∧ x.sh = y.sh := by
  have h2 := cmpZ_eq (x := x.sh) (y := y.sh)
  have h3 := cmpZ_eq (x := x.con) (y := y.con)
  unfold cmpS orZ
  split <;> omega
theorem aheadS_iff {x y : Slt} : aheadS x y = true ↔ x.con < y.con ∨ (x.con = y.con ∧ x.sh < y.sh) := by unfold aheadS; rw [decide_eq_true_eq]; exact cmpS_lt
def accAt (xs : List Slt) (k : Nat) : Int := if sltFault (xs.getD k default) = 0 then (if k = 0 then 0 else if aheadS (xs.getD (k - 1) default) (xs.getD k default) = true then 0 else 1) else sltFault (xs.getD k default)
def accF (xs : List Slt) : Int := if 60 < xs.length then 2 else scanI (accAt xs) xs.length
theorem accF_many {xs : List Slt} (h : 60 < xs.length) : accF xs = 2 := by unfold accF; rw [if_pos h]
theorem accF_hit {xs : List Slt} {k : Nat} {c : Int} (h : ¬ 60 < xs.length) (hk : k < xs.length) (hs : scanI (accAt xs) k = 0) (hc : accAt xs k = c) (h0 : ¬ c = 0) : accF xs = c := by
  have e := scanI_hit hs (by rw [hc]; exact h0) _ hk
  unfold accF
  rw [if_neg h, e, hc]
theorem accF_end {xs : List Slt} (h : ¬ 60 < xs.length) (hs : scanI (accAt xs) xs.length = 0) : accF xs = 0 := by unfold accF; rw [if_neg h, hs]
theorem accAt_form {xs : List Slt} {p : Nat} (h : sltFault (xs.getD (p + 1) default) = 0) (h1 : aheadS (xs.getD p default) (xs.getD (p + 1) default) = false) : accAt xs (p + 1) = 1 := by
  unfold accAt
  rw [if_pos h, if_neg (by omega), Nat.add_sub_cancel, h1]
  rfl
structure AccOk (xs : List Slt) : Prop where
  len : xs.length ≤ 60
  ok : ∀ k, k < xs.length → sltFault (xs.getD k default) = 0
  ord : ∀ i j, i < j → j < xs.length → aheadS (xs.getD i default) (xs.getD j default) = true
theorem aheadS_trans {x y z : Slt} (h1 : aheadS x y = true) (h2 : aheadS y z = true) : aheadS x z = true := by
  rw [aheadS_iff] at *
  omega
theorem accOk_of {xs : List Slt} (h : accF xs = 0) : AccOk xs := by
  unfold accF at h
  by_cases h6 : 60 < xs.length
  · rw [if_pos h6] at h; omega
  · rw [if_neg h6] at h
    have hk := scanI_zero h
    have hf : ∀ k, k < xs.length → sltFault (xs.getD k default) = 0 := fun k hk' => by
      have h1 := hk k hk'
      unfold accAt at h1
      split at h1
      · assumption
      · exact h1
    have hs : ∀ k, k + 1 < xs.length → aheadS (xs.getD k default) (xs.getD (k + 1) default) = true := fun k hk' => by
      have h1 := hk (k + 1) hk'
      cases e : aheadS (xs.getD k default) (xs.getD (k + 1) default) with
      | true => rfl
      | false => rw [accAt_form (hf _ hk') e] at h1; omega
    refine ⟨by omega, hf, fun i j hij hj => ?_⟩
    obtain ⟨q, rfl⟩ : ∃ q, j = i + 1 + q := ⟨j - (i + 1), by omega⟩
    clear hij
    induction q with
    | zero => exact hs i (by omega)
    | succ q ih => exact aheadS_trans (ih (by omega)) (hs (i + 1 + q) hj)
def sameS (x f : Slt) : Bool := decide (x.con = f.con) && decide (x.sh = f.sh)
def slotO (xs : List Slt) (f : Slt) : Slt := (xs.find? (fun x => sameS x f)).getD f
theorem sameS_iff {x f : Slt} : sameS x f = true ↔ x.con = f.con ∧ x.sh = f.sh := by simp [sameS]
theorem slotO_none {xs : List Slt} {f : Slt} (h : ∀ k, k < xs.length → sameS (xs.getD k default) f = false) : slotO xs f = f := by
  unfold slotO
  have e : xs.find? (fun x => sameS x f) = none := by
    rw [List.find?_eq_none]
    intro x hx
    obtain ⟨i, hi, rfl⟩ := List.getElem_of_mem hx
    have := h i hi
    rw [List.getD_eq_getElem?_getD, List.getElem?_eq_getElem hi] at this
    simpa using this
  rw [e]
  rfl
theorem slotO_at : ∀ {xs : List Slt} {f : Slt} {i : Nat}, i < xs.length → (∀ k, k < i → sameS (xs.getD k default) f = false) → sameS (xs.getD i default) f = true → slotO xs f = xs.getD i default
  | [], _, _, h, _, _ => by simp at h
  | x :: xs, f, 0, _, _, h => by
    have h' : sameS x f = true := by simpa using h
    unfold slotO
    rw [List.find?_cons, h']
    rfl
  | x :: xs, f, i + 1, hi, hk, h => by
    have h0 : sameS x f = false := by simpa using hk 0 (by omega)
    have ih := slotO_at (xs := xs) (f := f) (i := i) (by simpa using hi) (fun k hk' => by simpa using hk (k + 1) (by omega)) (by simpa using h)
    unfold slotO at ih ⊢
    rw [List.find?_cons, h0]
    simpa using ih
theorem slotO_mem (xs : List Slt) (f : Slt) : slotO xs f = f ∨ (∃ i, i < xs.length ∧ slotO xs f = xs.getD i default ∧ sameS (xs.getD i default) f = true) := by
  unfold slotO
  cases e : xs.find? (fun x => sameS x f) with
  | none => exact .inl rfl
  | some x =>
    have h1 := List.find?_some e
    have h2 := List.mem_of_find?_eq_some e
    obtain ⟨i, hi, hx⟩ := List.getElem_of_mem h2
    have hg : xs.getD i default = x := by rw [List.getD_eq_getElem?_getD, List.getElem?_eq_getElem hi, hx]; rfl
    exact .inr ⟨i, hi, hg.symm, by rw [hg]; exact h1⟩
theorem slotO_same (xs : List Slt) (f : Slt) : (slotO xs f).con = f.con ∧ (slotO xs f).sh = f.sh := by
  rcases slotO_mem xs f with h | ⟨i, hi, h, h1⟩
  · rw [h]; exact ⟨rfl, rfl⟩
  · rw [h]; exact sameS_iff.1 h1
def freS (c s : Int) : Slt := ⟨c, s, -1, -1, 0, []⟩
def idOk (c s : Int) : Bool := inB c 1 1000000000 && inB s 0 2
theorem newSlt_ok {c s : Int} (h : idOk c s = true) : newSlt c s = ⟨0, 0, 0, freS c s⟩ := by unfold idOk at h; unfold newSlt; rw [h]; rfl
theorem freS_ok {c s : Int} (h : idOk c s = true) : sltFault (freS c s) = 0 := by
  unfold idOk at h
  simp only [Bool.and_eq_true] at h
  have hr : sltRange (freS c s) = true := by unfold sltRange freS; simp only []; rw [h.1, h.2]; decide
  rw [sltF_end hr (by simp [freS]) (by simp [freS, scanI])]
  simp [freS, lastV, noV]
theorem slotO_ok {xs : List Slt} {c s : Int} (ha : AccOk xs) (h : idOk c s = true) : sltFault (slotO xs (freS c s)) = 0 := by
  rcases slotO_mem xs (freS c s) with e | ⟨i, hi, e, _⟩
  · rw [e]; exact freS_ok h
  · rw [e]; exact ha.ok i hi
def listF (l : List Acc) : Int := if l.length < 1 ∨ 5 < l.length then 2 else scanI (fun k => accF (l.getD k default).slots) l.length
theorem listF_many {l : List Acc} (h : l.length < 1 ∨ 5 < l.length) : listF l = 2 := by unfold listF; rw [if_pos h]
theorem listF_hit {l : List Acc} {k : Nat} {c : Int} (h : ¬ (l.length < 1 ∨ 5 < l.length)) (hk : k < l.length) (hs : scanI (fun k => accF (l.getD k default).slots) k = 0) (hc : accF (l.getD k default).slots = c) (h0 : ¬ c = 0) : listF l = c := by
  have e := scanI_hit (f := fun k => accF (l.getD k default).slots) hs (by show ¬ accF _ = 0; rw [hc]; exact h0) _ hk
  unfold listF
  rw [if_neg h, e]
  exact hc
theorem listF_end {l : List Acc} (h : ¬ (l.length < 1 ∨ 5 < l.length)) (hs : scanI (fun k => accF (l.getD k default).slots) l.length = 0) : listF l = 0 := by unfold listF; rw [if_neg h, hs]
structure ListOk (l : List Acc) : Prop where
  lo : 1 ≤ l.length
  hi : l.length ≤ 5
  ok : ∀ k, k < l.length → accF (l.getD k default).slots = 0
theorem listOk_of {l : List Acc} (h : listF l = 0) : ListOk l := by
  unfold listF at h
  by_cases h1 : l.length < 1 ∨ 5 < l.length
  · rw [if_pos h1] at h; omega
  · rw [if_neg h1] at h
    exact ⟨by omega, by omega, scanI_zero h⟩
def slotsL (l : List Acc) (c s : Int) : List Slt := l.map (fun a => slotO a.slots (freS c s))
end Go.Proofs.YtolihmobkoiplaaGreat


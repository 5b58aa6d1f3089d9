import Derived.Test.YtjemciikdijokaaPrnOpenSessionLaw6
import Derived.Test.YtjemciikdijokaaPrnOpenSessionLaw2
import Derived.Deep.RegionHeld3
import Derived.Deep.DrawnRows
import Derived.Test.YtjemciikdijokaaPrnOpenSessionLaw3

/-
  Acceptor. (Written by program: nest.py.)
-/
namespace Go.Proofs.Ytjemciikdijokaa
open Go.RowKit
set_option linter.unusedSectionVars false
variable [DecidableEq Vot] [Inhabited Vot] [DecidableEq Slt] [Inhabited Slt]
attribute [local go_sem ↓] Go.wp_at_zero Go.wp_at_succ

structure Acc where
  slots : List Slt
variable [DecidableEq Acc] [Inhabited Acc]

def accR : Rep Acc where
  V := fun w v x => ∃ u1, v = .agg #[u1] ∧ sltsR.V w u1 x.slots
  O := fun w base F v x => ∃ u1 F1, v = .agg #[u1] ∧ sltsR.O w base F1 u1 x.slots ∧ (∀ b, F b ↔ (F1 b))
  below := fun h hb => by
    obtain ⟨u1, rfl, h1⟩ := h
    exact ⟨u1, rfl, sltsR.below h1 hb⟩
  ofO := fun h => by
    obtain ⟨u1, F1, rfl, h1, _⟩ := h
    exact ⟨u1, rfl, sltsR.ofO h1⟩
  mod := fun h hm hd => by
    obtain ⟨u1, F1, rfl, h1, hF⟩ := h
    exact ⟨u1, F1, rfl, sltsR.mod h1 hm (fun b hb => hd b ((hF b).2 hb)), hF⟩
  rng := fun h b hb => by
    obtain ⟨u1, F1, rfl, h1, hF⟩ := h
    rcases (hF b).1 hb with hb
    · exact sltsR.rng h1 b hb
  base := fun h hb => by
    obtain ⟨u1, F1, rfl, h1, hF⟩ := h
    exact ⟨u1, F1, rfl, sltsR.base h1 hb, hF⟩
def wtAcc (x : Acc) : Nat := wtSlts x.slots
def lvAcc (v : Value) : List Value := match v with | .agg a => one (a.getD 0 (.int .i64 0)) | _ => []
def cntElAcc (x : Acc) : Nat := cntSlts x.slots
def mkElAcc (k : Int) (x : Acc) : Acc := { slots := mkSlts (k) x.slots }
theorem acc_cntEl (d : Acc) : cntElAcc d ≤ 7 * (1 + wtAcc d) := by
  unfold cntElAcc wtAcc
  have q1 := slts_cnt d.slots
  omega
set_option maxHeartbeats 1000000 in
theorem eqAcceptor_u (x y : Value) (d d' : Acc) (w : World) (hx : accR.V w x d) (hy : accR.V w y d') :
    Calls Try.prog 67 #[x, y] w fun e w' => e = .returned (.bool (decide (d = d'))) ∧ Below w.heap.size w w' := by
  obtain ⟨u1, rfl, h1⟩ := hx
  obtain ⟨v1, rfl, k1⟩ := hy
  obtain ⟨slots⟩ := d
  obtain ⟨slots'⟩ := d'
  dsimp only at h1 k1
  go_enter Try.func67, Try.ntmps67
  go_wp2_with fail
  all_goals try (go_ret; exact ⟨by simp_all, by (repeat (first | exact Below.refl _ _ | assumption | refine Below.drew ?_ | refine balloc ?_ _ | refine bset ?_ (by simp; omega) _ | refine bset ?_ (by simp) _ | refine bstep ?_ (by assumption)))⟩)
  refine (eqSlotS_u _ _ slots slots' _ (sltsR.below h1 (by (repeat (first | exact Below.refl _ _ | assumption | refine Below.drew ?_ | refine balloc ?_ _ | refine bset ?_ (by simp; omega) _ | refine bset ?_ (by simp) _ | refine bstep ?_ (by assumption))))) (sltsR.below k1 (by (repeat (first | exact Below.refl _ _ | assumption | refine Below.drew ?_ | refine balloc ?_ _ | refine bset ?_ (by simp; omega) _ | refine bset ?_ (by simp) _ | refine bstep ?_ (by assumption)))))).mono ?_
  rintro e w1 ⟨rfl, b1⟩
  go_wp2
  all_goals
    go_ret
    exact ⟨by simp_all, by (repeat (first | exact Below.refl _ _ | assumption | refine Below.drew ?_ | refine balloc ?_ _ | refine bset ?_ (by simp; omega) _ | refine bset ?_ (by simp) _ | refine bstep ?_ (by assumption)))⟩
end Go.Proofs.Ytjemciikdijokaa

/-
  Rows of Acceptor. (Written by program: nest.py.)
-/
namespace Go.Proofs.Ytjemciikdijokaa
open Go.RowKit
set_option linter.unusedSectionVars false
variable [DecidableEq Vot] [Inhabited Vot] [DecidableEq Slt] [Inhabited Slt] [DecidableEq Acc] [Inhabited Acc]
attribute [local go_sem ↓] Go.wp_at_zero Go.wp_at_succ

def accsR : Rep (List Acc) := nRep accR 98 1 lvAcc
def wtAccs (xs : List Acc) : Nat := wtL wtAcc xs
def cntAccs (xs : List Acc) : Nat := cntL cntElAcc xs
def mkAccs (k : Int) (xs : List Acc) : List Acc := mkL mkElAcc cntElAcc k xs
theorem accs_form {w : World} {v : Value} {xs : List Acc} (h : accsR.V w v xs) : ∃ a c, v = .slice a xs.length c := by
  obtain ⟨a, c, rfl, _⟩ := h
  exact ⟨_, _, rfl⟩
theorem accs_cnt (d : List Acc) : cntAccs d ≤ 7 * wtAccs d := cntL_le (fun x => acc_cntEl x) d
theorem keepAccs {w w' : World} {a0 a1 : Addr} {x0 x1 : Value} (hb : Below w.heap.size w w') (g0 : w.cell? a0 = some x0) (g1 : w.cell? a1 = some x1) : Below w.heap.size w w' ∧ w'.cell? a0 = some x0 ∧ w'.cell? a1 = some x1 :=
  ⟨hb, cell_keep hb g0, cell_keep hb g1⟩
set_option maxHeartbeats 1000000 in
theorem eqAcceptorS_u (x y : Value) (xs ys : List Acc) (w : World) (hx : accsR.V w x xs) (hy : accsR.V w y ys) :
    Calls Try.prog 49 #[x, y] w fun e w' => e = .returned (.bool (decide (xs = ys))) ∧ Below w.heap.size w w' := by
  obtain ⟨ax, cx, rfl, hcx, hmx, hx⟩ := hx
  obtain ⟨ay, cy, rfl, hcy, hmy, hy⟩ := hy
  unfold maxLen at hmx hmy
  by_cases hl : ys.length = xs.length
  · rw [hl] at hcy hy ⊢
    have HL : Hid (ys.length = xs.length) := hl
    clear hl
    generalize hn : xs.length = n at *
    have HN : Hid (xs.length = n) := hn
    clear hn
    go_enter Try.func49, Try.ntmps49
    go_wp2
    go_loopw [5] (fun i w' => ∃ k : Nat, k ≤ n ∧ i = .int .i64 k ∧ (∀ j, j < k → xs.getD j default = ys.getD j default) ∧ Below w.heap.size w w') (fun i _ => n - (intOf i).toNat)
    case atStart => exact ⟨0, Nat.zero_le _, rfl, fun j h => absurd h (Nat.not_lt_zero _), Below.refl _ _⟩
    case round =>
      obtain ⟨k, hk, rfl, hpre, hbl⟩ := hrel
      have HP : Hid (∀ j, j < k → xs.getD j default = ys.getD j default) := hpre
      clear hpre
      by_cases hlt : k < n
      · obtain ⟨bx, ox, ux, rfl, _, p1, hvx⟩ := hx k hlt
        obtain ⟨b2, oy, uy, rfl, _, p2, hvy⟩ := hy k hlt
        obtain ⟨l1, hl1⟩ : ∃ l, l = xs.getD k default := ⟨_, rfl⟩
        obtain ⟨l2, hl2⟩ : ∃ l, l = ys.getD k default := ⟨_, rfl⟩
        rw [← hl1] at hvx
        rw [← hl2] at hvy
        have H1 : Hid (l1 = xs.getD k default) := hl1
        have H2 : Hid (l2 = ys.getD k default) := hl2
        have hvx' := hvx
        obtain ⟨ux1, rfl, _⟩ := hvx'
        have hvy' := hvy
        obtain ⟨uy1, rfl, _⟩ := hvy'
        have g0 : w.cell? ⟨bx, ox + k, none⟩ = some (ux1) := cells1 p1
        have g1 : w.cell? ⟨b2, oy + k, none⟩ = some (uy1) := cells1 p2
        clear hl1 hl2 hx hy p1 p2
        go_wp2
        go_region_held3 (fun w' => Below w.heap.size w w' ∧ w'.cell? ⟨bx, ox + k, none⟩ = some (ux1) ∧ w'.cell? ⟨b2, oy + k, none⟩ = some (uy1)) ((refine keepAccs ?_ g0 g1; (repeat (first | exact Below.refl _ _ | assumption | refine Below.drew ?_ | refine balloc ?_ _ | refine bstep ?_ (by assumption))))) (first | (go_at_call 67; refine (eqAcceptor_u (.agg #[ux1]) (.agg #[uy1]) l1 l2 _ (accR.below hvx (by (repeat (first | exact Below.refl _ _ | assumption | refine Below.drew ?_ | refine balloc ?_ _ | refine bstep ?_ (by assumption))))) (accR.below hvy (by (repeat (first | exact Below.refl _ _ | assumption | refine Below.drew ?_ | refine balloc ?_ _ | refine bstep ?_ (by assumption)))))).mono ?_; rintro e w' ⟨rfl, hb1⟩))
        rename_i hH
        have hB := hH.1
        clear hH
        go_wp2
        · rename_i hle
          go_ret
          refine ⟨?_, hB⟩
          have : ¬ xs = ys := fun h => by
            have : l1 = l2 := by rw [H1.out, H2.out, h]
            simp [this] at hle
          simp [this]
        · rename_i hle
          refine ⟨⟨k + 1, by omega, by go_num, fun j hj => ?_, hB⟩, by simp [intOf]; omega⟩
          by_cases hjk : j < k
          · exact HP.out j hjk
          · have : j = k := by omega
            subst this
            rw [← H1.out, ← H2.out]
            simpa using hle
      · go_wp2
        go_ret
        have : k = n := by omega
        subst this
        refine ⟨?_, hbl⟩
        have : xs = ys := rows_eq_of (by rw [HL.out, HN.out]) (by rw [HN.out]; exact HP.out)
        simp [this]
  · go_enter Try.func49, Try.ntmps49
    have hl' : ((xs.length : Int) == (ys.length : Int)) = false := by simp; omega
    go_wp2
    go_ret
    have : ¬ xs = ys := fun h => hl (by rw [h])
    exact ⟨by simp [this], Below.refl _ _⟩
set_option maxHeartbeats 1000000 in
theorem heldAcceptorS_u (v : Value) (xs : List Acc) (k : Int) (w : World) (hv : accsR.V w v (mkAccs k xs)) (hw : wtAccs xs ≤ 1048576) (hn : k + cntAccs xs ≤ 1073741824) (hk0 : 0 ≤ k) :
    Calls Try.prog 60 #[v, .int .i64 k] w fun r w' => r = .returned (.int .i64 (k + cntAccs xs)) ∧ Below w.heap.size w w' := by
  obtain ⟨a, cap, rfl, hnc, hcm, hc⟩ := hv
  unfold mkAccs at hnc hc ⊢
  rw [length_mkL] at hnc hc ⊢
  unfold maxLen at hcm
  have hW : ∀ k, k < xs.length → wtAcc (xs.getD k default) ≤ 1048576 := fun k hk => (wt_at hw hk).1
  unfold cntAccs cntL at hn ⊢
  have HT : Hid (∀ j, j < xs.length → (mkL mkElAcc cntElAcc k xs).getD j default = mkElAcc (k + cntTo cntElAcc j xs) (xs.getD j default) ∧ cntTo cntElAcc (j + 1) xs = cntTo cntElAcc j xs + cntElAcc (xs.getD j default) ∧ cntTo cntElAcc (j + 1) xs ≤ cntTo cntElAcc xs.length xs) :=
    fun j hj => ⟨getD_mkL _ _ _ _ _ hj, cntTo_succ _ j xs hj, cntTo_le _ _ _ _ hj⟩
  clear hw
  generalize xs.length = n at *
  go_enter Try.func60, Try.ntmps60
  go_wp2
  go_loopw [1, 5] (fun q i w' => ∃ j : Nat, j ≤ n ∧ i = .int .i64 j ∧ q = .int .i64 (k + cntTo cntElAcc j xs) ∧ Below w.heap.size w w') (fun _ i _ => n - (intOf i).toNat)
  case atStart => exact ⟨0, Nat.zero_le _, rfl, by simp [cntTo], Below.refl _ _⟩
  case round =>
    obtain ⟨j, hj, rfl, rfl, hbl⟩ := hrel
    by_cases hlt : j < n
    · obtain ⟨bx, ox, ux, rfl, _, p1, hvx⟩ := hc j hlt
      obtain ⟨t1, t2, t3⟩ := HT.out j hlt
      have hw1 := hW j hlt
      rw [t1] at hvx
      generalize xs.getD j default = l at *
      have tC : cntElAcc l = cntSlts l.slots := rfl
      rw [tC] at t2
      have tW : wtAcc l = wtSlts l.slots := rfl
      rw [tW] at hw1
      clear tC tW
      obtain ⟨q, hq⟩ : ∃ q, q = k + cntTo cntElAcc j xs := ⟨_, rfl⟩
      have hq0 : 0 ≤ q := by omega
      rw [← hq] at hvx ⊢
      have T2 : Hid (k + cntTo cntElAcc (j + 1) xs = q + cntSlts l.slots) := by show _ = _; omega
      have hq1 : q + cntSlts l.slots ≤ 1073741824 := by omega
      obtain ⟨ux1, rfl, hv1⟩ := hvx
      dsimp only [mkElAcc] at hv1
      have g0 : w.cell? ⟨bx, ox + j, none⟩ = some (ux1) := cells1 p1
      replace g0 := cell_keep hbl g0
      clear hc p1 t1 t2 t3 hW hq
      go_wp2_with fail
      refine (heldSlotS_u ux1 l.slots (q) _ (sltsR.below hv1 (by (repeat (first | exact Below.refl _ _ | assumption | refine Below.drew ?_ | refine balloc ?_ _ | refine bstep ?_ (by assumption))))) (by omega) (by omega) (by omega)).mono ?_
      rintro e wb1 ⟨rfl, b1⟩
      go_wp2
      refine ⟨⟨j + 1, by omega, by go_num, ?_, by (repeat (first | exact Below.refl _ _ | assumption | refine Below.drew ?_ | refine balloc ?_ _ | refine bstep ?_ (by assumption)))⟩, by simp [intOf]; omega⟩
      rw [T2.out]
    · go_wp2
      go_ret
      have hjn : j = n := by omega
      subst hjn
      exact ⟨rfl, hbl⟩
set_option maxHeartbeats 1000000 in
theorem markAcceptorS_u (v : Value) (xs : List Acc) (base : Nat) (F : Nat → Prop) (k : Int) (w : World) (ho : accsR.O w base F v xs) (hw : wtAccs xs ≤ 1048576) (hn : k + cntAccs xs ≤ 1073741824) (hk0 : 0 ≤ k) :
    Calls Try.prog 54 #[v, .int .i64 k] w fun r w' => r = .returned (.int .i64 (k + cntAccs xs)) ∧ accsR.O w' base F v (mkAccs k xs) ∧ Mod F w w' := by
  obtain ⟨cs, us, fs, hp, hF⟩ := ho
  have hW : ∀ k, k < xs.length → wtAcc (xs.getD k default) ≤ 1048576 := fun k hk => (wt_at hw hk).1
  unfold cntAccs cntL at hn ⊢
  have HT : Hid (∀ j, j < xs.length → (mkL mkElAcc cntElAcc k xs).getD j default = mkElAcc (k + cntTo cntElAcc j xs) (xs.getD j default) ∧ cntTo cntElAcc (j + 1) xs = cntTo cntElAcc j xs + cntElAcc (xs.getD j default) ∧ cntTo cntElAcc (j + 1) xs ≤ cntTo cntElAcc xs.length xs) :=
    fun j hj => ⟨getD_mkL _ _ _ _ _ hj, cntTo_succ _ j xs hj, cntTo_le _ _ _ _ hj⟩
  clear hw
  have hcap := hp.len
  obtain ⟨av, cv, hav⟩ := owns_form hp.row
  subst hav
  have HF : Hid (∀ b, F b ↔ ((Value.slice av xs.length cv).ownBlock = some b ∨ ∃ i, i < xs.length ∧ fs i b)) := hF
  have HM : Hid ((mkL mkElAcc cntElAcc k xs).length = xs.length) := length_mkL _ _ _ _
  clear hF
  generalize hxl : xs.length = n at *
  clear hxl
  go_enter Try.func54, Try.ntmps54
  go_wp2
  go_loopw [1, 5] (fun q i w' => ∃ (j : Nat) (cs : List Value) (us : Nat → Value), j ≤ n ∧ i = .int .i64 j ∧ q = .int .i64 (k + cntTo cntElAcc j xs) ∧ PO accR 98 1 lvAcc w' base (.slice av n cv) n n (fun i => if i < j then (mkL mkElAcc cntElAcc k xs).getD i default else xs.getD i default) cs us fs ∧ Mod F w w') (fun _ i _ => n - (intOf i).toNat)
  case atStart => exact ⟨0, cs, us, Nat.zero_le _, rfl, by simp [cntTo], hp.cast (fun i hi => by simp), Mod.refl _ _⟩
  case round =>
    clear hp
    obtain ⟨j, cs, us, hj, rfl, rfl, hp1, hm⟩ := hrel
    by_cases hlt : j < n
    · have he := hp1.el j hlt
      simp only [Nat.lt_irrefl, if_false] at he
      obtain ⟨g, rfl, hcl⟩ := hp1.at hlt hlt
      obtain ⟨t1, t2, t3⟩ := HT.out j hlt
      have hw1 := hW j hlt
      obtain ⟨l, hl⟩ : ∃ l, l = xs.getD j default := ⟨_, rfl⟩
      rw [← hl] at t1 t2 hw1 he
      have tC : cntElAcc l = cntSlts l.slots := rfl
      rw [tC] at t2
      have tW : wtAcc l = wtSlts l.slots := rfl
      rw [tW] at hw1
      clear tC tW
      obtain ⟨q, hq⟩ : ∃ q, q = k + cntTo cntElAcc j xs := ⟨_, rfl⟩
      have hq0 : 0 ≤ q := by omega
      rw [← hq] at t1 ⊢
      have T1 : Hid ((mkL mkElAcc cntElAcc k xs).getD j default = mkElAcc q l) := t1
      have T2 : Hid (k + cntTo cntElAcc (j + 1) xs = q + cntSlts l.slots) := by show _ = _; omega
      have hq1 : q + cntSlts l.slots ≤ 1073741824 := by omega
      obtain ⟨ux1, F1, hu, h1, hF⟩ := he
      rw [hu] at hcl
      have g0 : wr.cell? ⟨g, j, none⟩ = some (ux1) := by simpa [one, lvAcc] using hcl 0 (by omega)
      have hrow := hp1.row
      have hclen := hrow.1
      have hf := fun j => hrow.frozenAt j
      clear hl t1 t2 t3 hW hq hcl
      go_wp2_with fail
      refine (markSlotS_u ux1 l.slots base F1 (q) _ h1 (by omega) (by omega) (by omega)).mono ?_
      rintro e wb1 ⟨rfl, r1, m1⟩
      have rw1 := m1.owns hrow (fun b he hb => hp1.out j hlt b ((hF b).2 hb) he)
      have M1 := m1.mono (G := fun b => (Value.slice (some ⟨g, 0, none⟩) n cv).ownBlock = some b ∨ fs j b) (fun b hb => .inr ((hF b).2 hb))
      go_wp2
      have hq := hp1.turn (u := (.agg #[ux1])) (x := mkElAcc q l) hlt M1 ⟨ux1, F1, rfl, r1, hF⟩ rfl rw1 ?_ ?_
      · refine ⟨⟨j + 1, _, _, by omega, by go_num, by rw [T2.out], hq.cast fun i hi => ?_, hm.trans (M1.mono fun b hb => (HF.out b).2 ?_)⟩, by simp [intOf]; omega⟩
        · by_cases hij : i = j
          · subst hij
            rw [upd_at, if_pos (by omega)]
            exact T1.out
          · rw [upd_ne _ _ hij]
            by_cases h : i < j
            · rw [if_pos h, if_pos (by omega)]
            · rw [if_neg h, if_neg (by omega)]
        · rcases hb with hb | hb
          · exact .inl hb
          · exact .inr ⟨j, hlt, hb⟩
      · exact fun _ _ _ _ _ => rfl
      · intro o ho
        rw [← hu]
        exact hp1.cell j hlt o ho
    · go_wp2
      go_ret
      have hjn : j = n := by omega
      subst hjn
      refine ⟨rfl, ⟨cs, us, fs, ?_, ?_⟩, hm⟩
      · unfold mkAccs
        rw [HM.out]
        exact hp1.cast (fun i hi => by rw [if_pos hi])
      · unfold mkAccs
        rw [HM.out]
        exact HF.out
end Go.Proofs.Ytjemciikdijokaa

/-
  Try. (Written by program: nest.py.)
-/
namespace Go.Proofs.Ytjemciikdijokaa
open Go.RowKit
set_option linter.unusedSectionVars false
variable [DecidableEq Leg] [Inhabited Leg] [DecidableEq Vot] [Inhabited Vot]
attribute [local go_sem ↓] Go.wp_at_zero Go.wp_at_succ

set_option linter.unusedSimpArgs false

structure Trr where
  con : Int
  sh : Int
  bal : Int
  val : Int
  frm : List Int
  olds : List Vot
variable [DecidableEq Trr] [Inhabited Trr]

def trrR : Rep Trr where
  V := fun w v x => ∃ u1 u2, v = .agg #[.int .i64 x.con, .int .i64 x.sh, .int .i64 x.bal, .int .i64 x.val, u1, u2] ∧ intsR.V w u1 x.frm ∧ votsR.V w u2 x.olds
  O := fun w base F v x => ∃ u1 u2 F1 F2, v = .agg #[.int .i64 x.con, .int .i64 x.sh, .int .i64 x.bal, .int .i64 x.val, u1, u2] ∧ intsR.O w base F1 u1 x.frm ∧ votsR.O w base F2 u2 x.olds ∧ (∀ b, F1 b → ¬ F2 b) ∧ (∀ b, F b ↔ (F1 b ∨ F2 b))
  below := fun h hb => by
    obtain ⟨u1, u2, rfl, h1, h2⟩ := h
    exact ⟨u1, u2, rfl, intsR.below h1 hb, votsR.below h2 hb⟩
  ofO := fun h => by
    obtain ⟨u1, u2, F1, F2, rfl, h1, h2, _⟩ := h
    exact ⟨u1, u2, rfl, intsR.ofO h1, votsR.ofO h2⟩
  mod := fun h hm hd => by
    obtain ⟨u1, u2, F1, F2, rfl, h1, h2, s12, hF⟩ := h
    exact ⟨u1, u2, F1, F2, rfl, intsR.mod h1 hm (fun b hb => hd b ((hF b).2 (.inl hb))), votsR.mod h2 hm (fun b hb => hd b ((hF b).2 (.inr hb))), s12, hF⟩
  rng := fun h b hb => by
    obtain ⟨u1, u2, F1, F2, rfl, h1, h2, s12, hF⟩ := h
    rcases (hF b).1 hb with hb | hb
    · exact intsR.rng h1 b hb
    · exact votsR.rng h2 b hb
  base := fun h hb => by
    obtain ⟨u1, u2, F1, F2, rfl, h1, h2, s12, hF⟩ := h
    exact ⟨u1, u2, F1, F2, rfl, intsR.base h1 hb, votsR.base h2 hb, s12, hF⟩
def wtTrr (x : Trr) : Nat := wtInts x.frm + wtVots x.olds
def lvTrr (v : Value) : List Value := match v with | .agg a => one (a.getD 0 (.int .i64 0)) ++ one (a.getD 1 (.int .i64 0)) ++ one (a.getD 2 (.int .i64 0)) ++ one (a.getD 3 (.int .i64 0)) ++ one (a.getD 4 (.int .i64 0)) ++ one (a.getD 5 (.int .i64 0)) | _ => []
def cntElTrr (x : Trr) : Nat := 1 + 1 + 1 + 1 + cntInts x.frm + cntVots x.olds
def mkElTrr (k : Int) (x : Trr) : Trr := { con := k, sh := k + 1, bal := k + 1 + 1, val := k + 1 + 1 + 1, frm := mkInts (k + 1 + 1 + 1 + 1) x.frm, olds := mkVots (k + 1 + 1 + 1 + 1 + cntInts x.frm) x.olds }
theorem trr_cntEl (d : Trr) : cntElTrr d ≤ 6 * (1 + wtTrr d) := by
  unfold cntElTrr wtTrr
  have q1 := ints_cnt d.frm
  have q2 := vots_cnt d.olds
  omega
set_option maxHeartbeats 1000000 in
theorem eqTry_u (x y : Value) (d d' : Trr) (w : World) (hx : trrR.V w x d) (hy : trrR.V w y d') :
    Calls Try.prog 96 #[x, y] w fun e w' => e = .returned (.bool (decide (d = d'))) ∧ Below w.heap.size w w' := by
  obtain ⟨u1, u2, rfl, h1, h2⟩ := hx
  obtain ⟨v1, v2, rfl, k1, k2⟩ := hy
  obtain ⟨con, sh, bal, val, frm, olds⟩ := d
  obtain ⟨con', sh', bal', val', frm', olds'⟩ := d'
  dsimp only at h1 k1 h2 k2
  go_enter Try.func96, Try.ntmps96
  go_wp2_with fail
  all_goals try (go_ret; exact ⟨by simp_all, by (repeat (first | exact Below.refl _ _ | assumption | refine Below.drew ?_ | refine balloc ?_ _ | refine bset ?_ (by simp; omega) _ | refine bset ?_ (by simp) _ | refine bstep ?_ (by assumption)))⟩)
  refine (eqInt64S_u _ _ frm frm' _ (intsR.below h1 (by (repeat (first | exact Below.refl _ _ | assumption | refine Below.drew ?_ | refine balloc ?_ _ | refine bset ?_ (by simp; omega) _ | refine bset ?_ (by simp) _ | refine bstep ?_ (by assumption))))) (intsR.below k1 (by (repeat (first | exact Below.refl _ _ | assumption | refine Below.drew ?_ | refine balloc ?_ _ | refine bset ?_ (by simp; omega) _ | refine bset ?_ (by simp) _ | refine bstep ?_ (by assumption)))))).mono ?_
  rintro e w1 ⟨rfl, b1⟩
  have x0 : w1.cell? ⟨w.heap.size, 0, none⟩ = some (.int .i64 con) := cell_keep b1 (by simp [go_sem])
  have x1 : w1.cell? ⟨w.heap.size, 1, none⟩ = some (.int .i64 sh) := cell_keep b1 (by simp [go_sem])
  have x2 : w1.cell? ⟨w.heap.size, 2, none⟩ = some (.int .i64 bal) := cell_keep b1 (by simp [go_sem])
  have x3 : w1.cell? ⟨w.heap.size, 3, none⟩ = some (.int .i64 val) := cell_keep b1 (by simp [go_sem])
  have x4 : w1.cell? ⟨w.heap.size, 4, none⟩ = some (u1) := cell_keep b1 (by simp [go_sem])
  have x5 : w1.cell? ⟨w.heap.size, 5, none⟩ = some (u2) := cell_keep b1 (by simp [go_sem])
  have y0 : w1.cell? ⟨w.heap.size + 1, 0, none⟩ = some (.int .i64 con') := cell_keep b1 (by simp [go_sem])
  have y1 : w1.cell? ⟨w.heap.size + 1, 1, none⟩ = some (.int .i64 sh') := cell_keep b1 (by simp [go_sem])
  have y2 : w1.cell? ⟨w.heap.size + 1, 2, none⟩ = some (.int .i64 bal') := cell_keep b1 (by simp [go_sem])
  have y3 : w1.cell? ⟨w.heap.size + 1, 3, none⟩ = some (.int .i64 val') := cell_keep b1 (by simp [go_sem])
  have y4 : w1.cell? ⟨w.heap.size + 1, 4, none⟩ = some (v1) := cell_keep b1 (by simp [go_sem])
  have y5 : w1.cell? ⟨w.heap.size + 1, 5, none⟩ = some (v2) := cell_keep b1 (by simp [go_sem])
  go_wp2_with fail
  all_goals try (go_ret; exact ⟨by simp_all, by (repeat (first | exact Below.refl _ _ | assumption | refine Below.drew ?_ | refine balloc ?_ _ | refine bset ?_ (by simp; omega) _ | refine bset ?_ (by simp) _ | refine bstep ?_ (by assumption)))⟩)
  refine (eqVoteS_u _ _ olds olds' _ (votsR.below h2 (by (repeat (first | exact Below.refl _ _ | assumption | refine Below.drew ?_ | refine balloc ?_ _ | refine bset ?_ (by simp; omega) _ | refine bset ?_ (by simp) _ | refine bstep ?_ (by assumption))))) (votsR.below k2 (by (repeat (first | exact Below.refl _ _ | assumption | refine Below.drew ?_ | refine balloc ?_ _ | refine bset ?_ (by simp; omega) _ | refine bset ?_ (by simp) _ | refine bstep ?_ (by assumption)))))).mono ?_
  rintro e w2 ⟨rfl, b2⟩
  go_wp2
  all_goals
    go_ret
    exact ⟨by simp_all, by (repeat (first | exact Below.refl _ _ | assumption | refine Below.drew ?_ | refine balloc ?_ _ | refine bset ?_ (by simp; omega) _ | refine bset ?_ (by simp) _ | refine bstep ?_ (by assumption)))⟩
end Go.Proofs.Ytjemciikdijokaa

/-
  Rows of Try. (Written by program: nest.py.)
-/
namespace Go.Proofs.Ytjemciikdijokaa
open Go.RowKit
set_option linter.unusedSectionVars false
variable [DecidableEq Leg] [Inhabited Leg] [DecidableEq Vot] [Inhabited Vot] [DecidableEq Trr] [Inhabited Trr]
attribute [local go_sem ↓] Go.wp_at_zero Go.wp_at_succ

def trysR : Rep (List Trr) := nRep trrR 134 6 lvTrr
def wtTrys (xs : List Trr) : Nat := wtL wtTrr xs
def cntTrys (xs : List Trr) : Nat := cntL cntElTrr xs
def mkTrys (k : Int) (xs : List Trr) : List Trr := mkL mkElTrr cntElTrr k xs
theorem trys_cnt (d : List Trr) : cntTrys d ≤ 6 * wtTrys d := cntL_le (fun x => trr_cntEl x) d
theorem keepTrys {w w' : World} {a0 a1 a2 a3 a4 a5 a6 a7 a8 a9 a10 a11 : Addr} {x0 x1 x2 x3 x4 x5 x6 x7 x8 x9 x10 x11 : Value} (hb : Below w.heap.size w w') (g0 : w.cell? a0 = some x0) (g1 : w.cell? a1 = some x1) (g2 : w.cell? a2 = some x2) (g3 : w.cell? a3 = some x3) (g4 : w.cell? a4 = some x4) (g5 : w.cell? a5 = some x5) (g6 : w.cell? a6 = some x6) (g7 : w.cell? a7 = some x7) (g8 : w.cell? a8 = some x8) (g9 : w.cell? a9 = some x9) (g10 : w.cell? a10 = some x10) (g11 : w.cell? a11 = some x11) : Below w.heap.size w w' ∧ w'.cell? a0 = some x0 ∧ w'.cell? a1 = some x1 ∧ w'.cell? a2 = some x2 ∧ w'.cell? a3 = some x3 ∧ w'.cell? a4 = some x4 ∧ w'.cell? a5 = some x5 ∧ w'.cell? a6 = some x6 ∧ w'.cell? a7 = some x7 ∧ w'.cell? a8 = some x8 ∧ w'.cell? a9 = some x9 ∧ w'.cell? a10 = some x10 ∧ w'.cell? a11 = some x11 :=
  ⟨hb, cell_keep hb g0, cell_keep hb g1, cell_keep hb g2, cell_keep hb g3, cell_keep hb g4, cell_keep hb g5, cell_keep hb g6, cell_keep hb g7, cell_keep hb g8, cell_keep hb g9, cell_keep hb g10, cell_keep hb g11⟩
set_option maxHeartbeats 1000000 in
theorem eqTryS_u (x y : Value) (xs ys : List Trr) (w : World) (hx : trysR.V w x xs) (hy : trysR.V w y ys) :
    Calls Try.prog 87 #[x, y] w fun e w' => e = .returned (.bool (decide (xs = ys))) ∧ Below w.heap.size w w' := by
  obtain ⟨ax, cx, rfl, hcx, hmx, hx⟩ := hx
  obtain ⟨ay, cy, rfl, hcy, hmy, hy⟩ := hy
  unfold maxLen at hmx hmy
  by_cases hl : ys.length = xs.length
  · rw [hl] at hcy hy ⊢
    have HL : Hid (ys.length = xs.length) := hl
    clear hl
    generalize hn : xs.length = n at *
    have HN : Hid (xs.length = n) := hn
    clear hn
    go_enter Try.func87, Try.ntmps87
    go_wp2
    go_loopw [5] (fun i w' => ∃ k : Nat, k ≤ n ∧ i = .int .i64 k ∧ (∀ j, j < k → xs.getD j default = ys.getD j default) ∧ Below w.heap.size w w') (fun i _ => n - (intOf i).toNat)
    case atStart => exact ⟨0, Nat.zero_le _, rfl, fun j h => absurd h (Nat.not_lt_zero _), Below.refl _ _⟩
    case round =>
      obtain ⟨k, hk, rfl, hpre, hbl⟩ := hrel
      have HP : Hid (∀ j, j < k → xs.getD j default = ys.getD j default) := hpre
      clear hpre
      by_cases hlt : k < n
      · obtain ⟨bx, ox, ux, rfl, _, p1, hvx⟩ := hx k hlt
        obtain ⟨b2, oy, uy, rfl, _, p2, hvy⟩ := hy k hlt
        obtain ⟨l1, hl1⟩ : ∃ l, l = xs.getD k default := ⟨_, rfl⟩
        obtain ⟨l2, hl2⟩ : ∃ l, l = ys.getD k default := ⟨_, rfl⟩
        rw [← hl1] at hvx
        rw [← hl2] at hvy
        have H1 : Hid (l1 = xs.getD k default) := hl1
        have H2 : Hid (l2 = ys.getD k default) := hl2
        have hvx' := hvx
        obtain ⟨ux1, ux2, rfl, _, _⟩ := hvx'
        have hvy' := hvy
        obtain ⟨uy1, uy2, rfl, _, _⟩ := hvy'
        have g0 : w.cell? ⟨bx, ox + k * 6, none⟩ = some (.int .i64 l1.con) := p1 0 (by omega)
        have g1 : w.cell? ⟨bx, ox + k * 6 + 1, none⟩ = some (.int .i64 l1.sh) := p1 1 (by omega)
        have g2 : w.cell? ⟨bx, ox + k * 6 + 2, none⟩ = some (.int .i64 l1.bal) := p1 2 (by omega)
        have g3 : w.cell? ⟨bx, ox + k * 6 + 3, none⟩ = some (.int .i64 l1.val) := p1 3 (by omega)
        have g4 : w.cell? ⟨bx, ox + k * 6 + 4, none⟩ = some (ux1) := p1 4 (by omega)
        have g5 : w.cell? ⟨bx, ox + k * 6 + 5, none⟩ = some (ux2) := p1 5 (by omega)
        have g6 : w.cell? ⟨b2, oy + k * 6, none⟩ = some (.int .i64 l2.con) := p2 0 (by omega)
        have g7 : w.cell? ⟨b2, oy + k * 6 + 1, none⟩ = some (.int .i64 l2.sh) := p2 1 (by omega)
        have g8 : w.cell? ⟨b2, oy + k * 6 + 2, none⟩ = some (.int .i64 l2.bal) := p2 2 (by omega)
        have g9 : w.cell? ⟨b2, oy + k * 6 + 3, none⟩ = some (.int .i64 l2.val) := p2 3 (by omega)
        have g10 : w.cell? ⟨b2, oy + k * 6 + 4, none⟩ = some (uy1) := p2 4 (by omega)
        have g11 : w.cell? ⟨b2, oy + k * 6 + 5, none⟩ = some (uy2) := p2 5 (by omega)
        clear hl1 hl2 hx hy p1 p2
        go_wp2
        go_region_held3 (fun w' => Below w.heap.size w w' ∧ w'.cell? ⟨bx, ox + k * 6, none⟩ = some (.int .i64 l1.con) ∧ w'.cell? ⟨bx, ox + k * 6 + 1, none⟩ = some (.int .i64 l1.sh) ∧ w'.cell? ⟨bx, ox + k * 6 + 2, none⟩ = some (.int .i64 l1.bal) ∧ w'.cell? ⟨bx, ox + k * 6 + 3, none⟩ = some (.int .i64 l1.val) ∧ w'.cell? ⟨bx, ox + k * 6 + 4, none⟩ = some (ux1) ∧ w'.cell? ⟨bx, ox + k * 6 + 5, none⟩ = some (ux2) ∧ w'.cell? ⟨b2, oy + k * 6, none⟩ = some (.int .i64 l2.con) ∧ w'.cell? ⟨b2, oy + k * 6 + 1, none⟩ = some (.int .i64 l2.sh) ∧ w'.cell? ⟨b2, oy + k * 6 + 2, none⟩ = some (.int .i64 l2.bal) ∧ w'.cell? ⟨b2, oy + k * 6 + 3, none⟩ = some (.int .i64 l2.val) ∧ w'.cell? ⟨b2, oy + k * 6 + 4, none⟩ = some (uy1) ∧ w'.cell? ⟨b2, oy + k * 6 + 5, none⟩ = some (uy2)) ((refine keepTrys ?_ g0 g1 g2 g3 g4 g5 g6 g7 g8 g9 g10 g11; (repeat (first | exact Below.refl _ _ | assumption | refine Below.drew ?_ | refine balloc ?_ _ | refine bstep ?_ (by assumption))))) (first | (go_at_call 96; refine (eqTry_u (.agg #[.int .i64 l1.con, .int .i64 l1.sh, .int .i64 l1.bal, .int .i64 l1.val, ux1, ux2]) (.agg #[.int .i64 l2.con, .int .i64 l2.sh, .int .i64 l2.bal, .int .i64 l2.val, uy1, uy2]) l1 l2 _ (trrR.below hvx (by (repeat (first | exact Below.refl _ _ | assumption | refine Below.drew ?_ | refine balloc ?_ _ | refine bstep ?_ (by assumption))))) (trrR.below hvy (by (repeat (first | exact Below.refl _ _ | assumption | refine Below.drew ?_ | refine balloc ?_ _ | refine bstep ?_ (by assumption)))))).mono ?_; rintro e w' ⟨rfl, hb1⟩))
        rename_i hH
        have hB := hH.1
        clear hH
        go_wp2
        · rename_i hle
          go_ret
          refine ⟨?_, hB⟩
          have : ¬ xs = ys := fun h => by
            have : l1 = l2 := by rw [H1.out, H2.out, h]
            simp [this] at hle
          simp [this]
        · rename_i hle
          refine ⟨⟨k + 1, by omega, by go_num, fun j hj => ?_, hB⟩, by simp [intOf]; omega⟩
          by_cases hjk : j < k
          · exact HP.out j hjk
          · have : j = k := by omega
            subst this
            rw [← H1.out, ← H2.out]
            simpa using hle
      · go_wp2
        go_ret
        have : k = n := by omega
        subst this
        refine ⟨?_, hbl⟩
        have : xs = ys := rows_eq_of (by rw [HL.out, HN.out]) (by rw [HN.out]; exact HP.out)
        simp [this]
  · go_enter Try.func87, Try.ntmps87
    have hl' : ((xs.length : Int) == (ys.length : Int)) = false := by simp; omega
    go_wp2
    go_ret
    have : ¬ xs = ys := fun h => hl (by rw [h])
    exact ⟨by simp [this], Below.refl _ _⟩
set_option maxHeartbeats 1000000 in
theorem heldTryS_u (v : Value) (xs : List Trr) (k : Int) (w : World) (hv : trysR.V w v (mkTrys k xs)) (hw : wtTrys xs ≤ 1048576) (hn : k + cntTrys xs ≤ 1073741824) (hk0 : 0 ≤ k) :
    Calls Try.prog 80 #[v, .int .i64 k] w fun r w' => r = .returned (.int .i64 (k + cntTrys xs)) ∧ Below w.heap.size w w' := by
  obtain ⟨a, cap, rfl, hnc, hcm, hc⟩ := hv
  unfold mkTrys at hnc hc ⊢
  rw [length_mkL] at hnc hc ⊢
  unfold maxLen at hcm
  have hW : ∀ k, k < xs.length → wtTrr (xs.getD k default) ≤ 1048576 := fun k hk => (wt_at hw hk).1
  unfold cntTrys cntL at hn ⊢
  have HT : Hid (∀ j, j < xs.length → (mkL mkElTrr cntElTrr k xs).getD j default = mkElTrr (k + cntTo cntElTrr j xs) (xs.getD j default) ∧ cntTo cntElTrr (j + 1) xs = cntTo cntElTrr j xs + cntElTrr (xs.getD j default) ∧ cntTo cntElTrr (j + 1) xs ≤ cntTo cntElTrr xs.length xs) :=
    fun j hj => ⟨getD_mkL _ _ _ _ _ hj, cntTo_succ _ j xs hj, cntTo_le _ _ _ _ hj⟩
  clear hw
  generalize xs.length = n at *
  go_enter Try.func80, Try.ntmps80
  go_wp2
  go_loopw [1, 5] (fun q i w' => ∃ j : Nat, j ≤ n ∧ i = .int .i64 j ∧ q = .int .i64 (k + cntTo cntElTrr j xs) ∧ Below w.heap.size w w') (fun _ i _ => n - (intOf i).toNat)
  case atStart => exact ⟨0, Nat.zero_le _, rfl, by simp [cntTo], Below.refl _ _⟩
  case round =>
    obtain ⟨j, hj, rfl, rfl, hbl⟩ := hrel
    by_cases hlt : j < n
    · obtain ⟨bx, ox, ux, rfl, _, p1, hvx⟩ := hc j hlt
      obtain ⟨t1, t2, t3⟩ := HT.out j hlt
      have hw1 := hW j hlt
      rw [t1] at hvx
      generalize xs.getD j default = l at *
      have tC : cntElTrr l = 1 + 1 + 1 + 1 + cntInts l.frm + cntVots l.olds := rfl
      rw [tC] at t2
      have tW : wtTrr l = wtInts l.frm + wtVots l.olds := rfl
      rw [tW] at hw1
      clear tC tW
      obtain ⟨q, hq⟩ : ∃ q, q = k + cntTo cntElTrr j xs := ⟨_, rfl⟩
      have hq0 : 0 ≤ q := by omega
      rw [← hq] at hvx ⊢
      have T2 : Hid (k + cntTo cntElTrr (j + 1) xs = q + 1 + 1 + 1 + 1 + cntInts l.frm + cntVots l.olds) := by show _ = _; omega
      have hq1 : q + 1 + 1 + 1 + 1 + cntInts l.frm + cntVots l.olds ≤ 1073741824 := by omega
      obtain ⟨ux1, ux2, rfl, hv1, hv2⟩ := hvx
      dsimp only [mkElTrr] at hv1 hv2
      have g0 : w.cell? ⟨bx, ox + j * 6, none⟩ = some (.int .i64 (q)) := p1 0 (by omega)
      replace g0 := cell_keep hbl g0
      have g1 : w.cell? ⟨bx, ox + j * 6 + 1, none⟩ = some (.int .i64 (q + 1)) := p1 1 (by omega)
      replace g1 := cell_keep hbl g1
      have g2 : w.cell? ⟨bx, ox + j * 6 + 2, none⟩ = some (.int .i64 (q + 1 + 1)) := p1 2 (by omega)
      replace g2 := cell_keep hbl g2
      have g3 : w.cell? ⟨bx, ox + j * 6 + 3, none⟩ = some (.int .i64 (q + 1 + 1 + 1)) := p1 3 (by omega)
      replace g3 := cell_keep hbl g3
      have g4 : w.cell? ⟨bx, ox + j * 6 + 4, none⟩ = some (ux1) := p1 4 (by omega)
      replace g4 := cell_keep hbl g4
      have g5 : w.cell? ⟨bx, ox + j * 6 + 5, none⟩ = some (ux2) := p1 5 (by omega)
      replace g5 := cell_keep hbl g5
      clear hc p1 t1 t2 t3 hW hq
      go_wp2_with fail
      refine (heldInt64S_u ux1 l.frm (q + 1 + 1 + 1 + 1) _ (intsR.below hv1 (by (repeat (first | exact Below.refl _ _ | assumption | refine Below.drew ?_ | refine balloc ?_ _ | refine bstep ?_ (by assumption))))) (by omega) (by omega) (by omega)).mono ?_
      rintro e wb1 ⟨rfl, b1⟩
      replace g5 := cell_keep b1 g5
      go_wp2_with fail
      refine (heldVoteS_u ux2 l.olds (q + 1 + 1 + 1 + 1 + cntInts l.frm) _ (votsR.below hv2 (by (repeat (first | exact Below.refl _ _ | assumption | refine Below.drew ?_ | refine balloc ?_ _ | refine bstep ?_ (by assumption))))) (by omega) (by omega) (by omega)).mono ?_
      rintro e wb2 ⟨rfl, b2⟩
      go_wp2
      refine ⟨⟨j + 1, by omega, by go_num, ?_, by (repeat (first | exact Below.refl _ _ | assumption | refine Below.drew ?_ | refine balloc ?_ _ | refine bstep ?_ (by assumption)))⟩, by simp [intOf]; omega⟩
      rw [T2.out]
    · go_wp2
      go_ret
      have hjn : j = n := by omega
      subst hjn
      exact ⟨rfl, hbl⟩
set_option maxHeartbeats 1000000 in
theorem markTryS_u (v : Value) (xs : List Trr) (base : Nat) (F : Nat → Prop) (k : Int) (w : World) (ho : trysR.O w base F v xs) (hw : wtTrys xs ≤ 1048576) (hn : k + cntTrys xs ≤ 1073741824) (hk0 : 0 ≤ k) :
    Calls Try.prog 74 #[v, .int .i64 k] w fun r w' => r = .returned (.int .i64 (k + cntTrys xs)) ∧ trysR.O w' base F v (mkTrys k xs) ∧ Mod F w w' := by
  obtain ⟨cs, us, fs, hp, hF⟩ := ho
  have hW : ∀ k, k < xs.length → wtTrr (xs.getD k default) ≤ 1048576 := fun k hk => (wt_at hw hk).1
  unfold cntTrys cntL at hn ⊢
  have HT : Hid (∀ j, j < xs.length → (mkL mkElTrr cntElTrr k xs).getD j default = mkElTrr (k + cntTo cntElTrr j xs) (xs.getD j default) ∧ cntTo cntElTrr (j + 1) xs = cntTo cntElTrr j xs + cntElTrr (xs.getD j default) ∧ cntTo cntElTrr (j + 1) xs ≤ cntTo cntElTrr xs.length xs) :=
    fun j hj => ⟨getD_mkL _ _ _ _ _ hj, cntTo_succ _ j xs hj, cntTo_le _ _ _ _ hj⟩
  clear hw
  have hcap := hp.len
  obtain ⟨av, cv, hav⟩ := owns_form hp.row
  subst hav
  have HF : Hid (∀ b, F b ↔ ((Value.slice av xs.length cv).ownBlock = some b ∨ ∃ i, i < xs.length ∧ fs i b)) := hF
  have HM : Hid ((mkL mkElTrr cntElTrr k xs).length = xs.length) := length_mkL _ _ _ _
  clear hF
  generalize hxl : xs.length = n at *
  clear hxl
  go_enter Try.func74, Try.ntmps74
  go_wp2
  go_loopw [1, 5] (fun q i w' => ∃ (j : Nat) (cs : List Value) (us : Nat → Value), j ≤ n ∧ i = .int .i64 j ∧ q = .int .i64 (k + cntTo cntElTrr j xs) ∧ PO trrR 134 6 lvTrr w' base (.slice av n cv) n n (fun i => if i < j then (mkL mkElTrr cntElTrr k xs).getD i default else xs.getD i default) cs us fs ∧ Mod F w w') (fun _ i _ => n - (intOf i).toNat)
  case atStart => exact ⟨0, cs, us, Nat.zero_le _, rfl, by simp [cntTo], hp.cast (fun i hi => by simp), Mod.refl _ _⟩
  case round =>
    clear hp
    obtain ⟨j, cs, us, hj, rfl, rfl, hp1, hm⟩ := hrel
    by_cases hlt : j < n
    · have he := hp1.el j hlt
      simp only [Nat.lt_irrefl, if_false] at he
      obtain ⟨g, rfl, hcl⟩ := hp1.at hlt hlt
      obtain ⟨t1, t2, t3⟩ := HT.out j hlt
      have hw1 := hW j hlt
      obtain ⟨l, hl⟩ : ∃ l, l = xs.getD j default := ⟨_, rfl⟩
      rw [← hl] at t1 t2 hw1 he
      have tC : cntElTrr l = 1 + 1 + 1 + 1 + cntInts l.frm + cntVots l.olds := rfl
      rw [tC] at t2
      have tW : wtTrr l = wtInts l.frm + wtVots l.olds := rfl
      rw [tW] at hw1
      clear tC tW
      obtain ⟨q, hq⟩ : ∃ q, q = k + cntTo cntElTrr j xs := ⟨_, rfl⟩
      have hq0 : 0 ≤ q := by omega
      rw [← hq] at t1 ⊢
      have T1 : Hid ((mkL mkElTrr cntElTrr k xs).getD j default = mkElTrr q l) := t1
      have T2 : Hid (k + cntTo cntElTrr (j + 1) xs = q + 1 + 1 + 1 + 1 + cntInts l.frm + cntVots l.olds) := by show _ = _; omega
      have hq1 : q + 1 + 1 + 1 + 1 + cntInts l.frm + cntVots l.olds ≤ 1073741824 := by omega
      obtain ⟨ux1, ux2, F1, F2, hu, h1, h2, s12, hF⟩ := he
      rw [hu] at hcl
      have g0 : wr.cell? ⟨g, j * 6, none⟩ = some (.int .i64 l.con) := hcl 0 (by omega)
      have g1 : wr.cell? ⟨g, j * 6 + 1, none⟩ = some (.int .i64 l.sh) := hcl 1 (by omega)
      have g2 : wr.cell? ⟨g, j * 6 + 2, none⟩ = some (.int .i64 l.bal) := hcl 2 (by omega)
      have g3 : wr.cell? ⟨g, j * 6 + 3, none⟩ = some (.int .i64 l.val) := hcl 3 (by omega)
      have g4 : wr.cell? ⟨g, j * 6 + 4, none⟩ = some (ux1) := hcl 4 (by omega)
      have g5 : wr.cell? ⟨g, j * 6 + 5, none⟩ = some (ux2) := hcl 5 (by omega)
      have hrow := hp1.row
      have hclen := hrow.1
      have hf := fun j => hrow.frozenAt j
      clear hl t1 t2 t3 hW hq hcl
      go_wp2_with fail
      have st1 := hrow.stored (j * 6) (.int .i64 (q))
      replace h1 := intsR.mod h1 (Mod.of_grown st1.2) (fun b hb he => hp1.out j hlt b ((hF b).2 (.inl hb)) he)
      replace h2 := votsR.mod h2 (Mod.of_grown st1.2) (fun b hb he => hp1.out j hlt b ((hF b).2 (.inr hb)) he)
      have M1 := (Mod.of_grown st1.2).mono (G := fun b => (Value.slice (some ⟨g, 0, none⟩) n cv).ownBlock = some b ∨ fs j b) (fun b hb => .inl hb)
      have st2 := st1.1.stored (j * 6 + 1) (.int .i64 (q + 1))
      replace h1 := intsR.mod h1 (Mod.of_grown st2.2) (fun b hb he => hp1.out j hlt b ((hF b).2 (.inl hb)) he)
      replace h2 := votsR.mod h2 (Mod.of_grown st2.2) (fun b hb he => hp1.out j hlt b ((hF b).2 (.inr hb)) he)
      have M2 := (Mod.of_grown st2.2).mono (G := fun b => (Value.slice (some ⟨g, 0, none⟩) n cv).ownBlock = some b ∨ fs j b) (fun b hb => .inl hb)
      have st3 := st2.1.stored (j * 6 + 2) (.int .i64 (q + 1 + 1))
      replace h1 := intsR.mod h1 (Mod.of_grown st3.2) (fun b hb he => hp1.out j hlt b ((hF b).2 (.inl hb)) he)
      replace h2 := votsR.mod h2 (Mod.of_grown st3.2) (fun b hb he => hp1.out j hlt b ((hF b).2 (.inr hb)) he)
      have M3 := (Mod.of_grown st3.2).mono (G := fun b => (Value.slice (some ⟨g, 0, none⟩) n cv).ownBlock = some b ∨ fs j b) (fun b hb => .inl hb)
      have st4 := st3.1.stored (j * 6 + 3) (.int .i64 (q + 1 + 1 + 1))
      replace h1 := intsR.mod h1 (Mod.of_grown st4.2) (fun b hb he => hp1.out j hlt b ((hF b).2 (.inl hb)) he)
      replace h2 := votsR.mod h2 (Mod.of_grown st4.2) (fun b hb he => hp1.out j hlt b ((hF b).2 (.inr hb)) he)
      have M4 := (Mod.of_grown st4.2).mono (G := fun b => (Value.slice (some ⟨g, 0, none⟩) n cv).ownBlock = some b ∨ fs j b) (fun b hb => .inl hb)
      refine (markInt64S_u ux1 l.frm base F1 (q + 1 + 1 + 1 + 1) _ h1 (by omega) (by omega) (by omega)).mono ?_
      rintro e wb1 ⟨rfl, r1, m1⟩
      have rw1 := m1.owns st4.1 (fun b he hb => hp1.out j hlt b ((hF b).2 (.inl hb)) he)
      replace h2 := votsR.mod h2 m1 (fun b p q => s12 b q p)
      have M5 := m1.mono (G := fun b => (Value.slice (some ⟨g, 0, none⟩) n cv).ownBlock = some b ∨ fs j b) (fun b hb => .inr ((hF b).2 (.inl hb)))
      replace g5 : wb1.cell? ⟨g, j * 6 + 5, none⟩ = some (ux2) := m1.cell (by first | exact g5 | simp [go_sem, g5]) (fun hb => hp1.out j hlt g ((hF g).2 (.inl hb)) rfl)
      replace hf := fun j => rw1.frozenAt j
      go_wp2_with fail
      refine (markVoteS_u ux2 l.olds base F2 (q + 1 + 1 + 1 + 1 + cntInts l.frm) _ h2 (by omega) (by omega) (by omega)).mono ?_
      rintro e wb2 ⟨rfl, r2, m2⟩
      have rw2 := m2.owns rw1 (fun b he hb => hp1.out j hlt b ((hF b).2 (.inr hb)) he)
      replace r1 := intsR.mod r1 m2 (fun b p q => s12 b p q)
      have M6 := m2.mono (G := fun b => (Value.slice (some ⟨g, 0, none⟩) n cv).ownBlock = some b ∨ fs j b) (fun b hb => .inr ((hF b).2 (.inr hb)))
      go_wp2
      have hq := hp1.turn (u := (.agg #[.int .i64 (q), .int .i64 (q + 1), .int .i64 (q + 1 + 1), .int .i64 (q + 1 + 1 + 1), ux1, ux2])) (x := mkElTrr q l) hlt (((((M1.trans M2).trans M3).trans M4).trans M5).trans M6) ⟨ux1, ux2, F1, F2, rfl, r1, r2, s12, hF⟩ rfl rw2 ?_ ?_
      · refine ⟨⟨j + 1, _, _, by omega, by go_num, by rw [T2.out], hq.cast fun i hi => ?_, hm.trans ((((((M1.trans M2).trans M3).trans M4).trans M5).trans M6).mono fun b hb => (HF.out b).2 ?_)⟩, by simp [intOf]; omega⟩
        · by_cases hij : i = j
          · subst hij
            rw [upd_at, if_pos (by omega)]
            exact T1.out
          · rw [upd_ne _ _ hij]
            by_cases h : i < j
            · rw [if_pos h, if_pos (by omega)]
            · rw [if_neg h, if_neg (by omega)]
        · rcases hb with hb | hb
          · exact .inl hb
          · exact .inr ⟨j, hlt, hb⟩
      · intro i hi hij o ho
        simp only [List.getElem?_set]
        rw [if_neg (by omega)]; rw [if_neg (by omega)]; rw [if_neg (by omega)]; rw [if_neg (by omega)]
      · intro o ho
        have ho' : o = 0 ∨ o = 1 ∨ o = 2 ∨ o = 3 ∨ o = 4 ∨ o = 5 := by omega
        rcases ho' with rfl | rfl | rfl | rfl | rfl | rfl
        · rw [show j * 6 + 0 = j * 6 from rfl, List.getElem?_set_ne (by omega), List.getElem?_set_ne (by omega), List.getElem?_set_ne (by omega), List.getElem?_set_self (by (try simp only [List.length_set]); omega)]
          rfl
        · rw [List.getElem?_set_ne (by omega), List.getElem?_set_ne (by omega), List.getElem?_set_self (by (try simp only [List.length_set]); omega)]
          rfl
        · rw [List.getElem?_set_ne (by omega), List.getElem?_set_self (by (try simp only [List.length_set]); omega)]
          rfl
        · rw [List.getElem?_set_self (by (try simp only [List.length_set]); omega)]
          rfl
        · rw [List.getElem?_set_ne (by omega), List.getElem?_set_ne (by omega), List.getElem?_set_ne (by omega), List.getElem?_set_ne (by omega), hp1.cell j hlt 4 (by omega), hu]
          rfl
        · rw [List.getElem?_set_ne (by omega), List.getElem?_set_ne (by omega), List.getElem?_set_ne (by omega), List.getElem?_set_ne (by omega), hp1.cell j hlt 5 (by omega), hu]
          rfl
    · go_wp2
      go_ret
      have hjn : j = n := by omega
      subst hjn
      refine ⟨rfl, ⟨cs, us, fs, ?_, ?_⟩, hm⟩
      · unfold mkTrys
        rw [HM.out]
        exact hp1.cast (fun i hi => by rw [if_pos hi])
      · unfold mkTrys
        rw [HM.out]
        exact HF.out
end Go.Proofs.Ytjemciikdijokaa


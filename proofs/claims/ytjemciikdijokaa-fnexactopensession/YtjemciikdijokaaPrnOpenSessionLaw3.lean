import Derived.Test.YtjemciikdijokaaPrnOpenSessionLaw2
import Derived.Deep.RegionHeld3
import Derived.Deep.DrawnRows

/-
  Rows of int64: the uniform forms. (Written by program: nest.py.)
-/
namespace Go.Proofs.Ytjemciikdijokaa
open Go.RowKit
set_option linter.unusedSectionVars false
variable [DecidableEq Leg] [Inhabited Leg]
attribute [local go_sem ↓] Go.wp_at_zero Go.wp_at_succ

def intsR : Rep (List Int) := fRep 2 1 intsC IntsV IntsV_below IntsV_of_owns
def wtInts (xs : List Int) : Nat := xs.length
def cntInts (xs : List Int) : Nat := xs.length
def mkInts (k : Int) (xs : List Int) : List Int := marksI k xs.length
theorem ints_form {w : World} {v : Value} {xs : List Int} (h : intsR.V w v xs) : ∃ a c, v = .slice a xs.length c := by
  obtain ⟨a, c, rfl, _⟩ := h
  exact ⟨_, _, rfl⟩
theorem ints_cnt (d : List Int) : cntInts d ≤ 1 * wtInts d := by unfold cntInts wtInts; omega
theorem toInt64S_u (x : Value) (d : List Int) (w : World) (hx : intsR.V w x d) (hn : wtInts d ≤ 1048576) :
    Calls Try.prog 41 #[x] w fun e w' => ∃ v F, e = .returned v ∧ intsR.O w' w.heap.size F v d ∧ Below w.heap.size w w' := by
  refine (toInt64S_any x d w hx hn).mono ?_
  rintro e w' ⟨v, rfl, ho, hb⟩
  exact ⟨v, _, rfl, ⟨ho, rfl⟩, hb⟩
theorem eqInt64S_u (x y : Value) (d d' : List Int) (w : World) (hx : intsR.V w x d) (hy : intsR.V w y d') :
    Calls Try.prog 43 #[x, y] w fun e w' => e = .returned (.bool (decide (d = d'))) ∧ Below w.heap.size w w' := eqInt64S_any x y d d' w hx hy
theorem szInt64S_u (x : Value) (d : List Int) (left : Int) (w : World) (hx : intsR.V w x d) (h0 : 0 ≤ left) (h1 : left ≤ 1048576) :
    Calls Try.prog 40 #[x, .int .i64 left] w fun e w' => e = .returned (.int .i64 (szLen left (wtInts d))) ∧ Below w.heap.size w w' := by
  refine (szInt64S_any x d left w hx h0 h1).mono ?_
  rintro e w' ⟨rfl, rfl⟩
  exact ⟨rfl, Below.refl _ _⟩
theorem markInt64S_u (v : Value) (d : List Int) (base : Nat) (F : Nat → Prop) (k : Int) (w : World) (ho : intsR.O w base F v d) (hw : wtInts d ≤ 1048576) (hn : k + cntInts d ≤ 1073741824) (hk0 : 0 ≤ k) :
    Calls Try.prog 36 #[v, .int .i64 k] w fun r w' => r = .returned (.int .i64 (k + cntInts d)) ∧ intsR.O w' base F v (mkInts k d) ∧ Mod F w w' := by
  refine (markInt64S_any v d.length _ base _ k w ho.1 hw hk0 (by omega)).mono ?_
  rintro e w' ⟨rfl, h1, h2⟩
  refine ⟨by simp [cntInts], ⟨?_, ho.2⟩, by rw [ho.2]; exact Mod.of_grown h2⟩
  unfold mkInts
  rw [length_marksI]
  exact h1
theorem heldInt64S_u (v : Value) (d : List Int) (k : Int) (w : World) (hv : intsR.V w v (mkInts k d)) (hw : wtInts d ≤ 1048576) (hn : k + cntInts d ≤ 1073741824) (hk0 : 0 ≤ k) :
    Calls Try.prog 57 #[v, .int .i64 k] w fun r w' => r = .returned (.int .i64 (k + cntInts d)) ∧ Below w.heap.size w w' := by
  refine (heldInt64S_any v d.length k w hv hw hk0 (by omega)).mono ?_
  rintro e w' ⟨rfl, rfl⟩
  exact ⟨by simp [cntInts], Below.refl _ _⟩
end Go.Proofs.Ytjemciikdijokaa

/-
  Session. (Written by program: nest.py.)
-/
namespace Go.Proofs.Ytjemciikdijokaa
open Go.RowKit
set_option linter.unusedSectionVars false
variable [DecidableEq Leg] [Inhabited Leg]
attribute [local go_sem ↓] Go.wp_at_zero Go.wp_at_succ

structure Ses where
  client : Int
  next : Int
  sent : List Int
variable [DecidableEq Ses] [Inhabited Ses]

def sesR : Rep Ses where
  V := fun w v x => ∃ u1, v = .agg #[.int .i64 x.client, .int .i64 x.next, u1] ∧ intsR.V w u1 x.sent
  O := fun w base F v x => ∃ u1 F1, v = .agg #[.int .i64 x.client, .int .i64 x.next, u1] ∧ intsR.O w base F1 u1 x.sent ∧ (∀ b, F b ↔ (F1 b))
  below := fun h hb => by
    obtain ⟨u1, rfl, h1⟩ := h
    exact ⟨u1, rfl, intsR.below h1 hb⟩
  ofO := fun h => by
    obtain ⟨u1, F1, rfl, h1, _⟩ := h
    exact ⟨u1, rfl, intsR.ofO h1⟩
  mod := fun h hm hd => by
    obtain ⟨u1, F1, rfl, h1, hF⟩ := h
    exact ⟨u1, F1, rfl, intsR.mod h1 hm (fun b hb => hd b ((hF b).2 hb)), hF⟩
  rng := fun h b hb => by
    obtain ⟨u1, F1, rfl, h1, hF⟩ := h
    rcases (hF b).1 hb with hb
    · exact intsR.rng h1 b hb
  base := fun h hb => by
    obtain ⟨u1, F1, rfl, h1, hF⟩ := h
    exact ⟨u1, F1, rfl, intsR.base h1 hb, hF⟩
def wtSes (x : Ses) : Nat := wtInts x.sent
def lvSes (v : Value) : List Value := match v with | .agg a => one (a.getD 0 (.int .i64 0)) ++ one (a.getD 1 (.int .i64 0)) ++ one (a.getD 2 (.int .i64 0)) | _ => []
def cntElSes (x : Ses) : Nat := 1 + 1 + cntInts x.sent
def mkElSes (k : Int) (x : Ses) : Ses := { client := k, next := k + 1, sent := mkInts (k + 1 + 1) x.sent }
theorem ses_cntEl (d : Ses) : cntElSes d ≤ 3 * (1 + wtSes d) := by
  unfold cntElSes wtSes
  have q1 := ints_cnt d.sent
  omega
set_option maxHeartbeats 1000000 in
theorem toSession_u (x : Value) (d : Ses) (w : World) (hx : sesR.V w x d) (hn : wtSes d ≤ 1048576) :
    Calls Try.prog 22 #[x] w fun e w' => ∃ v F, e = .returned v ∧ sesR.O w' w.heap.size F v d ∧ Below w.heap.size w w' := by
  obtain ⟨u1, rfl, h1⟩ := hx
  unfold wtSes at hn
  go_enter Try.func22, Try.ntmps22
  go_wp2_with fail
  refine (toInt64S_u _ d.sent _ (intsR.below h1 (by (repeat (first | exact Below.refl _ _ | assumption | refine Below.drew ?_ | refine balloc ?_ _ | refine bset ?_ (by simp; omega) _ | refine bset ?_ (by simp) _ | refine bstep ?_ (by assumption))))) (by omega)).mono ?_
  rintro e w1 ⟨v1, F1, rfl, o1, b1⟩
  obtain ⟨a1, n1, rfl⟩ := ints_form (intsR.ofO o1)
  obtain ⟨c1, f1⟩ := bcell b1
  have z1 := b1.size
  simp at z1
  replace o1 := intsR.base (base' := w.heap.size + 3) o1 (by simp; try omega)
  go_wp2
  refine bodyPost_ret (v := .agg #[.int .i64 d.client, .int .i64 d.next, .slice a1 d.sent.length n1]) ?_ rfl ⟨_, fun b => F1 b, rfl, ⟨_, F1, rfl, intsR.base (base := w.heap.size + 3) (by (repeat (first | assumption | refine Rep.set _ ?_ _ (by simp; omega) | refine Rep.set _ ?_ _ (by simp) | refine Rep.alloc _ ?_ _ | refine Rep.keep _ ?_ (by assumption)))) (by omega), fun b => Iff.rfl⟩, by (repeat (first | exact Below.refl _ _ | assumption | refine Below.drew ?_ | refine balloc ?_ _ | refine bset ?_ (by simp; omega) _ | refine bset ?_ (by simp) _ | refine bstep ?_ (by assumption)))⟩
  simp [results, Try.results22, go_sem, c1]
set_option maxHeartbeats 1000000 in
theorem szSession_u (x : Value) (d : Ses) (left : Int) (w : World) (hx : sesR.V w x d) (h0 : 0 ≤ left) (h1 : left ≤ 1048576) :
    Calls Try.prog 20 #[x, .int .i64 left] w fun e w' => e = .returned (.int .i64 (szLen left (wtSes d))) ∧ Below w.heap.size w w' := by
  obtain ⟨u1, rfl, k1⟩ := hx
  go_enter Try.func20, Try.ntmps20
  go_wp2_with fail
  refine (szInt64S_u _ d.sent left _ (intsR.below k1 (by (repeat (first | exact Below.refl _ _ | assumption | refine Below.drew ?_ | refine balloc ?_ _ | refine bset ?_ (by simp; omega) _ | refine bset ?_ (by simp) _ | refine bstep ?_ (by assumption))))) h0 h1).mono ?_
  rintro e w1 ⟨rfl, b1⟩
  go_wp2
  · rename_i h
    go_ret
    refine ⟨?_, by (repeat (first | exact Below.refl _ _ | assumption | refine Below.drew ?_ | refine balloc ?_ _ | refine bset ?_ (by simp; omega) _ | refine bset ?_ (by simp) _ | refine bstep ?_ (by assumption)))⟩
    rw [szLen_neg (n := wtInts d.sent) (by omega) (wtSes d) (by unfold wtSes; omega)]
    rfl
  rename_i h
  go_ret
  exact ⟨rfl, by (repeat (first | exact Below.refl _ _ | assumption | refine Below.drew ?_ | refine balloc ?_ _ | refine bset ?_ (by simp; omega) _ | refine bset ?_ (by simp) _ | refine bstep ?_ (by assumption)))⟩
set_option maxHeartbeats 1000000 in
theorem eqSession_u (x y : Value) (d d' : Ses) (w : World) (hx : sesR.V w x d) (hy : sesR.V w y d') :
    Calls Try.prog 28 #[x, y] w fun e w' => e = .returned (.bool (decide (d = d'))) ∧ Below w.heap.size w w' := by
  obtain ⟨u1, rfl, h1⟩ := hx
  obtain ⟨v1, rfl, k1⟩ := hy
  obtain ⟨client, next, sent⟩ := d
  obtain ⟨client', next', sent'⟩ := d'
  dsimp only at h1 k1
  go_enter Try.func28, Try.ntmps28
  go_wp2_with fail
  all_goals try (go_ret; exact ⟨by simp_all, by (repeat (first | exact Below.refl _ _ | assumption | refine Below.drew ?_ | refine balloc ?_ _ | refine bset ?_ (by simp; omega) _ | refine bset ?_ (by simp) _ | refine bstep ?_ (by assumption)))⟩)
  refine (eqInt64S_u _ _ sent sent' _ (intsR.below h1 (by (repeat (first | exact Below.refl _ _ | assumption | refine Below.drew ?_ | refine balloc ?_ _ | refine bset ?_ (by simp; omega) _ | refine bset ?_ (by simp) _ | refine bstep ?_ (by assumption))))) (intsR.below k1 (by (repeat (first | exact Below.refl _ _ | assumption | refine Below.drew ?_ | refine balloc ?_ _ | refine bset ?_ (by simp; omega) _ | refine bset ?_ (by simp) _ | refine bstep ?_ (by assumption)))))).mono ?_
  rintro e w1 ⟨rfl, b1⟩
  go_wp2
  all_goals
    go_ret
    exact ⟨by simp_all, by (repeat (first | exact Below.refl _ _ | assumption | refine Below.drew ?_ | refine balloc ?_ _ | refine bset ?_ (by simp; omega) _ | refine bset ?_ (by simp) _ | refine bstep ?_ (by assumption)))⟩
end Go.Proofs.Ytjemciikdijokaa

/-
  Rows of Session. (Written by program: nest.py.)
-/
namespace Go.Proofs.Ytjemciikdijokaa
open Go.RowKit
set_option linter.unusedSectionVars false
variable [DecidableEq Leg] [Inhabited Leg] [DecidableEq Ses] [Inhabited Ses]
attribute [local go_sem ↓] Go.wp_at_zero Go.wp_at_succ

def sessR : Rep (List Ses) := nRep sesR 52 3 lvSes
def wtSess (xs : List Ses) : Nat := wtL wtSes xs
def cntSess (xs : List Ses) : Nat := cntL cntElSes xs
def mkSess (k : Int) (xs : List Ses) : List Ses := mkL mkElSes cntElSes k xs
theorem sess_form {w : World} {v : Value} {xs : List Ses} (h : sessR.V w v xs) : ∃ a c, v = .slice a xs.length c := by
  obtain ⟨a, c, rfl, _⟩ := h
  exact ⟨_, _, rfl⟩
theorem sess_cnt (d : List Ses) : cntSess d ≤ 3 * wtSess d := cntL_le (fun x => ses_cntEl x) d
theorem infoSess : (Try.prog.info? 52).map (fun i => (i.zero, i.size, i.bytes)) = some (some (.agg #[.int .i64 0, .int .i64 0, .slice none 0 0]), 3, 40) := by kernel_rfl
theorem keepSess {w w' : World} {a0 a1 a2 a3 a4 a5 : Addr} {x0 x1 x2 x3 x4 x5 : Value} (hb : Below w.heap.size w w') (g0 : w.cell? a0 = some x0) (g1 : w.cell? a1 = some x1) (g2 : w.cell? a2 = some x2) (g3 : w.cell? a3 = some x3) (g4 : w.cell? a4 = some x4) (g5 : w.cell? a5 = some x5) : Below w.heap.size w w' ∧ w'.cell? a0 = some x0 ∧ w'.cell? a1 = some x1 ∧ w'.cell? a2 = some x2 ∧ w'.cell? a3 = some x3 ∧ w'.cell? a4 = some x4 ∧ w'.cell? a5 = some x5 :=
  ⟨hb, cell_keep hb g0, cell_keep hb g1, cell_keep hb g2, cell_keep hb g3, cell_keep hb g4, cell_keep hb g5⟩
set_option maxHeartbeats 1000000 in
theorem eqSessionS_u (x y : Value) (xs ys : List Ses) (w : World) (hx : sessR.V w x xs) (hy : sessR.V w y ys) :
    Calls Try.prog 10 #[x, y] w fun e w' => e = .returned (.bool (decide (xs = ys))) ∧ Below w.heap.size w w' := by
  obtain ⟨ax, cx, rfl, hcx, hmx, hx⟩ := hx
  obtain ⟨ay, cy, rfl, hcy, hmy, hy⟩ := hy
  unfold maxLen at hmx hmy
  by_cases hl : ys.length = xs.length
  · rw [hl] at hcy hy ⊢
    have HL : Hid (ys.length = xs.length) := hl
    clear hl
    generalize hn : xs.length = n at *
    have HN : Hid (xs.length = n) := hn
    clear hn
    go_enter Try.func10, Try.ntmps10
    go_wp2
    go_loopw [5] (fun i w' => ∃ k : Nat, k ≤ n ∧ i = .int .i64 k ∧ (∀ j, j < k → xs.getD j default = ys.getD j default) ∧ Below w.heap.size w w') (fun i _ => n - (intOf i).toNat)
    case atStart => exact ⟨0, Nat.zero_le _, rfl, fun j h => absurd h (Nat.not_lt_zero _), Below.refl _ _⟩
    case round =>
      obtain ⟨k, hk, rfl, hpre, hbl⟩ := hrel
      have HP : Hid (∀ j, j < k → xs.getD j default = ys.getD j default) := hpre
      clear hpre
      by_cases hlt : k < n
      · obtain ⟨bx, ox, ux, rfl, _, p1, hvx⟩ := hx k hlt
        obtain ⟨b2, oy, uy, rfl, _, p2, hvy⟩ := hy k hlt
        obtain ⟨l1, hl1⟩ : ∃ l, l = xs.getD k default := ⟨_, rfl⟩
        obtain ⟨l2, hl2⟩ : ∃ l, l = ys.getD k default := ⟨_, rfl⟩
        rw [← hl1] at hvx
        rw [← hl2] at hvy
        have H1 : Hid (l1 = xs.getD k default) := hl1
        have H2 : Hid (l2 = ys.getD k default) := hl2
        have hvx' := hvx
        obtain ⟨ux1, rfl, _⟩ := hvx'
        have hvy' := hvy
        obtain ⟨uy1, rfl, _⟩ := hvy'
        have g0 : w.cell? ⟨bx, ox + k * 3, none⟩ = some (.int .i64 l1.client) := p1 0 (by omega)
        have g1 : w.cell? ⟨bx, ox + k * 3 + 1, none⟩ = some (.int .i64 l1.next) := p1 1 (by omega)
        have g2 : w.cell? ⟨bx, ox + k * 3 + 2, none⟩ = some (ux1) := p1 2 (by omega)
        have g3 : w.cell? ⟨b2, oy + k * 3, none⟩ = some (.int .i64 l2.client) := p2 0 (by omega)
        have g4 : w.cell? ⟨b2, oy + k * 3 + 1, none⟩ = some (.int .i64 l2.next) := p2 1 (by omega)
        have g5 : w.cell? ⟨b2, oy + k * 3 + 2, none⟩ = some (uy1) := p2 2 (by omega)
        clear hl1 hl2 hx hy p1 p2
        go_wp2
        go_region_held3 (fun w' => Below w.heap.size w w' ∧ w'.cell? ⟨bx, ox + k * 3, none⟩ = some (.int .i64 l1.client) ∧ w'.cell? ⟨bx, ox + k * 3 + 1, none⟩ = some (.int .i64 l1.next) ∧ w'.cell? ⟨bx, ox + k * 3 + 2, none⟩ = some (ux1) ∧ w'.cell? ⟨b2, oy + k * 3, none⟩ = some (.int .i64 l2.client) ∧ w'.cell? ⟨b2, oy + k * 3 + 1, none⟩ = some (.int .i64 l2.next) ∧ w'.cell? ⟨b2, oy + k * 3 + 2, none⟩ = some (uy1)) ((refine keepSess ?_ g0 g1 g2 g3 g4 g5; (repeat (first | exact Below.refl _ _ | assumption | refine Below.drew ?_ | refine balloc ?_ _ | refine bstep ?_ (by assumption))))) (first | (go_at_call 28; refine (eqSession_u (.agg #[.int .i64 l1.client, .int .i64 l1.next, ux1]) (.agg #[.int .i64 l2.client, .int .i64 l2.next, uy1]) l1 l2 _ (sesR.below hvx (by (repeat (first | exact Below.refl _ _ | assumption | refine Below.drew ?_ | refine balloc ?_ _ | refine bstep ?_ (by assumption))))) (sesR.below hvy (by (repeat (first | exact Below.refl _ _ | assumption | refine Below.drew ?_ | refine balloc ?_ _ | refine bstep ?_ (by assumption)))))).mono ?_; rintro e w' ⟨rfl, hb1⟩))
        rename_i hH
        have hB := hH.1
        clear hH
        go_wp2
        · rename_i hle
          go_ret
          refine ⟨?_, hB⟩
          have : ¬ xs = ys := fun h => by
            have : l1 = l2 := by rw [H1.out, H2.out, h]
            simp [this] at hle
          simp [this]
        · rename_i hle
          refine ⟨⟨k + 1, by omega, by go_num, fun j hj => ?_, hB⟩, by simp [intOf]; omega⟩
          by_cases hjk : j < k
          · exact HP.out j hjk
          · have : j = k := by omega
            subst this
            rw [← H1.out, ← H2.out]
            simpa using hle
      · go_wp2
        go_ret
        have : k = n := by omega
        subst this
        refine ⟨?_, hbl⟩
        have : xs = ys := rows_eq_of (by rw [HL.out, HN.out]) (by rw [HN.out]; exact HP.out)
        simp [this]
  · go_enter Try.func10, Try.ntmps10
    have hl' : ((xs.length : Int) == (ys.length : Int)) = false := by simp; omega
    go_wp2
    go_ret
    have : ¬ xs = ys := fun h => hl (by rw [h])
    exact ⟨by simp [this], Below.refl _ _⟩
set_option maxHeartbeats 1000000 in
theorem toSessionS_u (x : Value) (xs : List Ses) (w : World) (hx : sessR.V w x xs) (hn : wtSess xs ≤ 1048576) :
    Calls Try.prog 8 #[x] w fun e w' => ∃ v F, e = .returned v ∧ sessR.O w' w.heap.size F v xs ∧ Below w.heap.size w w' := by
  obtain ⟨ax, cx, rfl, hcx, hmx, hx⟩ := hx
  unfold maxLen at hmx
  unfold wtSess at hn
  have hlen : xs.length ≤ 1048576 := by unfold wtL at hn; omega
  have hW : ∀ k, k < xs.length → wtSes (xs.getD k default) ≤ 1048576 := fun k hk => (wt_at hn hk).1
  obtain ⟨i0, hi, hz0, hz1, hz2⟩ := info_parts infoSess
  obtain ⟨w1, hmk, hown, hgr⟩ := run_make_full (P := Try.prog) w w.heap.size 25 52 i0 _ 3 Try.underlying25 hi hz0 hz1 .i64 .i64 xs.length (by rw [hz2]; omega) (by unfold maxLen; omega) (Nat.le_refl _)
  have hbl0 : Below w.heap.size w w1 := (Below.refl _ _).grown hgr (Nat.le_refl _) (fun k h => by cases h)
  clear hn
  generalize hn' : xs.length = n at *
  have HN : Hid (xs.length = n) := hn'
  clear hn'
  go_enter Try.func8, Try.ntmps8
  go_wp2
  go_loopw [4] (fun i w' => ∃ (k : Nat) (cs : List Value) (us : Nat → Value) (fs : Nat → Nat → Prop), k ≤ n ∧ i = .int .i64 k ∧ PO sesR 52 3 lvSes w' w.heap.size (.slice (some ⟨w.heap.size, 0, none⟩) n n) n k (fun i => xs.getD i default) cs us fs ∧ Below w.heap.size w w') (fun i _ => n - (intOf i).toNat)
  case atStart => exact ⟨0, _, fun _ => .int .i64 0, fun _ _ => False, Nat.zero_le _, rfl, ⟨hown, fun i h => by omega, fun i h => by omega, fun i h => by omega, fun i h => by omega, fun i j h => by omega⟩, hbl0⟩
  case round =>
    obtain ⟨k, cs, us, fs, hk, rfl, hp, hbl⟩ := hrel
    clear hown hmk hgr hbl0
    by_cases hlt : k < n
    · obtain ⟨bx, ox, ux, rfl, _, p1, hvx⟩ := hx k hlt
      have hw := hW k hlt
      obtain ⟨l, hl⟩ : ∃ l, l = xs.getD k default := ⟨_, rfl⟩
      rw [← hl] at hvx hw
      have HL : Hid (l = xs.getD k default) := hl
      have hvx' := hvx
      obtain ⟨ux1, rfl, _⟩ := hvx'
      have g0 : w.cell? ⟨bx, ox + k * 3, none⟩ = some (.int .i64 l.client) := p1 0 (by omega)
      replace g0 := cell_keep hbl g0
      have g1 : w.cell? ⟨bx, ox + k * 3 + 1, none⟩ = some (.int .i64 l.next) := p1 1 (by omega)
      replace g1 := cell_keep hbl g1
      have g2 : w.cell? ⟨bx, ox + k * 3 + 2, none⟩ = some (ux1) := p1 2 (by omega)
      replace g2 := cell_keep hbl g2
      clear hx p1 hW hl
      go_wp2_with fail
      refine (toSession_u (.agg #[.int .i64 l.client, .int .i64 l.next, ux1]) l _ (sesR.below hvx (by (repeat (first | exact Below.refl _ _ | assumption | refine Below.drew ?_ | refine balloc ?_ _ | refine bstep ?_ (by assumption))))) hw).mono ?_
      rintro e wa ⟨v1, F1, rfl, o1, b1⟩
      have ofm1 := sesR.ofO o1
      obtain ⟨x1_1, rfl, y1_1⟩ := ofm1
      obtain ⟨a1_1, n1_1, rfl⟩ := ints_form y1_1
      have ho1 := (hp.keep b1).row
      obtain ⟨y0, q0⟩ := owns_some ho1 (k * 3) (by omega)
      obtain ⟨y1, q1⟩ := owns_some ho1 (k * 3 + 1) (by omega)
      obtain ⟨y2, q2⟩ := owns_some ho1 (k * 3 + 2) (by omega)
      have hf := fun j => ho1.frozenAt j
      go_wp2
      have s0 := ho1.stored (k * 3) (.int .i64 l.client)
      have s1 := s0.1.stored (k * 3 + 1) (.int .i64 l.next)
      have s2 := s1.1.stored (k * 3 + 2) (.slice a1_1 l.sent.length n1_1)
      have hrow : World.ownsRow _ w.heap.size 52 3 (.slice (some ⟨w.heap.size, 0, none⟩) n n) n (setRow cs (k * 3) [.int .i64 l.client, .int .i64 l.next, .slice a1_1 l.sent.length n1_1]) := s2.1
      have hcl := hp.row.1
      refine ⟨⟨k + 1, _, _, _, by omega, by go_num, hp.push (u := (.agg #[.int .i64 l.client, .int .i64 l.next, .slice a1_1 l.sent.length n1_1])) (F := F1) hbl.size b1 (by rw [← HL.out]; exact o1) rfl hrow (((Mod.of_grown s0.2).trans (Mod.of_grown s1.2)).trans (Mod.of_grown s2.2)) ?_ ?_, ?_⟩, by simp [intOf]; omega⟩
      · intro i hi j hj
        exact setRow_old _ _ _ _ (.inl (by omega))
      · intro j hj
        exact setRow_new _ _ _ _ (by simp only [List.length_cons, List.length_nil]; omega) hj
      · exact ((((bstep hbl b1).setCell (Nat.le_refl _) _).setCell (Nat.le_refl _) _).setCell (Nat.le_refl _) _)
    · go_wp2
      go_ret
      have hkn : k = n := by omega
      subst hkn
      have e := HN.out
      subst e
      exact ⟨_, _, rfl, ⟨cs, us, fs, hp, fun b => Iff.rfl⟩, hbl⟩
set_option maxHeartbeats 1000000 in
theorem szSessionS_u (x : Value) (xs : List Ses) (left : Int) (w : World) (hx : sessR.V w x xs) (h0 : 0 ≤ left) (h1 : left ≤ 1048576) :
    Calls Try.prog 6 #[x, .int .i64 left] w fun e w' => e = .returned (.int .i64 (szLen left (wtSess xs))) ∧ Below w.heap.size w w' := by
  obtain ⟨ax, cx, rfl, hcx, hmx, hx⟩ := hx
  unfold maxLen at hmx
  unfold wtSess wtL
  have HT : Hid (∀ k, k < xs.length → cntTo wtSes (k + 1) xs = cntTo wtSes k xs + wtSes (xs.getD k default) ∧ cntTo wtSes (k + 1) xs ≤ cntTo wtSes xs.length xs) :=
    fun k hk => ⟨cntTo_succ _ k xs hk, cntTo_le _ _ _ _ hk⟩
  generalize xs.length = n at *
  by_cases h : left < n
  · have h' : left - (n : Int) < 0 := by omega
    clear hx
    go_enter Try.func6, Try.ntmps6
    go_wp2
    go_ret
    exact ⟨by simp only [szLen]; rw [if_pos (by omega)]; rfl, Below.refl _ _⟩
  · have h' : ¬ left - (n : Int) < 0 := by omega
    go_enter Try.func6, Try.ntmps6
    go_wp2
    go_loopw [1, 5] (fun l i w' => ∃ k : Nat, k ≤ n ∧ i = .int .i64 k ∧ l = .int .i64 (left - n - cntTo wtSes k xs) ∧ 0 ≤ left - n - cntTo wtSes k xs ∧ Below w.heap.size w w') (fun _ i _ => n - (intOf i).toNat)
    case atStart => exact ⟨0, Nat.zero_le _, rfl, by simp [cntTo], by simp [cntTo]; omega, Below.refl _ _⟩
    case round =>
      obtain ⟨k, hk, rfl, rfl, hpos, hbl⟩ := hrel
      by_cases hlt : k < n
      · obtain ⟨bx, ox, ux, rfl, _, p1, hvx⟩ := hx k hlt
        obtain ⟨t2, t3⟩ := HT.out k hlt
        generalize xs.getD k default = l at *
        have hvx' := hvx
        obtain ⟨ux1, rfl, _⟩ := hvx'
        have g0 : w.cell? ⟨bx, ox + k * 3, none⟩ = some (.int .i64 l.client) := p1 0 (by omega)
        replace g0 := cell_keep hbl g0
        have g1 : w.cell? ⟨bx, ox + k * 3 + 1, none⟩ = some (.int .i64 l.next) := p1 1 (by omega)
        replace g1 := cell_keep hbl g1
        have g2 : w.cell? ⟨bx, ox + k * 3 + 2, none⟩ = some (ux1) := p1 2 (by omega)
        replace g2 := cell_keep hbl g2
        generalize hm : wtSes l = m at *
        have HM : Hid (wtSes l = m) := hm
        clear hx p1 hm
        generalize cntTo wtSes k xs = c at *
        go_wp2_with fail
        refine (szSession_u (.agg #[.int .i64 l.client, .int .i64 l.next, ux1]) l (left - n - c) _ (sesR.below hvx (by (repeat (first | exact Below.refl _ _ | assumption | refine Below.drew ?_ | refine balloc ?_ _ | refine bstep ?_ (by assumption))))) hpos (by omega)).mono ?_
        rintro e wa ⟨rfl, b1⟩
        rw [HM.out]
        go_wp2
        · rename_i hneg
          go_ret
          refine ⟨?_, by (repeat (first | exact Below.refl _ _ | assumption | refine Below.drew ?_ | refine balloc ?_ _ | refine bstep ?_ (by assumption)))⟩
          have : szLen left ↑(n + cntTo wtSes n xs) = -1 := by
            unfold szLen at hneg ⊢
            rw [if_pos (by split at hneg <;> omega)]
          rw [this]
          rfl
        · rename_i hneg
          refine ⟨⟨k + 1, by omega, by go_num, ?_, ?_, by (repeat (first | exact Below.refl _ _ | assumption | refine Below.drew ?_ | refine balloc ?_ _ | refine bstep ?_ (by assumption)))⟩, by simp [intOf]; omega⟩
          · congr 1
            unfold szLen at hneg ⊢
            split at hneg <;> omega
          · unfold szLen at hneg
            split at hneg <;> omega
      · go_wp2
        go_ret
        have hkn : k = n := by omega
        subst hkn
        refine ⟨?_, hbl⟩
        have : szLen left ↑(k + cntTo wtSes k xs) = left - k - cntTo wtSes k xs := by
          unfold szLen
          rw [if_neg (by omega)]
          omega
        rw [this]
        rfl
set_option maxHeartbeats 1000000 in
theorem heldSessionS_u (v : Value) (xs : List Ses) (k : Int) (w : World) (hv : sessR.V w v (mkSess k xs)) (hw : wtSess xs ≤ 1048576) (hn : k + cntSess xs ≤ 1073741824) (hk0 : 0 ≤ k) :
    Calls Try.prog 38 #[v, .int .i64 k] w fun r w' => r = .returned (.int .i64 (k + cntSess xs)) ∧ Below w.heap.size w w' := by
  obtain ⟨a, cap, rfl, hnc, hcm, hc⟩ := hv
  unfold mkSess at hnc hc ⊢
  rw [length_mkL] at hnc hc ⊢
  unfold maxLen at hcm
  have hW : ∀ k, k < xs.length → wtSes (xs.getD k default) ≤ 1048576 := fun k hk => (wt_at hw hk).1
  unfold cntSess cntL at hn ⊢
  have HT : Hid (∀ j, j < xs.length → (mkL mkElSes cntElSes k xs).getD j default = mkElSes (k + cntTo cntElSes j xs) (xs.getD j default) ∧ cntTo cntElSes (j + 1) xs = cntTo cntElSes j xs + cntElSes (xs.getD j default) ∧ cntTo cntElSes (j + 1) xs ≤ cntTo cntElSes xs.length xs) :=
    fun j hj => ⟨getD_mkL _ _ _ _ _ hj, cntTo_succ _ j xs hj, cntTo_le _ _ _ _ hj⟩
  clear hw
  generalize xs.length = n at *
  go_enter Try.func38, Try.ntmps38
  go_wp2
  go_loopw [1, 5] (fun q i w' => ∃ j : Nat, j ≤ n ∧ i = .int .i64 j ∧ q = .int .i64 (k + cntTo cntElSes j xs) ∧ Below w.heap.size w w') (fun _ i _ => n - (intOf i).toNat)
  case atStart => exact ⟨0, Nat.zero_le _, rfl, by simp [cntTo], Below.refl _ _⟩
  case round =>
    obtain ⟨j, hj, rfl, rfl, hbl⟩ := hrel
    by_cases hlt : j < n
    · obtain ⟨bx, ox, ux, rfl, _, p1, hvx⟩ := hc j hlt
      obtain ⟨t1, t2, t3⟩ := HT.out j hlt
      have hw1 := hW j hlt
      rw [t1] at hvx
      generalize xs.getD j default = l at *
      have tC : cntElSes l = 1 + 1 + cntInts l.sent := rfl
      rw [tC] at t2
      have tW : wtSes l = wtInts l.sent := rfl
      rw [tW] at hw1
      clear tC tW
      obtain ⟨q, hq⟩ : ∃ q, q = k + cntTo cntElSes j xs := ⟨_, rfl⟩
      have hq0 : 0 ≤ q := by omega
      rw [← hq] at hvx ⊢
      have T2 : Hid (k + cntTo cntElSes (j + 1) xs = q + 1 + 1 + cntInts l.sent) := by show _ = _; omega
      have hq1 : q + 1 + 1 + cntInts l.sent ≤ 1073741824 := by omega
      obtain ⟨ux1, rfl, hv1⟩ := hvx
      dsimp only [mkElSes] at hv1
      have g0 : w.cell? ⟨bx, ox + j * 3, none⟩ = some (.int .i64 (q)) := p1 0 (by omega)
      replace g0 := cell_keep hbl g0
      have g1 : w.cell? ⟨bx, ox + j * 3 + 1, none⟩ = some (.int .i64 (q + 1)) := p1 1 (by omega)
      replace g1 := cell_keep hbl g1
      have g2 : w.cell? ⟨bx, ox + j * 3 + 2, none⟩ = some (ux1) := p1 2 (by omega)
      replace g2 := cell_keep hbl g2
      clear hc p1 t1 t2 t3 hW hq
      go_wp2_with fail
      refine (heldInt64S_u ux1 l.sent (q + 1 + 1) _ (intsR.below hv1 (by (repeat (first | exact Below.refl _ _ | assumption | refine Below.drew ?_ | refine balloc ?_ _ | refine bstep ?_ (by assumption))))) (by omega) (by omega) (by omega)).mono ?_
      rintro e wb1 ⟨rfl, b1⟩
      go_wp2
      refine ⟨⟨j + 1, by omega, by go_num, ?_, by (repeat (first | exact Below.refl _ _ | assumption | refine Below.drew ?_ | refine balloc ?_ _ | refine bstep ?_ (by assumption)))⟩, by simp [intOf]; omega⟩
      rw [T2.out]
    · go_wp2
      go_ret
      have hjn : j = n := by omega
      subst hjn
      exact ⟨rfl, hbl⟩
set_option maxHeartbeats 1000000 in
theorem markSessionS_u (v : Value) (xs : List Ses) (base : Nat) (F : Nat → Prop) (k : Int) (w : World) (ho : sessR.O w base F v xs) (hw : wtSess xs ≤ 1048576) (hn : k + cntSess xs ≤ 1073741824) (hk0 : 0 ≤ k) :
    Calls Try.prog 14 #[v, .int .i64 k] w fun r w' => r = .returned (.int .i64 (k + cntSess xs)) ∧ sessR.O w' base F v (mkSess k xs) ∧ Mod F w w' := by
  obtain ⟨cs, us, fs, hp, hF⟩ := ho
  have hW : ∀ k, k < xs.length → wtSes (xs.getD k default) ≤ 1048576 := fun k hk => (wt_at hw hk).1
  unfold cntSess cntL at hn ⊢
  have HT : Hid (∀ j, j < xs.length → (mkL mkElSes cntElSes k xs).getD j default = mkElSes (k + cntTo cntElSes j xs) (xs.getD j default) ∧ cntTo cntElSes (j + 1) xs = cntTo cntElSes j xs + cntElSes (xs.getD j default) ∧ cntTo cntElSes (j + 1) xs ≤ cntTo cntElSes xs.length xs) :=
    fun j hj => ⟨getD_mkL _ _ _ _ _ hj, cntTo_succ _ j xs hj, cntTo_le _ _ _ _ hj⟩
  clear hw
  have hcap := hp.len
  obtain ⟨av, cv, hav⟩ := owns_form hp.row
  subst hav
  have HF : Hid (∀ b, F b ↔ ((Value.slice av xs.length cv).ownBlock = some b ∨ ∃ i, i < xs.length ∧ fs i b)) := hF
  have HM : Hid ((mkL mkElSes cntElSes k xs).length = xs.length) := length_mkL _ _ _ _
  clear hF
  generalize hxl : xs.length = n at *
  clear hxl
  go_enter Try.func14, Try.ntmps14
  go_wp2
  go_loopw [1, 5] (fun q i w' => ∃ (j : Nat) (cs : List Value) (us : Nat → Value), j ≤ n ∧ i = .int .i64 j ∧ q = .int .i64 (k + cntTo cntElSes j xs) ∧ PO sesR 52 3 lvSes w' base (.slice av n cv) n n (fun i => if i < j then (mkL mkElSes cntElSes k xs).getD i default else xs.getD i default) cs us fs ∧ Mod F w w') (fun _ i _ => n - (intOf i).toNat)
  case atStart => exact ⟨0, cs, us, Nat.zero_le _, rfl, by simp [cntTo], hp.cast (fun i hi => by simp), Mod.refl _ _⟩
  case round =>
    clear hp
    obtain ⟨j, cs, us, hj, rfl, rfl, hp1, hm⟩ := hrel
    by_cases hlt : j < n
    · have he := hp1.el j hlt
      simp only [Nat.lt_irrefl, if_false] at he
      obtain ⟨g, rfl, hcl⟩ := hp1.at hlt hlt
      obtain ⟨t1, t2, t3⟩ := HT.out j hlt
      have hw1 := hW j hlt
      obtain ⟨l, hl⟩ : ∃ l, l = xs.getD j default := ⟨_, rfl⟩
      rw [← hl] at t1 t2 hw1 he
      have tC : cntElSes l = 1 + 1 + cntInts l.sent := rfl
      rw [tC] at t2
      have tW : wtSes l = wtInts l.sent := rfl
      rw [tW] at hw1
      clear tC tW
      obtain ⟨q, hq⟩ : ∃ q, q = k + cntTo cntElSes j xs := ⟨_, rfl⟩
      have hq0 : 0 ≤ q := by omega
      rw [← hq] at t1 ⊢
      have T1 : Hid ((mkL mkElSes cntElSes k xs).getD j default = mkElSes q l) := t1
      have T2 : Hid (k + cntTo cntElSes (j + 1) xs = q + 1 + 1 + cntInts l.sent) := by show _ = _; omega
      have hq1 : q + 1 + 1 + cntInts l.sent ≤ 1073741824 := by omega
      obtain ⟨ux1, F1, hu, h1, hF⟩ := he
      rw [hu] at hcl
      have g0 : wr.cell? ⟨g, j * 3, none⟩ = some (.int .i64 l.client) := hcl 0 (by omega)
      have g1 : wr.cell? ⟨g, j * 3 + 1, none⟩ = some (.int .i64 l.next) := hcl 1 (by omega)
      have g2 : wr.cell? ⟨g, j * 3 + 2, none⟩ = some (ux1) := hcl 2 (by omega)
      have hrow := hp1.row
      have hclen := hrow.1
      have hf := fun j => hrow.frozenAt j
      clear hl t1 t2 t3 hW hq hcl
      go_wp2_with fail
      have st1 := hrow.stored (j * 3) (.int .i64 (q))
      replace h1 := intsR.mod h1 (Mod.of_grown st1.2) (fun b hb he => hp1.out j hlt b ((hF b).2 hb) he)
      have M1 := (Mod.of_grown st1.2).mono (G := fun b => (Value.slice (some ⟨g, 0, none⟩) n cv).ownBlock = some b ∨ fs j b) (fun b hb => .inl hb)
      have st2 := st1.1.stored (j * 3 + 1) (.int .i64 (q + 1))
      replace h1 := intsR.mod h1 (Mod.of_grown st2.2) (fun b hb he => hp1.out j hlt b ((hF b).2 hb) he)
      have M2 := (Mod.of_grown st2.2).mono (G := fun b => (Value.slice (some ⟨g, 0, none⟩) n cv).ownBlock = some b ∨ fs j b) (fun b hb => .inl hb)
      refine (markInt64S_u ux1 l.sent base F1 (q + 1 + 1) _ h1 (by omega) (by omega) (by omega)).mono ?_
      rintro e wb1 ⟨rfl, r1, m1⟩
      have rw1 := m1.owns st2.1 (fun b he hb => hp1.out j hlt b ((hF b).2 hb) he)
      have M3 := m1.mono (G := fun b => (Value.slice (some ⟨g, 0, none⟩) n cv).ownBlock = some b ∨ fs j b) (fun b hb => .inr ((hF b).2 hb))
      go_wp2
      have hq := hp1.turn (u := (.agg #[.int .i64 (q), .int .i64 (q + 1), ux1])) (x := mkElSes q l) hlt ((M1.trans M2).trans M3) ⟨ux1, F1, rfl, r1, hF⟩ rfl rw1 ?_ ?_
      · refine ⟨⟨j + 1, _, _, by omega, by go_num, by rw [T2.out], hq.cast fun i hi => ?_, hm.trans (((M1.trans M2).trans M3).mono fun b hb => (HF.out b).2 ?_)⟩, by simp [intOf]; omega⟩
        · by_cases hij : i = j
          · subst hij
            rw [upd_at, if_pos (by omega)]
            exact T1.out
          · rw [upd_ne _ _ hij]
            by_cases h : i < j
            · rw [if_pos h, if_pos (by omega)]
            · rw [if_neg h, if_neg (by omega)]
        · rcases hb with hb | hb
          · exact .inl hb
          · exact .inr ⟨j, hlt, hb⟩
      · intro i hi hij o ho
        simp only [List.getElem?_set]
        rw [if_neg (by omega)]; rw [if_neg (by omega)]
      · intro o ho
        have ho' : o = 0 ∨ o = 1 ∨ o = 2 := by omega
        rcases ho' with rfl | rfl | rfl
        · rw [show j * 3 + 0 = j * 3 from rfl, List.getElem?_set_ne (by omega), List.getElem?_set_self (by (try simp only [List.length_set]); omega)]
          rfl
        · rw [List.getElem?_set_self (by (try simp only [List.length_set]); omega)]
          rfl
        · rw [List.getElem?_set_ne (by omega), List.getElem?_set_ne (by omega), hp1.cell j hlt 2 (by omega), hu]
          rfl
    · go_wp2
      go_ret
      have hjn : j = n := by omega
      subst hjn
      refine ⟨rfl, ⟨cs, us, fs, ?_, ?_⟩, hm⟩
      · unfold mkSess
        rw [HM.out]
        exact hp1.cast (fun i hi => by rw [if_pos hi])
      · unfold mkSess
        rw [HM.out]
        exact HF.out
end Go.Proofs.Ytjemciikdijokaa

/-
  Rows of impl.Leg: the uniform forms. (Written by program: nest.py.)
-/
namespace Go.Proofs.Ytjemciikdijokaa
open Go.RowKit
set_option linter.unusedSectionVars false
variable [DecidableEq Leg] [Inhabited Leg]
attribute [local go_sem ↓] Go.wp_at_zero Go.wp_at_succ

def legsR : Rep (List Leg) := fRep 124 4 legsC LegsV LegsV_below LegsV_of_owns
def wtLegs (xs : List Leg) : Nat := xs.length
def cntLegs (xs : List Leg) : Nat := 4 * xs.length
def mkLegs (k : Int) (xs : List Leg) : List Leg := marksL k xs.length
theorem legs_cnt (d : List Leg) : cntLegs d ≤ 4 * wtLegs d := by unfold cntLegs wtLegs; omega
theorem eqLegS_u (x y : Value) (d d' : List Leg) (w : World) (hx : legsR.V w x d) (hy : legsR.V w y d') :
    Calls Try.prog 83 #[x, y] w fun e w' => e = .returned (.bool (decide (d = d'))) ∧ Below w.heap.size w w' := eqLegS_any x y d d' w hx hy
theorem markLegS_u (v : Value) (d : List Leg) (base : Nat) (F : Nat → Prop) (k : Int) (w : World) (ho : legsR.O w base F v d) (hw : wtLegs d ≤ 1048576) (hn : k + cntLegs d ≤ 1073741824) (hk0 : 0 ≤ k) :
    Calls Try.prog 70 #[v, .int .i64 k] w fun r w' => r = .returned (.int .i64 (k + cntLegs d)) ∧ legsR.O w' base F v (mkLegs k d) ∧ Mod F w w' := by
  refine (markLegS_any v d.length _ base _ k w ho.1 hw hk0 (by omega)).mono ?_
  rintro e w' ⟨rfl, h1, h2⟩
  refine ⟨by simp [cntLegs], ⟨?_, ho.2⟩, by rw [ho.2]; exact Mod.of_grown h2⟩
  unfold mkLegs
  rw [length_marksL]
  exact h1
theorem heldLegS_u (v : Value) (d : List Leg) (k : Int) (w : World) (hv : legsR.V w v (mkLegs k d)) (hw : wtLegs d ≤ 1048576) (hn : k + cntLegs d ≤ 1073741824) (hk0 : 0 ≤ k) :
    Calls Try.prog 76 #[v, .int .i64 k] w fun r w' => r = .returned (.int .i64 (k + cntLegs d)) ∧ Below w.heap.size w w' := by
  refine (heldLegS_any v d.length k w hv hw hk0 (by omega)).mono ?_
  rintro e w' ⟨rfl, rfl⟩
  exact ⟨by simp [cntLegs], Below.refl _ _⟩
end Go.Proofs.Ytjemciikdijokaa


import Derived.Test.YtjemciikdijokaaPrnSessionsFaultLaw1
import Derived.Deep.RegionHeld3
import Derived.Deep.DrawnRows

/-
  Rows of int64: the uniform forms. (Written by program: nest.py.)
-/
namespace Go.Proofs.Ytjemciikdijokaa
open Go.RowKit
set_option linter.unusedSectionVars false
variable [DecidableEq Leg] [Inhabited Leg]
attribute [local go_sem ↓] Go.wp_at_zero Go.wp_at_succ

def intsR : Rep (List Int) := fRep 2 1 intsC IntsV IntsV_below IntsV_of_owns
def wtInts (xs : List Int) : Nat := xs.length
theorem ints_form {w : World} {v : Value} {xs : List Int} (h : intsR.V w v xs) : ∃ a c, v = .slice a xs.length c := by
  obtain ⟨a, c, rfl, _⟩ := h
  exact ⟨_, _, rfl⟩
theorem toInt64S_u (x : Value) (d : List Int) (w : World) (hx : intsR.V w x d) (hn : wtInts d ≤ 1048576) :
    Calls Try.prog 41 #[x] w fun e w' => ∃ v F, e = .returned v ∧ intsR.O w' w.heap.size F v d ∧ Below w.heap.size w w' := by
  refine (toInt64S_any x d w hx hn).mono ?_
  rintro e w' ⟨v, rfl, ho, hb⟩
  exact ⟨v, _, rfl, ⟨ho, rfl⟩, hb⟩
theorem eqInt64S_u (x y : Value) (d d' : List Int) (w : World) (hx : intsR.V w x d) (hy : intsR.V w y d') :
    Calls Try.prog 43 #[x, y] w fun e w' => e = .returned (.bool (decide (d = d'))) ∧ Below w.heap.size w w' := eqInt64S_any x y d d' w hx hy
theorem szInt64S_u (x : Value) (d : List Int) (left : Int) (w : World) (hx : intsR.V w x d) (h0 : 0 ≤ left) (h1 : left ≤ 1048576) :
    Calls Try.prog 40 #[x, .int .i64 left] w fun e w' => e = .returned (.int .i64 (szLen left (wtInts d))) ∧ Below w.heap.size w w' := by
  refine (szInt64S_any x d left w hx h0 h1).mono ?_
  rintro e w' ⟨rfl, rfl⟩
  exact ⟨rfl, Below.refl _ _⟩
end Go.Proofs.Ytjemciikdijokaa

/-
  Session. (Written by program: nest.py.)
-/
namespace Go.Proofs.Ytjemciikdijokaa
open Go.RowKit
set_option linter.unusedSectionVars false
variable [DecidableEq Leg] [Inhabited Leg]
attribute [local go_sem ↓] Go.wp_at_zero Go.wp_at_succ

structure Ses where
  client : Int
  next : Int
  sent : List Int
variable [DecidableEq Ses] [Inhabited Ses]

def sesR : Rep Ses where
  V := fun w v x => ∃ u1, v = .agg #[.int .i64 x.client, .int .i64 x.next, u1] ∧ intsR.V w u1 x.sent
  O := fun w base F v x => ∃ u1 F1, v = .agg #[.int .i64 x.client, .int .i64 x.next, u1] ∧ intsR.O w base F1 u1 x.sent ∧ (∀ b, F b ↔ (F1 b))
  below := fun h hb => by
    obtain ⟨u1, rfl, h1⟩ := h
    exact ⟨u1, rfl, intsR.below h1 hb⟩
  ofO := fun h => by
    obtain ⟨u1, F1, rfl, h1, _⟩ := h
    exact ⟨u1, rfl, intsR.ofO h1⟩
  mod := fun h hm hd => by
    obtain ⟨u1, F1, rfl, h1, hF⟩ := h
    exact ⟨u1, F1, rfl, intsR.mod h1 hm (fun b hb => hd b ((hF b).2 hb)), hF⟩
  rng := fun h b hb => by
    obtain ⟨u1, F1, rfl, h1, hF⟩ := h
    rcases (hF b).1 hb with hb
    · exact intsR.rng h1 b hb
  base := fun h hb => by
    obtain ⟨u1, F1, rfl, h1, hF⟩ := h
    exact ⟨u1, F1, rfl, intsR.base h1 hb, hF⟩
def wtSes (x : Ses) : Nat := wtInts x.sent
def lvSes (v : Value) : List Value := match v with | .agg a => one (a.getD 0 (.int .i64 0)) ++ one (a.getD 1 (.int .i64 0)) ++ one (a.getD 2 (.int .i64 0)) | _ => []
set_option maxHeartbeats 1000000 in
theorem toSession_u (x : Value) (d : Ses) (w : World) (hx : sesR.V w x d) (hn : wtSes d ≤ 1048576) :
    Calls Try.prog 22 #[x] w fun e w' => ∃ v F, e = .returned v ∧ sesR.O w' w.heap.size F v d ∧ Below w.heap.size w w' := by
  obtain ⟨u1, rfl, h1⟩ := hx
  unfold wtSes at hn
  go_enter Try.func22, Try.ntmps22
  go_wp2_with fail
  refine (toInt64S_u _ d.sent _ (intsR.below h1 (by (repeat (first | exact Below.refl _ _ | assumption | refine Below.drew ?_ | refine balloc ?_ _ | refine bset ?_ (by simp; omega) _ | refine bset ?_ (by simp) _ | refine bstep ?_ (by assumption))))) (by omega)).mono ?_
  rintro e w1 ⟨v1, F1, rfl, o1, b1⟩
  obtain ⟨a1, n1, rfl⟩ := ints_form (intsR.ofO o1)
  obtain ⟨c1, f1⟩ := bcell b1
  have z1 := b1.size
  simp at z1
  replace o1 := intsR.base (base' := w.heap.size + 3) o1 (by simp; try omega)
  go_wp2
  refine bodyPost_ret (v := .agg #[.int .i64 d.client, .int .i64 d.next, .slice a1 d.sent.length n1]) ?_ rfl ⟨_, fun b => F1 b, rfl, ⟨_, F1, rfl, intsR.base (base := w.heap.size + 3) (by (repeat (first | assumption | refine Rep.set _ ?_ _ (by simp; omega) | refine Rep.set _ ?_ _ (by simp) | refine Rep.alloc _ ?_ _ | refine Rep.keep _ ?_ (by assumption)))) (by omega), fun b => Iff.rfl⟩, by (repeat (first | exact Below.refl _ _ | assumption | refine Below.drew ?_ | refine balloc ?_ _ | refine bset ?_ (by simp; omega) _ | refine bset ?_ (by simp) _ | refine bstep ?_ (by assumption)))⟩
  simp [results, Try.results22, go_sem, c1]
set_option maxHeartbeats 1000000 in
theorem szSession_u (x : Value) (d : Ses) (left : Int) (w : World) (hx : sesR.V w x d) (h0 : 0 ≤ left) (h1 : left ≤ 1048576) :
    Calls Try.prog 20 #[x, .int .i64 left] w fun e w' => e = .returned (.int .i64 (szLen left (wtSes d))) ∧ Below w.heap.size w w' := by
  obtain ⟨u1, rfl, k1⟩ := hx
  go_enter Try.func20, Try.ntmps20
  go_wp2_with fail
  refine (szInt64S_u _ d.sent left _ (intsR.below k1 (by (repeat (first | exact Below.refl _ _ | assumption | refine Below.drew ?_ | refine balloc ?_ _ | refine bset ?_ (by simp; omega) _ | refine bset ?_ (by simp) _ | refine bstep ?_ (by assumption))))) h0 h1).mono ?_
  rintro e w1 ⟨rfl, b1⟩
  go_wp2
  · rename_i h
    go_ret
    refine ⟨?_, by (repeat (first | exact Below.refl _ _ | assumption | refine Below.drew ?_ | refine balloc ?_ _ | refine bset ?_ (by simp; omega) _ | refine bset ?_ (by simp) _ | refine bstep ?_ (by assumption)))⟩
    rw [szLen_neg (n := wtInts d.sent) (by omega) (wtSes d) (by unfold wtSes; omega)]
    rfl
  rename_i h
  go_ret
  exact ⟨rfl, by (repeat (first | exact Below.refl _ _ | assumption | refine Below.drew ?_ | refine balloc ?_ _ | refine bset ?_ (by simp; omega) _ | refine bset ?_ (by simp) _ | refine bstep ?_ (by assumption)))⟩
set_option maxHeartbeats 1000000 in
theorem eqSession_u (x y : Value) (d d' : Ses) (w : World) (hx : sesR.V w x d) (hy : sesR.V w y d') :
    Calls Try.prog 28 #[x, y] w fun e w' => e = .returned (.bool (decide (d = d'))) ∧ Below w.heap.size w w' := by
  obtain ⟨u1, rfl, h1⟩ := hx
  obtain ⟨v1, rfl, k1⟩ := hy
  obtain ⟨client, next, sent⟩ := d
  obtain ⟨client', next', sent'⟩ := d'
  dsimp only at h1 k1
  go_enter Try.func28, Try.ntmps28
  go_wp2_with fail
  all_goals try (go_ret; exact ⟨by simp_all, by (repeat (first | exact Below.refl _ _ | assumption | refine Below.drew ?_ | refine balloc ?_ _ | refine bset ?_ (by simp; omega) _ | refine bset ?_ (by simp) _ | refine bstep ?_ (by assumption)))⟩)
  refine (eqInt64S_u _ _ sent sent' _ (intsR.below h1 (by (repeat (first | exact Below.refl _ _ | assumption | refine Below.drew ?_ | refine balloc ?_ _ | refine bset ?_ (by simp; omega) _ | refine bset ?_ (by simp) _ | refine bstep ?_ (by assumption))))) (intsR.below k1 (by (repeat (first | exact Below.refl _ _ | assumption | refine Below.drew ?_ | refine balloc ?_ _ | refine bset ?_ (by simp; omega) _ | refine bset ?_ (by simp) _ | refine bstep ?_ (by assumption)))))).mono ?_
  rintro e w1 ⟨rfl, b1⟩
  go_wp2
  all_goals
    go_ret
    exact ⟨by simp_all, by (repeat (first | exact Below.refl _ _ | assumption | refine Below.drew ?_ | refine balloc ?_ _ | refine bset ?_ (by simp; omega) _ | refine bset ?_ (by simp) _ | refine bstep ?_ (by assumption)))⟩
end Go.Proofs.Ytjemciikdijokaa

/-
  Rows of Session. (Written by program: nest.py.)
-/
namespace Go.Proofs.Ytjemciikdijokaa
open Go.RowKit
set_option linter.unusedSectionVars false
variable [DecidableEq Leg] [Inhabited Leg] [DecidableEq Ses] [Inhabited Ses]
attribute [local go_sem ↓] Go.wp_at_zero Go.wp_at_succ

def sessR : Rep (List Ses) := nRep sesR 52 3 lvSes
def wtSess (xs : List Ses) : Nat := wtL wtSes xs
theorem sess_form {w : World} {v : Value} {xs : List Ses} (h : sessR.V w v xs) : ∃ a c, v = .slice a xs.length c := by
  obtain ⟨a, c, rfl, _⟩ := h
  exact ⟨_, _, rfl⟩
theorem infoSess : (Try.prog.info? 52).map (fun i => (i.zero, i.size, i.bytes)) = some (some (.agg #[.int .i64 0, .int .i64 0, .slice none 0 0]), 3, 40) := by kernel_rfl
theorem keepSess {w w' : World} {a0 a1 a2 a3 a4 a5 : Addr} {x0 x1 x2 x3 x4 x5 : Value} (hb : Below w.heap.size w w') (g0 : w.cell? a0 = some x0) (g1 : w.cell? a1 = some x1) (g2 : w.cell? a2 = some x2) (g3 : w.cell? a3 = some x3) (g4 : w.cell? a4 = some x4) (g5 : w.cell? a5 = some x5) : Below w.heap.size w w' ∧ w'.cell? a0 = some x0 ∧ w'.cell? a1 = some x1 ∧ w'.cell? a2 = some x2 ∧ w'.cell? a3 = some x3 ∧ w'.cell? a4 = some x4 ∧ w'.cell? a5 = some x5 :=
  ⟨hb, cell_keep hb g0, cell_keep hb g1, cell_keep hb g2, cell_keep hb g3, cell_keep hb g4, cell_keep hb g5⟩
set_option maxHeartbeats 1000000 in
theorem eqSessionS_u (x y : Value) (xs ys : List Ses) (w : World) (hx : sessR.V w x xs) (hy : sessR.V w y ys) :
    Calls Try.prog 10 #[x, y] w fun e w' => e = .returned (.bool (decide (xs = ys))) ∧ Below w.heap.size w w' := by
  obtain ⟨ax, cx, rfl, hcx, hmx, hx⟩ := hx
  obtain ⟨ay, cy, rfl, hcy, hmy, hy⟩ := hy
  unfold maxLen at hmx hmy
  by_cases hl : ys.length = xs.length
  · rw [hl] at hcy hy ⊢
    have HL : Hid (ys.length = xs.length) := hl
    clear hl
    generalize hn : xs.length = n at *
    have HN : Hid (xs.length = n) := hn
    clear hn
    go_enter Try.func10, Try.ntmps10
    go_wp2
    go_loopw [5] (fun i w' => ∃ k : Nat, k ≤ n ∧ i = .int .i64 k ∧ (∀ j, j < k → xs.getD j default = ys.getD j default) ∧ Below w.heap.size w w') (fun i _ => n - (intOf i).toNat)
    case atStart => exact ⟨0, Nat.zero_le _, rfl, fun j h => absurd h (Nat.not_lt_zero _), Below.refl _ _⟩
    case round =>
      obtain ⟨k, hk, rfl, hpre, hbl⟩ := hrel
      have HP : Hid (∀ j, j < k → xs.getD j default = ys.getD j default) := hpre
      clear hpre
      by_cases hlt : k < n
      · obtain ⟨bx, ox, ux, rfl, _, p1, hvx⟩ := hx k hlt
        obtain ⟨b2, oy, uy, rfl, _, p2, hvy⟩ := hy k hlt
        obtain ⟨l1, hl1⟩ : ∃ l, l = xs.getD k default := ⟨_, rfl⟩
        obtain ⟨l2, hl2⟩ : ∃ l, l = ys.getD k default := ⟨_, rfl⟩
        rw [← hl1] at hvx
        rw [← hl2] at hvy
        have H1 : Hid (l1 = xs.getD k default) := hl1
        have H2 : Hid (l2 = ys.getD k default) := hl2
        have hvx' := hvx
        obtain ⟨ux1, rfl, _⟩ := hvx'
        have hvy' := hvy
        obtain ⟨uy1, rfl, _⟩ := hvy'
        have g0 : w.cell? ⟨bx, ox + k * 3, none⟩ = some (.int .i64 l1.client) := p1 0 (by omega)
        have g1 : w.cell? ⟨bx, ox + k * 3 + 1, none⟩ = some (.int .i64 l1.next) := p1 1 (by omega)
        have g2 : w.cell? ⟨bx, ox + k * 3 + 2, none⟩ = some (ux1) := p1 2 (by omega)
        have g3 : w.cell? ⟨b2, oy + k * 3, none⟩ = some (.int .i64 l2.client) := p2 0 (by omega)
        have g4 : w.cell? ⟨b2, oy + k * 3 + 1, none⟩ = some (.int .i64 l2.next) := p2 1 (by omega)
        have g5 : w.cell? ⟨b2, oy + k * 3 + 2, none⟩ = some (uy1) := p2 2 (by omega)
        clear hl1 hl2 hx hy p1 p2
        go_wp2
        go_region_held3 (fun w' => Below w.heap.size w w' ∧ w'.cell? ⟨bx, ox + k * 3, none⟩ = some (.int .i64 l1.client) ∧ w'.cell? ⟨bx, ox + k * 3 + 1, none⟩ = some (.int .i64 l1.next) ∧ w'.cell? ⟨bx, ox + k * 3 + 2, none⟩ = some (ux1) ∧ w'.cell? ⟨b2, oy + k * 3, none⟩ = some (.int .i64 l2.client) ∧ w'.cell? ⟨b2, oy + k * 3 + 1, none⟩ = some (.int .i64 l2.next) ∧ w'.cell? ⟨b2, oy + k * 3 + 2, none⟩ = some (uy1)) ((refine keepSess ?_ g0 g1 g2 g3 g4 g5; (repeat (first | exact Below.refl _ _ | assumption | refine Below.drew ?_ | refine balloc ?_ _ | refine bstep ?_ (by assumption))))) (first | (go_at_call 28; refine (eqSession_u (.agg #[.int .i64 l1.client, .int .i64 l1.next, ux1]) (.agg #[.int .i64 l2.client, .int .i64 l2.next, uy1]) l1 l2 _ (sesR.below hvx (by (repeat (first | exact Below.refl _ _ | assumption | refine Below.drew ?_ | refine balloc ?_ _ | refine bstep ?_ (by assumption))))) (sesR.below hvy (by (repeat (first | exact Below.refl _ _ | assumption | refine Below.drew ?_ | refine balloc ?_ _ | refine bstep ?_ (by assumption)))))).mono ?_; rintro e w' ⟨rfl, hb1⟩))
        rename_i hH
        have hB := hH.1
        clear hH
        go_wp2
        · rename_i hle
          go_ret
          refine ⟨?_, hB⟩
          have : ¬ xs = ys := fun h => by
            have : l1 = l2 := by rw [H1.out, H2.out, h]
            simp [this] at hle
          simp [this]
        · rename_i hle
          refine ⟨⟨k + 1, by omega, by go_num, fun j hj => ?_, hB⟩, by simp [intOf]; omega⟩
          by_cases hjk : j < k
          · exact HP.out j hjk
          · have : j = k := by omega
            subst this
            rw [← H1.out, ← H2.out]
            simpa using hle
      · go_wp2
        go_ret
        have : k = n := by omega
        subst this
        refine ⟨?_, hbl⟩
        have : xs = ys := rows_eq_of (by rw [HL.out, HN.out]) (by rw [HN.out]; exact HP.out)
        simp [this]
  · go_enter Try.func10, Try.ntmps10
    have hl' : ((xs.length : Int) == (ys.length : Int)) = false := by simp; omega
    go_wp2
    go_ret
    have : ¬ xs = ys := fun h => hl (by rw [h])
    exact ⟨by simp [this], Below.refl _ _⟩
set_option maxHeartbeats 1000000 in
theorem toSessionS_u (x : Value) (xs : List Ses) (w : World) (hx : sessR.V w x xs) (hn : wtSess xs ≤ 1048576) :
    Calls Try.prog 8 #[x] w fun e w' => ∃ v F, e = .returned v ∧ sessR.O w' w.heap.size F v xs ∧ Below w.heap.size w w' := by
  obtain ⟨ax, cx, rfl, hcx, hmx, hx⟩ := hx
  unfold maxLen at hmx
  unfold wtSess at hn
  have hlen : xs.length ≤ 1048576 := by unfold wtL at hn; omega
  have hW : ∀ k, k < xs.length → wtSes (xs.getD k default) ≤ 1048576 := fun k hk => (wt_at hn hk).1
  obtain ⟨i0, hi, hz0, hz1, hz2⟩ := info_parts infoSess
  obtain ⟨w1, hmk, hown, hgr⟩ := run_make_full (P := Try.prog) w w.heap.size 25 52 i0 _ 3 Try.underlying25 hi hz0 hz1 .i64 .i64 xs.length (by rw [hz2]; omega) (by unfold maxLen; omega) (Nat.le_refl _)
  have hbl0 : Below w.heap.size w w1 := (Below.refl _ _).grown hgr (Nat.le_refl _) (fun k h => by cases h)
  clear hn
  generalize hn' : xs.length = n at *
  have HN : Hid (xs.length = n) := hn'
  clear hn'
  go_enter Try.func8, Try.ntmps8
  go_wp2
  go_loopw [4] (fun i w' => ∃ (k : Nat) (cs : List Value) (us : Nat → Value) (fs : Nat → Nat → Prop), k ≤ n ∧ i = .int .i64 k ∧ PO sesR 52 3 lvSes w' w.heap.size (.slice (some ⟨w.heap.size, 0, none⟩) n n) n k (fun i => xs.getD i default) cs us fs ∧ Below w.heap.size w w') (fun i _ => n - (intOf i).toNat)
  case atStart => exact ⟨0, _, fun _ => .int .i64 0, fun _ _ => False, Nat.zero_le _, rfl, ⟨hown, fun i h => by omega, fun i h => by omega, fun i h => by omega, fun i h => by omega, fun i j h => by omega⟩, hbl0⟩
  case round =>
    obtain ⟨k, cs, us, fs, hk, rfl, hp, hbl⟩ := hrel
    clear hown hmk hgr hbl0
    by_cases hlt : k < n
    · obtain ⟨bx, ox, ux, rfl, _, p1, hvx⟩ := hx k hlt
      have hw := hW k hlt
      obtain ⟨l, hl⟩ : ∃ l, l = xs.getD k default := ⟨_, rfl⟩
      rw [← hl] at hvx hw
      have HL : Hid (l = xs.getD k default) := hl
      have hvx' := hvx
      obtain ⟨ux1, rfl, _⟩ := hvx'
      have g0 : w.cell? ⟨bx, ox + k * 3, none⟩ = some (.int .i64 l.client) := p1 0 (by omega)
      replace g0 := cell_keep hbl g0
      have g1 : w.cell? ⟨bx, ox + k * 3 + 1, none⟩ = some (.int .i64 l.next) := p1 1 (by omega)
      replace g1 := cell_keep hbl g1
      have g2 : w.cell? ⟨bx, ox + k * 3 + 2, none⟩ = some (ux1) := p1 2 (by omega)
      replace g2 := cell_keep hbl g2
      clear hx p1 hW hl
      go_wp2_with fail
      refine (toSession_u (.agg #[.int .i64 l.client, .int .i64 l.next, ux1]) l _ (sesR.below hvx (by (repeat (first | exact Below.refl _ _ | assumption | refine Below.drew ?_ | refine balloc ?_ _ | refine bstep ?_ (by assumption))))) hw).mono ?_
      rintro e wa ⟨v1, F1, rfl, o1, b1⟩
      have ofm1 := sesR.ofO o1
      obtain ⟨x1_1, rfl, y1_1⟩ := ofm1
      obtain ⟨a1_1, n1_1, rfl⟩ := ints_form y1_1
      have ho1 := (hp.keep b1).row
      obtain ⟨y0, q0⟩ := owns_some ho1 (k * 3) (by omega)
      obtain ⟨y1, q1⟩ := owns_some ho1 (k * 3 + 1) (by omega)
      obtain ⟨y2, q2⟩ := owns_some ho1 (k * 3 + 2) (by omega)
      have hf := fun j => ho1.frozenAt j
      go_wp2
      have s0 := ho1.stored (k * 3) (.int .i64 l.client)
      have s1 := s0.1.stored (k * 3 + 1) (.int .i64 l.next)
      have s2 := s1.1.stored (k * 3 + 2) (.slice a1_1 l.sent.length n1_1)
      have hrow : World.ownsRow _ w.heap.size 52 3 (.slice (some ⟨w.heap.size, 0, none⟩) n n) n (setRow cs (k * 3) [.int .i64 l.client, .int .i64 l.next, .slice a1_1 l.sent.length n1_1]) := s2.1
      have hcl := hp.row.1
      refine ⟨⟨k + 1, _, _, _, by omega, by go_num, hp.push (u := (.agg #[.int .i64 l.client, .int .i64 l.next, .slice a1_1 l.sent.length n1_1])) (F := F1) hbl.size b1 (by rw [← HL.out]; exact o1) rfl hrow (((Mod.of_grown s0.2).trans (Mod.of_grown s1.2)).trans (Mod.of_grown s2.2)) ?_ ?_, ?_⟩, by simp [intOf]; omega⟩
      · intro i hi j hj
        exact setRow_old _ _ _ _ (.inl (by omega))
      · intro j hj
        exact setRow_new _ _ _ _ (by simp only [List.length_cons, List.length_nil]; omega) hj
      · exact ((((bstep hbl b1).setCell (Nat.le_refl _) _).setCell (Nat.le_refl _) _).setCell (Nat.le_refl _) _)
    · go_wp2
      go_ret
      have hkn : k = n := by omega
      subst hkn
      have e := HN.out
      subst e
      exact ⟨_, _, rfl, ⟨cs, us, fs, hp, fun b => Iff.rfl⟩, hbl⟩
set_option maxHeartbeats 1000000 in
theorem szSessionS_u (x : Value) (xs : List Ses) (left : Int) (w : World) (hx : sessR.V w x xs) (h0 : 0 ≤ left) (h1 : left ≤ 1048576) :
    Calls Try.prog 6 #[x, .int .i64 left] w fun e w' => e = .returned (.int .i64 (szLen left (wtSess xs))) ∧ Below w.heap.size w w' := by
  obtain ⟨ax, cx, rfl, hcx, hmx, hx⟩ := hx
  unfold maxLen at hmx
  unfold wtSess wtL
  have HT : Hid (∀ k, k < xs.length → cntTo wtSes (k + 1) xs = cntTo wtSes k xs + wtSes (xs.getD k default) ∧ cntTo wtSes (k + 1) xs ≤ cntTo wtSes xs.length xs) :=
    fun k hk => ⟨cntTo_succ _ k xs hk, cntTo_le _ _ _ _ hk⟩
  generalize xs.length = n at *
  by_cases h : left < n
  · have h' : left - (n : Int) < 0 := by omega
    clear hx
    go_enter Try.func6, Try.ntmps6
    go_wp2
    go_ret
    exact ⟨by simp only [szLen]; rw [if_pos (by omega)]; rfl, Below.refl _ _⟩
  · have h' : ¬ left - (n : Int) < 0 := by omega
    go_enter Try.func6, Try.ntmps6
    go_wp2
    go_loopw [1, 5] (fun l i w' => ∃ k : Nat, k ≤ n ∧ i = .int .i64 k ∧ l = .int .i64 (left - n - cntTo wtSes k xs) ∧ 0 ≤ left - n - cntTo wtSes k xs ∧ Below w.heap.size w w') (fun _ i _ => n - (intOf i).toNat)
    case atStart => exact ⟨0, Nat.zero_le _, rfl, by simp [cntTo], by simp [cntTo]; omega, Below.refl _ _⟩
    case round =>
      obtain ⟨k, hk, rfl, rfl, hpos, hbl⟩ := hrel
      by_cases hlt : k < n
      · obtain ⟨bx, ox, ux, rfl, _, p1, hvx⟩ := hx k hlt
        obtain ⟨t2, t3⟩ := HT.out k hlt
        generalize xs.getD k default = l at *
        have hvx' := hvx
        obtain ⟨ux1, rfl, _⟩ := hvx'
        have g0 : w.cell? ⟨bx, ox + k * 3, none⟩ = some (.int .i64 l.client) := p1 0 (by omega)
        replace g0 := cell_keep hbl g0
        have g1 : w.cell? ⟨bx, ox + k * 3 + 1, none⟩ = some (.int .i64 l.next) := p1 1 (by omega)
        replace g1 := cell_keep hbl g1
        have g2 : w.cell? ⟨bx, ox + k * 3 + 2, none⟩ = some (ux1) := p1 2 (by omega)
        replace g2 := cell_keep hbl g2
        generalize hm : wtSes l = m at *
        have HM : Hid (wtSes l = m) := hm
        clear hx p1 hm
        generalize cntTo wtSes k xs = c at *
        go_wp2_with fail
        refine (szSession_u (.agg #[.int .i64 l.client, .int .i64 l.next, ux1]) l (left - n - c) _ (sesR.below hvx (by (repeat (first | exact Below.refl _ _ | assumption | refine Below.drew ?_ | refine balloc ?_ _ | refine bstep ?_ (by assumption))))) hpos (by omega)).mono ?_
        rintro e wa ⟨rfl, b1⟩
        rw [HM.out]
        go_wp2
        · rename_i hneg
          go_ret
          refine ⟨?_, by (repeat (first | exact Below.refl _ _ | assumption | refine Below.drew ?_ | refine balloc ?_ _ | refine bstep ?_ (by assumption)))⟩
          have : szLen left ↑(n + cntTo wtSes n xs) = -1 := by
            unfold szLen at hneg ⊢
            rw [if_pos (by split at hneg <;> omega)]
          rw [this]
          rfl
        · rename_i hneg
          refine ⟨⟨k + 1, by omega, by go_num, ?_, ?_, by (repeat (first | exact Below.refl _ _ | assumption | refine Below.drew ?_ | refine balloc ?_ _ | refine bstep ?_ (by assumption)))⟩, by simp [intOf]; omega⟩
          · congr 1
            unfold szLen at hneg ⊢
            split at hneg <;> omega
          · unfold szLen at hneg
            split at hneg <;> omega
      · go_wp2
        go_ret
        have hkn : k = n := by omega
        subst hkn
        refine ⟨?_, hbl⟩
        have : szLen left ↑(k + cntTo wtSes k xs) = left - k - cntTo wtSes k xs := by
          unfold szLen
          rw [if_neg (by omega)]
          omega
        rw [this]
        rfl
end Go.Proofs.Ytjemciikdijokaa

/-
  Contract. (Written by program: nest.py.)
-/
namespace Go.Proofs.Ytjemciikdijokaa
open Go.RowKit
set_option linter.unusedSectionVars false
variable [DecidableEq Leg] [Inhabited Leg]
attribute [local go_sem ↓] Go.wp_at_zero Go.wp_at_succ

structure Cont where
  id : Int
  legs : List Leg
variable [DecidableEq Cont] [Inhabited Cont]

end Go.Proofs.Ytjemciikdijokaa


import Derived.Test.YtojjdkggomlegaaGreatPrnInDoubtLaw19
import Derived.BigQuiet
import Derived.Deep.QuietTactic
import Derived.Deep.RegionHeld3
import Derived.Test.YtojjdkggomlegaaGreatPrnInDoubtLaw1
import Derived.Deep.Slices
import Derived.Lib.SmallJoins
import Derived.Test.YtojjdkggomlegaaGreatPrnInDoubtLaw9
import Derived.Deep.Strs

/-
  InDoubt.
-/
set_option linter.unusedSimpArgs false
set_option linter.unusedVariables false
namespace Go.Proofs.YtojjdkggomlegaaGreat
open Go.RowKit
set_option linter.unusedSectionVars false
variable [DecidableEq Rw] [Inhabited Rw] [DecidableEq Bal] [Inhabited Bal] [DecidableEq Ledg] [Inhabited Ledg] [DecidableEq Leg] [Inhabited Leg] [DecidableEq Cont] [Inhabited Cont] [DecidableEq LedgR] [Inhabited LedgR] [DecidableEq OutcR] [Inhabited OutcR] [DecidableEq Mrk] [Inhabited Mrk] [DecidableEq Shd] [Inhabited Shd] [DecidableEq ShdR] [Inhabited ShdR] [DecidableEq IntsR] [Inhabited IntsR]
attribute [local go_sem ↓] Go.wp_at_zero Go.wp_at_succ

def idsT (d : Shd) (k : Nat) : List Int := (d.held.take k).map (fun c => c.id)
def idsH (d : Shd) : List Int := d.held.map (fun c => c.id)
def doubtD (d : Shd) : IntsR := if shdF d = 0 then ⟨0, idsH d⟩ else ⟨shdF d, []⟩
theorem idsT_snoc {d : Shd} {k : Nat} (hk : k < d.held.length) : idsT d (k + 1) = idsT d k ++ [(d.held.getD k default).id] := by
  have e : d.held.take (k + 1) = d.held.take k ++ [d.held.getD k default] := by rw [List.take_add_one]; simp [List.getD, hk]
  unfold idsT
  rw [e, List.map_append]
  rfl
theorem idsT_all {d : Shd} : idsT d d.held.length = idsH d := by unfold idsT idsH; rw [List.take_length]
theorem idsT_len {d : Shd} {k : Nat} (hk : k ≤ d.held.length) : (idsT d k).length = k := by unfold idsT; rw [List.length_map, List.length_take, Nat.min_eq_left hk]
theorem shdF_ok {d : Shd} (h : shdF d = 0) : listsF d = 0 := by
  unfold shdF at h
  split at h
  · assumption
  · exact h
set_option maxRecDepth 20000 in
set_option maxHeartbeats 4000000 in
theorem l10Doubt_any (x : Value) (d : Shd) (w : World) (hx : shdR.V w x d) (hn : d.held.length ≤ 100) :
    Calls Tryz.prog 86 #[x] w fun e w' => ∃ v, e = .returned v ∧ w'.ownsRow w.heap.size 2 1 v (idsH d).length (intsC (idsH d)) ∧ Below w.heap.size w w' := by
  obtain ⟨u1, u2, u3, u4, u5, rfl, h1, h2, h3, h4, h5⟩ := hx
  have HX3 : Hid (∃ a c, u3 = .slice a d.held.length c ∧ d.held.length ≤ c ∧ c ≤ maxLen ∧ ∀ k, k < d.held.length → ∃ b o p q, a = some ⟨b, o, none⟩ ∧ w.cell? ⟨b, o + k * 2, none⟩ = some (.int .i64 (d.held.getD k default).id) ∧ w.cell? ⟨b, o + k * 2 + 1, none⟩ = some (.slice p (d.held.getD k default).legs.length q) ∧ contR.V w (.agg #[.int .i64 (d.held.getD k default).id, .slice p (d.held.getD k default).legs.length q]) (d.held.getD k default)) := conts_at h3
  obtain ⟨a1, c1, rfl⟩ := bals_form h1
  obtain ⟨a2, c2, rfl⟩ := mrks_form h2
  obtain ⟨a3, c3, rfl⟩ := conts_form h3
  obtain ⟨a4, c4, rfl⟩ := mrks_form h4
  obtain ⟨a5, c5, rfl⟩ := ints_form h5
  obtain ⟨_, _, e3, hc3, hm3, hx3⟩ := HX3.out
  simp only [Value.slice.injEq, true_and] at e3
  obtain ⟨rfl, rfl⟩ := e3
  unfold maxLen at hm3
  have HX : Hid (∀ k, k < d.held.length → ∃ b o p q, a3 = some ⟨b, o, none⟩ ∧ w.cell? ⟨b, o + k * 2, none⟩ = some (.int .i64 (d.held.getD k default).id) ∧ w.cell? ⟨b, o + k * 2 + 1, none⟩ = some (.slice p (d.held.getD k default).legs.length q) ∧ contR.V w (.agg #[.int .i64 (d.held.getD k default).id, .slice p (d.held.getD k default).legs.length q]) (d.held.getD k default)) := hx3
  have HDs : Hid (∀ k, k < d.held.length → idsT d (k + 1) = idsT d k ++ [(d.held.getD k default).id]) := fun k hk => idsT_snoc hk
  have HDe : Hid (idsT d d.held.length = idsH d) := idsT_all
  have HDl : Hid (∀ k, k ≤ d.held.length → (idsT d k).length = k) := fun k hk => idsT_len hk
  clear h1 h2 h3 h4 h5 HX3 hx3
  generalize d.bals.length = n1 at *
  generalize d.votes.length = n2 at *
  generalize d.held.length = n3 at *
  generalize d.done.length = n4 at *
  generalize d.appl.length = n5 at *
  obtain ⟨i0, hi0, hz0, hzz1, hzz2⟩ := info_parts infoInt
  have HI0 : Hid (Tryz.prog.info? 2 = some i0 ∧ i0.zero = some (.int .i64 0) ∧ i0.size = 1 ∧ i0.bytes = 8) := ⟨hi0, hz0, hzz1, hzz2⟩
  clear hi0 hz0 hzz1 hzz2
  go_enter Tryz.func86, Tryz.ntmps86
  go_wp2
  obtain ⟨w1, hw1⟩ : ∃ w1, w1 = w.alloc (.cells #[.int .i64 d.idx, .slice a1 n1 c1, .slice a2 n2 c2, .slice a3 n3 c3, .slice a4 n4 c4, .slice a5 n5 c5] 34) := ⟨_, rfl⟩
  have y3 : w1.cell? ⟨w.heap.size, 3, none⟩ = some (.slice a3 n3 c3) := by rw [hw1]; simp [go_sem]
  have hB1 : Below w.heap.size w w1 := by rw [hw1]; (repeat (first | exact Below.refl _ _ | assumption | refine Below.drew ?_ | refine balloc ?_ _ | refine bset ?_ (by simp; omega) _ | refine bset ?_ (by simp) _ | refine bstep ?_ (by assumption)))
  have Z1 : Hid (w1.heap.size = w.heap.size + 1) := by show _ = _; rw [hw1]; simp
  have z1 : w.heap.size < w1.heap.size := by rw [Z1.out]; omega
  rw [← hw1]
  clear hw1
  go_loopw [3, 4] (fun s i w' => ∃ (k : Nat) (p : Option Addr) (q : Nat), k ≤ n3 ∧ s = .slice p k q ∧ i = .int .i64 k ∧ Hid (w'.ownsRow w1.heap.size 2 1 (.slice p k q) k (intsC (idsT d k))) ∧ Below w1.heap.size w1 w') (fun s i _ => n3 - (intOf i).toNat)
  case atStart => exact ⟨0, _, 0, Nat.zero_le _, rfl, rfl, by show World.ownsRow _ _ _ _ _ _ _; have h := World.ownsRow_lit (base := w1.heap.size) (e := 2) (size := 1) w1 #[] 0 (Nat.le_refl _) (by decide) rfl; rw [show (⟨w1.heap.size, 0, none⟩ : Addr) = ⟨w.heap.size + 1, 0, none⟩ by rw [Z1.out]] at h; exact h, by (repeat (first | exact Below.refl _ _ | assumption | refine Below.drew ?_ | refine balloc ?_ _ | refine bset ?_ (by simp; omega) _ | refine bset ?_ (by simp) _ | refine bstep ?_ (by assumption)))⟩
  case round =>
    obtain ⟨k, p, q, hk, rfl, rfl, HO, hbl⟩ := hrel
    replace y3 := cell_keep hbl y3
    by_cases hlt : k < n3
    · obtain ⟨bx, ox, pp, qq, rfl, g0, _, _⟩ := HX.out k hlt
      have HD : Hid (idsT d (k + 1) = idsT d k ++ [(d.held.getD k default).id]) := HDs.out k hlt
      generalize (d.held.getD k default).id = qid at *
      replace g0 := cell_keep (bstep hB1 hbl) g0
      have zb : bx < wr.heap.size := World.block_lt_of_cell? wr _ g0
      have hobl : ∀ b', (Value.slice p k q).ownBlock = some b' → w1.heap.size ≤ b' ∧ b' < wr.heap.size := fun b' h => HO.out.lt b' h
      have HOl : Hid (∀ b', (Value.slice p k q).ownBlock = some b' → w1.heap.size ≤ b' ∧ b' < wr.heap.size) := hobl
      clear hobl
      go_wp2_with (at_builtin; refine wpList_append_own_at _ rfl _ _ 25 rfl w1.heap.size 2 i0 _ 1 8 Tryz.underlying25 HI0.out.1 HI0.out.2.1 HI0.out.2.2.1 HI0.out.2.2.2 rfl (by decide) _ k (intsC (idsT d k)) rfl (owns_below HO.out (balloc (Below.refl _ _) _)) ⟨wr.heap.size, 0, none⟩ 1 1 [.int .i64 qid] rfl rfl ?c1 ?c2 ?c3 ?c4 ?c5 ?_)
      case c1 =>
        intro j u hj
        match j, hj with
        | 0, hj => simp at hj; subst hj; simp [Addr.add, go_sem]
        | j + 1, hj => simp at hj
      case c2 =>
        intro u hu
        rw [List.mem_singleton] at hu
        rw [hu]
        rfl
      case c3 => unfold maxLen; omega
      case c4 => omega
      case c5 => have := hbl.size; simp; omega
      intro v6 w6 o6 g6 _ l6
      obtain ⟨a6, c6, rfl⟩ := owns_form o6
      have hB6 : Below w1.heap.size w1 w6 := (balloc (hbl) _).grown g6 (by have := hbl.size; simp; omega) (fun b' h => (HOl.out b' h).1)
      have HO6 : Hid (w6.ownsRow w1.heap.size 2 1 (.slice a6 (k + 1) c6) (k + 1) (intsC (idsT d (k + 1)))) := by
        show World.ownsRow _ _ _ _ _ _ _
        rw [HD.out]
        have e : intsC (idsT d k ++ [qid]) = intsC (idsT d k) ++ [.int .i64 qid] := by simp [intsC]
        rw [e]
        exact o6
      clear o6 g6 l6
      go_wp2
      exact ⟨⟨k + 1, a6, c6, by omega, rfl, by go_num, HO6, hB6⟩, by simp [intOf]; omega⟩
    · have hkn : k = n3 := by omega
      subst hkn
      have ho := HO.out
      have hl := HDl.out k (Nat.le_refl _)
      rw [HDe.out] at ho hl
      have HOe : Hid (wr.ownsRow w1.heap.size 2 1 (.slice p k q) k (intsC (idsH d))) := ho
      have HMe : Hid ((idsH d).length = k) := hl
      clear ho hl HO
      go_wp2
      go_ret
      exact ⟨_, rfl, by rw [HMe.out]; exact owns_base HOe.out (by omega), bstep hB1 hbl⟩
theorem doubt_err {d : Shd} {w W : World} {c : Int} (h : doubtD d = ⟨c, []⟩) (hb : Below w.heap.size w W) : ∃ v F, Ending.returned (.agg #[.int .i64 c, .slice none 0 0]) = .returned v ∧ intsRR.O W w.heap.size F v (doubtD d) ∧ Below w.heap.size w W := by
  rw [h]
  exact ⟨_, _, rfl, ⟨_, _, rfl, ⟨World.ownsRow_nil _ _ _ _, rfl⟩, fun _ => Iff.rfl⟩, hb⟩
set_option maxRecDepth 20000 in
set_option maxHeartbeats 4000000 in
theorem specDoubt_u (x : Value) (d : Shd) (w : World) (hx : shdR.V w x d) :
    Calls Tryz.prog 28 #[x] w fun e w' => ∃ v F, e = .returned v ∧ intsRR.O w' w.heap.size F v (doubtD d) ∧ Below w.heap.size w w' := by
  have HSf : Hid (∀ W, Below w.heap.size w W → Calls Tryz.prog 9 #[x] W fun e w' => e = .returned (.int .i64 (shdF d)) ∧ Below W.heap.size W w') := fun W hW => specShdF_any x d W (shdR.below hx hW)
  have HDo : Hid (∀ W, Below w.heap.size w W → d.held.length ≤ 100 → Calls Tryz.prog 86 #[x] W fun e w' => ∃ v, e = .returned v ∧ w'.ownsRow W.heap.size 2 1 v (idsH d).length (intsC (idsH d)) ∧ Below W.heap.size W w') := fun W hW h => l10Doubt_any x d W (shdR.below hx hW) h
  obtain ⟨u1, u2, u3, u4, u5, rfl, h1, h2, h3, h4, h5⟩ := hx
  have HX3 : Hid (∃ a c, u3 = .slice a d.held.length c ∧ d.held.length ≤ c ∧ c ≤ maxLen ∧ ∀ k, k < d.held.length → ∃ b o p q, a = some ⟨b, o, none⟩ ∧ w.cell? ⟨b, o + k * 2, none⟩ = some (.int .i64 (d.held.getD k default).id) ∧ w.cell? ⟨b, o + k * 2 + 1, none⟩ = some (.slice p (d.held.getD k default).legs.length q) ∧ contR.V w (.agg #[.int .i64 (d.held.getD k default).id, .slice p (d.held.getD k default).legs.length q]) (d.held.getD k default)) := conts_at h3
  obtain ⟨a1, c1, rfl⟩ := bals_form h1
  obtain ⟨a2, c2, rfl⟩ := mrks_form h2
  obtain ⟨a3, c3, rfl⟩ := conts_form h3
  obtain ⟨a4, c4, rfl⟩ := mrks_form h4
  obtain ⟨a5, c5, rfl⟩ := ints_form h5
  obtain ⟨_, _, e3, hc3, hm3, hx3⟩ := HX3.out
  simp only [Value.slice.injEq, true_and] at e3
  obtain ⟨rfl, rfl⟩ := e3
  unfold maxLen at hm3
  have HX : Hid (∀ k, k < d.held.length → ∃ b o p q, a3 = some ⟨b, o, none⟩ ∧ w.cell? ⟨b, o + k * 2, none⟩ = some (.int .i64 (d.held.getD k default).id) ∧ w.cell? ⟨b, o + k * 2 + 1, none⟩ = some (.slice p (d.held.getD k default).legs.length q) ∧ contR.V w (.agg #[.int .i64 (d.held.getD k default).id, .slice p (d.held.getD k default).legs.length q]) (d.held.getD k default)) := hx3
  have HDs : Hid (∀ k, k < d.held.length → idsT d (k + 1) = idsT d k ++ [(d.held.getD k default).id]) := fun k hk => idsT_snoc hk
  have HDe : Hid (idsT d d.held.length = idsH d) := idsT_all
  have HDl : Hid (∀ k, k ≤ d.held.length → (idsT d k).length = k) := fun k hk => idsT_len hk
  clear h1 h2 h3 h4 h5 HX3 hx3
  have HE : Hid (¬ shdF d = 0 → doubtD d = ⟨shdF d, []⟩) := fun h => by unfold doubtD; rw [if_neg h]
  have HK : Hid (shdF d = 0 → doubtD d = ⟨0, idsH d⟩) := fun h => by unfold doubtD; rw [if_pos h]
  have HNn : Hid (shdF d = 0 → d.held.length ≤ 100) := fun h => (listsF_ok (shdF_ok h)).2.1.nh
  generalize d.bals.length = n1 at *
  generalize d.votes.length = n2 at *
  generalize d.held.length = n3 at *
  generalize d.done.length = n4 at *
  generalize d.appl.length = n5 at *
  generalize shdF d = sf at *
  go_enter Tryz.func28, Tryz.ntmps28
  go_wp2_with fail
  refine (HSf.out _ (by (repeat (first | exact Below.refl _ _ | assumption | refine Below.drew ?_ | refine balloc ?_ _ | refine bset ?_ (by simp; omega) _ | refine bset ?_ (by simp) _ | refine bstep ?_ (by assumption))))).mono ?_
  rintro e w1 ⟨rfl, hb1⟩
  have hB1 : Below w.heap.size w w1 := bstep (by (repeat (first | exact Below.refl _ _ | assumption | refine Below.drew ?_ | refine balloc ?_ _ | refine bset ?_ (by simp; omega) _ | refine bset ?_ (by simp) _ | refine bstep ?_ (by assumption)))) hb1
  have hz1 := hb1.size
  simp at hz1
  have f1 := (bcell hb1).2
  have y0 : w1.cell? ⟨w.heap.size, 0, none⟩ = some (.int .i64 d.idx) := cell_keep hb1 (by simp [go_sem])
  have y1 : w1.cell? ⟨w.heap.size, 1, none⟩ = some (.slice a1 n1 c1) := cell_keep hb1 (by simp [go_sem])
  have y2 : w1.cell? ⟨w.heap.size, 2, none⟩ = some (.slice a2 n2 c2) := cell_keep hb1 (by simp [go_sem])
  have y3 : w1.cell? ⟨w.heap.size, 3, none⟩ = some (.slice a3 n3 c3) := cell_keep hb1 (by simp [go_sem])
  have y4 : w1.cell? ⟨w.heap.size, 4, none⟩ = some (.slice a4 n4 c4) := cell_keep hb1 (by simp [go_sem])
  have y5 : w1.cell? ⟨w.heap.size, 5, none⟩ = some (.slice a5 n5 c5) := cell_keep hb1 (by simp [go_sem])
  have r0 : w1.cell? ⟨w.heap.size + 1, 0, none⟩ = some (.int .i64 0) := cell_keep hb1 (by simp [go_sem])
  have r1 : w1.cell? ⟨w.heap.size + 1, 1, none⟩ = some (.slice none 0 0) := cell_keep hb1 (by simp [go_sem])
  have rf : ∀ o, w1.frozen? ⟨w.heap.size + 1, o, none⟩ = false := fun o => by rw [f1 _ _ (by simp; try omega)]; simp [go_sem]
  clear hb1 f1 HSf
  by_cases hsf : sf = 0
  rotate_left
  · have HC := HE.out hsf
    have hsf' : (sf != 0) = true := by simp [hsf]
    clear HE HK HNn HX HDs HDe HDl
    go_wp2
    exact bodyPost_ret (v := .agg #[.int .i64 sf, .slice none 0 0]) (by simp [results, Tryz.results28, go_sem, r0, r1, rf]) rfl (doubt_err HC (by (repeat (first | refine bset ?_ (by simp; omega) _ | refine bset ?_ (by simp) _ | refine balloc ?_ _ | assumption))))
  have HC : Hid (doubtD d = ⟨0, idsH d⟩) := HK.out hsf
  have hn100 := HNn.out hsf
  rw [hsf]
  clear HE HK HNn hsf
  go_wp2_with fail
  refine (HDo.out _ hB1 hn100).mono ?_
  rintro e w2 ⟨v2, rfl, o2, hb2⟩
  have hB2 : Below w.heap.size w w2 := bstep hB1 hb2
  have hz2 := hb2.size
  replace r0 := cell_keep hb2 r0
  replace r1 := cell_keep hb2 r1
  replace rf : ∀ o, w2.frozen? ⟨w.heap.size + 1, o, none⟩ = false := fun o => by rw [(bcell hb2).2 _ _ (by omega)]; exact rf o
  obtain ⟨a2', c2', rfl⟩ := owns_form o2
  have HO2 : Hid (intsR.O w2 w1.heap.size (fun b => (Value.slice a2' (idsH d).length c2').ownBlock = some b) (.slice a2' (idsH d).length c2') (idsH d)) := ⟨o2, rfl⟩
  clear o2 hb2 HX HDs HDe HDl HDo
  generalize (idsH d).length = m at *
  go_wp2
  refine bodyPost_ret (v := .agg #[.int .i64 0, .slice a2' m c2']) (by simp [results, Tryz.results28, go_sem, r0, r1, rf]) rfl ⟨_, fun b => (Value.slice a2' m c2').ownBlock = some b, rfl, ?_, by (repeat (first | refine bset ?_ (by simp; omega) _ | refine bset ?_ (by simp) _ | refine balloc ?_ _ | assumption))⟩
  rw [HC.out]
  exact ⟨_, _, rfl, intsR.base (base := w1.heap.size) (intsR.set (intsR.set HO2.out _ (by dsimp only; omega)) _ (by dsimp only; omega)) (by omega), fun _ => Iff.rfl⟩
set_option maxRecDepth 20000 in
set_option maxHeartbeats 4000000 in
theorem implDoubt_u (x : Value) (d : Shd) (w : World) (hx : shdR.V w x d) :
    Calls Tryz.prog 29 #[x] w fun e w' => ∃ v F, e = .returned v ∧ intsRR.O w' w.heap.size F v (doubtD d) ∧ Below w.heap.size w w' := by
  have HSf : Hid (∀ W, Below w.heap.size w W → Calls Tryz.prog 11 #[x] W fun e w' => e = .returned (.int .i64 (shdF d)) ∧ Below W.heap.size W w') := fun W hW => implShdF_any x d W (shdR.below hx hW)
  obtain ⟨u1, u2, u3, u4, u5, rfl, h1, h2, h3, h4, h5⟩ := hx
  have HX3 : Hid (∃ a c, u3 = .slice a d.held.length c ∧ d.held.length ≤ c ∧ c ≤ maxLen ∧ ∀ k, k < d.held.length → ∃ b o p q, a = some ⟨b, o, none⟩ ∧ w.cell? ⟨b, o + k * 2, none⟩ = some (.int .i64 (d.held.getD k default).id) ∧ w.cell? ⟨b, o + k * 2 + 1, none⟩ = some (.slice p (d.held.getD k default).legs.length q) ∧ contR.V w (.agg #[.int .i64 (d.held.getD k default).id, .slice p (d.held.getD k default).legs.length q]) (d.held.getD k default)) := conts_at h3
  obtain ⟨a1, c1, rfl⟩ := bals_form h1
  obtain ⟨a2, c2, rfl⟩ := mrks_form h2
  obtain ⟨a3, c3, rfl⟩ := conts_form h3
  obtain ⟨a4, c4, rfl⟩ := mrks_form h4
  obtain ⟨a5, c5, rfl⟩ := ints_form h5
  obtain ⟨_, _, e3, hc3, hm3, hx3⟩ := HX3.out
  simp only [Value.slice.injEq, true_and] at e3
  obtain ⟨rfl, rfl⟩ := e3
  unfold maxLen at hm3
  have HX : Hid (∀ k, k < d.held.length → ∃ b o p q, a3 = some ⟨b, o, none⟩ ∧ w.cell? ⟨b, o + k * 2, none⟩ = some (.int .i64 (d.held.getD k default).id) ∧ w.cell? ⟨b, o + k * 2 + 1, none⟩ = some (.slice p (d.held.getD k default).legs.length q) ∧ contR.V w (.agg #[.int .i64 (d.held.getD k default).id, .slice p (d.held.getD k default).legs.length q]) (d.held.getD k default)) := hx3
  have HDs : Hid (∀ k, k < d.held.length → idsT d (k + 1) = idsT d k ++ [(d.held.getD k default).id]) := fun k hk => idsT_snoc hk
  have HDe : Hid (idsT d d.held.length = idsH d) := idsT_all
  have HDl : Hid (∀ k, k ≤ d.held.length → (idsT d k).length = k) := fun k hk => idsT_len hk
  clear h1 h2 h3 h4 h5 HX3 hx3
  have HE : Hid (¬ shdF d = 0 → doubtD d = ⟨shdF d, []⟩) := fun h => by unfold doubtD; rw [if_neg h]
  have HK : Hid (shdF d = 0 → doubtD d = ⟨0, idsH d⟩) := fun h => by unfold doubtD; rw [if_pos h]
  have HNn : Hid (shdF d = 0 → d.held.length ≤ 100) := fun h => (listsF_ok (shdF_ok h)).2.1.nh
  generalize d.bals.length = n1 at *
  generalize d.votes.length = n2 at *
  generalize d.held.length = n3 at *
  generalize d.done.length = n4 at *
  generalize d.appl.length = n5 at *
  obtain ⟨i0, hi0, hz0, hzz1, hzz2⟩ := info_parts infoInt
  have HI0 : Hid (Tryz.prog.info? 2 = some i0 ∧ i0.zero = some (.int .i64 0) ∧ i0.size = 1 ∧ i0.bytes = 8) := ⟨hi0, hz0, hzz1, hzz2⟩
  clear hi0 hz0 hzz1 hzz2
  generalize shdF d = sf at *
  go_enter Tryz.func29, Tryz.ntmps29
  go_wp2_with fail
  refine (HSf.out _ (by (repeat (first | exact Below.refl _ _ | assumption | refine Below.drew ?_ | refine balloc ?_ _ | refine bset ?_ (by simp; omega) _ | refine bset ?_ (by simp) _ | refine bstep ?_ (by assumption))))).mono ?_
  rintro e w1 ⟨rfl, hb1⟩
  have hB1 : Below w.heap.size w w1 := bstep (by (repeat (first | exact Below.refl _ _ | assumption | refine Below.drew ?_ | refine balloc ?_ _ | refine bset ?_ (by simp; omega) _ | refine bset ?_ (by simp) _ | refine bstep ?_ (by assumption)))) hb1
  have hz1 := hb1.size
  simp at hz1
  have f1 := (bcell hb1).2
  have y3 : w1.cell? ⟨w.heap.size, 3, none⟩ = some (.slice a3 n3 c3) := cell_keep hb1 (by simp [go_sem])
  have r0 : w1.cell? ⟨w.heap.size + 1, 0, none⟩ = some (.int .i64 0) := cell_keep hb1 (by simp [go_sem])
  have r1 : w1.cell? ⟨w.heap.size + 1, 1, none⟩ = some (.slice none 0 0) := cell_keep hb1 (by simp [go_sem])
  have rf : ∀ o, w1.frozen? ⟨w.heap.size + 1, o, none⟩ = false := fun o => by rw [f1 _ _ (by simp; try omega)]; simp [go_sem]
  clear hb1 f1 HSf
  by_cases hsf : sf = 0
  rotate_left
  · have HC := HE.out hsf
    have hsf' : (sf != 0) = true := by simp [hsf]
    clear HE HK HNn HX HDs HDe HDl
    go_wp2
    exact bodyPost_ret (v := .agg #[.int .i64 sf, .slice none 0 0]) (by simp [results, Tryz.results29, go_sem, r0, r1, rf]) rfl (doubt_err HC (by (repeat (first | refine bset ?_ (by simp; omega) _ | refine bset ?_ (by simp) _ | refine balloc ?_ _ | assumption))))
  have HC : Hid (doubtD d = ⟨0, idsH d⟩) := HK.out hsf
  have hn100 := HNn.out hsf
  rw [hsf]
  clear HE HK HNn hsf
  go_wp2
  go_loopw [4, 16] (fun s i w' => ∃ (k : Nat) (p : Option Addr) (q : Nat), k ≤ n3 ∧ s = .slice p k q ∧ i = .int .i64 k ∧ Hid (w'.ownsRow w1.heap.size 2 1 (.slice p k q) k (intsC (idsT d k))) ∧ Below w1.heap.size w1 w') (fun s i _ => n3 - (intOf i).toNat)
  case atStart => exact ⟨0, none, 0, Nat.zero_le _, rfl, rfl, by show World.ownsRow _ _ _ _ _ _ _; exact World.ownsRow_nil _ _ _ _, by (repeat (first | exact Below.refl _ _ | assumption | refine Below.drew ?_ | refine balloc ?_ _ | refine bset ?_ (by simp; omega) _ | refine bset ?_ (by simp) _ | refine bstep ?_ (by assumption)))⟩
  case round =>
    obtain ⟨k, p, q, hk, rfl, rfl, HO, hbl⟩ := hrel
    by_cases hlt : k < n3
    · obtain ⟨bx, ox, pp, qq, rfl, g0, g1, _⟩ := HX.out k hlt
      have HD : Hid (idsT d (k + 1) = idsT d k ++ [(d.held.getD k default).id]) := HDs.out k hlt
      generalize (d.held.getD k default).id = qid at *
      generalize (d.held.getD k default).legs.length = ll at *
      replace g0 := cell_keep (bstep hB1 hbl) g0
      replace g1 := cell_keep (bstep hB1 hbl) g1
      have zb : bx < wr.heap.size := World.block_lt_of_cell? wr _ g0
      have hobl : ∀ b', (Value.slice p k q).ownBlock = some b' → w1.heap.size ≤ b' ∧ b' < wr.heap.size := fun b' h => HO.out.lt b' h
      have HOl : Hid (∀ b', (Value.slice p k q).ownBlock = some b' → w1.heap.size ≤ b' ∧ b' < wr.heap.size) := hobl
      clear hobl
      go_wp2_with (at_builtin; refine wpList_append_own_at _ rfl _ _ 25 rfl w1.heap.size 2 i0 _ 1 8 Tryz.underlying25 HI0.out.1 HI0.out.2.1 HI0.out.2.2.1 HI0.out.2.2.2 rfl (by decide) _ k (intsC (idsT d k)) rfl (owns_below HO.out (balloc (balloc (Below.refl _ _) _) _)) ⟨wr.heap.size + 1, 0, none⟩ 1 1 [.int .i64 qid] rfl rfl ?c1 ?c2 ?c3 ?c4 ?c5 ?_)
      case c1 =>
        intro j u hj
        match j, hj with
        | 0, hj => simp at hj; subst hj; simp [Addr.add, go_sem]
        | j + 1, hj => simp at hj
      case c2 =>
        intro u hu
        rw [List.mem_singleton] at hu
        rw [hu]
        rfl
      case c3 => unfold maxLen; omega
      case c4 => omega
      case c5 => have := hbl.size; simp; omega
      intro v6 w6 o6 g6 _ l6
      obtain ⟨a6, c6, rfl⟩ := owns_form o6
      have hB6 : Below w1.heap.size w1 w6 := (balloc (balloc (hbl) _) _).grown g6 (by have := hbl.size; simp; omega) (fun b' h => (HOl.out b' h).1)
      have HO6 : Hid (w6.ownsRow w1.heap.size 2 1 (.slice a6 (k + 1) c6) (k + 1) (intsC (idsT d (k + 1)))) := by
        show World.ownsRow _ _ _ _ _ _ _
        rw [HD.out]
        have e : intsC (idsT d k ++ [qid]) = intsC (idsT d k) ++ [.int .i64 qid] := by simp [intsC]
        rw [e]
        exact o6
      clear o6 g6 l6
      go_wp2
      exact ⟨⟨k + 1, a6, c6, by omega, rfl, by go_num, HO6, hB6⟩, by simp [intOf]; omega⟩
    · have hkn : k = n3 := by omega
      subst hkn
      have ho := HO.out
      have hl := HDl.out k (Nat.le_refl _)
      rw [HDe.out] at ho hl
      have HO2 : Hid (intsR.O wr w1.heap.size (fun b => (Value.slice p k q).ownBlock = some b) (.slice p k q) (idsH d)) := ⟨by rw [hl]; exact ho, rfl⟩
      clear ho hl HO
      have hBr : Below w.heap.size w wr := bstep hB1 hbl
      replace r0 := cell_keep hbl r0
      replace r1 := cell_keep hbl r1
      replace rf : ∀ o, wr.frozen? ⟨w.heap.size + 1, o, none⟩ = false := fun o => by rw [(bcell hbl).2 _ _ (by omega)]; exact rf o
      have hzr := hbl.size
      go_wp2
      refine bodyPost_ret (v := .agg #[.int .i64 0, .slice p k q]) (by simp [results, Tryz.results29, go_sem, r0, r1, rf]) rfl ⟨_, fun b => (Value.slice p k q).ownBlock = some b, rfl, ?_, by (repeat (first | refine bset ?_ (by simp; omega) _ | refine bset ?_ (by simp) _ | refine balloc ?_ _ | assumption))⟩
      rw [HC.out]
      exact ⟨_, _, rfl, intsR.base (base := w1.heap.size) (intsR.set (intsR.set HO2.out _ (by dsimp only; omega)) _ (by dsimp only; omega)) (by omega), fun _ => Iff.rfl⟩
theorem doubt_wt (d : Shd) : wtIntsR (doubtD d) ≤ 100 := by
  unfold doubtD wtIntsR wtInts
  split
  · rename_i h
    show (idsH d).length ≤ 100
    unfold idsH
    rw [List.length_map]
    exact (listsF_ok (shdF_ok h)).2.1.nh
  · show ([] : List Int).length ≤ 100; simp
end Go.Proofs.YtojjdkggomlegaaGreat

/-
  Cells that are kept, more.
-/
namespace Go.Proofs.YtojjdkggomlegaaGreat
open Go.RowKit
theorem keepN16 {w w' : World} {a0 : Addr} {x0 : Value} {a1 : Addr} {x1 : Value} {a2 : Addr} {x2 : Value} {a3 : Addr} {x3 : Value} {a4 : Addr} {x4 : Value} {a5 : Addr} {x5 : Value} {a6 : Addr} {x6 : Value} {a7 : Addr} {x7 : Value} {a8 : Addr} {x8 : Value} {a9 : Addr} {x9 : Value} {a10 : Addr} {x10 : Value} {a11 : Addr} {x11 : Value} {a12 : Addr} {x12 : Value} {a13 : Addr} {x13 : Value} {a14 : Addr} {x14 : Value} {a15 : Addr} {x15 : Value} (hb : Below w.heap.size w w') (g0 : w.cell? a0 = some x0) (g1 : w.cell? a1 = some x1) (g2 : w.cell? a2 = some x2) (g3 : w.cell? a3 = some x3) (g4 : w.cell? a4 = some x4) (g5 : w.cell? a5 = some x5) (g6 : w.cell? a6 = some x6) (g7 : w.cell? a7 = some x7) (g8 : w.cell? a8 = some x8) (g9 : w.cell? a9 = some x9) (g10 : w.cell? a10 = some x10) (g11 : w.cell? a11 = some x11) (g12 : w.cell? a12 = some x12) (g13 : w.cell? a13 = some x13) (g14 : w.cell? a14 = some x14) (g15 : w.cell? a15 = some x15) : Below w.heap.size w w' ∧ w'.cell? a0 = some x0 ∧ w'.cell? a1 = some x1 ∧ w'.cell? a2 = some x2 ∧ w'.cell? a3 = some x3 ∧ w'.cell? a4 = some x4 ∧ w'.cell? a5 = some x5 ∧ w'.cell? a6 = some x6 ∧ w'.cell? a7 = some x7 ∧ w'.cell? a8 = some x8 ∧ w'.cell? a9 = some x9 ∧ w'.cell? a10 = some x10 ∧ w'.cell? a11 = some x11 ∧ w'.cell? a12 = some x12 ∧ w'.cell? a13 = some x13 ∧ w'.cell? a14 = some x14 ∧ w'.cell? a15 = some x15 :=
  ⟨hb, cell_keep hb g0, cell_keep hb g1, cell_keep hb g2, cell_keep hb g3, cell_keep hb g4, cell_keep hb g5, cell_keep hb g6, cell_keep hb g7, cell_keep hb g8, cell_keep hb g9, cell_keep hb g10, cell_keep hb g11, cell_keep hb g12, cell_keep hb g13, cell_keep hb g14, cell_keep hb g15⟩
end Go.Proofs.YtojjdkggomlegaaGreat

/-
  What is handed in, read as data, is data in memory: rows and structs of rows.
-/
namespace Go.Proofs.YtojjdkggomlegaaGreat
open Go.ChangeShapes Go.WideShapes Go.ChangeAt Go.RowKit Go.Joins

theorem spot_none {W : World} {base k : Nat} {a : Addr} {cs : List Value} (hk : 0 < k) (hc : W.cells? base a k = some cs) : a.spot = none := by
  obtain ⟨hb, hl, hcell⟩ := World.cells?_some hc
  have q0 := hcell 0 hk
  obtain ⟨b, o, s⟩ := a
  cases s with
  | none => rfl
  | some s =>
    have : 0 < cs.length := by omega
    simp [Addr.add, World.cell?, this] at q0
    split at q0 <;> simp at q0
theorem add_plain (b o i : Nat) : (Addr.mk b o none).add i = ⟨b, o + i, none⟩ := by
  by_cases h : i = 0
  · subst h; simp [Addr.add]
  · simp [Addr.add, h]
theorem openRow {H : Type} {enc : TypeId × Value → H} {W : World} {sp : Nat → Bool} {held : Bool} {n : Nat} {v : Value} {y : DataW H × List MemPlace} {t e size : Nat} {α : Type} [Inhabited α] {q : List Value → α → Prop}
    (ht : Tryz.prog.underlying t = some (.slice e)) (hz : Tryz.prog.cellsOf e = size) (hs : 0 < size)
    (hq : ∀ n cs y, DataW.trod enc Tryz.prog W 0 sp held n e cs = some y → cs.length = size → ∃ x, q cs x) (h : DataW.trod enc Tryz.prog W 0 sp held n t [v] = some y) :
    ∃ (a : Option Addr) (cap : Nat) (xs : List α) (cs : Nat → List Value), v = .slice a xs.length cap ∧ xs.length ≤ cap ∧ cap ≤ maxLen ∧ ∀ i, i < xs.length → q (cs i) (xs.getD i default) ∧ (cs i).length = size ∧ ∃ b o, a = some ⟨b, o, none⟩ ∧ ∀ j, j < size → W.cell? ⟨b, o + i * size + j, none⟩ = (cs i)[j]? := by
  rcases Go.Deep.open_slice ht h with ⟨hcs, _⟩ | ⟨a, len, cap, m, n', D, Pl, hcs, hb, hl, hm, hmm, _, hc⟩
  · simp at hcs
    subst hcs
    exact ⟨none, 0, [], fun _ => [], rfl, by simp, by unfold maxLen; omega, fun i hi => by simp at hi⟩
  · simp at hcs
    subst hcs
    have hlm : len ≤ m := by rw [hmm]; split <;> omega
    rw [hz] at hc
    have h1 : ∀ i, i < len → ∃ z : List Value × α, q z.1 z.2 ∧ z.1.length = size ∧ ∃ b o, a = ⟨b, o, none⟩ ∧ ∀ j, j < size → W.cell? ⟨b, o + i * size + j, none⟩ = z.1[j]? := by
      intro i hi
      obtain ⟨cs', h1, h2⟩ := hc i (by omega)
      obtain ⟨_, hl', hcell⟩ := World.cells?_some h1
      obtain ⟨x, hx⟩ := hq _ _ _ h2 hl'
      obtain ⟨cs0, k1, _⟩ := hc 0 (by omega)
      have hsp := spot_none hs k1
      obtain ⟨b, o, s⟩ := a
      have hs0 : s = none := by simpa [Addr.add] using hsp
      subst hs0
      refine ⟨(cs', x), hx, hl', b, o, rfl, fun j hj => ?_⟩
      have := hcell j hj
      rw [add_plain, add_plain] at this
      exact this
    obtain ⟨f, hf⟩ := Go.Deep.choose_lt h1
    refine ⟨some a, cap, (List.range len).map (fun i => (f i).2), fun i => (f i).1, by simp, by simpa using hl, hm, fun i hi => ?_⟩
    simp at hi
    obtain ⟨g1, g2, b, o, rfl, g3⟩ := hf i hi
    have e : (List.map (fun i => (f i).2) (List.range len)).getD i default = (f i).2 := by simp [List.getD, hi]
    rw [e]
    exact ⟨g1, g2, b, o, rfl, g3⟩
theorem openN {H : Type} {enc : TypeId × Value → H} {W : World} {sp : Nat → Bool} {held : Bool} {n : Nat} {v : Value} {y : DataW H × List MemPlace} {t e size : Nat} {α : Type} [Inhabited α] {R : Rep α} {te : Nat} {lv : Value → List Value}
    (ht : Tryz.prog.underlying t = some (.slice e)) (hz : Tryz.prog.cellsOf e = size) (hs : 0 < size)
    (hq : ∀ n cs y, DataW.trod enc Tryz.prog W 0 sp held n e cs = some y → cs.length = size → ∃ x u, lv u = cs ∧ R.V W u x) (h : DataW.trod enc Tryz.prog W 0 sp held n t [v] = some y) :
    ∃ xs : List α, (nRep R te size lv).V W v xs := by
  obtain ⟨a, cap, xs, cs, rfl, h1, h2, h3⟩ := openRow (q := fun cs x => ∃ u, lv u = cs ∧ R.V W u x) ht hz hs hq h
  refine ⟨xs, a, cap, rfl, h1, h2, fun i hi => ?_⟩
  obtain ⟨⟨u, g1, g2⟩, g3, b, o, g4, g5⟩ := h3 i hi
  exact ⟨b, o, u, g4, by rw [g1]; exact g3, fun j hj => by rw [g1]; exact g5 j hj, g2⟩
end Go.Proofs.YtojjdkggomlegaaGreat

/-
  A contract handed in.
-/
namespace Go.Proofs.YtojjdkggomlegaaGreat
open Go.ChangeShapes Go.WideShapes Go.ChangeAt Go.RowKit Go.Joins
set_option linter.unusedSectionVars false
variable [DecidableEq Leg] [Inhabited Leg] [DecidableEq Cont] [Inhabited Cont]

theorem cellsInt' : Tryz.prog.cellsOf 2 = 1 := by kernel_rfl
theorem cellsLeg' : Tryz.prog.cellsOf 146 = 4 := by kernel_rfl
theorem openLeg' {H : Type} {enc : TypeId × Value → H} {W : World} {sp : Nat → Bool} {held : Bool} {n : Nat} {cs : List Value} {y : DataW H × List MemPlace}
    (ht : DataW.trod enc Tryz.prog W 0 sp held n 146 cs = some y) (hl : cs.length = 4) : ∃ x : Leg, cs = legC x := by
  obtain ⟨y0, y1, y2, y3, m, hy, hlen, h0, h1, h2, h3⟩ := trod_struct4 Tryz.underlying146 ht
  simp only [cellsInt'] at h0 h1 h2 h3
  match cs, hl with
  | [c0, c1, c2, c3], _ =>
    obtain ⟨x0, e0, _⟩ := DataW.trod_int Tryz.underlying2 h0
    obtain ⟨x1, e1, _⟩ := DataW.trod_int Tryz.underlying2 h1
    obtain ⟨x2, e2, _⟩ := DataW.trod_int Tryz.underlying2 h2
    obtain ⟨x3, e3, _⟩ := DataW.trod_int Tryz.underlying2 h3
    simp at e0 e1 e2 e3
    subst e0 e1 e2 e3
    exact ⟨⟨x0, x1, x2, x3⟩, rfl⟩
theorem openLegs' {H : Type} {enc : TypeId × Value → H} {W : World} {sp : Nat → Bool} {held : Bool} {n : Nat} {v : Value} {y : DataW H × List MemPlace}
    (ht : DataW.trod enc Tryz.prog W 0 sp held n 38 [v] = some y) : ∃ xs : List Leg, legsR.V W v xs := by
  obtain ⟨a, cap, xs, cs, rfl, h1, h2, h3⟩ := openRow (q := fun cs x => cs = legC x) Tryz.underlying38 cellsLeg' (by omega) (fun n cs y h hl => openLeg' h hl) ht
  refine ⟨xs, a, cap, rfl, h1, h2, fun i hi => ?_⟩
  obtain ⟨g1, g3, b, o, g4, g5⟩ := h3 i hi
  rw [g1] at g5
  exact ⟨b, o, g4, g5 0 (by omega), g5 1 (by omega), g5 2 (by omega), g5 3 (by omega)⟩
end Go.Proofs.YtojjdkggomlegaaGreat


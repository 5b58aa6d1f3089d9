import Derived.Test.YtggigaghfcpbbaaGreatPrnMessageFaultLaw11
import Derived.BigQuiet
import Derived.Deep.QuietTactic
import Derived.Deep.RegionHeld3

/-
  MessageFault, the document's pieces: a contract looked for.
-/
set_option linter.unusedSimpArgs false
set_option linter.unusedVariables false
namespace Go.Proofs.YtggigaghfcpbbaaGreat
open Go.RowKit
set_option linter.unusedSectionVars false
variable [DecidableEq Leg] [Inhabited Leg] [DecidableEq Cont] [Inhabited Cont] [DecidableEq Bal] [Inhabited Bal] [DecidableEq Mrk] [Inhabited Mrk] [DecidableEq Shd] [Inhabited Shd] [DecidableEq Vot] [Inhabited Vot] [DecidableEq Slt] [Inhabited Slt] [DecidableEq Acc] [Inhabited Acc] [DecidableEq Trr] [Inhabited Trr] [DecidableEq Hrd] [Inhabited Hrd] [DecidableEq Ldr] [Inhabited Ldr] [DecidableEq Msg] [Inhabited Msg] [DecidableEq Clu] [Inhabited Clu] [DecidableEq Ledg] [Inhabited Ledg]
attribute [local go_sem ↓] Go.wp_at_zero Go.wp_at_succ
def findI (cs : List Cont) (id : Int) : Int := if firstC cs id < cs.length then (firstC cs id : Int) else -1
set_option maxHeartbeats 2000000 in
theorem l11Find_any (B : Nat) (c : Clu) (id : Int) (w : World) (h : CluP w B c) :
    Calls Tryz.prog 38 #[.pointer (some ⟨B, 0, none⟩), .int .i64 id] w fun e w' => e = .returned (.int .i64 (findI c.cons id)) ∧ Below w.heap.size w w' := by
  obtain ⟨a0, c0, a1, c1, a2, c2, a3, c3, v4, y0, y1, y2, y3, y4, hv, _⟩ := h
  obtain ⟨hcx, hmx, hx⟩ := conts_atM hv
  unfold maxLen at hmx
  have HHit : Hid (∀ j, j < c.cons.length → (c.cons.getD j default).id = id → (∀ i, i < j → ¬ (c.cons.getD i default).id = id) → findI c.cons id = j) := fun j hj h hb => by unfold findI; rw [firstC_hit hj h hb, if_pos hj]
  have HNo : Hid ((∀ j, j < c.cons.length → ¬ (c.cons.getD j default).id = id) → findI c.cons id = -1) := fun h => by unfold findI; rw [firstC_none h, if_neg (by omega)]
  clear hv y1 y2 y3 y4
  generalize findI c.cons id = Z at *
  generalize c.cons = xs at *
  generalize hn' : xs.length = n at *
  clear hn'
  have zB : B < w.heap.size := World.block_lt_of_cell? w _ y0
  go_enter Tryz.func38, Tryz.ntmps38
  go_wp2
  go_loopw [5] (fun i w' => ∃ k : Nat, k ≤ n ∧ i = .int .i64 k ∧ Hid (∀ j, j < k → ¬ (xs.getD j default).id = id) ∧ Below w.heap.size w w') (fun i _ => n - (intOf i).toNat)
  case atStart => exact ⟨0, Nat.zero_le _, rfl, fun j hj => absurd hj (Nat.not_lt_zero _), Below.refl _ _⟩
  case round =>
    obtain ⟨j, hk, rfl, HP, hbl⟩ := hrel
    replace y0 := cell_keep hbl y0
    by_cases hlt : j < n
    · obtain ⟨bx, ox, p, q, rfl, g0, g1, _⟩ := hx j hlt
      obtain ⟨l, hl⟩ : ∃ l, l = xs.getD j default := ⟨_, rfl⟩
      rw [← hl] at g0
      have HLE : Hid (l = xs.getD j default) := hl
      clear hl hx g1
      replace g0 := cell_keep hbl g0
      have hti : (j : Int) < (n : Int) := by omega
      have hti0 : (0 : Int) ≤ (j : Int) := by omega
      by_cases hq : l.id = id
      · have HQ : Hid (Z = j) := HHit.out j hlt (by rw [← HLE.out]; exact hq) HP.out
        have hq' : (l.id == id) = true := by simp [hq]
        go_wp2
        go_ret
        exact ⟨by rw [HQ.out]; rfl, by (repeat (first | exact Below.refl _ _ | assumption | refine Below.drew ?_ | refine balloc ?_ _ | refine bset ?_ (by simp; omega) _ | refine bset ?_ (by simp) _ | refine bstep ?_ (by assumption)))⟩
      · have HQ : Hid (∀ i, i < j + 1 → ¬ (xs.getD i default).id = id) := fun i hi => by
          by_cases e : i = j
          · rw [e, ← HLE.out]; exact hq
          · exact HP.out i (by omega)
        have hq' : (l.id == id) = false := by simp [hq]
        go_wp2
        exact ⟨⟨j + 1, by omega, by go_num, HQ, by (repeat (first | exact Below.refl _ _ | assumption | refine Below.drew ?_ | refine balloc ?_ _ | refine bset ?_ (by simp; omega) _ | refine bset ?_ (by simp) _ | refine bstep ?_ (by assumption)))⟩, by simp [intOf]; omega⟩
    · obtain rfl : j = n := by omega
      have hti : ¬ (j : Int) < (j : Int) := by omega
      go_wp2
      go_ret
      exact ⟨by rw [HNo.out HP.out]; rfl, by (repeat (first | exact Below.refl _ _ | assumption | refine Below.drew ?_ | refine balloc ?_ _ | refine bset ?_ (by simp; omega) _ | refine bset ?_ (by simp) _ | refine bstep ?_ (by assumption)))⟩
end Go.Proofs.YtggigaghfcpbbaaGreat

/-
  MessageFault, the document's pieces: its shards.
-/
set_option linter.unusedSimpArgs false
set_option linter.unusedVariables false
namespace Go.Proofs.YtggigaghfcpbbaaGreat
open Go.RowKit
set_option linter.unusedSectionVars false
variable [DecidableEq Leg] [Inhabited Leg] [DecidableEq Cont] [Inhabited Cont] [DecidableEq Bal] [Inhabited Bal] [DecidableEq Mrk] [Inhabited Mrk] [DecidableEq Shd] [Inhabited Shd] [DecidableEq Vot] [Inhabited Vot] [DecidableEq Slt] [Inhabited Slt] [DecidableEq Acc] [Inhabited Acc] [DecidableEq Trr] [Inhabited Trr] [DecidableEq Hrd] [Inhabited Hrd] [DecidableEq Ldr] [Inhabited Ldr] [DecidableEq Msg] [Inhabited Msg] [DecidableEq Clu] [Inhabited Clu] [DecidableEq Ledg] [Inhabited Ledg]
attribute [local go_sem ↓] Go.wp_at_zero Go.wp_at_succ
def hasL (c : Clu) (id s : Int) : Bool := decide (firstC c.cons id < c.cons.length) && hasS (c.cons.getD (firstC c.cons id) default).legs s
set_option maxHeartbeats 2000000 in
theorem l11Has_any (B : Nat) (c : Clu) (id s : Int) (w : World) (h : CluP w B c) (hlen : ∀ k, k < c.cons.length → (c.cons.getD k default).legs.length ≤ 1048576) :
    Calls Tryz.prog 39 #[.pointer (some ⟨B, 0, none⟩), .int .i64 id, .int .i64 s] w fun e w' => e = .returned (.bool (hasL c id s)) ∧ Below w.heap.size w w' := by
  have HFi : Hid (Calls Tryz.prog 38 #[.pointer (some ⟨B, 0, none⟩), .int .i64 id] w fun e w' => e = .returned (.int .i64 (findI c.cons id)) ∧ Below w.heap.size w w') := l11Find_any B c id w h
  obtain ⟨a0, c0, a1, c1, a2, c2, a3, c3, v4, y0, y1, y2, y3, y4, hv, _⟩ := h
  obtain ⟨hcx, hmx, hx⟩ := conts_atM hv
  unfold maxLen at hmx
  have zB : B < w.heap.size := World.block_lt_of_cell? w _ y0
  clear y1 y2 y3 y4 hv
  by_cases hlt : firstC c.cons id < c.cons.length
  · obtain ⟨bx, ox, p, q, rfl, g0, g1, hl⟩ := hx _ hlt
    have hll := hlen _ hlt
    have HE : Hid (hasL c id s = decide (s ∈ putsI (c.cons.getD (firstC c.cons id) default).legs)) := by show _ = _; unfold hasL; rw [decide_eq_true hlt, Bool.true_and, mem_putsI]
    have HF : Hid (findI c.cons id = (firstC c.cons id : Int)) := by show _ = _; unfold findI; rw [if_pos hlt]
    rw [HE.out]
    rw [HF.out] at HFi
    clear HE HF hx hlen
    have HS : Hid (∀ W, Below w.heap.size w W → Calls Tryz.prog 72 #[.agg #[.int .i64 (c.cons.getD (firstC c.cons id) default).id, .slice p (c.cons.getD (firstC c.cons id) default).legs.length q]] W fun e w' => ∃ v, e = .returned v ∧ w'.ownsRow W.heap.size 2 1 v (putsI (c.cons.getD (firstC c.cons id) default).legs).length (intsC (putsI (c.cons.getD (firstC c.cons id) default).legs)) ∧ Below W.heap.size W w') := fun W hW => l1ShardsM_any _ _ _ W (legsR.below hl hW) hll
    clear hl hll
    generalize putsI (c.cons.getD (firstC c.cons id) default).legs = PL at *
    generalize c.cons.getD (firstC c.cons id) default = x at *
    have hi1 : ((firstC c.cons id : Nat) : Int) < (c.cons.length : Int) := by omega
    have hi0 : (0 : Int) ≤ ((firstC c.cons id : Nat) : Int) := by omega
    generalize firstC c.cons id = i at *
    generalize c.cons.length = n at *
    go_enter Tryz.func39, Tryz.ntmps39
    go_wp2_with fail
    refine HFi.out.mono ?_
    rintro e w1 ⟨rfl, hb1⟩
    replace y0 := cell_keep hb1 y0
    replace g0 := cell_keep hb1 g0
    replace g1 := cell_keep hb1 g1
    go_wp2_with fail
    refine (HS.out _ hb1).mono ?_
    rintro e w2 ⟨v2, rfl, o2, hb2⟩
    have hB2 : Below w.heap.size w w2 := bstep hb1 hb2
    have HI : Hid (IntsV w2 v2 PL) := IntsV_of_owns o2
    obtain ⟨a5, c5, rfl⟩ := owns_form o2
    clear o2 hb2
    go_wp2_with (first | (go_at_call 71; refine (l1HasM_any _ PL s _ HI.out).mono ?_; rintro e w' ⟨rfl, hw⟩; obtain rfl := hw.symm))
    go_ret
    exact ⟨rfl, hB2⟩
  · have HE : Hid (hasL c id s = false) := by show _ = _; unfold hasL; rw [decide_eq_false hlt]; rfl
    have HF : Hid (findI c.cons id = -1) := by show _ = _; unfold findI; rw [if_neg hlt]
    rw [HE.out]
    rw [HF.out] at HFi
    clear HE HF hx hlen
    go_enter Tryz.func39, Tryz.ntmps39
    go_wp2_with fail
    refine HFi.out.mono ?_
    rintro e w1 ⟨rfl, hb1⟩
    go_wp2
    go_ret
    exact ⟨rfl, hb1⟩
theorem l11Right_any (ob ov : Int) (w : World) : Calls Tryz.prog 43 #[.agg #[.int .i64 ob, .int .i64 ov]] w fun e w' => e = .returned (.bool (inB ob 0 1000 && inB ov 1 2)) ∧ Below w.heap.size w w' := by
  cases h1 : inB ob 0 1000
  all_goals
    go_enter Tryz.func43, Tryz.ntmps43
    go_wp2_with (first | (go_at_call 40; refine (l8Ballot_any _ _).mono ?_; rintro e w' ⟨rfl, hw⟩; obtain rfl := hw.symm; rw [h1]) | (go_at_call 41; refine (l8Value_any _ _).mono ?_; rintro e w' ⟨rfl, hw⟩; obtain rfl := hw.symm))
    go_ret
    exact ⟨by simp, by (repeat (first | exact Below.refl _ _ | assumption | refine Below.drew ?_ | refine balloc ?_ _ | refine bset ?_ (by simp; omega) _ | refine bset ?_ (by simp) _ | refine bstep ?_ (by assumption)))⟩
end Go.Proofs.YtggigaghfcpbbaaGreat

/-
  MessageFault, the document's pieces: what a kind names.
-/
set_option linter.unusedSimpArgs false
set_option linter.unusedVariables false
namespace Go.Proofs.YtggigaghfcpbbaaGreat
open Go.RowKit
set_option linter.unusedSectionVars false
variable [DecidableEq Leg] [Inhabited Leg] [DecidableEq Cont] [Inhabited Cont] [DecidableEq Bal] [Inhabited Bal] [DecidableEq Mrk] [Inhabited Mrk] [DecidableEq Shd] [Inhabited Shd] [DecidableEq Vot] [Inhabited Vot] [DecidableEq Slt] [Inhabited Slt] [DecidableEq Acc] [Inhabited Acc] [DecidableEq Trr] [Inhabited Trr] [DecidableEq Hrd] [Inhabited Hrd] [DecidableEq Ldr] [Inhabited Ldr] [DecidableEq Msg] [Inhabited Msg] [DecidableEq Clu] [Inhabited Clu] [DecidableEq Ledg] [Inhabited Ledg]
attribute [local go_sem ↓] Go.wp_at_zero Go.wp_at_succ

set_option maxRecDepth 20000 in
set_option maxHeartbeats 8000000 in
theorem l11Bare_any (m : Msg) (w : World) (hk : inB m.kind 1 6 = true) :
    Calls Tryz.prog 44 #[msgV m] w fun e w' => e = .returned (msgV (bareM m)) ∧ Below w.heap.size w w' := by
  obtain ⟨kind, to, frm, con, sh, bal, val, ob, ov⟩ := m
  have hk' := kinds hk
  dsimp only at hk'
  clear hk
  rcases hk' with rfl | rfl | rfl | rfl | rfl | rfl
  · have HE : Hid (bareM ⟨1, to, frm, con, sh, bal, val, ob, ov⟩ = ⟨1, to, 0, con, 0, 0, 0, 0, 0⟩) := by show _ = _; simp [bareM]
    rw [HE.out]
    unfold msgV
    dsimp only
    go_enter Tryz.func44, Tryz.ntmps44
    go_wp2
    exact bodyPost_ret (v := .agg #[.int .i64 1, .int .i64 to, .int .i64 0, .int .i64 con, .int .i64 0, .int .i64 0, .int .i64 0, .int .i64 0, .int .i64 0]) (by simp [results, Tryz.results44, go_sem]) rfl ⟨rfl, by (repeat (first | exact Below.refl _ _ | assumption | refine Below.drew ?_ | refine balloc ?_ _ | refine bset ?_ (by simp; omega) _ | refine bset ?_ (by simp) _ | refine bstep ?_ (by assumption)))⟩
  · have HE : Hid (bareM ⟨2, to, frm, con, sh, bal, val, ob, ov⟩ = ⟨2, to, 0, con, sh, bal, val, 0, 0⟩) := by show _ = _; simp [bareM]
    rw [HE.out]
    unfold msgV
    dsimp only
    go_enter Tryz.func44, Tryz.ntmps44
    go_wp2
    exact bodyPost_ret (v := .agg #[.int .i64 2, .int .i64 to, .int .i64 0, .int .i64 con, .int .i64 sh, .int .i64 bal, .int .i64 val, .int .i64 0, .int .i64 0]) (by simp [results, Tryz.results44, go_sem]) rfl ⟨rfl, by (repeat (first | exact Below.refl _ _ | assumption | refine Below.drew ?_ | refine balloc ?_ _ | refine bset ?_ (by simp; omega) _ | refine bset ?_ (by simp) _ | refine bstep ?_ (by assumption)))⟩
  · have HE : Hid (bareM ⟨3, to, frm, con, sh, bal, val, ob, ov⟩ = ⟨3, to, frm, con, sh, bal, val, 0, 0⟩) := by show _ = _; simp [bareM]
    rw [HE.out]
    unfold msgV
    dsimp only
    go_enter Tryz.func44, Tryz.ntmps44
    go_wp2
    exact bodyPost_ret (v := .agg #[.int .i64 3, .int .i64 to, .int .i64 frm, .int .i64 con, .int .i64 sh, .int .i64 bal, .int .i64 val, .int .i64 0, .int .i64 0]) (by simp [results, Tryz.results44, go_sem]) rfl ⟨rfl, by (repeat (first | exact Below.refl _ _ | assumption | refine Below.drew ?_ | refine balloc ?_ _ | refine bset ?_ (by simp; omega) _ | refine bset ?_ (by simp) _ | refine bstep ?_ (by assumption)))⟩
  · have HE : Hid (bareM ⟨4, to, frm, con, sh, bal, val, ob, ov⟩ = ⟨4, to, frm, con, sh, bal, 0, 0, 0⟩) := by show _ = _; simp [bareM]
    rw [HE.out]
    unfold msgV
    dsimp only
    go_enter Tryz.func44, Tryz.ntmps44
    go_wp2
    exact bodyPost_ret (v := .agg #[.int .i64 4, .int .i64 to, .int .i64 frm, .int .i64 con, .int .i64 sh, .int .i64 bal, .int .i64 0, .int .i64 0, .int .i64 0]) (by simp [results, Tryz.results44, go_sem]) rfl ⟨rfl, by (repeat (first | exact Below.refl _ _ | assumption | refine Below.drew ?_ | refine balloc ?_ _ | refine bset ?_ (by simp; omega) _ | refine bset ?_ (by simp) _ | refine bstep ?_ (by assumption)))⟩
  · have HE : Hid (bareM ⟨5, to, frm, con, sh, bal, val, ob, ov⟩ = ⟨5, to, frm, con, sh, bal, 0, ob, ov⟩) := by show _ = _; simp [bareM]
    rw [HE.out]
    unfold msgV
    dsimp only
    go_enter Tryz.func44, Tryz.ntmps44
    go_wp2
    exact bodyPost_ret (v := .agg #[.int .i64 5, .int .i64 to, .int .i64 frm, .int .i64 con, .int .i64 sh, .int .i64 bal, .int .i64 0, .int .i64 ob, .int .i64 ov]) (by simp [results, Tryz.results44, go_sem]) rfl ⟨rfl, by (repeat (first | exact Below.refl _ _ | assumption | refine Below.drew ?_ | refine balloc ?_ _ | refine bset ?_ (by simp; omega) _ | refine bset ?_ (by simp) _ | refine bstep ?_ (by assumption)))⟩
  · have HE : Hid (bareM ⟨6, to, frm, con, sh, bal, val, ob, ov⟩ = ⟨6, to, 0, con, 0, 0, val, 0, 0⟩) := by show _ = _; simp [bareM]
    rw [HE.out]
    unfold msgV
    dsimp only
    go_enter Tryz.func44, Tryz.ntmps44
    go_wp2
    exact bodyPost_ret (v := .agg #[.int .i64 6, .int .i64 to, .int .i64 0, .int .i64 con, .int .i64 0, .int .i64 0, .int .i64 val, .int .i64 0, .int .i64 0]) (by simp [results, Tryz.results44, go_sem]) rfl ⟨rfl, by (repeat (first | exact Below.refl _ _ | assumption | refine Below.drew ?_ | refine balloc ?_ _ | refine bset ?_ (by simp; omega) _ | refine bset ?_ (by simp) _ | refine bstep ?_ (by assumption)))⟩
end Go.Proofs.YtggigaghfcpbbaaGreat

/-
  MessageFault, the document's pieces: ends.
-/
set_option linter.unusedSimpArgs false
set_option linter.unusedVariables false
namespace Go.Proofs.YtggigaghfcpbbaaGreat
open Go.RowKit
set_option linter.unusedSectionVars false
variable [DecidableEq Leg] [Inhabited Leg] [DecidableEq Cont] [Inhabited Cont] [DecidableEq Bal] [Inhabited Bal] [DecidableEq Mrk] [Inhabited Mrk] [DecidableEq Shd] [Inhabited Shd] [DecidableEq Vot] [Inhabited Vot] [DecidableEq Slt] [Inhabited Slt] [DecidableEq Acc] [Inhabited Acc] [DecidableEq Trr] [Inhabited Trr] [DecidableEq Hrd] [Inhabited Hrd] [DecidableEq Ldr] [Inhabited Ldr] [DecidableEq Msg] [Inhabited Msg] [DecidableEq Clu] [Inhabited Clu] [DecidableEq Ledg] [Inhabited Ledg]
attribute [local go_sem ↓] Go.wp_at_zero Go.wp_at_succ

set_option maxRecDepth 20000 in
set_option maxHeartbeats 8000000 in
theorem l11Ends_any (B : Nat) (c : Clu) (m : Msg) (w : World) (h : CluP w B c) (hk : inB m.kind 1 6 = true) :
    Calls Tryz.prog 37 #[.pointer (some ⟨B, 0, none⟩), msgV m] w fun e w' => e = .returned (.bool (endsB c m)) ∧ Below w.heap.size w w' := by
  obtain ⟨a0, c0, a1, c1, a2, c2, a3, c3, v4, y0, y1, y2, y3, y4, hv, l1, l2, l3⟩ := h
  clear y0 y4 hv
  have zB : B < w.heap.size := World.block_lt_of_cell? w _ y1
  obtain ⟨n1, e1⟩ : ∃ n1, c.shards.length = n1 := ⟨_, rfl⟩
  obtain ⟨n2, e2⟩ : ∃ n2, c.accs.length = n2 := ⟨_, rfl⟩
  obtain ⟨n3, e3⟩ : ∃ n3, c.ldrs.length = n3 := ⟨_, rfl⟩
  rw [e1] at y1 l1
  rw [e2] at y2 l2
  rw [e3] at y3 l3
  have w1 : IntKind.i64.wrap ((n1 : Int) - 1) = (n1 : Int) - 1 := by rw [IntKind.wrap_i64]; omega
  have w2 : IntKind.i64.wrap ((n2 : Int) - 1) = (n2 : Int) - 1 := by rw [IntKind.wrap_i64]; omega
  have w3 : IntKind.i64.wrap ((n3 : Int) - 1) = (n3 : Int) - 1 := by rw [IntKind.wrap_i64]; omega
  obtain ⟨kind, to, frm, con, sh, bal, val, ob, ov⟩ := m
  have hk' := kinds hk
  dsimp only at hk'
  clear hk
  unfold msgV
  dsimp only
  rcases hk' with rfl | rfl | rfl | rfl | rfl | rfl
  · have HE : Hid (endsB c ⟨1, to, frm, con, sh, bal, val, ob, ov⟩ = inB to 0 ((n1 : Int) - 1)) := by show _ = _; simp [endsB, endTo, e1, e2, e3]
    rw [HE.out]
    clear HE e1 e2 e3
    cases ht : inB to 0 ((n1 : Int) - 1)
    all_goals
      go_enter Tryz.func37, Tryz.ntmps37
      go_wp2_with (first | (go_at_call 36; refine (l1In_any _ _ _ _).mono ?_; rintro e w' ⟨rfl, hw⟩; obtain rfl := hw.symm; rw [ht]))
      go_ret
      exact ⟨rfl, by (repeat (first | exact Below.refl _ _ | assumption | refine Below.drew ?_ | refine balloc ?_ _ | refine bset ?_ (by simp; omega) _ | refine bset ?_ (by simp) _ | refine bstep ?_ (by assumption)))⟩
  · have HE : Hid (endsB c ⟨2, to, frm, con, sh, bal, val, ob, ov⟩ = inB to 0 ((n2 : Int) - 1)) := by show _ = _; simp [endsB, endTo, e1, e2, e3]
    rw [HE.out]
    clear HE e1 e2 e3
    cases ht : inB to 0 ((n2 : Int) - 1)
    all_goals
      go_enter Tryz.func37, Tryz.ntmps37
      go_wp2_with (first | (go_at_call 36; refine (l1In_any _ _ _ _).mono ?_; rintro e w' ⟨rfl, hw⟩; obtain rfl := hw.symm; rw [ht]))
      go_ret
      exact ⟨rfl, by (repeat (first | exact Below.refl _ _ | assumption | refine Below.drew ?_ | refine balloc ?_ _ | refine bset ?_ (by simp; omega) _ | refine bset ?_ (by simp) _ | refine bstep ?_ (by assumption)))⟩
  · have HE : Hid (endsB c ⟨3, to, frm, con, sh, bal, val, ob, ov⟩ = (inB to 0 ((n3 : Int) - 1) && inB frm 0 ((n2 : Int) - 1))) := by show _ = _; simp [endsB, endTo, e1, e2, e3]
    rw [HE.out]
    clear HE e1 e2 e3
    cases ht : inB to 0 ((n3 : Int) - 1)
    all_goals cases hf : inB frm 0 ((n2 : Int) - 1)
    all_goals
      go_enter Tryz.func37, Tryz.ntmps37
      go_wp2_with (first | (go_at_call 36; refine (l1In_any _ _ _ _).mono ?_; rintro e w' ⟨rfl, hw⟩; obtain rfl := hw.symm; first | rw [ht] | rw [hf]))
      go_ret
      exact ⟨rfl, by (repeat (first | exact Below.refl _ _ | assumption | refine Below.drew ?_ | refine balloc ?_ _ | refine bset ?_ (by simp; omega) _ | refine bset ?_ (by simp) _ | refine bstep ?_ (by assumption)))⟩
  · have HE : Hid (endsB c ⟨4, to, frm, con, sh, bal, val, ob, ov⟩ = (inB to 0 ((n2 : Int) - 1) && inB frm 0 ((n3 : Int) - 1))) := by show _ = _; simp [endsB, endTo, e1, e2, e3]
    rw [HE.out]
    clear HE e1 e2 e3
    cases ht : inB to 0 ((n2 : Int) - 1)
    all_goals cases hf : inB frm 0 ((n3 : Int) - 1)
    all_goals
      go_enter Tryz.func37, Tryz.ntmps37
      go_wp2_with (first | (go_at_call 36; refine (l1In_any _ _ _ _).mono ?_; rintro e w' ⟨rfl, hw⟩; obtain rfl := hw.symm; first | rw [ht] | rw [hf]))
      go_ret
      exact ⟨rfl, by (repeat (first | exact Below.refl _ _ | assumption | refine Below.drew ?_ | refine balloc ?_ _ | refine bset ?_ (by simp; omega) _ | refine bset ?_ (by simp) _ | refine bstep ?_ (by assumption)))⟩
  · have HE : Hid (endsB c ⟨5, to, frm, con, sh, bal, val, ob, ov⟩ = (inB to 0 ((n3 : Int) - 1) && inB frm 0 ((n2 : Int) - 1))) := by show _ = _; simp [endsB, endTo, e1, e2, e3]
    rw [HE.out]
    clear HE e1 e2 e3
    cases ht : inB to 0 ((n3 : Int) - 1)
    all_goals cases hf : inB frm 0 ((n2 : Int) - 1)
    all_goals
      go_enter Tryz.func37, Tryz.ntmps37
      go_wp2_with (first | (go_at_call 36; refine (l1In_any _ _ _ _).mono ?_; rintro e w' ⟨rfl, hw⟩; obtain rfl := hw.symm; first | rw [ht] | rw [hf]))
      go_ret
      exact ⟨rfl, by (repeat (first | exact Below.refl _ _ | assumption | refine Below.drew ?_ | refine balloc ?_ _ | refine bset ?_ (by simp; omega) _ | refine bset ?_ (by simp) _ | refine bstep ?_ (by assumption)))⟩
  · have HE : Hid (endsB c ⟨6, to, frm, con, sh, bal, val, ob, ov⟩ = inB to 0 ((n1 : Int) - 1)) := by show _ = _; simp [endsB, endTo, e1, e2, e3]
    rw [HE.out]
    clear HE e1 e2 e3
    cases ht : inB to 0 ((n1 : Int) - 1)
    all_goals
      go_enter Tryz.func37, Tryz.ntmps37
      go_wp2_with (first | (go_at_call 36; refine (l1In_any _ _ _ _).mono ?_; rintro e w' ⟨rfl, hw⟩; obtain rfl := hw.symm; rw [ht]))
      go_ret
      exact ⟨rfl, by (repeat (first | exact Below.refl _ _ | assumption | refine Below.drew ?_ | refine balloc ?_ _ | refine bset ?_ (by simp; omega) _ | refine bset ?_ (by simp) _ | refine bstep ?_ (by assumption)))⟩
end Go.Proofs.YtggigaghfcpbbaaGreat


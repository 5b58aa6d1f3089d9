import Derived.Test.YtackhljepbhpgaaGreatPrnSettledAtLaw7
import Derived.BigQuiet
import Derived.Deep.QuietTactic
import Derived.Deep.RegionHeld3
set_option maxHeartbeats 8000000
set_option maxRecDepth 20000
set_option linter.unusedSimpArgs false
set_option linter.unusedVariables false
set_option linter.unusedSectionVars false

namespace Go.Proofs.YtackhljepbhpgaaGreat
open Go.RowKit
variable [DecidableEq Leg] [Inhabited Leg] [DecidableEq Cont] [Inhabited Cont] [DecidableEq Bal] [Inhabited Bal] [DecidableEq Mrk] [Inhabited Mrk] [DecidableEq Shd] [Inhabited Shd] [DecidableEq Vot] [Inhabited Vot] [DecidableEq Slt] [Inhabited Slt] [DecidableEq Acc] [Inhabited Acc] [DecidableEq Trr] [Inhabited Trr] [DecidableEq Hrd] [Inhabited Hrd] [DecidableEq Ldr] [Inhabited Ldr] [DecidableEq Msg] [Inhabited Msg] [DecidableEq Clu] [Inhabited Clu] [DecidableEq Ledg] [Inhabited Ledg]
attribute [local go_sem ↓] Go.wp_at_zero Go.wp_at_succ

theorem l11Ends_any (B : Nat) (c : Clu) (m : Msg) (w : World) (h : CluP w B c) (hk : inB m.kind 1 6 = true) :
  Calls Tryz.prog 80 #[.pointer (some ⟨B, 0, none⟩), msgV m] w fun e w' => e = .returned (.bool (endsB c m)) ∧ Below w.heap.size w w' := by
 obtain ⟨a0, c0, a1, c1, a2, c2, a3, c3, v4, y0, y1, y2, y3, y4, hv, l1, l2, l3⟩ := h
 clear y0 y4 hv
 have zB : B < w.heap.size := wL w _ y1
 obtain ⟨n1, e1⟩ : ∃ n1, c.shards.length = n1 := ⟨_, rfl⟩
 obtain ⟨n2, e2⟩ : ∃ n2, c.accs.length = n2 := ⟨_, rfl⟩
 obtain ⟨n3, e3⟩ : ∃ n3, c.ldrs.length = n3 := ⟨_, rfl⟩
 rw [e1] at y1 l1
 rw [e2] at y2 l2
 rw [e3] at y3 l3
 have w1 : IntKind.i64.wrap ((n1 : Int) - 1) = (n1 : Int) - 1 := by rw [IntKind.wrap_i64]; omega
 have w2 : IntKind.i64.wrap ((n2 : Int) - 1) = (n2 : Int) - 1 := by rw [IntKind.wrap_i64]; omega
 have w3 : IntKind.i64.wrap ((n3 : Int) - 1) = (n3 : Int) - 1 := by rw [IntKind.wrap_i64]; omega
 obtain ⟨kind, to, frm, con, sh, bal, val, ob, ov⟩ := m
 have hk' := kinds hk
 dsimp only at hk'
 clear hk
 unfold msgV
 dsimp only
 rcases hk' with rfl | rfl | rfl | rfl | rfl | rfl
 ·
  have HE : Hid (endsB c ⟨1, to, frm, con, sh, bal, val, ob, ov⟩ = inB to 0 ((n1 : Int) - 1)) := by show _ = _; simp [endsB, endTo, e1, e2, e3]
  rw [HE.out]
  clear HE e1 e2 e3
  cases ht : inB to 0 ((n1 : Int) - 1)
  all_goals
   go_enter Tryz.func80, Tryz.ntmps80
   go_wp2_with (first | (go_at_call 75; refine (l1In_any _ _ _ _).mono ?_; rintro e w' ⟨rfl, hw⟩; obtain rfl := hw.symm; rw [ht]))
   go_ret
   exact ⟨rfl, qBq⟩
 ·
  have HE : Hid (endsB c ⟨2, to, frm, con, sh, bal, val, ob, ov⟩ = inB to 0 ((n2 : Int) - 1)) := by show _ = _; simp [endsB, endTo, e1, e2, e3]
  rw [HE.out]
  clear HE e1 e2 e3
  cases ht : inB to 0 ((n2 : Int) - 1)
  all_goals
   go_enter Tryz.func80, Tryz.ntmps80
   go_wp2_with (first | (go_at_call 75; refine (l1In_any _ _ _ _).mono ?_; rintro e w' ⟨rfl, hw⟩; obtain rfl := hw.symm; rw [ht]))
   go_ret
   exact ⟨rfl, qBq⟩
 ·
  have HE : Hid (endsB c ⟨3, to, frm, con, sh, bal, val, ob, ov⟩ = (inB to 0 ((n3 : Int) - 1) && inB frm 0 ((n2 : Int) - 1))) := by show _ = _; simp [endsB, endTo, e1, e2, e3]
  rw [HE.out]
  clear HE e1 e2 e3
  cases ht : inB to 0 ((n3 : Int) - 1)
  all_goals cases hf : inB frm 0 ((n2 : Int) - 1)
  all_goals
   go_enter Tryz.func80, Tryz.ntmps80
   go_wp2_with (first | (go_at_call 75; refine (l1In_any _ _ _ _).mono ?_; rintro e w' ⟨rfl, hw⟩; obtain rfl := hw.symm; first | rw [ht] | rw [hf]))
   go_ret
   exact ⟨rfl, qBq⟩
 ·
  have HE : Hid (endsB c ⟨4, to, frm, con, sh, bal, val, ob, ov⟩ = (inB to 0 ((n2 : Int) - 1) && inB frm 0 ((n3 : Int) - 1))) := by show _ = _; simp [endsB, endTo, e1, e2, e3]
  rw [HE.out]
  clear HE e1 e2 e3
  cases ht : inB to 0 ((n2 : Int) - 1)
  all_goals cases hf : inB frm 0 ((n3 : Int) - 1)
  all_goals
   go_enter Tryz.func80, Tryz.ntmps80
   go_wp2_with (first | (go_at_call 75; refine (l1In_any _ _ _ _).mono ?_; rintro e w' ⟨rfl, hw⟩; obtain rfl := hw.symm; first | rw [ht] | rw [hf]))
   go_ret
   exact ⟨rfl, qBq⟩
 ·
  have HE : Hid (endsB c ⟨5, to, frm, con, sh, bal, val, ob, ov⟩ = (inB to 0 ((n3 : Int) - 1) && inB frm 0 ((n2 : Int) - 1))) := by show _ = _; simp [endsB, endTo, e1, e2, e3]
  rw [HE.out]
  clear HE e1 e2 e3
  cases ht : inB to 0 ((n3 : Int) - 1)
  all_goals cases hf : inB frm 0 ((n2 : Int) - 1)
  all_goals
   go_enter Tryz.func80, Tryz.ntmps80
   go_wp2_with (first | (go_at_call 75; refine (l1In_any _ _ _ _).mono ?_; rintro e w' ⟨rfl, hw⟩; obtain rfl := hw.symm; first | rw [ht] | rw [hf]))
   go_ret
   exact ⟨rfl, qBq⟩
 ·
  have HE : Hid (endsB c ⟨6, to, frm, con, sh, bal, val, ob, ov⟩ = inB to 0 ((n1 : Int) - 1)) := by show _ = _; simp [endsB, endTo, e1, e2, e3]
  rw [HE.out]
  clear HE e1 e2 e3
  cases ht : inB to 0 ((n1 : Int) - 1)
  all_goals
   go_enter Tryz.func80, Tryz.ntmps80
   go_wp2_with (first | (go_at_call 75; refine (l1In_any _ _ _ _).mono ?_; rintro e w' ⟨rfl, hw⟩; obtain rfl := hw.symm; rw [ht]))
   go_ret
   exact ⟨rfl, qBq⟩
end Go.Proofs.YtackhljepbhpgaaGreat


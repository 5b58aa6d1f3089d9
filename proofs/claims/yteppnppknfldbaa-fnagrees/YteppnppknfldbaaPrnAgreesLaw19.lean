import Derived.Test.YteppnppknfldbaaPrnAgreesLaw8
import Derived.Test.YteppnppknfldbaaPrnAgreesLaw11
import Derived.Deep.AppendLies
import Derived.Test.YteppnppknfldbaaPrnAgreesLaw18
import Derived.BigQuiet
import Derived.Deep.QuietTactic
import Derived.Deep.RegionHeld3

/-
  An operation that is skipped, and on which others' guards hang: what it would have yielded is nothing.
-/
namespace Go.Proofs.Yteppnppknfldbaa
open Go.RowKit

theorem upto_skipU {P : Program} {ops : Array Oper} {Q : Exit → Act → World → Prop} {md : Region.Mode} {S : World → Prop} {t : Nat} {i : Nat} {oi : Oper} {f : Nat} {listed : Array Bool} {a : Act} {w : World} (hi : ops[i]? = some oi) (hsel : Region.noSelect ops = true) (ht : ops[t]? = none)
    (hf : Region.free md ops listed i = true) (hr : (Region.ready md ops listed).contains i = true) (hQ : ∀ c a w, Q (.panic c) (a.put oi.dst undef) w → Q (.panic c) a w)
    (hwd : Region.wanted oi (yielded ops a.tmps) = false) (hS : S w)
    (h : wpUpto P md ops Q S t f (listed.setIfInBounds i true) (a.put oi.dst undef) w) : wpUpto P md ops Q S t (f + 1) listed a w :=
  upto_firstN hi hsel ht hQ f listed a w (Region.free_spec hi hf) (by simpa using hr) (Or.inr ⟨hwd, rfl⟩) hS h
end Go.Proofs.Yteppnppknfldbaa

/-
  AcceptSlot, the program's: what is asked of a slot's box.
-/
set_option linter.unusedSimpArgs false
set_option linter.unusedVariables false
namespace Go.Proofs.Yteppnppknfldbaa
open Go.RowKit
set_option linter.unusedSectionVars false
variable [DecidableEq Vot] [Inhabited Vot] [DecidableEq Slt] [Inhabited Slt] [DecidableEq SltR] [Inhabited SltR] [DecidableEq Bal] [Inhabited Bal] [DecidableEq Ledg] [Inhabited Ledg] [DecidableEq Leg] [Inhabited Leg]
attribute [local go_sem ↓] Go.wp_at_zero Go.wp_at_succ

theorem heap_set {w : World} {p : Addr} {u : Value} {ob : Array Value} {t : Nat} (h : w.heap[p.block]? = some (.cells ob t)) : ∃ ob', (w.setCell p u).heap[p.block]? = some (.cells ob' t) := by
  refine ⟨if p.spot.isSome then ob else ob.setIfInBounds p.off u, ?_⟩
  unfold World.setCell
  simp [Array.getElem?_modify, h]
theorem promise_busy (B : Nat) (p b : Int) (w : World) (h2 : w.cell? ⟨B, 2, none⟩ = some (.int .i64 p)) (h : b < p) :
    Calls Try.prog 52 #[.pointer (some ⟨B, 0, none⟩), .int .i64 b] w fun e w' => e = .returned (.int .i64 8) ∧ w' = w := by
  go_enter Try.func52, Try.ntmps52
  go_wp2
  go_ret
  exact ⟨rfl, rfl⟩
theorem promise_ok (B : Nat) (p b : Int) (w : World) (h2 : w.cell? ⟨B, 2, none⟩ = some (.int .i64 p)) (hf : ∀ o, w.frozen? ⟨B, o, none⟩ = false) (h : ¬ b < p) :
    Calls Try.prog 52 #[.pointer (some ⟨B, 0, none⟩), .int .i64 b] w fun e w' => e = .returned (.int .i64 0) ∧ w' = w.setCell ⟨B, 2, none⟩ (.int .i64 b) := by
  go_enter Try.func52, Try.ntmps52
  go_wp2
  go_ret
  exact ⟨rfl, rfl⟩
def AcE (base B : Nat) (k : Int) (s : Slt) (w : World) (e : Ending) (w' : World) : Prop :=
  e = .returned (.int .i64 k) ∧ Below base w w' ∧ (k = 0 → ∃ a n c F, (w'.cell? ⟨B, 0, none⟩ = some (.int .i64 s.con) ∧ w'.cell? ⟨B, 1, none⟩ = some (.int .i64 s.sh) ∧ w'.cell? ⟨B, 2, none⟩ = some (.int .i64 s.pr) ∧ w'.cell? ⟨B, 3, none⟩ = some (.int .i64 s.lb) ∧ w'.cell? ⟨B, 4, none⟩ = some (.int .i64 s.lv) ∧ w'.cell? ⟨B, 5, none⟩ = some (.slice a n c)) ∧ votsR.O w' base F (.slice a n c) s.cast)
set_option maxHeartbeats 4000000 in
theorem accept_any (B base : Nat) (d : Slt) (v : Vot) (a : Option Addr) (c : Nat) (F : Nat → Prop) (ob0 : Array Value) (w : World) (hbox : w.cell? ⟨B, 0, none⟩ = some (.int .i64 d.con) ∧ w.cell? ⟨B, 1, none⟩ = some (.int .i64 d.sh) ∧ w.cell? ⟨B, 2, none⟩ = some (.int .i64 d.pr) ∧ w.cell? ⟨B, 3, none⟩ = some (.int .i64 d.lb) ∧ w.cell? ⟨B, 4, none⟩ = some (.int .i64 d.lv) ∧ w.cell? ⟨B, 5, none⟩ = some (.slice a d.cast.length c)) (cf : ∀ o, w.frozen? ⟨B, o, none⟩ = false)
    (hblk : w.heap[B]? = some (.cells ob0 87)) (ov : votsR.O w base F (.slice a d.cast.length c) d.cast) (hFB : ¬ F B) (hbB : base ≤ B) (hbs : base ≤ w.heap.size) (hn : d.cast.length ≤ 60) :
    Calls Try.prog 53 #[.pointer (some ⟨B, 0, none⟩), .agg #[.int .i64 v.bal, .int .i64 v.val]] w fun e w' => AcE base B (accC d v) (accS d v) w e w' := by
  obtain ⟨c0, c1, c2, c3, c4, c5⟩ := hbox
  have hB : B < w.heap.size := World.block_lt_of_cell? w _ c0
  have hlt0 : ∀ b, F b → b < w.heap.size := fun b hb => (votsR.rng ov b hb).2
  by_cases h1 : v.bal < d.pr
  · rw [accC_busy h1]
    go_enter Try.func53, Try.ntmps53
    go_wp2_with fail
    refine (promise_busy B d.pr v.bal _ (by simp [go_sem, c2, hB]) (by omega)).mono ?_
    rintro e w1 ⟨rfl, rfl⟩
    go_wp2
    go_ret
    exact ⟨rfl, (Below.refl _ _).alloc hbs _, fun h => absurd h (by omega)⟩
  by_cases h2 : v.bal = d.lb
  · by_cases h3 : v.val = d.lv
    · rw [accC_same h1 h2 h3, accS_same h2 h3]
      have heq : ∀ w, (binOp .eql 40 (.agg #[.int .i64 v.bal, .int .i64 v.val]) (.agg #[.int .i64 d.lb, .int .i64 d.lv])).run Try.prog w = .ok (.bool true) w := fun w => by rw [eqlVot]; simp [h2, h3]
      have ho : otherB v ⟨d.lb, d.lv⟩ = false := by simp [otherB, h2, h3]
      have HE : Hid (v.bal = d.lb ∧ v.val = d.lv) := ⟨h2, h3⟩
      clear h2 h3
      go_enter Try.func53, Try.ntmps53
      go_wp2_with fail
      refine (promise_ok B d.pr v.bal _ (by simp [go_sem, c2, hB]) (fun o => by simp [go_sem, cf, hB]) (by omega)).mono ?_
      rintro e W1 ⟨rfl, hE⟩
      have r0 : W1.cell? ⟨w.heap.size, 0, none⟩ = some (.int .i64 v.bal) := by rw [hE]; simp [go_sem, hB]; try omega
      have r1 : W1.cell? ⟨w.heap.size, 1, none⟩ = some (.int .i64 v.val) := by rw [hE]; simp [go_sem, hB]; try omega
      replace c0 : W1.cell? ⟨B, 0, none⟩ = some (.int .i64 d.con) := by rw [hE]; simp [go_sem, hB, c0]
      replace c1 : W1.cell? ⟨B, 1, none⟩ = some (.int .i64 d.sh) := by rw [hE]; simp [go_sem, hB, c1]
      replace c2 : W1.cell? ⟨B, 2, none⟩ = some (.int .i64 v.bal) := by rw [hE]; simp [go_sem, hB, c2]
      replace c3 : W1.cell? ⟨B, 3, none⟩ = some (.int .i64 d.lb) := by rw [hE]; simp [go_sem, hB, c3]
      replace c4 : W1.cell? ⟨B, 4, none⟩ = some (.int .i64 d.lv) := by rw [hE]; simp [go_sem, hB, c4]
      replace c5 : W1.cell? ⟨B, 5, none⟩ = some (.slice a d.cast.length c) := by rw [hE]; simp [go_sem, hB, c5]
      replace cf : ∀ o, W1.frozen? ⟨B, o, none⟩ = false := fun o => by rw [hE]; simp [go_sem, hB, cf]
      replace ov : votsR.O W1 base F (.slice a d.cast.length c) d.cast := by rw [hE]; exact Rep.setN _ (Rep.alloc _ ov _) _ hFB
      have hW1 : Below base w W1 := by rw [hE]; exact ((Below.refl _ _).alloc hbs _).setCell hbB _
      have hblk : ∃ ob, W1.heap[B]? = some (.cells ob 87) := by rw [hE]; exact heap_set (by show (w.heap.push _)[B]? = _; rw [Array.getElem?_push, if_neg (by omega)]; exact hblk)
      obtain ⟨ob, hblk⟩ := hblk
      have hBW : B < W1.heap.size := World.block_lt_of_cell? W1 _ c0
      have hWs : w.heap.size < W1.heap.size := World.block_lt_of_cell? W1 _ r0
      replace hbs : base ≤ W1.heap.size := by omega
      clear hE
      go_wp2
      refine wp_region_noPanic ?_
      refine region_upto (fun W => Below W1.heap.size W1 W ∧ (W.cell? ⟨w.heap.size, 0, none⟩ = some (.int .i64 v.bal) ∧ W.cell? ⟨w.heap.size, 1, none⟩ = some (.int .i64 v.val)) ∧ W.cell? ⟨B, 3, none⟩ = some (.int .i64 d.lb) ∧ W.cell? ⟨B, 4, none⟩ = some (.int .i64 d.lv)) 6 (by kernel_rfl) ⟨by (repeat (first | exact Below.refl _ _ | assumption | refine Below.drew ?_ | refine balloc ?_ _ | refine bset ?_ (by simp; omega) _ | refine bset ?_ (by simp) _ | refine bstep ?_ (by assumption))), ⟨cell_keep (by (repeat (first | exact Below.refl _ _ | assumption | refine Below.drew ?_ | refine balloc ?_ _ | refine bset ?_ (by simp; omega) _ | refine bset ?_ (by simp) _ | refine bstep ?_ (by assumption)))) r0, cell_keep (by (repeat (first | exact Below.refl _ _ | assumption | refine Below.drew ?_ | refine balloc ?_ _ | refine bset ?_ (by simp; omega) _ | refine bset ?_ (by simp) _ | refine bstep ?_ (by assumption)))) r1⟩, cell_keep (by (repeat (first | exact Below.refl _ _ | assumption | refine Below.drew ?_ | refine balloc ?_ _ | refine bset ?_ (by simp; omega) _ | refine bset ?_ (by simp) _ | refine bstep ?_ (by assumption)))) c3, cell_keep (by (repeat (first | exact Below.refl _ _ | assumption | refine Below.drew ?_ | refine balloc ?_ _ | refine bset ?_ (by simp; omega) _ | refine bset ?_ (by simp) _ | refine bstep ?_ (by assumption)))) c4⟩ (fun hS => ?_)
      refine upto_takeN (i := 0) (v := ?_) rfl (by kernel_rfl) (by kernel_rfl) (by kernel_rfl) (by kernel_rfl) (fun _ _ _ h => h) (by rfl) hS ?_ ?_
      rotate_left
      · intro wS hSw
        try dsimp only at hSw
        first | (go_simp; done) | (go_simp; with_reducible rfl)
      try simp only [Act.put, List.getElem_toArray, List.getElem_cons_zero, List.getElem_cons_succ, List.setIfInBounds_toArray, List.set_cons_zero, List.set_cons_succ]
      refine upto_takeN (i := 1) (v := ?_) rfl (by kernel_rfl) (by kernel_rfl) (by kernel_rfl) (by kernel_rfl) (fun _ _ _ h => h) (by rfl) hS ?_ ?_
      rotate_left
      · intro wS hSw
        try dsimp only at hSw
        first | (go_simp; done) | (go_simp; with_reducible rfl)
      try simp only [Act.put, List.getElem_toArray, List.getElem_cons_zero, List.getElem_cons_succ, List.setIfInBounds_toArray, List.set_cons_zero, List.set_cons_succ]
      refine upto_takeN (i := 2) (v := ?_) rfl (by kernel_rfl) (by kernel_rfl) (by kernel_rfl) (by kernel_rfl) (fun _ _ _ h => h) (by rfl) hS ?_ ?_
      rotate_left
      · intro wS hSw
        try dsimp only at hSw
        first | (go_simp; done) | (go_simp; with_reducible rfl)
      try simp only [Act.put, List.getElem_toArray, List.getElem_cons_zero, List.getElem_cons_succ, List.setIfInBounds_toArray, List.set_cons_zero, List.set_cons_succ]
      refine upto_takeN (i := 3) (v := ?_) rfl (by kernel_rfl) (by kernel_rfl) (by kernel_rfl) (by kernel_rfl) (fun _ _ _ h => h) (by rfl) hS ?_ ?_
      rotate_left
      · intro wS hSw
        try dsimp only at hSw
        first | (go_simp; done) | (go_simp; with_reducible rfl)
      try simp only [Act.put, List.getElem_toArray, List.getElem_cons_zero, List.getElem_cons_succ, List.setIfInBounds_toArray, List.set_cons_zero, List.set_cons_succ]
      refine upto_takeN (i := 4) (v := ?_) rfl (by kernel_rfl) (by kernel_rfl) (by kernel_rfl) (by kernel_rfl) (fun _ _ _ h => h) (by rfl) hS ?_ ?_
      rotate_left
      · intro wS hSw
        try dsimp only at hSw
        first | (go_simp; done) | (go_simp; with_reducible rfl)
      try simp only [Act.put, List.getElem_toArray, List.getElem_cons_zero, List.getElem_cons_succ, List.setIfInBounds_toArray, List.set_cons_zero, List.set_cons_succ]
      refine upto_step (i := 5) (by kernel_rfl) rfl ?_
      intro K hK
      go_simp
      refine (isOtherwise_any v ⟨d.lb, d.lv⟩ _).mono ?_
      rintro e w3 ⟨rfl, hb3⟩
      have hS3 : (fun W => Below W1.heap.size W1 W ∧ (W.cell? ⟨w.heap.size, 0, none⟩ = some (.int .i64 v.bal) ∧ W.cell? ⟨w.heap.size, 1, none⟩ = some (.int .i64 v.val)) ∧ W.cell? ⟨B, 3, none⟩ = some (.int .i64 d.lb) ∧ W.cell? ⟨B, 4, none⟩ = some (.int .i64 d.lv)) w3 := ⟨bstep hS.1 hb3, ⟨cell_keep hb3 hS.2.1.1, cell_keep hb3 hS.2.1.2⟩, cell_keep hb3 hS.2.2.1, cell_keep hb3 hS.2.2.2⟩
      refine hK _ _ (fun _ => hS3) ?_
      clear hK K hS hb3
      try simp only [Act.put, List.getElem_toArray, List.getElem_cons_zero, List.getElem_cons_succ, List.setIfInBounds_toArray, List.set_cons_zero, List.set_cons_succ]
      refine upto_done (by kernel_rfl) ?_
      refine NoPanic.normal ?_
      have hBr := hS3.1
      clear hS3
      replace c0 := cell_keep hBr c0
      replace c1 := cell_keep hBr c1
      replace c2 := cell_keep hBr c2
      replace c3 := cell_keep hBr c3
      replace c4 := cell_keep hBr c4
      replace c5 := cell_keep hBr c5
      replace r0 := cell_keep hBr r0
      replace r1 := cell_keep hBr r1
      replace cf : ∀ o, w3.frozen? ⟨B, o, none⟩ = false := fun o => by rw [(bcell hBr).2 _ _ hBW]; exact cf o
      replace hblk : w3.heap[B]? = some (.cells ob 87) := (hBr.block B hBW).trans hblk
      replace ov := votsR.keep ov hBr
      replace hW1 : Below base w w3 := hW1.trans (hBr.mono (by omega))
      replace hBW : B < w3.heap.size := Nat.lt_of_lt_of_le hBW hBr.size
      replace hWs : w.heap.size < w3.heap.size := World.block_lt_of_cell? w3 _ r0
      replace hbs : base ≤ w3.heap.size := Nat.le_trans hbs hBr.size
      clear hBr
      rw [ho]
      go_wp2
      refine wp_region_noPanic ?_
      refine region_upto (fun W => Below w3.heap.size w3 W ∧ (W.cell? ⟨w.heap.size, 0, none⟩ = some (.int .i64 v.bal) ∧ W.cell? ⟨w.heap.size, 1, none⟩ = some (.int .i64 v.val)) ∧ W.cell? ⟨B, 3, none⟩ = some (.int .i64 d.lb) ∧ W.cell? ⟨B, 4, none⟩ = some (.int .i64 d.lv)) 6 (by kernel_rfl) ⟨by (repeat (first | exact Below.refl _ _ | assumption | refine Below.drew ?_ | refine balloc ?_ _ | refine bset ?_ (by simp; omega) _ | refine bset ?_ (by simp) _ | refine bstep ?_ (by assumption))), ⟨cell_keep (by (repeat (first | exact Below.refl _ _ | assumption | refine Below.drew ?_ | refine balloc ?_ _ | refine bset ?_ (by simp; omega) _ | refine bset ?_ (by simp) _ | refine bstep ?_ (by assumption)))) r0, cell_keep (by (repeat (first | exact Below.refl _ _ | assumption | refine Below.drew ?_ | refine balloc ?_ _ | refine bset ?_ (by simp; omega) _ | refine bset ?_ (by simp) _ | refine bstep ?_ (by assumption)))) r1⟩, cell_keep (by (repeat (first | exact Below.refl _ _ | assumption | refine Below.drew ?_ | refine balloc ?_ _ | refine bset ?_ (by simp; omega) _ | refine bset ?_ (by simp) _ | refine bstep ?_ (by assumption)))) c3, cell_keep (by (repeat (first | exact Below.refl _ _ | assumption | refine Below.drew ?_ | refine balloc ?_ _ | refine bset ?_ (by simp; omega) _ | refine bset ?_ (by simp) _ | refine bstep ?_ (by assumption)))) c4⟩ (fun hS => ?_)
      refine upto_takeN (i := 0) (v := ?_) rfl (by kernel_rfl) (by kernel_rfl) (by kernel_rfl) (by kernel_rfl) (fun _ _ _ h => h) (by rfl) hS ?_ ?_
      rotate_left
      · intro wS hSw
        try dsimp only at hSw
        first | (go_simp; done) | (go_simp; with_reducible rfl)
      try simp only [Act.put, List.getElem_toArray, List.getElem_cons_zero, List.getElem_cons_succ, List.setIfInBounds_toArray, List.set_cons_zero, List.set_cons_succ]
      refine upto_takeN (i := 1) (v := ?_) rfl (by kernel_rfl) (by kernel_rfl) (by kernel_rfl) (by kernel_rfl) (fun _ _ _ h => h) (by rfl) hS ?_ ?_
      rotate_left
      · intro wS hSw
        try dsimp only at hSw
        first | (go_simp; done) | (go_simp; with_reducible rfl)
      try simp only [Act.put, List.getElem_toArray, List.getElem_cons_zero, List.getElem_cons_succ, List.setIfInBounds_toArray, List.set_cons_zero, List.set_cons_succ]
      refine upto_takeN (i := 2) (v := ?_) rfl (by kernel_rfl) (by kernel_rfl) (by kernel_rfl) (by kernel_rfl) (fun _ _ _ h => h) (by rfl) hS ?_ ?_
      rotate_left
      · intro wS hSw
        try dsimp only at hSw
        first | (go_simp; done) | (go_simp; with_reducible rfl)
      try simp only [Act.put, List.getElem_toArray, List.getElem_cons_zero, List.getElem_cons_succ, List.setIfInBounds_toArray, List.set_cons_zero, List.set_cons_succ]
      refine upto_takeN (i := 3) (v := ?_) rfl (by kernel_rfl) (by kernel_rfl) (by kernel_rfl) (by kernel_rfl) (fun _ _ _ h => h) (by rfl) hS ?_ ?_
      rotate_left
      · intro wS hSw
        try dsimp only at hSw
        first | (go_simp; done) | (go_simp; with_reducible rfl)
      try simp only [Act.put, List.getElem_toArray, List.getElem_cons_zero, List.getElem_cons_succ, List.setIfInBounds_toArray, List.set_cons_zero, List.set_cons_succ]
      refine upto_takeN (i := 4) (v := ?_) rfl (by kernel_rfl) (by kernel_rfl) (by kernel_rfl) (by kernel_rfl) (fun _ _ _ h => h) (by rfl) hS ?_ ?_
      rotate_left
      · intro wS hSw
        try dsimp only at hSw
        first | (go_simp; done) | (go_simp; with_reducible rfl)
      try simp only [Act.put, List.getElem_toArray, List.getElem_cons_zero, List.getElem_cons_succ, List.setIfInBounds_toArray, List.set_cons_zero, List.set_cons_succ]
      refine upto_takeN (i := 5) (v := (.bool true)) rfl (by kernel_rfl) (by kernel_rfl) (by kernel_rfl) (by kernel_rfl) (fun _ _ _ h => h) (by rfl) hS ?_ ?_
      · intro wS hSw
        try dsimp only at hSw
        go_simp
      try simp only [Act.put, List.getElem_toArray, List.getElem_cons_zero, List.getElem_cons_succ, List.setIfInBounds_toArray, List.set_cons_zero, List.set_cons_succ]
      refine upto_done (by kernel_rfl) ?_
      refine NoPanic.normal ?_
      clear hS
      go_wp2
      go_ret
      refine ⟨rfl, hW1.trans (Below.drew (Below.refl _ _) |>.mono hbs), fun _ => ⟨a, _, c, F, ⟨cell_keep (Below.drew (Below.refl _ _)) c0, cell_keep (Below.drew (Below.refl _ _)) c1, cell_keep (Below.drew (Below.refl _ _)) c2, ?_, ?_, cell_keep (Below.drew (Below.refl _ _)) c5⟩, votsR.keep ov (Below.drew (Below.refl _ _))⟩⟩
      · dsimp only
        rw [HE.out.1]
        exact cell_keep (Below.drew (Below.refl _ _)) c3
      · dsimp only
        rw [HE.out.2]
        exact cell_keep (Below.drew (Below.refl _ _)) c4
    · rw [accC_taken h1 h2 h3]
      have ho : otherB v ⟨d.lb, d.lv⟩ = true := by simp [otherB, h2, h3]
      clear h2 h3
      go_enter Try.func53, Try.ntmps53
      go_wp2_with fail
      refine (promise_ok B d.pr v.bal _ (by simp [go_sem, c2, hB]) (fun o => by simp [go_sem, cf, hB]) (by omega)).mono ?_
      rintro e W1 ⟨rfl, hE⟩
      have r0 : W1.cell? ⟨w.heap.size, 0, none⟩ = some (.int .i64 v.bal) := by rw [hE]; simp [go_sem, hB]; try omega
      have r1 : W1.cell? ⟨w.heap.size, 1, none⟩ = some (.int .i64 v.val) := by rw [hE]; simp [go_sem, hB]; try omega
      replace c0 : W1.cell? ⟨B, 0, none⟩ = some (.int .i64 d.con) := by rw [hE]; simp [go_sem, hB, c0]
      replace c1 : W1.cell? ⟨B, 1, none⟩ = some (.int .i64 d.sh) := by rw [hE]; simp [go_sem, hB, c1]
      replace c2 : W1.cell? ⟨B, 2, none⟩ = some (.int .i64 v.bal) := by rw [hE]; simp [go_sem, hB, c2]
      replace c3 : W1.cell? ⟨B, 3, none⟩ = some (.int .i64 d.lb) := by rw [hE]; simp [go_sem, hB, c3]
      replace c4 : W1.cell? ⟨B, 4, none⟩ = some (.int .i64 d.lv) := by rw [hE]; simp [go_sem, hB, c4]
      replace c5 : W1.cell? ⟨B, 5, none⟩ = some (.slice a d.cast.length c) := by rw [hE]; simp [go_sem, hB, c5]
      replace cf : ∀ o, W1.frozen? ⟨B, o, none⟩ = false := fun o => by rw [hE]; simp [go_sem, hB, cf]
      replace ov : votsR.O W1 base F (.slice a d.cast.length c) d.cast := by rw [hE]; exact Rep.setN _ (Rep.alloc _ ov _) _ hFB
      have hW1 : Below base w W1 := by rw [hE]; exact ((Below.refl _ _).alloc hbs _).setCell hbB _
      have hblk : ∃ ob, W1.heap[B]? = some (.cells ob 87) := by rw [hE]; exact heap_set (by show (w.heap.push _)[B]? = _; rw [Array.getElem?_push, if_neg (by omega)]; exact hblk)
      obtain ⟨ob, hblk⟩ := hblk
      have hBW : B < W1.heap.size := World.block_lt_of_cell? W1 _ c0
      have hWs : w.heap.size < W1.heap.size := World.block_lt_of_cell? W1 _ r0
      replace hbs : base ≤ W1.heap.size := by omega
      clear hE
      go_wp2
      refine wp_region_noPanic ?_
      refine region_upto (fun W => Below W1.heap.size W1 W ∧ (W.cell? ⟨w.heap.size, 0, none⟩ = some (.int .i64 v.bal) ∧ W.cell? ⟨w.heap.size, 1, none⟩ = some (.int .i64 v.val)) ∧ W.cell? ⟨B, 3, none⟩ = some (.int .i64 d.lb) ∧ W.cell? ⟨B, 4, none⟩ = some (.int .i64 d.lv)) 6 (by kernel_rfl) ⟨by (repeat (first | exact Below.refl _ _ | assumption | refine Below.drew ?_ | refine balloc ?_ _ | refine bset ?_ (by simp; omega) _ | refine bset ?_ (by simp) _ | refine bstep ?_ (by assumption))), ⟨cell_keep (by (repeat (first | exact Below.refl _ _ | assumption | refine Below.drew ?_ | refine balloc ?_ _ | refine bset ?_ (by simp; omega) _ | refine bset ?_ (by simp) _ | refine bstep ?_ (by assumption)))) r0, cell_keep (by (repeat (first | exact Below.refl _ _ | assumption | refine Below.drew ?_ | refine balloc ?_ _ | refine bset ?_ (by simp; omega) _ | refine bset ?_ (by simp) _ | refine bstep ?_ (by assumption)))) r1⟩, cell_keep (by (repeat (first | exact Below.refl _ _ | assumption | refine Below.drew ?_ | refine balloc ?_ _ | refine bset ?_ (by simp; omega) _ | refine bset ?_ (by simp) _ | refine bstep ?_ (by assumption)))) c3, cell_keep (by (repeat (first | exact Below.refl _ _ | assumption | refine Below.drew ?_ | refine balloc ?_ _ | refine bset ?_ (by simp; omega) _ | refine bset ?_ (by simp) _ | refine bstep ?_ (by assumption)))) c4⟩ (fun hS => ?_)
      refine upto_takeN (i := 0) (v := ?_) rfl (by kernel_rfl) (by kernel_rfl) (by kernel_rfl) (by kernel_rfl) (fun _ _ _ h => h) (by rfl) hS ?_ ?_
      rotate_left
      · intro wS hSw
        try dsimp only at hSw
        first | (go_simp; done) | (go_simp; with_reducible rfl)
      try simp only [Act.put, List.getElem_toArray, List.getElem_cons_zero, List.getElem_cons_succ, List.setIfInBounds_toArray, List.set_cons_zero, List.set_cons_succ]
      refine upto_takeN (i := 1) (v := ?_) rfl (by kernel_rfl) (by kernel_rfl) (by kernel_rfl) (by kernel_rfl) (fun _ _ _ h => h) (by rfl) hS ?_ ?_
      rotate_left
      · intro wS hSw
        try dsimp only at hSw
        first | (go_simp; done) | (go_simp; with_reducible rfl)
      try simp only [Act.put, List.getElem_toArray, List.getElem_cons_zero, List.getElem_cons_succ, List.setIfInBounds_toArray, List.set_cons_zero, List.set_cons_succ]
      refine upto_takeN (i := 2) (v := ?_) rfl (by kernel_rfl) (by kernel_rfl) (by kernel_rfl) (by kernel_rfl) (fun _ _ _ h => h) (by rfl) hS ?_ ?_
      rotate_left
      · intro wS hSw
        try dsimp only at hSw
        first | (go_simp; done) | (go_simp; with_reducible rfl)
      try simp only [Act.put, List.getElem_toArray, List.getElem_cons_zero, List.getElem_cons_succ, List.setIfInBounds_toArray, List.set_cons_zero, List.set_cons_succ]
      refine upto_takeN (i := 3) (v := ?_) rfl (by kernel_rfl) (by kernel_rfl) (by kernel_rfl) (by kernel_rfl) (fun _ _ _ h => h) (by rfl) hS ?_ ?_
      rotate_left
      · intro wS hSw
        try dsimp only at hSw
        first | (go_simp; done) | (go_simp; with_reducible rfl)
      try simp only [Act.put, List.getElem_toArray, List.getElem_cons_zero, List.getElem_cons_succ, List.setIfInBounds_toArray, List.set_cons_zero, List.set_cons_succ]
      refine upto_takeN (i := 4) (v := ?_) rfl (by kernel_rfl) (by kernel_rfl) (by kernel_rfl) (by kernel_rfl) (fun _ _ _ h => h) (by rfl) hS ?_ ?_
      rotate_left
      · intro wS hSw
        try dsimp only at hSw
        first | (go_simp; done) | (go_simp; with_reducible rfl)
      try simp only [Act.put, List.getElem_toArray, List.getElem_cons_zero, List.getElem_cons_succ, List.setIfInBounds_toArray, List.set_cons_zero, List.set_cons_succ]
      refine upto_step (i := 5) (by kernel_rfl) rfl ?_
      intro K hK
      go_simp
      refine (isOtherwise_any v ⟨d.lb, d.lv⟩ _).mono ?_
      rintro e w3 ⟨rfl, hb3⟩
      have hS3 : (fun W => Below W1.heap.size W1 W ∧ (W.cell? ⟨w.heap.size, 0, none⟩ = some (.int .i64 v.bal) ∧ W.cell? ⟨w.heap.size, 1, none⟩ = some (.int .i64 v.val)) ∧ W.cell? ⟨B, 3, none⟩ = some (.int .i64 d.lb) ∧ W.cell? ⟨B, 4, none⟩ = some (.int .i64 d.lv)) w3 := ⟨bstep hS.1 hb3, ⟨cell_keep hb3 hS.2.1.1, cell_keep hb3 hS.2.1.2⟩, cell_keep hb3 hS.2.2.1, cell_keep hb3 hS.2.2.2⟩
      refine hK _ _ (fun _ => hS3) ?_
      clear hK K hS hb3
      try simp only [Act.put, List.getElem_toArray, List.getElem_cons_zero, List.getElem_cons_succ, List.setIfInBounds_toArray, List.set_cons_zero, List.set_cons_succ]
      refine upto_done (by kernel_rfl) ?_
      refine NoPanic.normal ?_
      have hBr := hS3.1
      clear hS3
      replace c0 := cell_keep hBr c0
      replace c1 := cell_keep hBr c1
      replace c2 := cell_keep hBr c2
      replace c3 := cell_keep hBr c3
      replace c4 := cell_keep hBr c4
      replace c5 := cell_keep hBr c5
      replace r0 := cell_keep hBr r0
      replace r1 := cell_keep hBr r1
      replace cf : ∀ o, w3.frozen? ⟨B, o, none⟩ = false := fun o => by rw [(bcell hBr).2 _ _ hBW]; exact cf o
      replace hblk : w3.heap[B]? = some (.cells ob 87) := (hBr.block B hBW).trans hblk
      replace ov := votsR.keep ov hBr
      replace hW1 : Below base w w3 := hW1.trans (hBr.mono (by omega))
      replace hBW : B < w3.heap.size := Nat.lt_of_lt_of_le hBW hBr.size
      replace hWs : w.heap.size < w3.heap.size := World.block_lt_of_cell? w3 _ r0
      replace hbs : base ≤ w3.heap.size := Nat.le_trans hbs hBr.size
      clear hBr
      rw [ho]
      go_wp2
      go_ret
      exact ⟨rfl, hW1, fun h => absurd h (by omega)⟩
  have heq : ∀ w, (binOp .eql 40 (.agg #[.int .i64 v.bal, .int .i64 v.val]) (.agg #[.int .i64 d.lb, .int .i64 d.lv])).run Try.prog w = .ok (.bool false) w := fun w => by rw [eqlVot]; simp [h2]
  have ho : otherB v ⟨d.lb, d.lv⟩ = false := by simp [otherB, h2]
  by_cases h4 : 60 ≤ d.cast.length
  · rw [accC_many h1 h2 h4]
    have h5 : d.cast.length = 60 := by omega
    clear h2
    go_enter Try.func53, Try.ntmps53
    go_wp2_with fail
    refine (promise_ok B d.pr v.bal _ (by simp [go_sem, c2, hB]) (fun o => by simp [go_sem, cf, hB]) (by omega)).mono ?_
    rintro e W1 ⟨rfl, hE⟩
    have r0 : W1.cell? ⟨w.heap.size, 0, none⟩ = some (.int .i64 v.bal) := by rw [hE]; simp [go_sem, hB]; try omega
    have r1 : W1.cell? ⟨w.heap.size, 1, none⟩ = some (.int .i64 v.val) := by rw [hE]; simp [go_sem, hB]; try omega
    replace c0 : W1.cell? ⟨B, 0, none⟩ = some (.int .i64 d.con) := by rw [hE]; simp [go_sem, hB, c0]
    replace c1 : W1.cell? ⟨B, 1, none⟩ = some (.int .i64 d.sh) := by rw [hE]; simp [go_sem, hB, c1]
    replace c2 : W1.cell? ⟨B, 2, none⟩ = some (.int .i64 v.bal) := by rw [hE]; simp [go_sem, hB, c2]
    replace c3 : W1.cell? ⟨B, 3, none⟩ = some (.int .i64 d.lb) := by rw [hE]; simp [go_sem, hB, c3]
    replace c4 : W1.cell? ⟨B, 4, none⟩ = some (.int .i64 d.lv) := by rw [hE]; simp [go_sem, hB, c4]
    replace c5 : W1.cell? ⟨B, 5, none⟩ = some (.slice a d.cast.length c) := by rw [hE]; simp [go_sem, hB, c5]
    replace cf : ∀ o, W1.frozen? ⟨B, o, none⟩ = false := fun o => by rw [hE]; simp [go_sem, hB, cf]
    replace ov : votsR.O W1 base F (.slice a d.cast.length c) d.cast := by rw [hE]; exact Rep.setN _ (Rep.alloc _ ov _) _ hFB
    have hW1 : Below base w W1 := by rw [hE]; exact ((Below.refl _ _).alloc hbs _).setCell hbB _
    have hblk : ∃ ob, W1.heap[B]? = some (.cells ob 87) := by rw [hE]; exact heap_set (by show (w.heap.push _)[B]? = _; rw [Array.getElem?_push, if_neg (by omega)]; exact hblk)
    obtain ⟨ob, hblk⟩ := hblk
    have hBW : B < W1.heap.size := World.block_lt_of_cell? W1 _ c0
    have hWs : w.heap.size < W1.heap.size := World.block_lt_of_cell? W1 _ r0
    replace hbs : base ≤ W1.heap.size := by omega
    clear hE
    go_wp2
    refine wp_region_noPanic ?_
    refine region_upto (fun W => Below W1.heap.size W1 W ∧ (W.cell? ⟨w.heap.size, 0, none⟩ = some (.int .i64 v.bal) ∧ W.cell? ⟨w.heap.size, 1, none⟩ = some (.int .i64 v.val)) ∧ W.cell? ⟨B, 3, none⟩ = some (.int .i64 d.lb) ∧ W.cell? ⟨B, 4, none⟩ = some (.int .i64 d.lv)) 6 (by kernel_rfl) ⟨by (repeat (first | exact Below.refl _ _ | assumption | refine Below.drew ?_ | refine balloc ?_ _ | refine bset ?_ (by simp; omega) _ | refine bset ?_ (by simp) _ | refine bstep ?_ (by assumption))), ⟨cell_keep (by (repeat (first | exact Below.refl _ _ | assumption | refine Below.drew ?_ | refine balloc ?_ _ | refine bset ?_ (by simp; omega) _ | refine bset ?_ (by simp) _ | refine bstep ?_ (by assumption)))) r0, cell_keep (by (repeat (first | exact Below.refl _ _ | assumption | refine Below.drew ?_ | refine balloc ?_ _ | refine bset ?_ (by simp; omega) _ | refine bset ?_ (by simp) _ | refine bstep ?_ (by assumption)))) r1⟩, cell_keep (by (repeat (first | exact Below.refl _ _ | assumption | refine Below.drew ?_ | refine balloc ?_ _ | refine bset ?_ (by simp; omega) _ | refine bset ?_ (by simp) _ | refine bstep ?_ (by assumption)))) c3, cell_keep (by (repeat (first | exact Below.refl _ _ | assumption | refine Below.drew ?_ | refine balloc ?_ _ | refine bset ?_ (by simp; omega) _ | refine bset ?_ (by simp) _ | refine bstep ?_ (by assumption)))) c4⟩ (fun hS => ?_)
    refine upto_takeN (i := 0) (v := ?_) rfl (by kernel_rfl) (by kernel_rfl) (by kernel_rfl) (by kernel_rfl) (fun _ _ _ h => h) (by rfl) hS ?_ ?_
    rotate_left
    · intro wS hSw
      try dsimp only at hSw
      first | (go_simp; done) | (go_simp; with_reducible rfl)
    try simp only [Act.put, List.getElem_toArray, List.getElem_cons_zero, List.getElem_cons_succ, List.setIfInBounds_toArray, List.set_cons_zero, List.set_cons_succ]
    refine upto_takeN (i := 1) (v := ?_) rfl (by kernel_rfl) (by kernel_rfl) (by kernel_rfl) (by kernel_rfl) (fun _ _ _ h => h) (by rfl) hS ?_ ?_
    rotate_left
    · intro wS hSw
      try dsimp only at hSw
      first | (go_simp; done) | (go_simp; with_reducible rfl)
    try simp only [Act.put, List.getElem_toArray, List.getElem_cons_zero, List.getElem_cons_succ, List.setIfInBounds_toArray, List.set_cons_zero, List.set_cons_succ]
    refine upto_takeN (i := 2) (v := ?_) rfl (by kernel_rfl) (by kernel_rfl) (by kernel_rfl) (by kernel_rfl) (fun _ _ _ h => h) (by rfl) hS ?_ ?_
    rotate_left
    · intro wS hSw
      try dsimp only at hSw
      first | (go_simp; done) | (go_simp; with_reducible rfl)
    try simp only [Act.put, List.getElem_toArray, List.getElem_cons_zero, List.getElem_cons_succ, List.setIfInBounds_toArray, List.set_cons_zero, List.set_cons_succ]
    refine upto_takeN (i := 3) (v := ?_) rfl (by kernel_rfl) (by kernel_rfl) (by kernel_rfl) (by kernel_rfl) (fun _ _ _ h => h) (by rfl) hS ?_ ?_
    rotate_left
    · intro wS hSw
      try dsimp only at hSw
      first | (go_simp; done) | (go_simp; with_reducible rfl)
    try simp only [Act.put, List.getElem_toArray, List.getElem_cons_zero, List.getElem_cons_succ, List.setIfInBounds_toArray, List.set_cons_zero, List.set_cons_succ]
    refine upto_takeN (i := 4) (v := ?_) rfl (by kernel_rfl) (by kernel_rfl) (by kernel_rfl) (by kernel_rfl) (fun _ _ _ h => h) (by rfl) hS ?_ ?_
    rotate_left
    · intro wS hSw
      try dsimp only at hSw
      first | (go_simp; done) | (go_simp; with_reducible rfl)
    try simp only [Act.put, List.getElem_toArray, List.getElem_cons_zero, List.getElem_cons_succ, List.setIfInBounds_toArray, List.set_cons_zero, List.set_cons_succ]
    refine upto_step (i := 5) (by kernel_rfl) rfl ?_
    intro K hK
    go_simp
    refine (isOtherwise_any v ⟨d.lb, d.lv⟩ _).mono ?_
    rintro e w3 ⟨rfl, hb3⟩
    have hS3 : (fun W => Below W1.heap.size W1 W ∧ (W.cell? ⟨w.heap.size, 0, none⟩ = some (.int .i64 v.bal) ∧ W.cell? ⟨w.heap.size, 1, none⟩ = some (.int .i64 v.val)) ∧ W.cell? ⟨B, 3, none⟩ = some (.int .i64 d.lb) ∧ W.cell? ⟨B, 4, none⟩ = some (.int .i64 d.lv)) w3 := ⟨bstep hS.1 hb3, ⟨cell_keep hb3 hS.2.1.1, cell_keep hb3 hS.2.1.2⟩, cell_keep hb3 hS.2.2.1, cell_keep hb3 hS.2.2.2⟩
    refine hK _ _ (fun _ => hS3) ?_
    clear hK K hS hb3
    try simp only [Act.put, List.getElem_toArray, List.getElem_cons_zero, List.getElem_cons_succ, List.setIfInBounds_toArray, List.set_cons_zero, List.set_cons_succ]
    refine upto_done (by kernel_rfl) ?_
    refine NoPanic.normal ?_
    have hBr := hS3.1
    clear hS3
    replace c0 := cell_keep hBr c0
    replace c1 := cell_keep hBr c1
    replace c2 := cell_keep hBr c2
    replace c3 := cell_keep hBr c3
    replace c4 := cell_keep hBr c4
    replace c5 := cell_keep hBr c5
    replace r0 := cell_keep hBr r0
    replace r1 := cell_keep hBr r1
    replace cf : ∀ o, w3.frozen? ⟨B, o, none⟩ = false := fun o => by rw [(bcell hBr).2 _ _ hBW]; exact cf o
    replace hblk : w3.heap[B]? = some (.cells ob 87) := (hBr.block B hBW).trans hblk
    replace ov := votsR.keep ov hBr
    replace hW1 : Below base w w3 := hW1.trans (hBr.mono (by omega))
    replace hBW : B < w3.heap.size := Nat.lt_of_lt_of_le hBW hBr.size
    replace hWs : w.heap.size < w3.heap.size := World.block_lt_of_cell? w3 _ r0
    replace hbs : base ≤ w3.heap.size := Nat.le_trans hbs hBr.size
    clear hBr
    rw [ho]
    go_wp2
    refine wp_region_noPanic ?_
    refine region_upto (fun W => Below w3.heap.size w3 W ∧ (W.cell? ⟨w.heap.size, 0, none⟩ = some (.int .i64 v.bal) ∧ W.cell? ⟨w.heap.size, 1, none⟩ = some (.int .i64 v.val)) ∧ W.cell? ⟨B, 3, none⟩ = some (.int .i64 d.lb) ∧ W.cell? ⟨B, 4, none⟩ = some (.int .i64 d.lv)) 6 (by kernel_rfl) ⟨by (repeat (first | exact Below.refl _ _ | assumption | refine Below.drew ?_ | refine balloc ?_ _ | refine bset ?_ (by simp; omega) _ | refine bset ?_ (by simp) _ | refine bstep ?_ (by assumption))), ⟨cell_keep (by (repeat (first | exact Below.refl _ _ | assumption | refine Below.drew ?_ | refine balloc ?_ _ | refine bset ?_ (by simp; omega) _ | refine bset ?_ (by simp) _ | refine bstep ?_ (by assumption)))) r0, cell_keep (by (repeat (first | exact Below.refl _ _ | assumption | refine Below.drew ?_ | refine balloc ?_ _ | refine bset ?_ (by simp; omega) _ | refine bset ?_ (by simp) _ | refine bstep ?_ (by assumption)))) r1⟩, cell_keep (by (repeat (first | exact Below.refl _ _ | assumption | refine Below.drew ?_ | refine balloc ?_ _ | refine bset ?_ (by simp; omega) _ | refine bset ?_ (by simp) _ | refine bstep ?_ (by assumption)))) c3, cell_keep (by (repeat (first | exact Below.refl _ _ | assumption | refine Below.drew ?_ | refine balloc ?_ _ | refine bset ?_ (by simp; omega) _ | refine bset ?_ (by simp) _ | refine bstep ?_ (by assumption)))) c4⟩ (fun hS => ?_)
    refine upto_takeN (i := 0) (v := ?_) rfl (by kernel_rfl) (by kernel_rfl) (by kernel_rfl) (by kernel_rfl) (fun _ _ _ h => h) (by rfl) hS ?_ ?_
    rotate_left
    · intro wS hSw
      try dsimp only at hSw
      first | (go_simp; done) | (go_simp; with_reducible rfl)
    try simp only [Act.put, List.getElem_toArray, List.getElem_cons_zero, List.getElem_cons_succ, List.setIfInBounds_toArray, List.set_cons_zero, List.set_cons_succ]
    refine upto_takeN (i := 1) (v := ?_) rfl (by kernel_rfl) (by kernel_rfl) (by kernel_rfl) (by kernel_rfl) (fun _ _ _ h => h) (by rfl) hS ?_ ?_
    rotate_left
    · intro wS hSw
      try dsimp only at hSw
      first | (go_simp; done) | (go_simp; with_reducible rfl)
    try simp only [Act.put, List.getElem_toArray, List.getElem_cons_zero, List.getElem_cons_succ, List.setIfInBounds_toArray, List.set_cons_zero, List.set_cons_succ]
    refine upto_takeN (i := 2) (v := ?_) rfl (by kernel_rfl) (by kernel_rfl) (by kernel_rfl) (by kernel_rfl) (fun _ _ _ h => h) (by rfl) hS ?_ ?_
    rotate_left
    · intro wS hSw
      try dsimp only at hSw
      first | (go_simp; done) | (go_simp; with_reducible rfl)
    try simp only [Act.put, List.getElem_toArray, List.getElem_cons_zero, List.getElem_cons_succ, List.setIfInBounds_toArray, List.set_cons_zero, List.set_cons_succ]
    refine upto_takeN (i := 3) (v := ?_) rfl (by kernel_rfl) (by kernel_rfl) (by kernel_rfl) (by kernel_rfl) (fun _ _ _ h => h) (by rfl) hS ?_ ?_
    rotate_left
    · intro wS hSw
      try dsimp only at hSw
      first | (go_simp; done) | (go_simp; with_reducible rfl)
    try simp only [Act.put, List.getElem_toArray, List.getElem_cons_zero, List.getElem_cons_succ, List.setIfInBounds_toArray, List.set_cons_zero, List.set_cons_succ]
    refine upto_takeN (i := 4) (v := ?_) rfl (by kernel_rfl) (by kernel_rfl) (by kernel_rfl) (by kernel_rfl) (fun _ _ _ h => h) (by rfl) hS ?_ ?_
    rotate_left
    · intro wS hSw
      try dsimp only at hSw
      first | (go_simp; done) | (go_simp; with_reducible rfl)
    try simp only [Act.put, List.getElem_toArray, List.getElem_cons_zero, List.getElem_cons_succ, List.setIfInBounds_toArray, List.set_cons_zero, List.set_cons_succ]
    refine upto_takeN (i := 5) (v := (.bool false)) rfl (by kernel_rfl) (by kernel_rfl) (by kernel_rfl) (by kernel_rfl) (fun _ _ _ h => h) (by rfl) hS ?_ ?_
    · intro wS hSw
      try dsimp only at hSw
      go_simp
    try simp only [Act.put, List.getElem_toArray, List.getElem_cons_zero, List.getElem_cons_succ, List.setIfInBounds_toArray, List.set_cons_zero, List.set_cons_succ]
    refine upto_done (by kernel_rfl) ?_
    refine NoPanic.normal ?_
    clear hS
    rw [h5] at c5
    clear ov h5
    go_wp2
    go_ret
    exact ⟨rfl, hW1.trans (Below.drew (Below.refl _ _) |>.mono hbs), fun h => absurd h (by omega)⟩
  · rw [accC_new h1 h2 h4, accS_new h2]
    have h5 : ((d.cast.length : Int) == 60) = false := by simp; omega
    clear h2
    go_enter Try.func53, Try.ntmps53
    go_wp2_with fail
    refine (promise_ok B d.pr v.bal _ (by simp [go_sem, c2, hB]) (fun o => by simp [go_sem, cf, hB]) (by omega)).mono ?_
    rintro e W1 ⟨rfl, hE⟩
    have r0 : W1.cell? ⟨w.heap.size, 0, none⟩ = some (.int .i64 v.bal) := by rw [hE]; simp [go_sem, hB]; try omega
    have r1 : W1.cell? ⟨w.heap.size, 1, none⟩ = some (.int .i64 v.val) := by rw [hE]; simp [go_sem, hB]; try omega
    replace c0 : W1.cell? ⟨B, 0, none⟩ = some (.int .i64 d.con) := by rw [hE]; simp [go_sem, hB, c0]
    replace c1 : W1.cell? ⟨B, 1, none⟩ = some (.int .i64 d.sh) := by rw [hE]; simp [go_sem, hB, c1]
    replace c2 : W1.cell? ⟨B, 2, none⟩ = some (.int .i64 v.bal) := by rw [hE]; simp [go_sem, hB, c2]
    replace c3 : W1.cell? ⟨B, 3, none⟩ = some (.int .i64 d.lb) := by rw [hE]; simp [go_sem, hB, c3]
    replace c4 : W1.cell? ⟨B, 4, none⟩ = some (.int .i64 d.lv) := by rw [hE]; simp [go_sem, hB, c4]
    replace c5 : W1.cell? ⟨B, 5, none⟩ = some (.slice a d.cast.length c) := by rw [hE]; simp [go_sem, hB, c5]
    replace cf : ∀ o, W1.frozen? ⟨B, o, none⟩ = false := fun o => by rw [hE]; simp [go_sem, hB, cf]
    replace ov : votsR.O W1 base F (.slice a d.cast.length c) d.cast := by rw [hE]; exact Rep.setN _ (Rep.alloc _ ov _) _ hFB
    have hW1 : Below base w W1 := by rw [hE]; exact ((Below.refl _ _).alloc hbs _).setCell hbB _
    have hblk : ∃ ob, W1.heap[B]? = some (.cells ob 87) := by rw [hE]; exact heap_set (by show (w.heap.push _)[B]? = _; rw [Array.getElem?_push, if_neg (by omega)]; exact hblk)
    obtain ⟨ob, hblk⟩ := hblk
    have hBW : B < W1.heap.size := World.block_lt_of_cell? W1 _ c0
    have hWs : w.heap.size < W1.heap.size := World.block_lt_of_cell? W1 _ r0
    replace hbs : base ≤ W1.heap.size := by omega
    clear hE
    go_wp2
    refine wp_region_noPanic ?_
    refine region_upto (fun W => Below W1.heap.size W1 W ∧ (W.cell? ⟨w.heap.size, 0, none⟩ = some (.int .i64 v.bal) ∧ W.cell? ⟨w.heap.size, 1, none⟩ = some (.int .i64 v.val)) ∧ W.cell? ⟨B, 3, none⟩ = some (.int .i64 d.lb) ∧ W.cell? ⟨B, 4, none⟩ = some (.int .i64 d.lv)) 6 (by kernel_rfl) ⟨by (repeat (first | exact Below.refl _ _ | assumption | refine Below.drew ?_ | refine balloc ?_ _ | refine bset ?_ (by simp; omega) _ | refine bset ?_ (by simp) _ | refine bstep ?_ (by assumption))), ⟨cell_keep (by (repeat (first | exact Below.refl _ _ | assumption | refine Below.drew ?_ | refine balloc ?_ _ | refine bset ?_ (by simp; omega) _ | refine bset ?_ (by simp) _ | refine bstep ?_ (by assumption)))) r0, cell_keep (by (repeat (first | exact Below.refl _ _ | assumption | refine Below.drew ?_ | refine balloc ?_ _ | refine bset ?_ (by simp; omega) _ | refine bset ?_ (by simp) _ | refine bstep ?_ (by assumption)))) r1⟩, cell_keep (by (repeat (first | exact Below.refl _ _ | assumption | refine Below.drew ?_ | refine balloc ?_ _ | refine bset ?_ (by simp; omega) _ | refine bset ?_ (by simp) _ | refine bstep ?_ (by assumption)))) c3, cell_keep (by (repeat (first | exact Below.refl _ _ | assumption | refine Below.drew ?_ | refine balloc ?_ _ | refine bset ?_ (by simp; omega) _ | refine bset ?_ (by simp) _ | refine bstep ?_ (by assumption)))) c4⟩ (fun hS => ?_)
    refine upto_takeN (i := 0) (v := ?_) rfl (by kernel_rfl) (by kernel_rfl) (by kernel_rfl) (by kernel_rfl) (fun _ _ _ h => h) (by rfl) hS ?_ ?_
    rotate_left
    · intro wS hSw
      try dsimp only at hSw
      first | (go_simp; done) | (go_simp; with_reducible rfl)
    try simp only [Act.put, List.getElem_toArray, List.getElem_cons_zero, List.getElem_cons_succ, List.setIfInBounds_toArray, List.set_cons_zero, List.set_cons_succ]
    refine upto_takeN (i := 1) (v := ?_) rfl (by kernel_rfl) (by kernel_rfl) (by kernel_rfl) (by kernel_rfl) (fun _ _ _ h => h) (by rfl) hS ?_ ?_
    rotate_left
    · intro wS hSw
      try dsimp only at hSw
      first | (go_simp; done) | (go_simp; with_reducible rfl)
    try simp only [Act.put, List.getElem_toArray, List.getElem_cons_zero, List.getElem_cons_succ, List.setIfInBounds_toArray, List.set_cons_zero, List.set_cons_succ]
    refine upto_takeN (i := 2) (v := ?_) rfl (by kernel_rfl) (by kernel_rfl) (by kernel_rfl) (by kernel_rfl) (fun _ _ _ h => h) (by rfl) hS ?_ ?_
    rotate_left
    · intro wS hSw
      try dsimp only at hSw
      first | (go_simp; done) | (go_simp; with_reducible rfl)
    try simp only [Act.put, List.getElem_toArray, List.getElem_cons_zero, List.getElem_cons_succ, List.setIfInBounds_toArray, List.set_cons_zero, List.set_cons_succ]
    refine upto_takeN (i := 3) (v := ?_) rfl (by kernel_rfl) (by kernel_rfl) (by kernel_rfl) (by kernel_rfl) (fun _ _ _ h => h) (by rfl) hS ?_ ?_
    rotate_left
    · intro wS hSw
      try dsimp only at hSw
      first | (go_simp; done) | (go_simp; with_reducible rfl)
    try simp only [Act.put, List.getElem_toArray, List.getElem_cons_zero, List.getElem_cons_succ, List.setIfInBounds_toArray, List.set_cons_zero, List.set_cons_succ]
    refine upto_takeN (i := 4) (v := ?_) rfl (by kernel_rfl) (by kernel_rfl) (by kernel_rfl) (by kernel_rfl) (fun _ _ _ h => h) (by rfl) hS ?_ ?_
    rotate_left
    · intro wS hSw
      try dsimp only at hSw
      first | (go_simp; done) | (go_simp; with_reducible rfl)
    try simp only [Act.put, List.getElem_toArray, List.getElem_cons_zero, List.getElem_cons_succ, List.setIfInBounds_toArray, List.set_cons_zero, List.set_cons_succ]
    refine upto_step (i := 5) (by kernel_rfl) rfl ?_
    intro K hK
    go_simp
    refine (isOtherwise_any v ⟨d.lb, d.lv⟩ _).mono ?_
    rintro e w3 ⟨rfl, hb3⟩
    have hS3 : (fun W => Below W1.heap.size W1 W ∧ (W.cell? ⟨w.heap.size, 0, none⟩ = some (.int .i64 v.bal) ∧ W.cell? ⟨w.heap.size, 1, none⟩ = some (.int .i64 v.val)) ∧ W.cell? ⟨B, 3, none⟩ = some (.int .i64 d.lb) ∧ W.cell? ⟨B, 4, none⟩ = some (.int .i64 d.lv)) w3 := ⟨bstep hS.1 hb3, ⟨cell_keep hb3 hS.2.1.1, cell_keep hb3 hS.2.1.2⟩, cell_keep hb3 hS.2.2.1, cell_keep hb3 hS.2.2.2⟩
    refine hK _ _ (fun _ => hS3) ?_
    clear hK K hS hb3
    try simp only [Act.put, List.getElem_toArray, List.getElem_cons_zero, List.getElem_cons_succ, List.setIfInBounds_toArray, List.set_cons_zero, List.set_cons_succ]
    refine upto_done (by kernel_rfl) ?_
    refine NoPanic.normal ?_
    have hBr := hS3.1
    clear hS3
    replace c0 := cell_keep hBr c0
    replace c1 := cell_keep hBr c1
    replace c2 := cell_keep hBr c2
    replace c3 := cell_keep hBr c3
    replace c4 := cell_keep hBr c4
    replace c5 := cell_keep hBr c5
    replace r0 := cell_keep hBr r0
    replace r1 := cell_keep hBr r1
    replace cf : ∀ o, w3.frozen? ⟨B, o, none⟩ = false := fun o => by rw [(bcell hBr).2 _ _ hBW]; exact cf o
    replace hblk : w3.heap[B]? = some (.cells ob 87) := (hBr.block B hBW).trans hblk
    replace ov := votsR.keep ov hBr
    replace hW1 : Below base w w3 := hW1.trans (hBr.mono (by omega))
    replace hBW : B < w3.heap.size := Nat.lt_of_lt_of_le hBW hBr.size
    replace hWs : w.heap.size < w3.heap.size := World.block_lt_of_cell? w3 _ r0
    replace hbs : base ≤ w3.heap.size := Nat.le_trans hbs hBr.size
    clear hBr
    rw [ho]
    go_wp2
    refine wp_region_noPanic ?_
    refine region_upto (fun W => Below w3.heap.size w3 W ∧ (W.cell? ⟨w.heap.size, 0, none⟩ = some (.int .i64 v.bal) ∧ W.cell? ⟨w.heap.size, 1, none⟩ = some (.int .i64 v.val)) ∧ W.cell? ⟨B, 3, none⟩ = some (.int .i64 d.lb) ∧ W.cell? ⟨B, 4, none⟩ = some (.int .i64 d.lv)) 6 (by kernel_rfl) ⟨by (repeat (first | exact Below.refl _ _ | assumption | refine Below.drew ?_ | refine balloc ?_ _ | refine bset ?_ (by simp; omega) _ | refine bset ?_ (by simp) _ | refine bstep ?_ (by assumption))), ⟨cell_keep (by (repeat (first | exact Below.refl _ _ | assumption | refine Below.drew ?_ | refine balloc ?_ _ | refine bset ?_ (by simp; omega) _ | refine bset ?_ (by simp) _ | refine bstep ?_ (by assumption)))) r0, cell_keep (by (repeat (first | exact Below.refl _ _ | assumption | refine Below.drew ?_ | refine balloc ?_ _ | refine bset ?_ (by simp; omega) _ | refine bset ?_ (by simp) _ | refine bstep ?_ (by assumption)))) r1⟩, cell_keep (by (repeat (first | exact Below.refl _ _ | assumption | refine Below.drew ?_ | refine balloc ?_ _ | refine bset ?_ (by simp; omega) _ | refine bset ?_ (by simp) _ | refine bstep ?_ (by assumption)))) c3, cell_keep (by (repeat (first | exact Below.refl _ _ | assumption | refine Below.drew ?_ | refine balloc ?_ _ | refine bset ?_ (by simp; omega) _ | refine bset ?_ (by simp) _ | refine bstep ?_ (by assumption)))) c4⟩ (fun hS => ?_)
    refine upto_takeN (i := 0) (v := ?_) rfl (by kernel_rfl) (by kernel_rfl) (by kernel_rfl) (by kernel_rfl) (fun _ _ _ h => h) (by rfl) hS ?_ ?_
    rotate_left
    · intro wS hSw
      try dsimp only at hSw
      first | (go_simp; done) | (go_simp; with_reducible rfl)
    try simp only [Act.put, List.getElem_toArray, List.getElem_cons_zero, List.getElem_cons_succ, List.setIfInBounds_toArray, List.set_cons_zero, List.set_cons_succ]
    refine upto_takeN (i := 1) (v := ?_) rfl (by kernel_rfl) (by kernel_rfl) (by kernel_rfl) (by kernel_rfl) (fun _ _ _ h => h) (by rfl) hS ?_ ?_
    rotate_left
    · intro wS hSw
      try dsimp only at hSw
      first | (go_simp; done) | (go_simp; with_reducible rfl)
    try simp only [Act.put, List.getElem_toArray, List.getElem_cons_zero, List.getElem_cons_succ, List.setIfInBounds_toArray, List.set_cons_zero, List.set_cons_succ]
    refine upto_takeN (i := 2) (v := ?_) rfl (by kernel_rfl) (by kernel_rfl) (by kernel_rfl) (by kernel_rfl) (fun _ _ _ h => h) (by rfl) hS ?_ ?_
    rotate_left
    · intro wS hSw
      try dsimp only at hSw
      first | (go_simp; done) | (go_simp; with_reducible rfl)
    try simp only [Act.put, List.getElem_toArray, List.getElem_cons_zero, List.getElem_cons_succ, List.setIfInBounds_toArray, List.set_cons_zero, List.set_cons_succ]
    refine upto_takeN (i := 3) (v := ?_) rfl (by kernel_rfl) (by kernel_rfl) (by kernel_rfl) (by kernel_rfl) (fun _ _ _ h => h) (by rfl) hS ?_ ?_
    rotate_left
    · intro wS hSw
      try dsimp only at hSw
      first | (go_simp; done) | (go_simp; with_reducible rfl)
    try simp only [Act.put, List.getElem_toArray, List.getElem_cons_zero, List.getElem_cons_succ, List.setIfInBounds_toArray, List.set_cons_zero, List.set_cons_succ]
    refine upto_takeN (i := 4) (v := ?_) rfl (by kernel_rfl) (by kernel_rfl) (by kernel_rfl) (by kernel_rfl) (fun _ _ _ h => h) (by rfl) hS ?_ ?_
    rotate_left
    · intro wS hSw
      try dsimp only at hSw
      first | (go_simp; done) | (go_simp; with_reducible rfl)
    try simp only [Act.put, List.getElem_toArray, List.getElem_cons_zero, List.getElem_cons_succ, List.setIfInBounds_toArray, List.set_cons_zero, List.set_cons_succ]
    refine upto_takeN (i := 5) (v := (.bool false)) rfl (by kernel_rfl) (by kernel_rfl) (by kernel_rfl) (by kernel_rfl) (fun _ _ _ h => h) (by rfl) hS ?_ ?_
    · intro wS hSw
      try dsimp only at hSw
      go_simp
    try simp only [Act.put, List.getElem_toArray, List.getElem_cons_zero, List.getElem_cons_succ, List.setIfInBounds_toArray, List.set_cons_zero, List.set_cons_succ]
    refine upto_done (by kernel_rfl) ?_
    refine NoPanic.normal ?_
    clear hS
    replace c0 := cell_keep (Below.drew (Below.refl _ _)) c0
    replace c1 := cell_keep (Below.drew (Below.refl _ _)) c1
    replace c2 := cell_keep (Below.drew (Below.refl _ _)) c2
    replace c3 := cell_keep (Below.drew (Below.refl _ _)) c3
    replace c4 := cell_keep (Below.drew (Below.refl _ _)) c4
    replace c5 := cell_keep (Below.drew (Below.refl _ _)) c5
    replace r0 := cell_keep (Below.drew (Below.refl _ _)) r0
    replace r1 := cell_keep (Below.drew (Below.refl _ _)) r1
    replace cf : ∀ o, w3.drew.frozen? ⟨B, o, none⟩ = false := fun o => by rw [(bcell (Below.drew (Below.refl _ w3))).2 _ _ hBW]; exact cf o
    replace hblk : w3.drew.heap[B]? = some (.cells ob 87) := hblk
    replace ov := votsR.keep ov (Below.drew (Below.refl _ w3))
    replace hW1 : Below base w w3.drew := hW1.trans (Below.drew (Below.refl _ _) |>.mono hbs)
    replace hBW : B < w3.drew.heap.size := hBW
    replace hWs : w.heap.size < w3.drew.heap.size := hWs
    replace hbs : base ≤ w3.drew.heap.size := hbs
    generalize w3.drew = W4 at *
    go_wp2
    obtain ⟨Y, hY⟩ : ∃ Y, Y = (W4.setCell ⟨B, 3, none⟩ (.int .i64 v.bal)).setCell ⟨B, 4, none⟩ (.int .i64 v.val) := ⟨_, rfl⟩
    rw [← hY]
    replace c0 : Y.cell? ⟨B, 0, none⟩ = some (.int .i64 d.con) := by rw [hY]; simp [go_sem, c0]
    replace c1 : Y.cell? ⟨B, 1, none⟩ = some (.int .i64 d.sh) := by rw [hY]; simp [go_sem, c1]
    replace c2 : Y.cell? ⟨B, 2, none⟩ = some (.int .i64 v.bal) := by rw [hY]; simp [go_sem, c2]
    replace c3 : Y.cell? ⟨B, 3, none⟩ = some (.int .i64 v.bal) := by rw [hY]; simp [go_sem, c3]
    replace c4 : Y.cell? ⟨B, 4, none⟩ = some (.int .i64 v.val) := by rw [hY]; simp [go_sem, c4]
    replace c5 : Y.cell? ⟨B, 5, none⟩ = some (.slice a d.cast.length c) := by rw [hY]; simp [go_sem, c5]
    replace r0 : Y.cell? ⟨w.heap.size, 0, none⟩ = some (.int .i64 v.bal) := by rw [hY]; simp [go_sem, r0]; try omega
    replace r1 : Y.cell? ⟨w.heap.size, 1, none⟩ = some (.int .i64 v.val) := by rw [hY]; simp [go_sem, r1]; try omega
    replace cf : ∀ o, Y.frozen? ⟨B, o, none⟩ = false := fun o => by rw [hY]; simp [go_sem, cf]
    replace ov : votsR.O Y base F (.slice a d.cast.length c) d.cast := by rw [hY]; exact Rep.setN _ (Rep.setN _ ov _ hFB) _ hFB
    replace hW1 : Below base w Y := by rw [hY]; exact (hW1.setCell hbB _).setCell hbB _
    replace hblk : ∃ ob, Y.heap[B]? = some (.cells ob 87) := by
      rw [hY]
      obtain ⟨ob1, h⟩ := heap_set (p := ⟨B, 3, none⟩) (u := .int .i64 v.bal) hblk
      exact heap_set (p := ⟨B, 4, none⟩) h
    replace hBW : B < Y.heap.size := World.block_lt_of_cell? Y _ c0
    replace hWs : w.heap.size < Y.heap.size := World.block_lt_of_cell? Y _ r0
    replace hbs : base ≤ Y.heap.size := by omega
    clear hY
    obtain ⟨ob1, hblk⟩ := hblk
    have hFo : ∀ b, (Value.slice a d.cast.length c).ownBlock = some b → F b := fun b hb => by rw [ov.2]; exact hb
    have nB : some B ≠ (Value.slice a d.cast.length c).ownBlock := fun h => hFB (hFo B h.symm)
    have nW : some w.heap.size ≠ (Value.slice a d.cast.length c).ownBlock := fun h => by have := hlt0 _ (hFo _ h.symm); omega
    refine wp_region_noPanic ?_
    refine region_upto (fun W => Below base w W ∧ (W.cell? ⟨w.heap.size, 0, none⟩ = some (.int .i64 v.bal) ∧ W.cell? ⟨w.heap.size, 1, none⟩ = some (.int .i64 v.val)) ∧ W.cell? ⟨B, 5, none⟩ = some (.slice a d.cast.length c)) 10 (by kernel_rfl) ⟨Below.drew hW1, ⟨cell_keep (Below.drew (Below.refl _ _)) r0, cell_keep (Below.drew (Below.refl _ _)) r1⟩, cell_keep (Below.drew (Below.refl _ _)) c5⟩ (fun hS => ?_)
    refine upto_take (i := 0) (v := ?_) rfl (by kernel_rfl) (by kernel_rfl) (by kernel_rfl) (by kernel_rfl) (fun _ _ _ h => h) (by rfl) hS ?_ ?_
    rotate_left
    · intro wS hSw
      try dsimp only at hSw
      first | (go_simp; done) | (go_simp; with_reducible rfl)
    try simp only [Act.put, List.getElem_toArray, List.getElem_cons_zero, List.getElem_cons_succ, List.setIfInBounds_toArray, List.set_cons_zero, List.set_cons_succ]
    refine upto_take (i := 1) (v := ?_) rfl (by kernel_rfl) (by kernel_rfl) (by kernel_rfl) (by kernel_rfl) (fun _ _ _ h => h) (by rfl) hS ?_ ?_
    rotate_left
    · intro wS hSw
      try dsimp only at hSw
      first | (go_simp; done) | (go_simp; with_reducible rfl)
    try simp only [Act.put, List.getElem_toArray, List.getElem_cons_zero, List.getElem_cons_succ, List.setIfInBounds_toArray, List.set_cons_zero, List.set_cons_succ]
    refine upto_take (i := 2) (v := ?_) rfl (by kernel_rfl) (by kernel_rfl) (by kernel_rfl) (by kernel_rfl) (fun _ _ _ h => h) (by rfl) hS ?_ ?_
    rotate_left
    · intro wS hSw
      try dsimp only at hSw
      first | (go_simp; done) | (go_simp; with_reducible rfl)
    try simp only [Act.put, List.getElem_toArray, List.getElem_cons_zero, List.getElem_cons_succ, List.setIfInBounds_toArray, List.set_cons_zero, List.set_cons_succ]
    refine upto_take (i := 3) (v := ?_) rfl (by kernel_rfl) (by kernel_rfl) (by kernel_rfl) (by kernel_rfl) (fun _ _ _ h => h) (by rfl) hS ?_ ?_
    rotate_left
    · intro wS hSw
      try dsimp only at hSw
      first | (go_simp; done) | (go_simp; with_reducible rfl)
    try simp only [Act.put, List.getElem_toArray, List.getElem_cons_zero, List.getElem_cons_succ, List.setIfInBounds_toArray, List.set_cons_zero, List.set_cons_succ]
    refine upto_take (i := 4) (v := ?_) rfl (by kernel_rfl) (by kernel_rfl) (by kernel_rfl) (by kernel_rfl) (fun _ _ _ h => h) (by rfl) hS ?_ ?_
    rotate_left
    · intro wS hSw
      try dsimp only at hSw
      first | (go_simp; done) | (go_simp; with_reducible rfl)
    try simp only [Act.put, List.getElem_toArray, List.getElem_cons_zero, List.getElem_cons_succ, List.setIfInBounds_toArray, List.set_cons_zero, List.set_cons_succ]
    refine upto_take (i := 5) (v := ?_) rfl (by kernel_rfl) (by kernel_rfl) (by kernel_rfl) (by kernel_rfl) (fun _ _ _ h => h) (by rfl) hS ?_ ?_
    rotate_left
    · intro wS hSw
      try dsimp only at hSw
      first | (go_simp; done) | (go_simp; with_reducible rfl)
    try simp only [Act.put, List.getElem_toArray, List.getElem_cons_zero, List.getElem_cons_succ, List.setIfInBounds_toArray, List.set_cons_zero, List.set_cons_succ]
    refine upto_step (i := 6) (by kernel_rfl) rfl ?_
    intro K hK
    go_simp
    refine hK _ _ (fun _ => ⟨(Below.drew hW1).alloc hbs _, ⟨cell_keep (balloc (Below.drew (Below.refl _ _)) _) r0, cell_keep (balloc (Below.drew (Below.refl _ _)) _) r1⟩, cell_keep (balloc (Below.drew (Below.refl _ _)) _) c5⟩) ?_
    clear hK K
    try simp only [Act.put, List.getElem_toArray, List.getElem_cons_zero, List.getElem_cons_succ, List.setIfInBounds_toArray, List.set_cons_zero, List.set_cons_succ]
    refine upto_step (i := 7) (by kernel_rfl) rfl ?_
    intro K hK
    refine step_appV _ rfl _ _ rfl base _ d.cast rfl _ [v] rfl (votsR.alloc (votsR.keep ov (Below.drew (Below.refl _ _))) _).1 ?_ ?_ ?_ ?_
    · exact appAny_vot (g := Y.heap.size) (by simp [go_sem]) (by simp [go_sem])
    · simp; omega
    · simp; omega
    intro v5 w5 o5 hg5 hB5
    obtain ⟨p5, q5, rfl⟩ := owns_form o5
    have hw5 : Below base w w5 := hB5 w ((Below.drew hW1).alloc hbs _)
    replace c0 := hg5.cell (cell_keep (balloc (Below.drew (Below.refl _ Y)) _) c0) nB
    replace c1 := hg5.cell (cell_keep (balloc (Below.drew (Below.refl _ Y)) _) c1) nB
    replace c2 := hg5.cell (cell_keep (balloc (Below.drew (Below.refl _ Y)) _) c2) nB
    replace c3 := hg5.cell (cell_keep (balloc (Below.drew (Below.refl _ Y)) _) c3) nB
    replace c4 := hg5.cell (cell_keep (balloc (Below.drew (Below.refl _ Y)) _) c4) nB
    replace c5 := hg5.cell (cell_keep (balloc (Below.drew (Below.refl _ Y)) _) c5) nB
    replace r0 := hg5.cell (cell_keep (balloc (Below.drew (Below.refl _ Y)) _) r0) nW
    replace r1 := hg5.cell (cell_keep (balloc (Below.drew (Below.refl _ Y)) _) r1) nW
    replace cf : ∀ o, w5.frozen? ⟨B, o, none⟩ = false := fun o => (hg5.frozen_far ⟨B, o, none⟩ (by simp; omega) nB).trans (((bcell (balloc (Below.drew (Below.refl _ Y)) _)).2 _ _ hBW).trans (cf o))
    replace hblk : w5.heap[B]? = some (.cells ob1 87) := (hg5.block B (by simp; omega) nB).trans (((balloc (Below.drew (Below.refl _ Y)) _).block B hBW).trans hblk)
    have hne5 := own_other o5 hblk (by decide)
    have o6 : ∃ F, votsR.O w5 base F (.slice p5 (d.cast ++ [v]).length q5) (d.cast ++ [v]) ∧ ¬ F B := ⟨_, ⟨o5, rfl⟩, hne5⟩
    obtain ⟨F5, o6, hF5⟩ := o6
    have hS5 : (fun W => Below base w W ∧ (W.cell? ⟨w.heap.size, 0, none⟩ = some (.int .i64 v.bal) ∧ W.cell? ⟨w.heap.size, 1, none⟩ = some (.int .i64 v.val)) ∧ W.cell? ⟨B, 5, none⟩ = some (.slice a d.cast.length c)) w5 := ⟨hw5, ⟨r0, r1⟩, c5⟩
    refine hK _ _ (fun _ => hS5) ?_
    clear hK K
    try simp only [Act.put, List.getElem_toArray, List.getElem_cons_zero, List.getElem_cons_succ, List.setIfInBounds_toArray, List.set_cons_zero, List.set_cons_succ]
    refine upto_step (i := 8) (by kernel_rfl) rfl ?_
    intro K hK
    go_simp
    refine hK _ _ (fun _ => hS5) ?_
    clear hK K
    try simp only [Act.put, List.getElem_toArray, List.getElem_cons_zero, List.getElem_cons_succ, List.setIfInBounds_toArray, List.set_cons_zero, List.set_cons_succ]
    refine upto_take (i := 9) (v := ?_) rfl (by kernel_rfl) (by kernel_rfl) (by kernel_rfl) (by kernel_rfl) (fun _ _ _ h => h) (by rfl) hS5 ?_ ?_
    rotate_left
    · intro wS hSw
      try dsimp only at hSw
      first | (go_simp; done) | (go_simp; with_reducible rfl)
    try simp only [Act.put, List.getElem_toArray, List.getElem_cons_zero, List.getElem_cons_succ, List.setIfInBounds_toArray, List.set_cons_zero, List.set_cons_succ]
    refine upto_step (i := 10) (by kernel_rfl) rfl ?_
    intro K hK
    go_simp
    refine hK _ _ (fun h => absurd rfl h) ?_
    clear hK K
    refine upto_done (by kernel_rfl) ?_
    refine NoPanic.normal ?_
    clear hS hS5 hg5 hB5 o5 hne5 ov hblk
    go_wp2
    go_ret
    refine ⟨rfl, hw5.setCell hbB _, fun _ => ⟨p5, _, q5, F5, ⟨?_, ?_, ?_, ?_, ?_, ?_⟩, Rep.setN _ o6 _ hF5⟩⟩
    · simp [go_sem, c0]
    · simp [go_sem, c1]
    · simp [go_sem, c2]
    · simp [go_sem, c3]
    · simp [go_sem, c4]
    · simp [go_sem, c5]
end Go.Proofs.Yteppnppknfldbaa

/-
  PromiseSlot, AcceptSlot, the program's: who answers.
-/
set_option linter.unusedSimpArgs false
set_option linter.unusedVariables false
namespace Go.Proofs.Yteppnppknfldbaa
open Go.RowKit
set_option linter.unusedSectionVars false
variable [DecidableEq Vot] [Inhabited Vot] [DecidableEq Slt] [Inhabited Slt] [DecidableEq SltR] [Inhabited SltR] [DecidableEq Bal] [Inhabited Bal] [DecidableEq Ledg] [Inhabited Ledg] [DecidableEq Leg] [Inhabited Leg]
attribute [local go_sem ↓] Go.wp_at_zero Go.wp_at_succ

theorem isRightP_any (b : Int) (w : World) : Calls Try.prog 96 #[.int .i64 b] w fun e w' => e = .returned (.bool (inB b 0 1000)) ∧ w' = w := by
  go_enter Try.func96, Try.ntmps96
  go_wp2_with (go_at_call 44; refine (isBallot_any _ _).mono ?_; rintro e w' ⟨rfl, rfl⟩)
  go_ret
  exact ⟨rfl, rfl⟩
theorem isRightV_any (v : Vot) (w : World) : Calls Try.prog 95 #[.agg #[.int .i64 v.bal, .int .i64 v.val]] w fun e w' => e = .returned (.bool (votB v)) ∧ Below w.heap.size w w' := by
  go_enter Try.func95, Try.ntmps95
  go_wp2_with fail
  refine (isVote_any v _).mono ?_
  rintro e w1 ⟨rfl, hb1⟩
  have hB1 : Below w.heap.size w w1 := bstep (by (repeat (first | exact Below.refl _ _ | assumption | refine Below.drew ?_ | refine balloc ?_ _ | refine bset ?_ (by simp; omega) _ | refine bset ?_ (by simp) _ | refine bstep ?_ (by assumption)))) hb1
  go_wp2
  go_ret
  exact ⟨rfl, hB1⟩
theorem methP (b : Int) (w : World) : (method 245 84 (.int .i64 b) "loop.example/g00203/impl.isRight").run Try.prog w = .ok (96, .int .i64 b) w := by kernel_rfl
theorem methV (a b : Int) (w : World) : (method 245 75 (.agg #[.int .i64 a, .int .i64 b]) "loop.example/g00203/impl.isRight").run Try.prog w = .ok (95, .agg #[.int .i64 a, .int .i64 b]) w := by kernel_rfl
theorem taP (b : Int) (w : World) : (Instr.typeAssert (.iface 84 (.int .i64 b)) 86 84 true).run Try.prog w = .ok (.tuple #[.int .i64 b, .bool true]) w := by kernel_rfl
theorem taVP (a b : Int) (w : World) : (Instr.typeAssert (.iface 75 (.agg #[.int .i64 a, .int .i64 b])) 86 84 true).run Try.prog w = .ok (.tuple #[.int .i64 0, .bool false]) w := by kernel_rfl
theorem taV (a b : Int) (w : World) : (Instr.typeAssert (.iface 75 (.agg #[.int .i64 a, .int .i64 b])) 86 75 true).run Try.prog w = .ok (.tuple #[.agg #[.int .i64 a, .int .i64 b], .bool true]) w := by kernel_rfl
set_option maxRecDepth 100000 in
set_option maxHeartbeats 4000000 in
theorem answerP_u (x : Value) (d : Slt) (b : Int) (w : World) (hx : sltR.V w x d) (hf : sltFault d = 0) :
    Calls Try.prog 45 #[x, .iface 84 (.int .i64 b)] w fun e w' => ∃ v F, e = .returned v ∧ sltRR.O w' w.heap.size F v (promD d b) ∧ Below w.heap.size w w' := by
  have hX := hx
  obtain ⟨u1, rfl, hx⟩ := hx
  obtain ⟨ax, cx, rfl⟩ := vots_form hx
  clear hx
  have hm := methP b
  have ht := taP b
  have hl := (sltOk_of hf).len
  cases h1 : inB b 0 1000
  · have HD : Hid (promD d b = errS 3) := promD_range hf h1
    go_enter Try.func45, Try.ntmps45
    go_wp2_with (go_at_call 96; refine (isRightP_any _ _).mono ?_; rintro e w' ⟨rfl, hw'⟩; obtain rfl := hw'.symm; rw [h1])
    refine bodyPost_ret (v := .agg #[.int .i64 3, .int .i64 0, .int .i64 0, .int .i64 0, .int .i64 0, .int .i64 0, .int .i64 0, .int .i64 0, .slice none 0 0]) (by simp [results, Try.results45, go_sem]) rfl ?_
    rw [HD.out]
    exact ⟨_, _, rfl, sltR_nil _ _ 3 0 0 0 0 0 0 0, by (repeat (first | exact Below.refl _ _ | assumption | refine Below.drew ?_ | refine balloc ?_ _ | refine bset ?_ (by simp; omega) _ | refine bset ?_ (by simp) _ | refine bstep ?_ (by assumption)))⟩
  · have HF : Hid (sltFault d = 0) := hf
    clear hf
    go_enter Try.func45, Try.ntmps45
    go_wp2_with (first | (go_at_call 96; refine (isRightP_any _ _).mono ?_; rintro e w' ⟨rfl, hw'⟩; obtain rfl := hw'.symm; rw [h1]) | fail)
    refine (copied8_u _ d _ (sltR.below hX (by (repeat (first | exact Below.refl _ _ | assumption | refine Below.drew ?_ | refine balloc ?_ _ | refine bset ?_ (by simp; omega) _ | refine bset ?_ (by simp) _ | refine bstep ?_ (by assumption))))) (by omega)).mono ?_
    rintro e w2 ⟨v2, F2, rfl, o2, hb2⟩
    obtain ⟨u2, F1, rfl, ov, hF⟩ := o2
    obtain ⟨a2, c2, rfl⟩ := vots_form (votsR.ofO ov)
    clear hF
    have hB2 : Below w.heap.size w w2 := bstep (by (repeat (first | exact Below.refl _ _ | assumption | refine Below.drew ?_ | refine balloc ?_ _ | refine bset ?_ (by simp; omega) _ | refine bset ?_ (by simp) _ | refine bstep ?_ (by assumption)))) hb2
    have y0 : w2.cell? ⟨w.heap.size, 0, none⟩ = some (.int .i64 d.con) := cell_keep hb2 (by simp [go_sem])
    have y1 : w2.cell? ⟨w.heap.size, 1, none⟩ = some (.int .i64 d.sh) := cell_keep hb2 (by simp [go_sem])
    have y2 : w2.cell? ⟨w.heap.size, 2, none⟩ = some (.int .i64 d.pr) := cell_keep hb2 (by simp [go_sem])
    have y3 : w2.cell? ⟨w.heap.size, 3, none⟩ = some (.int .i64 d.lb) := cell_keep hb2 (by simp [go_sem])
    have y4 : w2.cell? ⟨w.heap.size, 4, none⟩ = some (.int .i64 d.lv) := cell_keep hb2 (by simp [go_sem])
    have y5 : w2.cell? ⟨w.heap.size, 5, none⟩ = some (.slice ax d.cast.length cx) := cell_keep hb2 (by simp [go_sem])
    have yf : ∀ o, w2.frozen? ⟨w.heap.size, o, none⟩ = false := fun o => by rw [(bcell hb2).2 _ _ (by simp; try omega)]; simp [go_sem]
    have q0 : w2.cell? ⟨w.heap.size + 1, 0, none⟩ = some (.int .i64 0) := cell_keep hb2 (by simp [go_sem])
    have q1 : w2.cell? ⟨w.heap.size + 1, 1, none⟩ = some (.int .i64 0) := cell_keep hb2 (by simp [go_sem])
    have q2 : w2.cell? ⟨w.heap.size + 1, 2, none⟩ = some (.int .i64 0) := cell_keep hb2 (by simp [go_sem])
    have q3 : w2.cell? ⟨w.heap.size + 1, 3, none⟩ = some (.int .i64 0) := cell_keep hb2 (by simp [go_sem])
    have q4 : w2.cell? ⟨w.heap.size + 1, 4, none⟩ = some (.int .i64 0) := cell_keep hb2 (by simp [go_sem])
    have q5 : w2.cell? ⟨w.heap.size + 1, 5, none⟩ = some (.int .i64 0) := cell_keep hb2 (by simp [go_sem])
    have q6 : w2.cell? ⟨w.heap.size + 1, 6, none⟩ = some (.int .i64 0) := cell_keep hb2 (by simp [go_sem])
    have q7 : w2.cell? ⟨w.heap.size + 1, 7, none⟩ = some (.int .i64 0) := cell_keep hb2 (by simp [go_sem])
    have q8 : w2.cell? ⟨w.heap.size + 1, 8, none⟩ = some (.slice none 0 0) := cell_keep hb2 (by simp [go_sem])
    have qf : ∀ o, w2.frozen? ⟨w.heap.size + 1, o, none⟩ = false := fun o => by rw [(bcell hb2).2 _ _ (by simp; try omega)]; simp [go_sem]
    have hs2 := hb2.size
    simp at hs2
    simp only [World.size_alloc] at ov
    clear hb2 hX
    have zz0 : w.heap.size < w2.heap.size := World.block_lt_of_cell? w2 _ y0
    have zz1 : w.heap.size + 1 < w2.heap.size := World.block_lt_of_cell? w2 _ q0
    by_cases h2 : b < d.pr
    · have HD : Hid (promD d b = errS 8) := promD_busy HF.out h1 h2
      go_wp2_with fail
      refine (promise_busy w2.heap.size d.pr b _ (by simp [go_sem]) h2).mono ?_
      rintro e w3 ⟨rfl, hw3⟩
      obtain rfl := hw3.symm
      go_wp2
      refine bodyPost_ret (v := .agg #[.int .i64 8, .int .i64 0, .int .i64 0, .int .i64 0, .int .i64 0, .int .i64 0, .int .i64 0, .int .i64 0, .slice none 0 0]) (by simp [results, Try.results45, go_sem, q0, q1, q2, q3, q4, q5, q6, q7, q8, qf, zz0, zz1]) rfl ?_
      rw [HD.out]
      refine ⟨_, _, rfl, sltR_nil _ _ 8 0 0 0 0 0 0 0, ?_⟩
      refine balloc ?_ _
      iterate 9 (refine bset ?_ (by simp) _)
      exact hB2
    · have HD : Hid (promD d b = ⟨0, d.lb, d.lv, ⟨d.con, d.sh, b, d.lb, d.lv, d.cast⟩⟩) := promD_ok HF.out h1 h2
      go_wp2_with fail
      refine (promise_ok w2.heap.size d.pr b _ (by simp [go_sem]) (by simp [go_sem]) (by omega)).mono ?_
      rintro e w3 ⟨rfl, hw3⟩
      have e3 : w3 = w2.alloc (.cells #[.int .i64 d.con, .int .i64 d.sh, .int .i64 b, .int .i64 d.lb, .int .i64 d.lv, .slice a2 d.cast.length c2] 87) := by rw [hw3]; simp [go_sem]
      clear hw3
      subst e3
      go_wp2
      refine bodyPost_ret (v := .agg #[.int .i64 0, .int .i64 d.lb, .int .i64 d.lv, .int .i64 d.con, .int .i64 d.sh, .int .i64 b, .int .i64 d.lb, .int .i64 d.lv, .slice a2 d.cast.length c2]) (by simp [results, Try.results45, go_sem, q0, q1, q2, q3, q4, q5, q6, q7, q8, qf, zz0, zz1]) rfl ?_
      rw [HD.out]
      refine ⟨_, fun b => F1 b, rfl, ?_, ?_⟩
      · refine ⟨.slice a2 d.cast.length c2, fun b => F1 b, rfl, ?_, fun b => Iff.rfl⟩
        refine ⟨.slice a2 d.cast.length c2, F1, rfl, ?_, fun b => Iff.rfl⟩
        refine votsR.base (base := w.heap.size + 1 + 1) ?_ (by omega)
        refine Rep.alloc _ ?_ _
        iterate 9 (refine Rep.set _ ?_ _ (by simp; try omega))
        exact ov
      · refine balloc ?_ _
        iterate 9 (refine bset ?_ (by simp) _)
        exact hB2
set_option maxRecDepth 100000 in
set_option maxHeartbeats 4000000 in
theorem answerV_u (x : Value) (d : Slt) (v0 : Vot) (w : World) (hx : sltR.V w x d) (hf : sltFault d = 0) :
    Calls Try.prog 45 #[x, .iface 75 (.agg #[.int .i64 v0.bal, .int .i64 v0.val])] w fun e w' => ∃ v F, e = .returned v ∧ sltRR.O w' w.heap.size F v (accD d v0.bal v0.val) ∧ Below w.heap.size w w' := by
  have hX := hx
  obtain ⟨u1, rfl, hx⟩ := hx
  obtain ⟨ax, cx, rfl⟩ := vots_form hx
  clear hx
  have hm := methV v0.bal v0.val
  have ht := taVP v0.bal v0.val
  have ht2 := taV v0.bal v0.val
  have hl := (sltOk_of hf).len
  have HF : Hid (sltFault d = 0) := hf
  clear hf
  go_enter Try.func45, Try.ntmps45
  go_wp2_with fail
  refine (isRightV_any v0 _).mono ?_
  rintro e w1 ⟨rfl, hb1⟩
  have hB1 : Below w.heap.size w w1 := bstep (by (repeat (first | exact Below.refl _ _ | assumption | refine Below.drew ?_ | refine balloc ?_ _ | refine bset ?_ (by simp; omega) _ | refine bset ?_ (by simp) _ | refine bstep ?_ (by assumption)))) hb1
  have y0 : w1.cell? ⟨w.heap.size, 0, none⟩ = some (.int .i64 d.con) := cell_keep hb1 (by simp [go_sem])
  have y1 : w1.cell? ⟨w.heap.size, 1, none⟩ = some (.int .i64 d.sh) := cell_keep hb1 (by simp [go_sem])
  have y2 : w1.cell? ⟨w.heap.size, 2, none⟩ = some (.int .i64 d.pr) := cell_keep hb1 (by simp [go_sem])
  have y3 : w1.cell? ⟨w.heap.size, 3, none⟩ = some (.int .i64 d.lb) := cell_keep hb1 (by simp [go_sem])
  have y4 : w1.cell? ⟨w.heap.size, 4, none⟩ = some (.int .i64 d.lv) := cell_keep hb1 (by simp [go_sem])
  have y5 : w1.cell? ⟨w.heap.size, 5, none⟩ = some (.slice ax d.cast.length cx) := cell_keep hb1 (by simp [go_sem])
  have yf : ∀ o, w1.frozen? ⟨w.heap.size, o, none⟩ = false := fun o => by rw [(bcell hb1).2 _ _ (by simp; try omega)]; simp [go_sem]
  have q0 : w1.cell? ⟨w.heap.size + 1, 0, none⟩ = some (.int .i64 0) := cell_keep hb1 (by simp [go_sem])
  have q1 : w1.cell? ⟨w.heap.size + 1, 1, none⟩ = some (.int .i64 0) := cell_keep hb1 (by simp [go_sem])
  have q2 : w1.cell? ⟨w.heap.size + 1, 2, none⟩ = some (.int .i64 0) := cell_keep hb1 (by simp [go_sem])
  have q3 : w1.cell? ⟨w.heap.size + 1, 3, none⟩ = some (.int .i64 0) := cell_keep hb1 (by simp [go_sem])
  have q4 : w1.cell? ⟨w.heap.size + 1, 4, none⟩ = some (.int .i64 0) := cell_keep hb1 (by simp [go_sem])
  have q5 : w1.cell? ⟨w.heap.size + 1, 5, none⟩ = some (.int .i64 0) := cell_keep hb1 (by simp [go_sem])
  have q6 : w1.cell? ⟨w.heap.size + 1, 6, none⟩ = some (.int .i64 0) := cell_keep hb1 (by simp [go_sem])
  have q7 : w1.cell? ⟨w.heap.size + 1, 7, none⟩ = some (.int .i64 0) := cell_keep hb1 (by simp [go_sem])
  have q8 : w1.cell? ⟨w.heap.size + 1, 8, none⟩ = some (.slice none 0 0) := cell_keep hb1 (by simp [go_sem])
  have qf : ∀ o, w1.frozen? ⟨w.heap.size + 1, o, none⟩ = false := fun o => by rw [(bcell hb1).2 _ _ (by simp; try omega)]; simp [go_sem]
  have hs1 := hb1.size
  simp at hs1
  clear hb1
  cases h1 : votB v0
  · have HD : Hid (accD d v0.bal v0.val = errS 3) := accD_range HF.out h1
    go_wp2
    refine bodyPost_ret (v := .agg #[.int .i64 3, .int .i64 0, .int .i64 0, .int .i64 0, .int .i64 0, .int .i64 0, .int .i64 0, .int .i64 0, .slice none 0 0]) (by simp [results, Try.results45, go_sem, q0, q1, q2, q3, q4, q5, q6, q7, q8, qf]) rfl ?_
    rw [HD.out]
    refine ⟨_, _, rfl, sltR_nil _ _ 3 0 0 0 0 0 0 0, ?_⟩
    iterate 9 (refine bset ?_ (by simp) _)
    exact hB1
  go_wp2_with fail
  refine (copied8_u _ d _ (sltR.below hX hB1) (by omega)).mono ?_
  rintro e w2 ⟨v2, F2, rfl, o2, hb2⟩
  obtain ⟨u2, F1, rfl, ov, hF⟩ := o2
  obtain ⟨a2, c2, rfl⟩ := vots_form (votsR.ofO ov)
  clear hF
  have hB2 : Below w.heap.size w w2 := bstep hB1 hb2
  replace y0 := cell_keep hb2 y0
  replace y1 := cell_keep hb2 y1
  replace y2 := cell_keep hb2 y2
  replace y3 := cell_keep hb2 y3
  replace y4 := cell_keep hb2 y4
  replace y5 := cell_keep hb2 y5
  replace q0 := cell_keep hb2 q0
  replace q1 := cell_keep hb2 q1
  replace q2 := cell_keep hb2 q2
  replace q3 := cell_keep hb2 q3
  replace q4 := cell_keep hb2 q4
  replace q5 := cell_keep hb2 q5
  replace q6 := cell_keep hb2 q6
  replace q7 := cell_keep hb2 q7
  replace q8 := cell_keep hb2 q8
  replace qf : ∀ o, w2.frozen? ⟨w.heap.size + 1, o, none⟩ = false := fun o => by rw [(bcell hb2).2 _ _ (by omega)]; exact qf o
  have hs2 := hb2.size
  clear hb2 hX hB1 yf
  have zz0 : w.heap.size < w2.heap.size := World.block_lt_of_cell? w2 _ y0
  have zz1 : w.heap.size + 1 < w2.heap.size := World.block_lt_of_cell? w2 _ q0
  have hFB : ¬ F1 w2.heap.size := fun h => by have := (votsR.rng ov _ h).2; omega
  go_wp2_with fail
  have hAcc := fun W h0 h1 h2 h3 h4 h5 h6 hh => accept_any w2.heap.size w1.heap.size d v0 a2 c2 F1 #[.int .i64 d.con, .int .i64 d.sh, .int .i64 d.pr, .int .i64 d.lb, .int .i64 d.lv, .slice a2 d.cast.length c2] W h0 h1 h2 h3 h4 h5 h6 hh
  refine (hAcc _ ⟨by simp [go_sem], by simp [go_sem], by simp [go_sem], by simp [go_sem], by simp [go_sem], by simp [go_sem]⟩ (by simp [go_sem]) (heap_new2 _ _ _) (votsR.alloc (votsR.alloc ov _) _) hFB (by omega) (by simp; omega) hl).mono ?_
  rintro e w3 ⟨rfl, hb3, h3⟩
  have hB3 : Below w.heap.size w w3 := Below.trans (balloc (balloc hB2 _) _) (hb3.mono (by omega))
  replace y3 := (hb3.cell (p := ⟨w.heap.size, 3, none⟩) (by simp; omega)).trans (cell_keep (balloc (balloc (Below.refl _ w2) _) _) y3)
  replace y4 := (hb3.cell (p := ⟨w.heap.size, 4, none⟩) (by simp; omega)).trans (cell_keep (balloc (balloc (Below.refl _ w2) _) _) y4)
  replace q0 := (hb3.cell (p := ⟨w.heap.size + 1, 0, none⟩) (by simp; omega)).trans (cell_keep (balloc (balloc (Below.refl _ w2) _) _) q0)
  replace q1 := (hb3.cell (p := ⟨w.heap.size + 1, 1, none⟩) (by simp; omega)).trans (cell_keep (balloc (balloc (Below.refl _ w2) _) _) q1)
  replace q2 := (hb3.cell (p := ⟨w.heap.size + 1, 2, none⟩) (by simp; omega)).trans (cell_keep (balloc (balloc (Below.refl _ w2) _) _) q2)
  replace q3 := (hb3.cell (p := ⟨w.heap.size + 1, 3, none⟩) (by simp; omega)).trans (cell_keep (balloc (balloc (Below.refl _ w2) _) _) q3)
  replace q4 := (hb3.cell (p := ⟨w.heap.size + 1, 4, none⟩) (by simp; omega)).trans (cell_keep (balloc (balloc (Below.refl _ w2) _) _) q4)
  replace q5 := (hb3.cell (p := ⟨w.heap.size + 1, 5, none⟩) (by simp; omega)).trans (cell_keep (balloc (balloc (Below.refl _ w2) _) _) q5)
  replace q6 := (hb3.cell (p := ⟨w.heap.size + 1, 6, none⟩) (by simp; omega)).trans (cell_keep (balloc (balloc (Below.refl _ w2) _) _) q6)
  replace q7 := (hb3.cell (p := ⟨w.heap.size + 1, 7, none⟩) (by simp; omega)).trans (cell_keep (balloc (balloc (Below.refl _ w2) _) _) q7)
  replace q8 := (hb3.cell (p := ⟨w.heap.size + 1, 8, none⟩) (by simp; omega)).trans (cell_keep (balloc (balloc (Below.refl _ w2) _) _) q8)
  replace qf : ∀ o, w3.frozen? ⟨w.heap.size + 1, o, none⟩ = false := fun o => (hb3.frozen (p := ⟨w.heap.size + 1, o, none⟩) (by simp; omega)).trans (((bcell (balloc (balloc (Below.refl _ w2) _) _)).2 _ _ zz1).trans (qf o))
  clear hb3 hB2 ov hAcc zz0 zz1 y0 y1 y2 y5
  by_cases hc : accC d v0 = 0
  · have HD : Hid (accD d v0.bal v0.val = ⟨0, d.lb, d.lv, accS d v0⟩) := accD_ok HF.out h1 hc
    obtain ⟨a5, n5, c5, F5, ⟨b0, b1, b2, b3, b4, b5⟩, o5⟩ := h3 hc
    rw [hc]
    clear hc h3
    generalize accS d v0 = s at *
    go_wp2
    refine bodyPost_ret (v := .agg #[.int .i64 0, .int .i64 d.lb, .int .i64 d.lv, .int .i64 s.con, .int .i64 s.sh, .int .i64 s.pr, .int .i64 s.lb, .int .i64 s.lv, .slice a5 n5 c5]) (by simp [results, Try.results45, go_sem, q0, q1, q2, q3, q4, q5, q6, q7, q8, qf]) rfl ?_
    rw [HD.out]
    refine ⟨_, fun b => F5 b, rfl, ?_, ?_⟩
    · refine ⟨.slice a5 n5 c5, fun b => F5 b, rfl, ?_, fun b => Iff.rfl⟩
      refine ⟨.slice a5 n5 c5, F5, rfl, ?_, fun b => Iff.rfl⟩
      refine votsR.base (base := w1.heap.size) ?_ (by omega)
      iterate 9 (refine Rep.set _ ?_ _ (by simp; omega))
      exact o5
    · iterate 9 (refine bset ?_ (by simp) _)
      exact hB3
  · have HD : Hid (accD d v0.bal v0.val = errS (accC d v0)) := accD_code HF.out h1 hc
    generalize accC d v0 = c at *
    clear h3
    go_wp2
    refine bodyPost_ret (v := .agg #[.int .i64 c, .int .i64 0, .int .i64 0, .int .i64 0, .int .i64 0, .int .i64 0, .int .i64 0, .int .i64 0, .slice none 0 0]) (by simp [results, Try.results45, go_sem, q0, q1, q2, q3, q4, q5, q6, q7, q8, qf]) rfl ?_
    rw [HD.out]
    refine ⟨_, _, rfl, sltR_nil _ _ c 0 0 0 0 0 0 0, ?_⟩
    iterate 9 (refine bset ?_ (by simp) _)
    exact hB3
end Go.Proofs.Yteppnppknfldbaa

/-
  PromiseAt, AcceptAt, the program's.
-/
set_option linter.unusedSimpArgs false
set_option linter.unusedVariables false
namespace Go.Proofs.Yteppnppknfldbaa
open Go.RowKit
set_option linter.unusedSectionVars false
variable [DecidableEq Vot] [Inhabited Vot] [DecidableEq Slt] [Inhabited Slt] [DecidableEq Bal] [Inhabited Bal] [DecidableEq Ledg] [Inhabited Ledg] [DecidableEq Leg] [Inhabited Leg] [DecidableEq Acc] [Inhabited Acc] [DecidableEq SltR] [Inhabited SltR] [DecidableEq AccR] [Inhabited AccR] [DecidableEq AccsR] [Inhabited AccsR] [DecidableEq SltsR] [Inhabited SltsR]
attribute [local go_sem ↓] Go.wp_at_zero Go.wp_at_succ

set_option maxHeartbeats 1000000 in
theorem implPromAt_u (x : Value) (d : Acc) (c s b : Int) (w : World) (hx : accR.V w x d) :
    Calls Try.prog 31 #[x, .int .i64 c, .int .i64 s, .int .i64 b] w (AskE (promAtD d.slots c s b) w) := by
  have HA : Hid (∀ W, Below w.heap.size w W → Calls Try.prog 34 #[x, .int .i64 c, .int .i64 s, .iface 84 (.int .i64 b)] W (AskE (promAtD d.slots c s b) W)) := fun W hW => askAt_u (fun d => promD d b) (.iface 84 (.int .i64 b)) (fun W x d hx hf => answerP_u x d b W hx hf) x d c s W (accR.below hx hW)
  generalize promAtD d.slots c s b = R at *
  obtain ⟨u1, rfl, hx⟩ := hx
  obtain ⟨au, cu, rfl⟩ := slts_form hx
  clear hx
  generalize d.slots.length = n at *
  go_enter Try.func31, Try.ntmps31
  go_wp2_with fail
  refine (HA.out _ (by (repeat (first | exact Below.refl _ _ | assumption | refine Below.drew ?_ | refine balloc ?_ _ | refine bset ?_ (by simp; omega) _ | refine bset ?_ (by simp) _ | refine bstep ?_ (by assumption))))).mono ?_
  rintro e w1 ⟨v, F, rfl, o1, hb1⟩
  obtain ⟨av, cv, rfl, o2⟩ := accR_cells o1
  have hB1 : Below w.heap.size w w1 := by (repeat (first | exact Below.refl _ _ | assumption | refine Below.drew ?_ | refine balloc ?_ _ | refine bset ?_ (by simp; omega) _ | refine bset ?_ (by simp) _ | refine bstep ?_ (by assumption)))
  have hz1 := hb1.size
  simp at hz1
  obtain ⟨c1, f1⟩ := bcell hb1
  have r0 : w1.cell? ⟨w.heap.size + 1, 0, none⟩ = some (.int .i64 0) := cell_keep hb1 (by simp [go_sem])
  have r1 : w1.cell? ⟨w.heap.size + 1, 1, none⟩ = some (.int .i64 0) := cell_keep hb1 (by simp [go_sem])
  have r2 : w1.cell? ⟨w.heap.size + 1, 2, none⟩ = some (.int .i64 0) := cell_keep hb1 (by simp [go_sem])
  have r3 : w1.cell? ⟨w.heap.size + 1, 3, none⟩ = some (.slice none 0 0) := cell_keep hb1 (by simp [go_sem])
  have rf : ∀ o, w1.frozen? ⟨w.heap.size + 1, o, none⟩ = false := fun o => by rw [f1 _ _ (by simp; try omega)]; simp [go_sem]
  have HFl : Hid (∀ b, F b → w.heap.size + 2 ≤ b) := fun b hb => by have := (accR.rng o2 b hb).1; simpa using this
  have HO : Hid (accR.O w1 w.heap.size F (.agg #[.slice av R.acc.slots.length cv]) R.acc) := accR.base o2 (by simp; omega)
  clear hb1 c1 f1 o1 o2 HA
  generalize hm : R.acc.slots.length = m at *
  go_wp2
  refine bodyPost_ret (v := .agg #[.int .i64 R.code, .int .i64 R.ob, .int .i64 R.ov, .slice av m cv]) (by simp [results, Try.results31, go_sem, r0, r1, r2, r3, rf]) rfl ⟨_, F, rfl, ⟨_, F, rfl, ?_, fun b => Iff.rfl⟩, by (repeat (first | refine bset ?_ (by simp; omega) _ | refine bset ?_ (by simp) _ | refine balloc ?_ _ | assumption))⟩
  have hk : ∀ (W : World) (u : Value) (j : Nat), accR.O W w.heap.size F (.agg #[.slice av m cv]) R.acc → accR.O (W.setCell ⟨w.heap.size + 1, j, none⟩ u) w.heap.size F (.agg #[.slice av m cv]) R.acc := fun W u j h => Rep.setN _ h u (fun hb => by have := HFl.out _ hb; dsimp only at this; omega)
  exact hk _ _ _ (hk _ _ _ (hk _ _ _ (hk _ _ _ HO.out)))
set_option maxHeartbeats 1000000 in
theorem implAccAt_u (x : Value) (d : Acc) (c s b vl : Int) (w : World) (hx : accR.V w x d) :
    Calls Try.prog 18 #[x, .int .i64 c, .int .i64 s, .int .i64 b, .int .i64 vl] w (AskE (accAtD d.slots c s b vl) w) := by
  have HA : Hid (∀ W, Below w.heap.size w W → Calls Try.prog 34 #[x, .int .i64 c, .int .i64 s, .iface 75 (.agg #[.int .i64 b, .int .i64 vl])] W (AskE (accAtD d.slots c s b vl) W)) := fun W hW => askAt_u (fun d => accD d b vl) (.iface 75 (.agg #[.int .i64 b, .int .i64 vl])) (fun W x d hx hf => answerV_u x d ⟨b, vl⟩ W hx hf) x d c s W (accR.below hx hW)
  generalize accAtD d.slots c s b vl = R at *
  obtain ⟨u1, rfl, hx⟩ := hx
  obtain ⟨au, cu, rfl⟩ := slts_form hx
  clear hx
  generalize d.slots.length = n at *
  go_enter Try.func18, Try.ntmps18
  go_wp2_with fail
  refine (HA.out _ (by (repeat (first | exact Below.refl _ _ | assumption | refine Below.drew ?_ | refine balloc ?_ _ | refine bset ?_ (by simp; omega) _ | refine bset ?_ (by simp) _ | refine bstep ?_ (by assumption))))).mono ?_
  rintro e w1 ⟨v, F, rfl, o1, hb1⟩
  obtain ⟨av, cv, rfl, o2⟩ := accR_cells o1
  have hB1 : Below w.heap.size w w1 := by (repeat (first | exact Below.refl _ _ | assumption | refine Below.drew ?_ | refine balloc ?_ _ | refine bset ?_ (by simp; omega) _ | refine bset ?_ (by simp) _ | refine bstep ?_ (by assumption)))
  have hz1 := hb1.size
  simp at hz1
  obtain ⟨c1, f1⟩ := bcell hb1
  have r0 : w1.cell? ⟨w.heap.size + 1, 0, none⟩ = some (.int .i64 0) := cell_keep hb1 (by simp [go_sem])
  have r1 : w1.cell? ⟨w.heap.size + 1, 1, none⟩ = some (.int .i64 0) := cell_keep hb1 (by simp [go_sem])
  have r2 : w1.cell? ⟨w.heap.size + 1, 2, none⟩ = some (.int .i64 0) := cell_keep hb1 (by simp [go_sem])
  have r3 : w1.cell? ⟨w.heap.size + 1, 3, none⟩ = some (.slice none 0 0) := cell_keep hb1 (by simp [go_sem])
  have rf : ∀ o, w1.frozen? ⟨w.heap.size + 1, o, none⟩ = false := fun o => by rw [f1 _ _ (by simp; try omega)]; simp [go_sem]
  have HFl : Hid (∀ b, F b → w.heap.size + 2 ≤ b) := fun b hb => by have := (accR.rng o2 b hb).1; simpa using this
  have HO : Hid (accR.O w1 w.heap.size F (.agg #[.slice av R.acc.slots.length cv]) R.acc) := accR.base o2 (by simp; omega)
  clear hb1 c1 f1 o1 o2 HA
  generalize hm : R.acc.slots.length = m at *
  go_wp2
  refine bodyPost_ret (v := .agg #[.int .i64 R.code, .int .i64 R.ob, .int .i64 R.ov, .slice av m cv]) (by simp [results, Try.results18, go_sem, r0, r1, r2, r3, rf]) rfl ⟨_, F, rfl, ⟨_, F, rfl, ?_, fun b => Iff.rfl⟩, by (repeat (first | refine bset ?_ (by simp; omega) _ | refine bset ?_ (by simp) _ | refine balloc ?_ _ | assumption))⟩
  have hk : ∀ (W : World) (u : Value) (j : Nat), accR.O W w.heap.size F (.agg #[.slice av m cv]) R.acc → accR.O (W.setCell ⟨w.heap.size + 1, j, none⟩ u) w.heap.size F (.agg #[.slice av m cv]) R.acc := fun W u j h => Rep.setN _ h u (fun hb => by have := HFl.out _ hb; dsimp only at this; omega)
  exact hk _ _ _ (hk _ _ _ (hk _ _ _ (hk _ _ _ HO.out)))
end Go.Proofs.Yteppnppknfldbaa


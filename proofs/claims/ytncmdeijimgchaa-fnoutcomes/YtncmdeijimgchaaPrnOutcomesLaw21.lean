import Derived.Test.YtncmdeijimgchaaPrnOutcomesLaw20
import Derived.Test.YtncmdeijimgchaaPrnOutcomesLaw9
import Derived.BigQuiet
import Derived.Deep.QuietTactic
import Derived.Deep.RegionHeld3
import Derived.Test.YtncmdeijimgchaaPrnOutcomesLaw7
import Derived.Test.YtncmdeijimgchaaPrnOutcomesLaw11
import Derived.Test.YtncmdeijimgchaaPrnOutcomesLaw10
import Derived.Test.YtncmdeijimgchaaPrnOutcomesLaw4

/-
  Acceptors stored and read.
-/
set_option linter.unusedSimpArgs false
set_option linter.unusedVariables false
namespace Go.Proofs.Ytncmdeijimgchaa
open Go.RowKit
set_option linter.unusedSectionVars false
variable [DecidableEq Vot] [Inhabited Vot] [DecidableEq Slt] [Inhabited Slt] [DecidableEq SltR] [Inhabited SltR] [DecidableEq Bal] [Inhabited Bal] [DecidableEq Ledg] [Inhabited Ledg] [DecidableEq Leg] [Inhabited Leg] [DecidableEq Acc] [Inhabited Acc] [DecidableEq AccR] [Inhabited AccR] [DecidableEq AccsR] [Inhabited AccsR] [DecidableEq SltsR] [Inhabited SltsR]
attribute [local go_sem ↓] Go.wp_at_zero Go.wp_at_succ

theorem Mod.grow {F : Nat → Prop} {w w1 w2 : World} {row : Option Nat} (h : Mod F w w1) (g : w1.grownBy w2 row) (hr : ∀ b, row = some b → w.heap.size ≤ b) : Mod F w w2 :=
  ⟨g.os.trans h.os, g.tape.trans h.tape, g.output.trans h.output, Nat.le_trans h.size g.size, fun i hi hn => (g.block i (Nat.lt_of_lt_of_le hi h.size) (fun e => by have := hr i e.symm; omega)).trans (h.block i hi hn)⟩
theorem accs_store {w : World} {base g cap i : Nat} {F Fu : Nat → Prop} {xs : List Acc} {x : Acc} {p : Option Addr} {q : Nat} (ho : accsR.O w base F (.slice (some ⟨g, 0, none⟩) xs.length cap) xs) (hi : i < xs.length)
    (hu : accR.O w base Fu (.agg #[.slice p x.slots.length q]) x) (hd : ∀ b, F b → ¬ Fu b) :
    ∃ F', accsR.O (w.setCell ⟨g, i, none⟩ (.slice p x.slots.length q)) base F' (.slice (some ⟨g, 0, none⟩) xs.length cap) (xs.set i x) ∧ Mod (fun b => b = g) w (w.setCell ⟨g, i, none⟩ (.slice p x.slots.length q)) ∧ ∀ b, F' b → F b ∨ Fu b := by
  obtain ⟨cs, us, fs, hp, hF⟩ := ho
  have s1 := hp.row.stored i (.slice p x.slots.length q)
  have hm : Mod (fun b => b = g) w _ := Mod.of_set w ⟨g, i, none⟩ (.slice p x.slots.length q)
  have hcl : cs.length = xs.length * 1 := hp.row.1
  obtain ⟨F', h1, h2⟩ := NO.put hp hF hi hu rfl hd s1.1 (hm.mono (fun b h => by rw [h]; rfl)) (fun j hj hji o ho => by
    rw [List.getElem?_set, if_neg (by omega)]) (fun o ho => by
    obtain rfl : o = 0 := by omega
    rw [List.getElem?_set, if_pos (by omega), if_pos (by omega)]
    rfl)
  exact ⟨F', h1, hm, h2⟩
theorem accs_read {w : World} {base : Nat} {F : Nat → Prop} {v : Value} {xs : List Acc} (ho : accsR.O w base F v xs) {i : Nat} (hi : i < xs.length) : ∃ g cap p q, v = .slice (some ⟨g, 0, none⟩) xs.length cap ∧ xs.length ≤ cap ∧ cap ≤ maxLen ∧ F g ∧ (∀ o, w.frozen? ⟨g, o, none⟩ = false) ∧ w.cell? ⟨g, i, none⟩ = some (.slice p (xs.getD i default).slots.length q) ∧ accR.V w (.agg #[.slice p (xs.getD i default).slots.length q]) (xs.getD i default) := by
  have hv := accsR.ofO ho
  obtain ⟨cs, us, fs, hp, hF⟩ := ho
  rcases hp.row.2 with ⟨_, h⟩ | ⟨g, cap, cur, rfl, _, _, h1, h2, _⟩
  · omega
  · obtain ⟨a, c, e, _, _, hx⟩ := accs_at hv
    simp only [Value.slice.injEq, true_and] at e
    obtain ⟨rfl, rfl⟩ := e
    obtain ⟨b, o, p, q, he, hc, hV⟩ := hx i hi
    simp only [Option.some.injEq, Addr.mk.injEq, and_true] at he
    obtain ⟨rfl, rfl⟩ := he
    rw [Nat.zero_add] at hc
    exact ⟨g, cap, p, q, rfl, h1, h2, (hF g).2 (.inl rfl), fun o => hp.row.frozenAt o, hc, hV⟩
end Go.Proofs.Ytncmdeijimgchaa

/-
  A slot stored in another's place; where it stands.
-/
set_option linter.unusedVariables false
namespace Go.Proofs.Ytncmdeijimgchaa
open Go.RowKit
set_option linter.unusedSectionVars false
variable [DecidableEq Vot] [Inhabited Vot] [DecidableEq Slt] [Inhabited Slt] [DecidableEq Bal] [Inhabited Bal] [DecidableEq Ledg] [Inhabited Ledg] [DecidableEq Leg] [Inhabited Leg] [DecidableEq SltR] [Inhabited SltR] [DecidableEq Acc] [Inhabited Acc] [DecidableEq AccR] [Inhabited AccR] [DecidableEq AccsR] [Inhabited AccsR] [DecidableEq SltsR] [Inhabited SltsR]

theorem Mod.frozen9 {F : Nat → Prop} {w w' : World} (h : Mod F w w') {a : Addr} (hl : a.block < w.heap.size) (hn : ¬ F a.block) : w'.frozen? a = w.frozen? a := World.frozen?_of_block (h.block a.block hl hn)
theorem slts_store {w : World} {base g cap i : Nat} {F Fu : Nat → Prop} {xs : List Slt} {x : Slt} {p : Option Addr} {q : Nat} (ho : sltsR.O w base F (.slice (some ⟨g, 0, none⟩) xs.length cap) xs) (hi : i < xs.length)
    (hu : sltR.O w base Fu (.agg #[.int .i64 x.con, .int .i64 x.sh, .int .i64 x.pr, .int .i64 x.lb, .int .i64 x.lv, .slice p x.cast.length q]) x) (hd : ∀ b, F b → ¬ Fu b) :
    ∃ F', sltsR.O ((((((w.setCell ⟨g, i * 6, none⟩ (.int .i64 x.con)).setCell ⟨g, i * 6 + 1, none⟩ (.int .i64 x.sh)).setCell ⟨g, i * 6 + 2, none⟩ (.int .i64 x.pr)).setCell ⟨g, i * 6 + 3, none⟩ (.int .i64 x.lb)).setCell ⟨g, i * 6 + 4, none⟩ (.int .i64 x.lv)).setCell ⟨g, i * 6 + 5, none⟩ (.slice p x.cast.length q)) base F' (.slice (some ⟨g, 0, none⟩) xs.length cap) (xs.set i x)
      ∧ Mod (fun b => b = g) w ((((((w.setCell ⟨g, i * 6, none⟩ (.int .i64 x.con)).setCell ⟨g, i * 6 + 1, none⟩ (.int .i64 x.sh)).setCell ⟨g, i * 6 + 2, none⟩ (.int .i64 x.pr)).setCell ⟨g, i * 6 + 3, none⟩ (.int .i64 x.lb)).setCell ⟨g, i * 6 + 4, none⟩ (.int .i64 x.lv)).setCell ⟨g, i * 6 + 5, none⟩ (.slice p x.cast.length q)) ∧ ∀ b, F' b → F b ∨ Fu b := by
  obtain ⟨cs, us, fs, hp, hF⟩ := ho
  have s1 := hp.row.stored (i * 6) (.int .i64 x.con)
  have s2 := s1.1.stored (i * 6 + 1) (.int .i64 x.sh)
  have s3 := s2.1.stored (i * 6 + 2) (.int .i64 x.pr)
  have s4 := s3.1.stored (i * 6 + 3) (.int .i64 x.lb)
  have s5 := s4.1.stored (i * 6 + 4) (.int .i64 x.lv)
  have s6 := s5.1.stored (i * 6 + 5) (.slice p x.cast.length q)
  have hm : Mod (fun b => b = g) w _ := (((((Mod.of_set w ⟨g, i * 6, none⟩ (.int .i64 x.con)).trans (Mod.of_set _ ⟨g, i * 6 + 1, none⟩ (.int .i64 x.sh))).trans (Mod.of_set _ ⟨g, i * 6 + 2, none⟩ (.int .i64 x.pr))).trans (Mod.of_set _ ⟨g, i * 6 + 3, none⟩ (.int .i64 x.lb))).trans (Mod.of_set _ ⟨g, i * 6 + 4, none⟩ (.int .i64 x.lv))).trans (Mod.of_set _ ⟨g, i * 6 + 5, none⟩ (.slice p x.cast.length q))
  have hcl : cs.length = xs.length * 6 := hp.row.1
  obtain ⟨F', h1, h2⟩ := NO.put hp hF hi hu rfl hd s6.1 (hm.mono (fun b h => by rw [h]; rfl)) (fun j hj hji o ho => by
    simp only [List.getElem?_set]
    rw [if_neg (by omega), if_neg (by omega), if_neg (by omega), if_neg (by omega), if_neg (by omega), if_neg (by omega)]) (fun o ho => by
    have ho' : o = 0 ∨ o = 1 ∨ o = 2 ∨ o = 3 ∨ o = 4 ∨ o = 5 := by omega
    simp only [List.getElem?_set, List.length_set]
    rcases ho' with rfl | rfl | rfl | rfl | rfl | rfl
    · rw [if_neg (by omega), if_neg (by omega), if_neg (by omega), if_neg (by omega), if_neg (by omega), if_pos (by omega), if_pos (by omega)]; rfl
    · rw [if_neg (by omega), if_neg (by omega), if_neg (by omega), if_neg (by omega), if_pos rfl, if_pos (by omega)]; rfl
    · rw [if_neg (by omega), if_neg (by omega), if_neg (by omega), if_pos rfl, if_pos (by omega)]; rfl
    · rw [if_neg (by omega), if_neg (by omega), if_pos rfl, if_pos (by omega)]; rfl
    · rw [if_neg (by omega), if_pos rfl, if_pos (by omega)]; rfl
    · rw [if_pos rfl, if_pos (by omega)]; rfl)
  exact ⟨F', h1, hm, h2⟩
theorem putS_found {xs : List Slt} {q : Slt} {i : Nat} (h1 : ∀ k, k < i → cmpS (xs.getD k default) q < 0) (hi : i < xs.length) (h : cmpS (xs.getD i default) q = 0) : putS xs q = xs.set i q := by
  have e := cmpS_eq.1 h
  refine putS_set (posS_eq (by omega) (fun k hk => by unfold aheadS; exact decide_eq_true (h1 k hk)) (fun _ => by unfold aheadS; exact decide_eq_false (by omega))) hi ?_
  rw [aheadS_no]
  omega
theorem putS_miss {xs : List Slt} {q : Slt} {i : Nat} (hi : i ≤ xs.length) (h1 : ∀ k, k < i → cmpS (xs.getD k default) q < 0) (h2 : ∀ k, i ≤ k → k < xs.length → 0 ≤ cmpS (xs.getD k default) q) (h : ¬ (i < xs.length ∧ cmpS (xs.getD i default) q = 0)) : putS xs q = xs.take i ++ [q] ++ xs.drop i := by
  refine putS_ins (posS_eq hi (fun k hk => by unfold aheadS; exact decide_eq_true (h1 k hk)) (fun h3 => by unfold aheadS; have := h2 i (Nat.le_refl _) h3; exact decide_eq_false (by omega))) (fun ⟨h3, h4⟩ => h ⟨h3, ?_⟩)
  have h5 := h2 i (Nat.le_refl _) h3
  have h6 := aheadS_no.1 h4
  by_cases e : (xs.getD i default).con = q.con ∧ (xs.getD i default).sh = q.sh
  · exact cmpS_eq.2 e
  · exfalso
    have h8 : cmpS (xs.getD i default) q < 0 := by rw [cmpS_lt]; omega
    omega
end Go.Proofs.Ytncmdeijimgchaa

/-
  A slot put in its place, the program's.
-/
set_option linter.unusedSimpArgs false
set_option linter.unusedVariables false
namespace Go.Proofs.Ytncmdeijimgchaa
open Go.RowKit
set_option linter.unusedSectionVars false
variable [DecidableEq Vot] [Inhabited Vot] [DecidableEq Slt] [Inhabited Slt] [DecidableEq Bal] [Inhabited Bal] [DecidableEq Ledg] [Inhabited Ledg] [DecidableEq Leg] [Inhabited Leg] [DecidableEq Acc] [Inhabited Acc] [DecidableEq SltR] [Inhabited SltR] [DecidableEq AccR] [Inhabited AccR] [DecidableEq AccsR] [Inhabited AccsR] [DecidableEq SltsR] [Inhabited SltsR]
attribute [local go_sem ↓] Go.wp_at_zero Go.wp_at_succ

set_option maxRecDepth 20000 in
set_option maxHeartbeats 4000000 in
theorem withSlot_u (x : Value) (d : Acc) (s : Slt) (p : Option Addr) (q base : Nat) (Fs : Nat → Prop) (w : World) (hx : accR.V w x d) (hok : AccOk d.slots) (hu : sltR.O w base Fs (.agg #[.int .i64 s.con, .int .i64 s.sh, .int .i64 s.pr, .int .i64 s.lb, .int .i64 s.lv, .slice p s.cast.length q]) s) (hbase : base ≤ w.heap.size) (hw : ∀ k, k < d.slots.length → (d.slots.getD k default).cast.length ≤ 1048576) :
    Calls Try.prog 108 #[x, .agg #[.int .i64 s.con, .int .i64 s.sh, .int .i64 s.pr, .int .i64 s.lb, .int .i64 s.lv, .slice p s.cast.length q]] w fun e w' => ∃ v F, e = .returned v ∧ accR.O w' base F v ⟨putS d.slots s⟩ ∧ Below w.heap.size w w' := by
  have hX := hx
  obtain ⟨u1, rfl, hx⟩ := hx
  obtain ⟨xs⟩ := d
  dsimp only at hx hok hX hw ⊢
  have hlen := hok.len
  have HCp : Hid (∀ W, Below w.heap.size w W → Calls Try.prog 48 #[.agg #[u1]] W fun e w' => ∃ v F, e = .returned v ∧ accR.O w' W.heap.size F v ⟨xs⟩ ∧ Below W.heap.size W w') := fun W hW => copiedAcc_u _ ⟨xs⟩ W (accR.below hX hW) (by dsimp only; omega) hw
  have HPl : Hid (∀ W y, accR.V W y ⟨xs⟩ → Calls Try.prog 135 #[y, .agg #[.int .i64 s.con, .int .i64 s.sh, .int .i64 s.pr, .int .i64 s.lb, .int .i64 s.lv, .slice p s.cast.length q]] W fun e w' => PlE xs s W e w') := fun W y hy => placeIn_any y ⟨xs⟩ s _ W hy hok
  have HU : Hid (sltR.O w base Fs (.agg #[.int .i64 s.con, .int .i64 s.sh, .int .i64 s.pr, .int .i64 s.lb, .int .i64 s.lv, .slice p s.cast.length q]) s) := hu
  clear hu hX hok hw
  obtain ⟨au, cu, rfl⟩ := slts_form hx
  clear hx
  obtain ⟨n, hn'⟩ : ∃ n, n = xs.length := ⟨_, rfl⟩
  have HN : Hid (xs.length = n) := hn'.symm
  rw [← hn'] at hlen HCp ⊢
  clear hn'
  go_enter Try.func108, Try.ntmps108
  go_wp2_with fail
  refine (HCp.out _ (by (repeat (first | exact Below.refl _ _ | assumption | refine Below.drew ?_ | refine balloc ?_ _ | refine bset ?_ (by simp; omega) _ | refine bset ?_ (by simp) _ | refine bstep ?_ (by assumption))))).mono ?_
  rintro e w1 ⟨v1, F1, rfl, o1, hb1⟩
  obtain ⟨ac, cc, rfl, _⟩ := acc_cells o1
  have hB1 : Below w.heap.size w w1 := by (repeat (first | exact Below.refl _ _ | assumption | refine Below.drew ?_ | refine balloc ?_ _ | refine bset ?_ (by simp; omega) _ | refine bset ?_ (by simp) _ | refine bstep ?_ (by assumption)))
  have hz1 := hb1.size
  simp at hz1
  obtain ⟨c1, f1⟩ := bcell hb1
  have q0 : w1.cell? ⟨w.heap.size + 1, 0, none⟩ = some (.int .i64 s.con) := cell_keep hb1 (by simp [go_sem])
  have q1 : w1.cell? ⟨w.heap.size + 1, 1, none⟩ = some (.int .i64 s.sh) := cell_keep hb1 (by simp [go_sem])
  have q2 : w1.cell? ⟨w.heap.size + 1, 2, none⟩ = some (.int .i64 s.pr) := cell_keep hb1 (by simp [go_sem])
  have q3 : w1.cell? ⟨w.heap.size + 1, 3, none⟩ = some (.int .i64 s.lb) := cell_keep hb1 (by simp [go_sem])
  have q4 : w1.cell? ⟨w.heap.size + 1, 4, none⟩ = some (.int .i64 s.lv) := cell_keep hb1 (by simp [go_sem])
  have q5 : w1.cell? ⟨w.heap.size + 1, 5, none⟩ = some (.slice p s.cast.length q) := cell_keep hb1 (by simp [go_sem])
  have r0 : w1.cell? ⟨w.heap.size + 2, 0, none⟩ = some (.slice none 0 0) := cell_keep hb1 (by simp [go_sem])
  have rf : ∀ o, w1.frozen? ⟨w.heap.size + 2, o, none⟩ = false := fun o => by rw [f1 _ _ (by simp; try omega)]; simp [go_sem]
  have HO1 : Hid (sltsR.O w1 (w.heap.size + 3) F1 (.slice ac n cc) xs) := by
    obtain ⟨u, F2, e, h1, hF⟩ := o1
    simp only [Value.agg.injEq, Array.mk.injEq, List.cons.injEq, and_true] at e
    subst e
    have hFF : F1 = F2 := by funext b; exact propext (hF b)
    subst hFF
    rw [← HN.out]
    exact sltsR.base h1 (by simp)
  have HV1 : Hid (∀ W, Below w1.heap.size w1 W → accR.V W (.agg #[.slice ac n cc]) ⟨xs⟩) := fun W hW => accR.below (by rw [← HN.out]; exact accR.ofO o1) hW
  clear o1 hb1 c1 f1 HCp
  dsimp only
  rw [HN.out]
  have zq : w.heap.size + 1 < w1.heap.size := World.block_lt_of_cell? w1 _ q0
  have zr : w.heap.size + 2 < w1.heap.size := World.block_lt_of_cell? w1 _ r0
  go_wp2_with fail
  refine (HPl.out _ _ (HV1.out _ (by (repeat (first | exact Below.refl _ _ | assumption | refine Below.drew ?_ | refine balloc ?_ _ | refine bset ?_ (by simp; omega) _ | refine bset ?_ (by simp) _ | refine bstep ?_ (by assumption)))))).mono ?_
  rintro e w2 ⟨i, hi, rfl, h1, h2, hb2⟩
  have HA : Hid (∀ k, k < i → cmpS (xs.getD k default) s < 0) := h1
  have HB : Hid (∀ k, i ≤ k → k < xs.length → 0 ≤ cmpS (xs.getD k default) s) := h2
  clear h1 h2 HPl HV1
  have hB2 : Below w1.heap.size w1 w2 := by (repeat (first | exact Below.refl _ _ | assumption | refine Below.drew ?_ | refine balloc ?_ _ | refine bset ?_ (by simp; omega) _ | refine bset ?_ (by simp) _ | refine bstep ?_ (by assumption)))
  have hBw : Below w.heap.size w w2 := bstep hB1 hB2
  have hz2 := hb2.size
  simp at hz2
  have t0 : w2.cell? ⟨w1.heap.size, 0, none⟩ = some (.slice ac n cc) := cell_keep hb2 (by simp [go_sem])
  have tf : ∀ o, w2.frozen? ⟨w1.heap.size, o, none⟩ = false := fun o => by rw [(bcell hb2).2 _ _ (by simp)]; simp [go_sem]
  replace q0 := cell_keep hB2 q0
  replace q1 := cell_keep hB2 q1
  replace q2 := cell_keep hB2 q2
  replace q3 := cell_keep hB2 q3
  replace q4 := cell_keep hB2 q4
  replace q5 := cell_keep hB2 q5
  replace r0 := cell_keep hB2 r0
  replace rf : ∀ o, w2.frozen? ⟨w.heap.size + 2, o, none⟩ = false := fun o => by rw [(bcell hB2).2 _ _ (by omega)]; exact rf o
  have HO2 : Hid (sltsR.O w2 (w.heap.size + 3) F1 (.slice ac n cc) xs) := sltsR.keep HO1.out hB2
  have HU2 : Hid (sltR.O w2 base Fs (.agg #[.int .i64 s.con, .int .i64 s.sh, .int .i64 s.pr, .int .i64 s.lb, .int .i64 s.lv, .slice p s.cast.length q]) s) := sltR.keep HU.out hBw
  have HFl : Hid (∀ b, F1 b → w.heap.size + 3 ≤ b ∧ b < w1.heap.size) := fun b hb => sltsR.rng HO1.out b hb
  have HFs : Hid (∀ b, Fs b → b < w.heap.size) := fun b hb => (sltR.rng HU.out b hb).2
  have HD : Hid (∀ b, F1 b → ¬ Fs b) := fun b h1 h2 => by have := HFl.out b h1; have := HFs.out b h2; omega
  have HO3 : Hid (sltsR.O w2 (w.heap.size + 3) F1 (.slice ac xs.length cc) xs) := by show sltsR.O _ _ _ _ _; rw [HN.out]; exact HO2.out
  clear hb2 HO1 HU
  rw [HN.out] at hi
  by_cases hD : i < xs.length ∧ cmpS (xs.getD i default) s = 0
  · rw [decide_eq_true hD]
    have HS : Hid (putS xs s = xs.set i s) := putS_found HA.out hD.1 hD.2
    have hin : i < n := by rw [← HN.out]; exact hD.1
    clear hD
    have hrow : ∃ g, ac = some ⟨g, 0, none⟩ ∧ F1 g ∧ ∀ o, w2.frozen? ⟨g, o, none⟩ = false := by
      obtain ⟨cs, us, fs, hp, hF⟩ := HO3.out
      rcases hp.row.2 with ⟨_, h⟩ | ⟨g, cap, cur, h, _⟩
      · rw [HN.out] at h; omega
      · simp only [Value.slice.injEq] at h
        obtain ⟨rfl, _, rfl⟩ := h
        exact ⟨g, rfl, (hF g).2 (.inl rfl), fun o => hp.row.frozenAt o⟩
    obtain ⟨g, rfl, hg, gf⟩ := hrow
    have hgr := HFl.out g hg
    have hst := slts_store (base := base) (i := i) (sltsR.base HO3.out (by omega)) (by rw [HN.out]; exact hin) HU2.out HD.out
    obtain ⟨F3, o3, hm3, hF3⟩ := hst
    rw [HN.out] at o3
    have gcell : ∀ j, j < n * 6 → ∃ v, w2.cell? ⟨g, j, none⟩ = some v := fun j hj => by
      obtain ⟨cs, us, fs, hp, hF⟩ := HO3.out
      have h1 := hp.row.cellAt j (by rw [HN.out]; exact hj)
      have hl : j < cs.length := by rw [hp.row.1, HN.out]; exact hj
      rw [List.getElem?_eq_getElem hl] at h1
      exact ⟨_, h1⟩
    obtain ⟨k0, e0⟩ := gcell (i * 6) (by omega)
    obtain ⟨k1, e1⟩ := gcell (i * 6 + 1) (by omega)
    obtain ⟨k2, e2⟩ := gcell (i * 6 + 2) (by omega)
    obtain ⟨k3, e3⟩ := gcell (i * 6 + 3) (by omega)
    obtain ⟨k4, e4⟩ := gcell (i * 6 + 4) (by omega)
    obtain ⟨k5, e5⟩ := gcell (i * 6 + 5) (by omega)
    clear gcell
    have zg : g < w2.heap.size := World.block_lt_of_cell? w2 _ e0
    go_wp2
    refine bodyPost_ret (v := .agg #[.slice (some ⟨g, 0, none⟩) n cc]) ?_ rfl ⟨_, F3, rfl, ⟨_, F3, rfl, ?_, fun b => Iff.rfl⟩, ?_⟩
    · simp [results, Try.results108, go_sem, r0, rf, e0, e1, e2, e3, e4, e5, gf]
    · rw [HS.out]
      exact Rep.setN _ o3 _ (fun hb => by
        rcases hF3 _ hb with h | h
        · have := HFl.out _ h; dsimp only at this; omega
        · have := HFs.out _ h; dsimp only at this; omega)
    · exact bset (hm3.below hBw (by omega) (fun b hb => by omega)) (by dsimp only; omega) _
  · rw [decide_eq_false hD]
    have HS : Hid (putS xs s = xs.take i ++ [s] ++ xs.drop i) := putS_miss (by rw [HN.out]; exact hi) HA.out HB.out hD
    clear hD
    have HI : Hid (∀ W, W = w2.alloc (.cells #[.int .i64 s.con, .int .i64 s.sh, .int .i64 s.pr, .int .i64 s.lb, .int .i64 s.lv, .slice p s.cast.length q] 91) → Calls Try.prog 143 #[.slice ac n cc, .int .i64 i, .slice (some ⟨w2.heap.size, 0, none⟩) 1 1] W fun e w' =>
        ∃ v' F', e = .returned v' ∧ sltsR.O w' base F' v' (xs.take i ++ [s] ++ xs.drop i) ∧ Mod (fun b => (Value.slice ac n cc).ownBlock = some b) W w' ∧ (∀ b, F' b → F1 b ∨ Fs b ∨ W.heap.size ≤ b)) := fun W hW => by
      subst hW
      refine insertS_any base _ i _ xs _ s F1 Fs _ (sltsR.alloc (sltsR.base HO2.out (by omega)) _) (by rw [HN.out]; exact hi) (by rw [HN.out]; omega) (by simp; omega) (sltR.alloc HU2.out _) HD.out (by rw [heap_newS]; rfl) (fun e => ?_)
      obtain ⟨cs, us, fs, hp, hF⟩ := HO2.out
      have := (hp.row.lt _ e).2
      omega
    have HOb : Hid (∀ b, (Value.slice ac n cc).ownBlock = some b → F1 b) := fun b hb => by
      obtain ⟨cs, us, fs, hp, hF⟩ := HO2.out
      exact (hF b).2 (.inl hb)
    go_wp2_with fail
    refine (HI.out _ rfl).mono ?_
    rintro e w5 ⟨v5, F5, rfl, o5, hm5, hF5⟩
    obtain ⟨a5, c5, rfl⟩ := slts_form (sltsR.ofO o5)
    have HO5 : Hid (sltsR.O w5 base F5 (.slice a5 (n + 1) c5) (xs.take i ++ [s] ++ xs.drop i)) := by
      show sltsR.O _ _ _ _ _
      rw [len_ins, HN.out] at o5
      exact o5
    have HF5 : Hid (∀ b, F5 b → F1 b ∨ Fs b ∨ w2.heap.size + 1 ≤ b) := fun b hb => by simpa using hF5 b hb
    rw [len_ins, HN.out]
    have t5 : w5.cell? ⟨w1.heap.size, 0, none⟩ = some (.slice ac n cc) := hm5.cell (cell_keep (balloc (Below.refl _ w2) _) t0) (fun e => by have := HFl.out _ (HOb.out _ e); dsimp only at this; omega)
    have tf5 : ∀ o, w5.frozen? ⟨w1.heap.size, o, none⟩ = false := fun o => (hm5.frozen9 (a := ⟨w1.heap.size, o, none⟩) (by simp; omega) (fun e => by have := HFl.out _ (HOb.out _ e); dsimp only at this; omega)).trans (by rw [(bcell (balloc (Below.refl _ w2) _)).2 _ _ (by omega)]; exact tf o)
    have r5 : w5.cell? ⟨w.heap.size + 2, 0, none⟩ = some (.slice none 0 0) := hm5.cell (cell_keep (balloc (Below.refl _ w2) _) r0) (fun e => by have := HFl.out _ (HOb.out _ e); dsimp only at this; omega)
    have rf5 : ∀ o, w5.frozen? ⟨w.heap.size + 2, o, none⟩ = false := fun o => (hm5.frozen9 (a := ⟨w.heap.size + 2, o, none⟩) (by simp; omega) (fun e => by have := HFl.out _ (HOb.out _ e); dsimp only at this; omega)).trans (by rw [(bcell (balloc (Below.refl _ w2) _)).2 _ _ (by omega)]; exact rf o)
    have hB5 : Below w.heap.size w w5 := hm5.below (balloc hBw _) (by simp; omega) (fun b e => by have := HFl.out _ (HOb.out _ e); omega)
    have z5 := hm5.size
    simp at z5
    clear o5 hm5 hF5 t0 tf r0 rf HI q0 q1 q2 q3 q4 q5
    go_wp2
    refine bodyPost_ret (v := .agg #[.slice a5 (n + 1) c5]) ?_ rfl ⟨_, F5, rfl, ⟨_, F5, rfl, ?_, fun b => Iff.rfl⟩, ?_⟩
    · simp [results, Try.results108, go_sem, r5, rf5, t5, tf5]
    · rw [HS.out]
      refine Rep.setN _ (Rep.setN _ HO5.out _ (fun hb => ?_)) _ (fun hb => ?_)
      · rcases HF5.out _ hb with h | h | h
        · have := HFl.out _ h; dsimp only at this; omega
        · have := HFs.out _ h; dsimp only at this; omega
        · dsimp only at h; omega
      · rcases HF5.out _ hb with h | h | h
        · have := HFl.out _ h; dsimp only at this; omega
        · have := HFs.out _ h; dsimp only at this; omega
        · dsimp only at h; omega
    · exact bset (bset hB5 (by dsimp only; omega) _) (by dsimp only; omega) _
end Go.Proofs.Ytncmdeijimgchaa

/-
  The slot that is asked, the program's.
-/
set_option linter.unusedSimpArgs false
set_option linter.unusedVariables false
namespace Go.Proofs.Ytncmdeijimgchaa
open Go.RowKit
set_option linter.unusedSectionVars false
variable [DecidableEq Vot] [Inhabited Vot] [DecidableEq Slt] [Inhabited Slt] [DecidableEq SltR] [Inhabited SltR] [DecidableEq Bal] [Inhabited Bal] [DecidableEq Ledg] [Inhabited Ledg] [DecidableEq Leg] [Inhabited Leg] [DecidableEq Acc] [Inhabited Acc] [DecidableEq AccR] [Inhabited AccR] [DecidableEq AccsR] [Inhabited AccsR] [DecidableEq SltsR] [Inhabited SltsR]
attribute [local go_sem ↓] Go.wp_at_zero Go.wp_at_succ

theorem slotO_found {xs : List Slt} {q : Slt} {i : Nat} (hi : i < xs.length) (h1 : ∀ k, k < i → cmpS (xs.getD k default) q < 0) (h : cmpS (xs.getD i default) q = 0) : slotO xs q = xs.getD i default := by
  refine slotO_at hi (fun k hk => ?_) (sameS_iff.2 (cmpS_eq.1 h))
  cases e : sameS (xs.getD k default) q with
  | false => rfl
  | true => have h2 := h1 k hk; rw [cmpS_eq.2 (sameS_iff.1 e)] at h2; omega
theorem slotO_miss {xs : List Slt} {q : Slt} {i : Nat} (hok : AccOk xs) (h1 : ∀ k, k < i → cmpS (xs.getD k default) q < 0) (h2 : ∀ k, i ≤ k → k < xs.length → 0 ≤ cmpS (xs.getD k default) q) (h : ¬ (i < xs.length ∧ cmpS (xs.getD i default) q = 0)) : slotO xs q = q := by
  refine slotO_none (fun k hk => ?_)
  cases e : sameS (xs.getD k default) q with
  | false => rfl
  | true =>
    exfalso
    have e0 := sameS_iff.1 e
    have e1 := cmpS_eq.2 e0
    rcases Nat.lt_trichotomy k i with h3 | h3 | h3
    · have := h1 k h3; omega
    · subst h3; exact h ⟨hk, e1⟩
    · have h4 := aheadS_iff.1 (hok.ord i k h3 hk)
      have h5 := h2 i (Nat.le_refl _) (by omega)
      have h6 : cmpS (xs.getD i default) q < 0 := by rw [cmpS_lt]; omega
      omega
set_option maxRecDepth 20000 in
set_option maxHeartbeats 4000000 in
theorem slotOr_any (x y : Value) (d : Acc) (q : Slt) (w : World) (hx : accR.V w x d) (hy : sltR.V w y q) (hok : AccOk d.slots) :
    Calls Try.prog 95 #[x, y] w fun e w' => ∃ v, e = .returned v ∧ sltR.V w' v (slotO d.slots q) ∧ Below w.heap.size w w' := by
  have hX := hx
  have hY := hy
  obtain ⟨u1, rfl, hx⟩ := hx
  obtain ⟨u2, rfl, hy⟩ := hy
  obtain ⟨ay, cy, rfl⟩ := vots_form hy
  clear hy
  obtain ⟨xs⟩ := d
  dsimp only at hx hok hX ⊢
  have HP : Hid (∀ W, Below w.heap.size w W → Calls Try.prog 135 #[.agg #[u1], .agg #[.int .i64 q.con, .int .i64 q.sh, .int .i64 q.pr, .int .i64 q.lb, .int .i64 q.lv, .slice ay q.cast.length cy]] W fun e w' => PlE xs q W e w') := fun W hW => placeIn_any _ ⟨xs⟩ q _ W (accR.below hX hW) hok
  have HOK : Hid (AccOk xs) := hok
  clear hX hok
  obtain ⟨au, cu, rfl, hcx, hmx, hx⟩ := hx
  unfold maxLen at hmx
  have hXs : Hid (∀ k, k < xs.length → ∃ b o p q, au = some ⟨b, o, none⟩ ∧ (w.cell? ⟨b, o + k * 6, none⟩ = some (.int .i64 (xs.getD k default).con) ∧ w.cell? ⟨b, o + k * 6 + 1, none⟩ = some (.int .i64 (xs.getD k default).sh) ∧ w.cell? ⟨b, o + k * 6 + 2, none⟩ = some (.int .i64 (xs.getD k default).pr) ∧ w.cell? ⟨b, o + k * 6 + 3, none⟩ = some (.int .i64 (xs.getD k default).lb) ∧ w.cell? ⟨b, o + k * 6 + 4, none⟩ = some (.int .i64 (xs.getD k default).lv) ∧ w.cell? ⟨b, o + k * 6 + 5, none⟩ = some (.slice p (xs.getD k default).cast.length q)) ∧ sltR.V w (.agg #[.int .i64 (xs.getD k default).con, .int .i64 (xs.getD k default).sh, .int .i64 (xs.getD k default).pr, .int .i64 (xs.getD k default).lb, .int .i64 (xs.getD k default).lv, .slice p (xs.getD k default).cast.length q]) (xs.getD k default)) := fun k hk => slts_at hx hk
  clear hx
  obtain ⟨n, hn'⟩ : ∃ n, n = xs.length := ⟨_, rfl⟩
  have HN : Hid (xs.length = n) := hn'.symm
  rw [← hn'] at hcx hXs HP ⊢
  clear hn'
  go_enter Try.func95, Try.ntmps95
  go_wp2_with fail
  refine (HP.out _ (by (repeat (first | exact Below.refl _ _ | assumption | refine Below.drew ?_ | refine balloc ?_ _ | refine bset ?_ (by simp; omega) _ | refine bset ?_ (by simp) _ | refine bstep ?_ (by assumption))))).mono ?_
  rintro e w1 ⟨i, hi, rfl, h1, h2, hb1⟩
  have hB1 : Below w.heap.size w w1 := by (repeat (first | exact Below.refl _ _ | assumption | refine Below.drew ?_ | refine balloc ?_ _ | refine bset ?_ (by simp; omega) _ | refine bset ?_ (by simp) _ | refine bstep ?_ (by assumption)))
  have HA : Hid (∀ k, k < i → cmpS (xs.getD k default) q < 0) := h1
  have HB : Hid (∀ k, i ≤ k → k < xs.length → 0 ≤ cmpS (xs.getD k default) q) := h2
  clear h1 h2 HP
  obtain ⟨c1, f1⟩ := bcell hb1
  have hz1 := hb1.size
  simp at hz1
  have y0 : w1.cell? ⟨w.heap.size, 0, none⟩ = some (.slice au n cu) := cell_keep hb1 (by simp [go_sem])
  have q0 : w1.cell? ⟨w.heap.size + 1, 0, none⟩ = some (.int .i64 q.con) := cell_keep hb1 (by simp [go_sem])
  have q1 : w1.cell? ⟨w.heap.size + 1, 1, none⟩ = some (.int .i64 q.sh) := cell_keep hb1 (by simp [go_sem])
  have q2 : w1.cell? ⟨w.heap.size + 1, 2, none⟩ = some (.int .i64 q.pr) := cell_keep hb1 (by simp [go_sem])
  have q3 : w1.cell? ⟨w.heap.size + 1, 3, none⟩ = some (.int .i64 q.lb) := cell_keep hb1 (by simp [go_sem])
  have q4 : w1.cell? ⟨w.heap.size + 1, 4, none⟩ = some (.int .i64 q.lv) := cell_keep hb1 (by simp [go_sem])
  have q5 : w1.cell? ⟨w.heap.size + 1, 5, none⟩ = some (.slice ay q.cast.length cy) := cell_keep hb1 (by simp [go_sem])
  have r0 : w1.cell? ⟨w.heap.size + 2, 0, none⟩ = some (.int .i64 0) := cell_keep hb1 (by simp [go_sem])
  have r1 : w1.cell? ⟨w.heap.size + 2, 1, none⟩ = some (.int .i64 0) := cell_keep hb1 (by simp [go_sem])
  have r2 : w1.cell? ⟨w.heap.size + 2, 2, none⟩ = some (.int .i64 0) := cell_keep hb1 (by simp [go_sem])
  have r3 : w1.cell? ⟨w.heap.size + 2, 3, none⟩ = some (.int .i64 0) := cell_keep hb1 (by simp [go_sem])
  have r4 : w1.cell? ⟨w.heap.size + 2, 4, none⟩ = some (.int .i64 0) := cell_keep hb1 (by simp [go_sem])
  have r5 : w1.cell? ⟨w.heap.size + 2, 5, none⟩ = some (.slice none 0 0) := cell_keep hb1 (by simp [go_sem])
  have rf : ∀ o, w1.frozen? ⟨w.heap.size + 2, o, none⟩ = false := fun o => by rw [f1 _ _ (by simp; try omega)]; simp [go_sem]
  clear hb1 c1 f1
  rw [HN.out] at hi
  by_cases hD : i < xs.length ∧ cmpS (xs.getD i default) q = 0
  · rw [decide_eq_true hD]
    have HS : Hid (slotO xs q = xs.getD i default) := slotO_found hD.1 HA.out hD.2
    have hin : i < n := by rw [← HN.out]; exact hD.1
    clear hD
    obtain ⟨b, o, pp, qq, rfl, hc, hV⟩ := hXs.out i hin
    obtain ⟨l, hl⟩ : ∃ l, l = xs.getD i default := ⟨_, rfl⟩
    rw [← hl] at hc hV HS
    clear hl hXs
    obtain ⟨g0, g1, g2, g3, g4, g5⟩ := (sltKeep2 hB1 hc hc).2.1
    clear hc
    have zb : b < w1.heap.size := World.block_lt_of_cell? w1 _ g0
    go_wp2
    refine bodyPost_ret (v := .agg #[.int .i64 l.con, .int .i64 l.sh, .int .i64 l.pr, .int .i64 l.lb, .int .i64 l.lv, .slice pp l.cast.length qq]) ?_ rfl ⟨_, rfl, by rw [HS.out]; exact sltR.below hV (by (repeat (first | refine bset ?_ (by simp; omega) _ | refine bset ?_ (by simp) _ | refine balloc ?_ _ | assumption))), by (repeat (first | refine bset ?_ (by simp; omega) _ | refine bset ?_ (by simp) _ | refine balloc ?_ _ | assumption))⟩
    simp [results, Try.results95, go_sem, r0, r1, r2, r3, r4, r5, rf]
  · rw [decide_eq_false hD]
    have HS : Hid (slotO xs q = q) := slotO_miss HOK.out HA.out HB.out hD
    clear hD hXs
    go_wp2
    refine bodyPost_ret (v := .agg #[.int .i64 q.con, .int .i64 q.sh, .int .i64 q.pr, .int .i64 q.lb, .int .i64 q.lv, .slice ay q.cast.length cy]) ?_ rfl ⟨_, rfl, by rw [HS.out]; exact sltR.below hY (by (repeat (first | refine bset ?_ (by simp; omega) _ | refine bset ?_ (by simp) _ | refine balloc ?_ _ | assumption))), by (repeat (first | refine bset ?_ (by simp; omega) _ | refine bset ?_ (by simp) _ | refine balloc ?_ _ | assumption))⟩
    simp [results, Try.results95, go_sem, r0, r1, r2, r3, r4, r5, rf]
end Go.Proofs.Ytncmdeijimgchaa


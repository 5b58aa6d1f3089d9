import Derived.Test.YtggigaghfcpbbaaPrnNewClusterLaw13
import Derived.BigQuiet
import Derived.Deep.QuietTactic
import Derived.Deep.RegionHeld3
import Derived.Test.YtggigaghfcpbbaaPrnNewClusterLaw1
import Derived.Test.YtggigaghfcpbbaaPrnNewClusterLaw2
import Derived.Deep.Slices
import Derived.Lib.SmallJoins

/-
  NewCluster, the document's.
-/
set_option linter.unusedSimpArgs false
set_option linter.unusedVariables false
namespace Go.Proofs.Ytggigaghfcpbbaa
open Go.RowKit
set_option linter.unusedSectionVars false
variable [DecidableEq Leg] [Inhabited Leg] [DecidableEq Mrk] [Inhabited Mrk] [DecidableEq Bal] [Inhabited Bal] [DecidableEq Cont] [Inhabited Cont] [DecidableEq Shd] [Inhabited Shd] [DecidableEq Ledg] [Inhabited Ledg] [DecidableEq ShdR] [Inhabited ShdR] [DecidableEq Vot] [Inhabited Vot] [DecidableEq Slt] [Inhabited Slt] [DecidableEq Acc] [Inhabited Acc] [DecidableEq Trr] [Inhabited Trr] [DecidableEq Hrd] [Inhabited Hrd] [DecidableEq Ldr] [Inhabited Ldr] [DecidableEq Msg] [Inhabited Msg] [DecidableEq Clu] [Inhabited Clu] [DecidableEq CluR] [Inhabited CluR]
attribute [local go_sem ↓] Go.wp_at_zero Go.wp_at_succ

set_option maxRecDepth 20000 in
set_option maxHeartbeats 8000000 in
theorem specNewC_u (x : Value) (g : Ledg) (a : Int) (w : World) (hx : ledgR.V w x g) :
    Calls Try.prog 5 #[x, .int .i64 a] w fun e w' => ∃ v F, e = .returned v ∧ cluRR.O w' w.heap.size F v (newC g a) ∧ Below w.heap.size w w' := by
  have HLf : Hid (∀ W, Below w.heap.size w W → Calls Try.prog 14 #[x] W fun e w' => e = .returned (.int .i64 (ledFault g)) ∧ Below W.heap.size W w') := fun W hW => specLedFault_any x g W (ledgR.below hx hW)
  obtain ⟨u, rfl, hu⟩ := hx
  obtain ⟨ag, cg, rfl, hcg, hmg, hg⟩ := hu
  unfold maxLen at hmg
  have HG : Hid (∀ k, k < g.shards.length → ∃ b o v, ag = some ⟨b, o, none⟩ ∧ w.cell? ⟨b, o + k, none⟩ = some v ∧ balsR.V w v (g.shards.getD k default)) := fun k hk => by
    obtain ⟨b, o, v, e, _, hc, hv⟩ := hg k hk
    exact ⟨b, o, v, e, cells1 hc, hv⟩
  clear hg
  have HE0 : Hid (¬ ledFault g = 0 → newC g a = cluE (ledFault g)) := fun h => by unfold newC; rw [if_neg h]
  have HE1 : Hid (ledFault g = 0 → inB a 1 5 = false → newC g a = cluE 3) := fun h h1 => by unfold newC; rw [if_pos h, h1]; rfl
  have HE2 : Hid (ledFault g = 0 → inB a 1 5 = true → newC g a = ⟨0, ⟨[], shN g g.shards.length, List.replicate a.toNat accE, List.replicate 2 ldrE, []⟩⟩) := fun h h1 => by unfold newC; rw [if_pos h, if_pos h1]
  have HOk : Hid (ledFault g = 0 → g.shards.length ≤ 3 ∧ ∀ k, k < g.shards.length → (g.shards.getD k default).length ≤ 1048576) := fun h => ⟨(ledOk_of h).2.1, fun k hk => by have := ((ledOk_of h).2.2 k hk).len; omega⟩
  generalize newC g a = Z at *
  generalize ledFault g = lf at *
  obtain ⟨m, hm⟩ : ∃ m, m = g.shards.length := ⟨_, rfl⟩
  rw [← hm] at hcg HG HE2 HOk HLf ⊢
  clear hm
  go_enter Try.func5, Try.ntmps5
  go_wp2_with fail
  refine (HLf.out _ (by (repeat (first | exact Below.refl _ _ | assumption | refine Below.drew ?_ | refine balloc ?_ _ | refine bset ?_ (by simp; omega) _ | refine bset ?_ (by simp) _ | refine bstep ?_ (by assumption))))).mono ?_
  rintro e w1 ⟨rfl, hb1⟩
  have hB1 : Below w.heap.size w w1 := bstep (by (repeat (first | exact Below.refl _ _ | assumption | refine Below.drew ?_ | refine balloc ?_ _ | refine bset ?_ (by simp; omega) _ | refine bset ?_ (by simp) _ | refine bstep ?_ (by assumption)))) hb1
  have hz1 := hb1.size
  simp at hz1
  have y0 : w1.cell? ⟨w.heap.size, 0, none⟩ = some (.slice ag m cg) := cell_keep hb1 (by simp [go_sem])
  have r0 : w1.cell? ⟨w.heap.size + 1, 0, none⟩ = some (.int .i64 0) := cell_keep hb1 (by simp [go_sem])
  have r1 : w1.cell? ⟨w.heap.size + 1, 1, none⟩ = some (.slice none 0 0) := cell_keep hb1 (by simp [go_sem])
  have r2 : w1.cell? ⟨w.heap.size + 1, 2, none⟩ = some (.slice none 0 0) := cell_keep hb1 (by simp [go_sem])
  have r3 : w1.cell? ⟨w.heap.size + 1, 3, none⟩ = some (.slice none 0 0) := cell_keep hb1 (by simp [go_sem])
  have r4 : w1.cell? ⟨w.heap.size + 1, 4, none⟩ = some (.slice none 0 0) := cell_keep hb1 (by simp [go_sem])
  have r5 : w1.cell? ⟨w.heap.size + 1, 5, none⟩ = some (.slice none 0 0) := cell_keep hb1 (by simp [go_sem])
  have rf : ∀ o, w1.frozen? ⟨w.heap.size + 1, o, none⟩ = false := fun o => by rw [(bcell hb1).2 _ _ (by simp)]; simp [go_sem]
  clear hb1 HLf
  by_cases hlf : lf = 0
  rotate_left
  · have HC : Hid (Z = cluE lf) := HE0.out hlf
    have hlf' : (lf != 0) = true := by simp [hlf]
    clear HE0 HE1 HE2 HOk HG
    go_wp2
    exact bodyPost_ret (v := .agg #[.int .i64 lf, .slice none 0 0, .slice none 0 0, .slice none 0 0, .slice none 0 0, .slice none 0 0]) (by simp [results, Try.results5, go_sem, r0, r1, r2, r3, r4, r5, rf]) rfl (cluE_ret lf HC.out (by (repeat (first | refine bset ?_ (by simp; omega) _ | refine bset ?_ (by simp) _ | refine balloc ?_ _ | assumption))))
  have HE1' : Hid (inB a 1 5 = false → Z = cluE 3) := HE1.out hlf
  have HE2' : Hid (inB a 1 5 = true → Z = ⟨0, ⟨[], shN g m, List.replicate a.toNat accE, List.replicate 2 ldrE, []⟩⟩) := HE2.out hlf
  have hm3 : m ≤ 3 := (HOk.out hlf).1
  have HBl : Hid (∀ k, k < m → (g.shards.getD k default).length ≤ 1048576) := (HOk.out hlf).2
  rw [hlf]
  clear HE0 HE1 HE2 HOk hlf
  cases hin : inB a 1 5
  · have HC : Hid (Z = cluE 3) := HE1'.out hin
    clear HE1' HE2' HG HBl
    go_wp2_with (first | (go_at_call 15; refine (l1In_any _ _ _ _).mono ?_; rintro e w' ⟨rfl, hw⟩; obtain rfl := hw.symm; rw [hin]))
    exact bodyPost_ret (v := .agg #[.int .i64 3, .slice none 0 0, .slice none 0 0, .slice none 0 0, .slice none 0 0, .slice none 0 0]) (by simp [results, Try.results5, go_sem, r0, r1, r2, r3, r4, r5, rf]) rfl (cluE_ret 3 HC.out (by (repeat (first | refine bset ?_ (by simp; omega) _ | refine bset ?_ (by simp) _ | refine balloc ?_ _ | assumption))))
  have HC : Hid (Z = ⟨0, ⟨[], shN g m, List.replicate a.toNat accE, List.replicate 2 ldrE, []⟩⟩) := HE2'.out hin
  obtain ⟨n, hn⟩ : ∃ n : Nat, a = n ∧ 1 ≤ n ∧ n ≤ 5 := by
    unfold inB at hin
    simp only [Bool.and_eq_true, decide_eq_true_eq] at hin
    exact ⟨a.toNat, by omega, by omega, by omega⟩
  obtain ⟨rfl, hn1, hn5⟩ := hn
  have HC' : Hid (Z = ⟨0, ⟨[], shN g m, List.replicate n accE, List.replicate 2 ldrE, []⟩⟩) := by
    have h := HC.out
    rw [Int.toNat_natCast] at h
    exact h
  clear HC HE1' HE2'
  obtain ⟨i0, hi, hzA0, hzA1, hzA2⟩ := info_parts infoAccs
  obtain ⟨i1, hj, hzB0, hzB1, hzB2⟩ := info_parts infoLdrs
  have HM1 : Hid (∀ W : World, ∃ w', (Instr.makeSlice 28 (.int .i64 (n : Int)) (.int .i64 (n : Int))).run Try.prog W = .ok (.slice (some ⟨W.heap.size, 0, none⟩) n n) w' ∧ accsR.O w' W.heap.size (fun b => (Value.slice (some ⟨W.heap.size, 0, none⟩) n n).ownBlock = some b) (.slice (some ⟨W.heap.size, 0, none⟩) n n) (List.replicate n accE) ∧ Below W.heap.size W w') := fun W => by
    obtain ⟨w', h1, h2, h3⟩ := run_make_full (P := Try.prog) W W.heap.size 28 97 i0 _ 1 Try.underlying28 hi hzA0 hzA1 .i64 .i64 n (by rw [hzA2]; omega) (by unfold maxLen; omega) (Nat.le_refl _)
    exact ⟨w', h1, made_rep (R := accR) (lv := lvAcc) (size := 1) (z := .agg #[.slice none 0 0]) (u := .agg #[.slice none 0 0]) rfl rfl (by decide) accE_O h2, (Below.refl _ _).grown h3 (Nat.le_refl _) (fun k h => by cases h)⟩
  have HM2 : Hid (∀ W : World, ∃ w', (Instr.makeSlice 29 (.int .i64 2) (.int .i64 2)).run Try.prog W = .ok (.slice (some ⟨W.heap.size, 0, none⟩) 2 2) w' ∧ ldrsR.O w' W.heap.size (fun b => (Value.slice (some ⟨W.heap.size, 0, none⟩) 2 2).ownBlock = some b) (.slice (some ⟨W.heap.size, 0, none⟩) 2 2) (List.replicate 2 ldrE) ∧ Below W.heap.size W w') := fun W => by
    obtain ⟨w', h1, h2, h3⟩ := run_make_full (P := Try.prog) W W.heap.size 29 102 i1 _ 3 Try.underlying29 hj hzB0 hzB1 .i64 .i64 2 (by rw [hzB2]; omega) (by unfold maxLen; omega) (Nat.le_refl _)
    exact ⟨w', h1, made_rep (R := ldrR) (lv := lvLdr) (size := 3) (z := .agg #[.int .i64 0, .slice none 0 0, .slice none 0 0]) (u := .agg #[.int .i64 0, .slice none 0 0, .slice none 0 0]) rfl rfl (by decide) ldrE_O h2, (Below.refl _ _).grown h3 (Nat.le_refl _) (fun k h => by cases h)⟩
  clear hi hzA0 hzA1 hzA2 hj hzB0 hzB1 hzB2 i0 i1
  go_wp2_with (first | (go_at_call 15; refine (l1In_any _ _ _ _).mono ?_; rintro e w' ⟨rfl, hw⟩; obtain rfl := hw.symm; rw [hin]))
  refine wp_region_noPanic ?_
  refine region_upto (fun W => Below w1.heap.size w1 W) 5 (by kernel_rfl) (Below.drew (Below.refl _ _)) (fun hS => ?_)
  refine upto_take (i := 0) (v := ?_) rfl (by kernel_rfl) (by kernel_rfl) (by kernel_rfl) (by kernel_rfl) (fun _ _ _ h => h) (by rfl) hS ?_ ?_
  rotate_left
  · intro wS hSw
    try dsimp only at hSw
    first | (go_simp; done) | (go_simp; with_reducible rfl)
  try simp only [Act.put, List.getElem_toArray, List.getElem_cons_zero, List.getElem_cons_succ, List.setIfInBounds_toArray, List.set_cons_zero, List.set_cons_succ]
  refine upto_stable' [(1, 19), (2, 20), (3, 21), (4, 6)] (ncG n 19 20 21) (by kernel_rfl) hS (fun W W' h hb => bstep h hb) ?_ ?_ ?_
  · intro p hp
    simp only [List.mem_cons, List.not_mem_nil, or_false] at hp
    rcases hp with rfl | rfl | rfl | rfl
    all_goals intro y y' lo hi W W' h hi' hb e he
    · simp only [ncG] at h ⊢
      rw [e]
      obtain ⟨h1, F, h2, h3⟩ := h
      exact ⟨h1, F, accsR.keep h2 hb, h3⟩
    · simp only [ncG] at h ⊢
      rw [e]
      obtain ⟨h1, F, h2, h3⟩ := h
      exact ⟨h1, F, ldrsR.keep h2 hb, h3⟩
    · have e1 := he (1, 19) (by simp) (by kernel_rfl)
      have e2 := he (2, 20) (by simp) (by kernel_rfl)
      simp only [ncG] at h ⊢
      rw [e, e1, e2]
      exact h
    · simp only [ncG] at h ⊢
      rw [e]
      exact ⟨h.1, h.2.1, ⟨cell_keep hb h.2.2.1.1, cell_keep hb h.2.2.1.2.1, cell_keep hb h.2.2.1.2.2.1, cell_keep hb h.2.2.1.2.2.2.1, cell_keep hb h.2.2.1.2.2.2.2⟩, fun o => by rw [(bcell hb).2 _ _ (Nat.lt_of_lt_of_le h.2.1 hi'.2.2)]; exact h.2.2.2 o⟩
  · intro p hp
    simp only [List.mem_cons, List.not_mem_nil, or_false] at hp
    rcases hp with rfl | rfl | rfl | rfl
    all_goals
      refine ⟨_, rfl, rfl, ?_⟩
      intro y W lo hi hSW hBW hd hap K hK
      clear hap
    · clear hd
      obtain ⟨w', hmk, ho, hb⟩ := HM1.out W
      refine ⟨?_⟩
      simp only [over, Act.put, List.getElem_toArray, List.getElem_cons_zero, List.getElem_cons_succ, List.map_cons, List.map_nil, List.foldl_cons, List.foldl_nil, List.setIfInBounds_toArray, List.set_cons_zero, List.set_cons_succ] at hK ⊢
      go_simp
      refine hK _ _ hb ?_
      simp only [ncG, updV]
      exact ⟨⟨some ⟨W.heap.size, 0, none⟩, by simp⟩, _, by simpa using ho, fun b hb' => (accsR.rng ho b hb').2⟩
    · clear hd
      obtain ⟨w', hmk, ho, hb⟩ := HM2.out W
      refine ⟨?_⟩
      simp only [over, Act.put, List.getElem_toArray, List.getElem_cons_zero, List.getElem_cons_succ, List.map_cons, List.map_nil, List.foldl_cons, List.foldl_nil, List.setIfInBounds_toArray, List.set_cons_zero, List.set_cons_succ] at hK ⊢
      go_simp
      refine hK _ _ hb ?_
      simp only [ncG, updV]
      exact ⟨⟨some ⟨W.heap.size, 0, none⟩, by simp⟩, _, by simpa using ho, fun b hb' => (ldrsR.rng ho b hb').2⟩
    · have g1 := (hd (1, 19) (by simp) (by kernel_rfl)).2
      have g2 := (hd (2, 20) (by simp) (by kernel_rfl)).2
      clear hd
      simp only [ncG] at g1 g2
      obtain ⟨⟨q1, e1⟩, _⟩ := g1
      obtain ⟨⟨q2, e2⟩, _⟩ := g2
      refine ⟨?_⟩
      simp only [over, Act.put, List.getElem_toArray, List.getElem_cons_zero, List.getElem_cons_succ, List.map_cons, List.map_nil, List.foldl_cons, List.foldl_nil, List.setIfInBounds_toArray, List.set_cons_zero, List.set_cons_succ] at hK ⊢
      simp only [e1, e2] at hK ⊢
      go_simp
      refine hK _ _ (Below.refl _ _) ?_
      simp only [ncG, updV]
      simp [e1, e2]
    · clear hd
      refine ⟨?_⟩
      simp only [over, Act.put, List.getElem_toArray, List.getElem_cons_zero, List.getElem_cons_succ, List.map_cons, List.map_nil, List.foldl_cons, List.foldl_nil, List.setIfInBounds_toArray, List.set_cons_zero, List.set_cons_succ] at hK ⊢
      go_simp
      refine hK _ _ (by (repeat (first | exact Below.refl _ _ | assumption | refine Below.drew ?_ | refine balloc ?_ _ | refine bset ?_ (by simp; omega) _ | refine bset ?_ (by simp) _ | refine bstep ?_ (by assumption)))) ?_
      simp only [ncG, updV]
      exact ⟨by simp, by simp, ⟨by simp [go_sem], by simp [go_sem], by simp [go_sem], by simp [go_sem], by simp [go_sem]⟩, fun o => by simp [go_sem]⟩
  · refine ⟨_, rfl, ?_⟩
    intro y W lo hi hSW hBW hd hap K hK
    have g1 := hd (1, 19) (by simp)
    have g2 := hd (2, 20) (by simp)
    have g3 := (hd (3, 21) (by simp)).2
    have g4 := hd (4, 6) (by simp)
    clear hd
    have p12 := hap (1, 19) (by simp) (2, 20) (by simp) (by simp)
    have p14 := hap (1, 19) (by simp) (4, 6) (by simp) (by simp)
    have p24 := hap (2, 20) (by simp) (4, 6) (by simp) (by simp)
    clear hap
    simp only [ncG, ApartB, InB] at g1 g2 g3 g4 p12 p14 p24
    obtain ⟨b1, ⟨aa, e1⟩, Fa, oa, la⟩ := g1
    obtain ⟨b2, ⟨al, e2⟩, Fl, ol, ll⟩ := g2
    obtain ⟨b4, e4, hlh, ⟨z0, z1, z2, z3, z4⟩, zf⟩ := g4
    rw [e1] at oa g3
    rw [e2] at ol g3
    have ta : ∀ b, Fa b → lo 1 ≤ b ∧ b < hi 1 := fun b h => ⟨(accsR.rng oa b h).1, la b h⟩
    have tl : ∀ b, Fl b → lo 2 ≤ b ∧ b < hi 2 := fun b h => ⟨(ldrsR.rng ol b h).1, ll b h⟩
    have hd0 : w1.heap.size ≤ w1.drew.heap.size := by simp
    have HFF : Hid ((∀ b, Fa b → w1.heap.size ≤ b ∧ b < W.heap.size ∧ ¬ b = lo 4 ∧ ¬ Fl b) ∧ ∀ b, Fl b → w1.heap.size ≤ b ∧ b < W.heap.size ∧ ¬ b = lo 4) := ⟨fun b h => by
      have := ta b h
      exact ⟨by omega, by omega, by omega, fun h2 => by have := tl b h2; omega⟩, fun b h => by have := tl b h; exact ⟨by omega, by omega, by omega⟩⟩
    have HB : Hid (w1.heap.size ≤ lo 4 ∧ lo 4 < W.heap.size) := ⟨by omega, by omega⟩
    replace oa := accsR.base (base' := w.heap.size) oa (by omega)
    replace ol := ldrsR.base (base' := w.heap.size) ol (by omega)
    clear ta tl la ll e1 e2 p12 p14 p24 b1 b2 b4 hlh HM1 HM2
    generalize lo 4 = B at *
    refine ⟨?_⟩
    simp only [over, Act.put, List.getElem_toArray, List.getElem_cons_zero, List.getElem_cons_succ, List.map_cons, List.map_nil, List.foldl_cons, List.foldl_nil, List.setIfInBounds_toArray, List.set_cons_zero, List.set_cons_succ]
    simp only [e4, g3]
    clear e4 g3 hS
    go_simp
    refine hK _ _ ?_
    clear hK K
    refine NoPanic.normal ?_
    have hnA : ¬ Fa B := fun h => (HFF.out.1 B h).2.2.1 rfl
    have hnL : ¬ Fl B := fun h => (HFF.out.2 B h).2.2 rfl
    obtain ⟨W1, hW1⟩ : ∃ W1, W1 = ((((W.setCell ⟨B, 0, none⟩ (.slice none 0 0)).setCell ⟨B, 1, none⟩ (.slice none 0 0)).setCell ⟨B, 2, none⟩ (.slice aa n n)).setCell ⟨B, 3, none⟩ (.slice al 2 2)).setCell ⟨B, 4, none⟩ (.slice none 0 0) := ⟨_, rfl⟩
    have HOa : Hid (accsR.O W1 w.heap.size Fa (.slice aa n n) (List.replicate n accE)) := by rw [hW1]; exact setX5 accsR oa hnA _ _ _ _ _
    have HOl : Hid (ldrsR.O W1 w.heap.size Fl (.slice al 2 2) (List.replicate 2 ldrE)) := by rw [hW1]; exact setX5 ldrsR ol hnL _ _ _ _ _
    have i0 : W1.cell? ⟨B, 0, none⟩ = some (.slice none 0 0) := by rw [hW1]; simp [go_sem, z0, z1, z2, z3, z4, zf]
    have i1 : W1.cell? ⟨B, 1, none⟩ = some (.slice none 0 0) := by rw [hW1]; simp [go_sem, z0, z1, z2, z3, z4, zf]
    have i2 : W1.cell? ⟨B, 2, none⟩ = some (.slice aa n n) := by rw [hW1]; simp [go_sem, z0, z1, z2, z3, z4, zf]
    have i3 : W1.cell? ⟨B, 3, none⟩ = some (.slice al 2 2) := by rw [hW1]; simp [go_sem, z0, z1, z2, z3, z4, zf]
    have i4 : W1.cell? ⟨B, 4, none⟩ = some (.slice none 0 0) := by rw [hW1]; simp [go_sem, z0, z1, z2, z3, z4, zf]
    have if_ : ∀ o, W1.frozen? ⟨B, o, none⟩ = false := fun o => by rw [hW1]; simp [go_sem, zf]
    have hsz : W1.heap.size = W.heap.size := by rw [hW1]; simp
    have hB11 : Below w1.heap.size w1 W1 := by
      rw [hW1]
      exact bset (bset (bset (bset (bset hSW HB.out.1 _) HB.out.1 _) HB.out.1 _) HB.out.1 _) HB.out.1 _
    rw [← hsz] at HB HFF
    have HSz : Hid (W1.heap.size = W.heap.size) := hsz
    rw [← hW1]
    clear hW1 hsz z0 z1 z2 z3 z4 zf hSW hBW oa ol hnA hnL HSz
    replace y0 := cell_keep hB11 y0
    replace r0 := cell_keep hB11 r0
    replace r1 := cell_keep hB11 r1
    replace r2 := cell_keep hB11 r2
    replace r3 := cell_keep hB11 r3
    replace r4 := cell_keep hB11 r4
    replace r5 := cell_keep hB11 r5
    replace rf : ∀ o, W1.frozen? ⟨w.heap.size + 1, o, none⟩ = false := fun o => by rw [(bcell hB11).2 _ _ (by omega)]; exact rf o
    have hBW1 : Below w.heap.size w W1 := bstep hB1 hB11
    have hzW := hB11.size
    clear hB11
    go_wp2
    go_loopw [7] (fun i W => ∃ (k : Nat) (a : Option Addr) (c : Nat) (Fs : Nat → Prop), k ≤ m ∧ i = .int .i64 k ∧ Hid (shdsR.O W W1.heap.size Fs (.slice a k c) (shN g k)) ∧ (W.cell? ⟨B, 0, none⟩ = some (.slice none 0 0) ∧ W.cell? ⟨B, 1, none⟩ = some (.slice a k c) ∧ W.cell? ⟨B, 2, none⟩ = some (.slice aa n n) ∧ W.cell? ⟨B, 3, none⟩ = some (.slice al 2 2) ∧ W.cell? ⟨B, 4, none⟩ = some (.slice none 0 0)) ∧ (∀ o, W.frozen? ⟨B, o, none⟩ = false) ∧ Hid (Mod (fun b => b = B) W1 W)) (fun i _ => m - (intOf i).toNat)
    case atStart => exact ⟨0, none, 0, _, Nat.zero_le _, rfl, no_nil _ _ _ _ _ _, ⟨i0, i1, i2, i3, i4⟩, if_, Mod.refl _ _⟩
    case round =>
      obtain ⟨k, as_, cs_, Fs, hk, rfl, HO, ⟨z0, z1, z2, z3, z4⟩, zf, HM⟩ := hrel
      clear i0 i1 i2 i3 i4 if_
      have hB12 := HB.out
      have hne0 : ¬ w.heap.size = B := by omega
      have hne1 : ¬ w.heap.size + 1 = B := by omega
      have hBr : Below w.heap.size w wr := Mod.below hBW1 HM.out (by omega) (fun b e => by omega)
      replace y0 := HM.out.cell y0 hne0
      by_cases hlt : k < m
      · obtain ⟨bx, ox, u, rfl, c1, hu⟩ := HG.out k hlt
        have hbl := HBl.out k hlt
        have HL : Hid (shN g (k + 1) = shN g k ++ [(newD k (g.shards.getD k default)).shard]) := shN_succ g k
        have zbx : bx < w.heap.size := World.block_lt_of_cell? w _ c1
        obtain ⟨ab, cb, rfl⟩ := bals_form hu
        have hneb : ¬ bx = B := by omega
        generalize g.shards.getD k default = bs at *
        have HNw : Hid (∀ W, Below w.heap.size w W → Calls Try.prog 16 #[.int .i64 k, .slice ab bs.length cb] W fun e w' => ∃ v F, e = .returned v ∧ shdRR.O w' W.heap.size F v (newD k bs) ∧ Below W.heap.size W w') := fun W hW => specNew10_u k _ bs W (balsR.below hu hW) hbl
        replace c1 := cell_keep hBr c1
        have zbr : bx < wr.heap.size := World.block_lt_of_cell? wr _ c1
        clear hu HG HBl r0 r1 r2 r3 r4 r5 rf
        have hi5 : (k : Int) < m := by omega
        have hi4 : (0 : Int) ≤ k := by omega
        go_wp2
        refine wp_region_noPanic ?_
        refine region_upto (fun W => W.cell? ⟨B, 1, none⟩ = some (.slice as_ k cs_) ∧ W.cell? ⟨w.heap.size, 0, none⟩ = some (.slice (some ⟨bx, ox, none⟩) m cg) ∧ W.cell? ⟨bx, ox + k, none⟩ = some (.slice ab bs.length cb)) 13 (by kernel_rfl) (⟨cell_keep (Below.drew (Below.refl _ _)) z1, cell_keep (Below.drew (Below.refl _ _)) y0, cell_keep (Below.drew (Below.refl _ _)) c1⟩) (fun hS => ?_)
        refine upto_take (i := 0) (v := ?_) rfl (by kernel_rfl) (by kernel_rfl) (by kernel_rfl) (by kernel_rfl) (fun _ _ _ h => h) (by rfl) hS ?_ ?_
        rotate_left
        · intro wS hSw
          try dsimp only at hSw
          first | (go_simp; done) | (go_simp; with_reducible rfl)
        try simp only [Act.put, List.getElem_toArray, List.getElem_cons_zero, List.getElem_cons_succ, List.setIfInBounds_toArray, List.set_cons_zero, List.set_cons_succ]
        refine upto_take (i := 1) (v := ?_) rfl (by kernel_rfl) (by kernel_rfl) (by kernel_rfl) (by kernel_rfl) (fun _ _ _ h => h) (by rfl) hS ?_ ?_
        rotate_left
        · intro wS hSw
          try dsimp only at hSw
          first | (go_simp; done) | (go_simp; with_reducible rfl)
        try simp only [Act.put, List.getElem_toArray, List.getElem_cons_zero, List.getElem_cons_succ, List.setIfInBounds_toArray, List.set_cons_zero, List.set_cons_succ]
        refine upto_take (i := 2) (v := ?_) rfl (by kernel_rfl) (by kernel_rfl) (by kernel_rfl) (by kernel_rfl) (fun _ _ _ h => h) (by rfl) hS ?_ ?_
        rotate_left
        · intro wS hSw
          try dsimp only at hSw
          first | (go_simp; done) | (go_simp; with_reducible rfl)
        try simp only [Act.put, List.getElem_toArray, List.getElem_cons_zero, List.getElem_cons_succ, List.setIfInBounds_toArray, List.set_cons_zero, List.set_cons_succ]
        refine upto_take (i := 3) (v := ?_) rfl (by kernel_rfl) (by kernel_rfl) (by kernel_rfl) (by kernel_rfl) (fun _ _ _ h => h) (by rfl) hS ?_ ?_
        rotate_left
        · intro wS hSw
          try dsimp only at hSw
          first | (go_simp; done) | (go_simp; with_reducible rfl)
        try simp only [Act.put, List.getElem_toArray, List.getElem_cons_zero, List.getElem_cons_succ, List.setIfInBounds_toArray, List.set_cons_zero, List.set_cons_succ]
        refine upto_take (i := 4) (v := ?_) rfl (by kernel_rfl) (by kernel_rfl) (by kernel_rfl) (by kernel_rfl) (fun _ _ _ h => h) (by rfl) hS ?_ ?_
        rotate_left
        · intro wS hSw
          try dsimp only at hSw
          first | (go_simp; done) | (go_simp; with_reducible rfl)
        try simp only [Act.put, List.getElem_toArray, List.getElem_cons_zero, List.getElem_cons_succ, List.setIfInBounds_toArray, List.set_cons_zero, List.set_cons_succ]
        refine upto_take (i := 5) (v := ?_) rfl (by kernel_rfl) (by kernel_rfl) (by kernel_rfl) (by kernel_rfl) (fun _ _ _ h => h) (by rfl) hS ?_ ?_
        rotate_left
        · intro wS hSw
          try dsimp only at hSw
          first | (go_simp; done) | (go_simp; with_reducible rfl)
        try simp only [Act.put, List.getElem_toArray, List.getElem_cons_zero, List.getElem_cons_succ, List.setIfInBounds_toArray, List.set_cons_zero, List.set_cons_succ]
        refine upto_take (i := 6) (v := ?_) rfl (by kernel_rfl) (by kernel_rfl) (by kernel_rfl) (by kernel_rfl) (fun _ _ _ h => h) (by rfl) hS ?_ ?_
        rotate_left
        · intro wS hSw
          try dsimp only at hSw
          first | (go_simp; done) | (go_simp; with_reducible rfl)
        try simp only [Act.put, List.getElem_toArray, List.getElem_cons_zero, List.getElem_cons_succ, List.setIfInBounds_toArray, List.set_cons_zero, List.set_cons_succ]
        refine upto_take (i := 7) (v := ?_) rfl (by kernel_rfl) (by kernel_rfl) (by kernel_rfl) (by kernel_rfl) (fun _ _ _ h => h) (by rfl) hS ?_ ?_
        rotate_left
        · intro wS hSw
          try dsimp only at hSw
          first | (go_simp; done) | (go_simp; with_reducible rfl)
        try simp only [Act.put, List.getElem_toArray, List.getElem_cons_zero, List.getElem_cons_succ, List.setIfInBounds_toArray, List.set_cons_zero, List.set_cons_succ]
        have hbd : Below wr.heap.size wr wr.drew := Below.drew (Below.refl _ _)
        refine upto_step (i := 8) (by kernel_rfl) rfl ?_
        intro K hK
        go_simp
        refine (HNw.out _ (bstep hBr hbd)).mono ?_
        rintro e w2 ⟨v2, F2, rfl, o2, hb2⟩
        have hB2 : Below wr.heap.size wr w2 := bstep hbd hb2
        have hS2 : (fun W => W.cell? ⟨B, 1, none⟩ = some (.slice as_ k cs_) ∧ W.cell? ⟨w.heap.size, 0, none⟩ = some (.slice (some ⟨bx, ox, none⟩) m cg) ∧ W.cell? ⟨bx, ox + k, none⟩ = some (.slice ab bs.length cb)) w2 := ⟨cell_keep hB2 z1, cell_keep hB2 y0, cell_keep hB2 c1⟩
        refine hK _ _ (fun _ => hS2) ?_
        clear hK K
        have HF2' : ∀ b, F2 b → wr.heap.size ≤ b := fun b hb => (shdRR.rng o2 b hb).1
        obtain ⟨p1, p2, p3, p4, p5, q1, q2, q3, q4, q5, F1, rfl, o1⟩ := shdRR_parts o2
        generalize (newD k bs).code = cd at *
        generalize (newD k bs).vote = vt at *
        obtain ⟨sd, hsd⟩ : ∃ sd, sd = (newD k bs).shard := ⟨_, rfl⟩
        rw [← hsd] at o1 HL
        rw [← hsd]
        clear o2 hsd
        try simp only [Act.put, List.getElem_toArray, List.getElem_cons_zero, List.getElem_cons_succ, List.setIfInBounds_toArray, List.set_cons_zero, List.set_cons_succ]
        have HO2 : Hid (shdsR.O w2 W1.heap.size Fs (.slice as_ k cs_) (shN g k)) := shdsR.keep HO.out hB2
        have HFl : Hid (∀ b, Fs b → W1.heap.size ≤ b ∧ b < wr.heap.size) := fun b hb => shdsR.rng HO.out b hb
        have HF2 : Hid (∀ b, F1 b → wr.heap.size ≤ b) := fun b hb => (shdR.rng o1 b hb).1
        have hzr : W1.heap.size ≤ wr.heap.size := HM.out.size
        have HU : Hid (shdR.O w2 W1.heap.size F1 (.agg #[.int .i64 sd.idx, .slice p1 sd.bals.length q1, .slice p2 sd.votes.length q2, .slice p3 sd.held.length q3, .slice p4 sd.done.length q4, .slice p5 sd.appl.length q5]) sd) := shdR.base o1 (by show _ ≤ wr.heap.size; omega)
        have hz2 := hB2.size
        have hfd : (Instr.field 54 (.agg #[.int .i64 cd, .int .i64 vt, .int .i64 sd.idx, .slice p1 sd.bals.length q1, .slice p2 sd.votes.length q2, .slice p3 sd.held.length q3, .slice p4 sd.done.length q4, .slice p5 sd.appl.length q5]) 2).run Try.prog w2 = .ok (.agg #[.int .i64 sd.idx, .slice p1 sd.bals.length q1, .slice p2 sd.votes.length q2, .slice p3 sd.held.length q3, .slice p4 sd.done.length q4, .slice p5 sd.appl.length q5]) w2 := shardField _ _ _ _ _ _ _ _ ⟨_, _, _, _, _, _, _, _, _, _, _, _, _, _, _, rfl, rfl, rfl, rfl, rfl⟩ w2
        refine upto_step (i := 9) (by kernel_rfl) rfl ?_
        intro K hK
        go_simp
        refine hK _ _ (fun _ => hS2) ?_
        clear hK K hfd
        try simp only [Act.put, List.getElem_toArray, List.getElem_cons_zero, List.getElem_cons_succ, List.setIfInBounds_toArray, List.set_cons_zero, List.set_cons_succ]
        refine upto_step (i := 10) (by kernel_rfl) rfl ?_
        intro K hK
        go_simp
        have hB3 : Below wr.heap.size wr (w2.alloc (.cells #[.int .i64 sd.idx, .slice p1 sd.bals.length q1, .slice p2 sd.votes.length q2, .slice p3 sd.held.length q3, .slice p4 sd.done.length q4, .slice p5 sd.appl.length q5] 52)) := balloc hB2 _
        have hS3 : (fun W => W.cell? ⟨B, 1, none⟩ = some (.slice as_ k cs_) ∧ W.cell? ⟨w.heap.size, 0, none⟩ = some (.slice (some ⟨bx, ox, none⟩) m cg) ∧ W.cell? ⟨bx, ox + k, none⟩ = some (.slice ab bs.length cb)) (w2.alloc (.cells #[.int .i64 sd.idx, .slice p1 sd.bals.length q1, .slice p2 sd.votes.length q2, .slice p3 sd.held.length q3, .slice p4 sd.done.length q4, .slice p5 sd.appl.length q5] 52)) := ⟨cell_keep hB3 z1, cell_keep hB3 y0, cell_keep hB3 c1⟩
        refine hK _ _ (fun _ => hS3) ?_
        clear hK K
        try simp only [Act.put, List.getElem_toArray, List.getElem_cons_zero, List.getElem_cons_succ, List.setIfInBounds_toArray, List.set_cons_zero, List.set_cons_succ]
        refine upto_step (i := 11) (by kernel_rfl) rfl ?_
        intro K hK
        refine step_appH _ rfl _ _ rfl W1.heap.size Fs F1 _ (shN g k) sd w2.heap.size p1 p2 p3 p4 p5 q1 q2 q3 q4 q5 rfl rfl ?a1 ?a2 ?a3 ?a4 ?a5 ?a6 ?_
        case a1 => exact shdsR.alloc HO2.out _
        case a2 => exact shdR.alloc HU.out _
        case a3 => exact fun b h1 h2 => by have := HFl.out b h1; have := HF2.out b h2; omega
        case a4 => simp [go_sem]
        case a5 => rw [shN_len]; omega
        case a6 => simp; omega
        intro v3 w3 F3 o3 hb3 hF3
        rw [← HL.out] at o3
        obtain ⟨a3, c3, e3⟩ := shds_form (shdsR.ofO o3)
        rw [shN_len] at e3
        subst e3
        have HO3 : Hid (shdsR.O w3 W1.heap.size F3 (.slice a3 (k + 1) c3) (shN g (k + 1))) := o3
        have hB6 : Below W1.heap.size wr w3 := (hB3.mono hzr).trans hb3
        have hM5 : Mod (fun b => b = B) W1 w3 := HM.out.onto hB6
        have hlt3 : B < W1.heap.size := HB.out.2
        have hS5 : (fun W => W.cell? ⟨B, 1, none⟩ = some (.slice as_ k cs_) ∧ W.cell? ⟨w.heap.size, 0, none⟩ = some (.slice (some ⟨bx, ox, none⟩) m cg) ∧ W.cell? ⟨bx, ox + k, none⟩ = some (.slice ab bs.length cb)) w3 := ⟨(hB6.cell (p := ⟨B, 1, none⟩) (by dsimp only; omega)).trans z1, (hB6.cell (p := ⟨w.heap.size, 0, none⟩) (by dsimp only; omega)).trans y0, (hB6.cell (p := ⟨bx, ox + k, none⟩) (by dsimp only; omega)).trans c1⟩
        have k0 := (hB6.cell (p := ⟨B, 0, none⟩) hlt3).trans z0
        have k1 := (hB6.cell (p := ⟨B, 1, none⟩) hlt3).trans z1
        have k2 := (hB6.cell (p := ⟨B, 2, none⟩) hlt3).trans z2
        have k3 := (hB6.cell (p := ⟨B, 3, none⟩) hlt3).trans z3
        have k4 := (hB6.cell (p := ⟨B, 4, none⟩) hlt3).trans z4
        have kf : ∀ o, w3.frozen? ⟨B, o, none⟩ = false := fun o => (hB6.frozen (p := ⟨B, o, none⟩) hlt3).trans (zf o)
        refine hK _ _ (fun _ => hS5) ?_
        clear hK K
        try simp only [Act.put, List.getElem_toArray, List.getElem_cons_zero, List.getElem_cons_succ, List.setIfInBounds_toArray, List.set_cons_zero, List.set_cons_succ]
        refine upto_take (i := 12) (v := ?_) rfl (by kernel_rfl) (by kernel_rfl) (by kernel_rfl) (by kernel_rfl) (fun _ _ _ h => h) (by rfl) hS5 ?_ ?_
        rotate_left
        · intro wS hSw
          try dsimp only at hSw
          first | (go_simp; done) | (go_simp; with_reducible rfl)
        try simp only [Act.put, List.getElem_toArray, List.getElem_cons_zero, List.getElem_cons_succ, List.setIfInBounds_toArray, List.set_cons_zero, List.set_cons_succ]
        refine upto_step (i := 13) (by kernel_rfl) rfl ?_
        intro K hK
        go_simp
        refine hK _ _ (fun h => absurd rfl h) ?_
        clear hK K
        refine upto_done (by kernel_rfl) ?_
        refine NoPanic.normal ?_
        have HO4 : Hid (shdsR.O (w3.setCell ⟨B, 1, none⟩ (.slice a3 (k + 1) c3)) W1.heap.size F3 (.slice a3 (k + 1) c3) (shN g (k + 1))) := shdsR.set HO3.out _ hlt3
        have j0 : (w3.setCell ⟨B, 1, none⟩ (.slice a3 (k + 1) c3)).cell? ⟨B, 0, none⟩ = some (.slice none 0 0) := by simp [go_sem, k0, k1, kf]
        have j1 : (w3.setCell ⟨B, 1, none⟩ (.slice a3 (k + 1) c3)).cell? ⟨B, 1, none⟩ = some (.slice a3 (k + 1) c3) := by simp [go_sem, k0, k1, kf]
        have j2 : (w3.setCell ⟨B, 1, none⟩ (.slice a3 (k + 1) c3)).cell? ⟨B, 2, none⟩ = some (.slice aa n n) := by simp [go_sem, k2, k1, kf]
        have j3 : (w3.setCell ⟨B, 1, none⟩ (.slice a3 (k + 1) c3)).cell? ⟨B, 3, none⟩ = some (.slice al 2 2) := by simp [go_sem, k3, k1, kf]
        have j4 : (w3.setCell ⟨B, 1, none⟩ (.slice a3 (k + 1) c3)).cell? ⟨B, 4, none⟩ = some (.slice none 0 0) := by simp [go_sem, k4, k1, kf]
        have jf : ∀ o, (w3.setCell ⟨B, 1, none⟩ (.slice a3 (k + 1) c3)).frozen? ⟨B, o, none⟩ = false := fun o => by simp [go_sem, kf]
        have HM4 : Hid (Mod (fun b => b = B) W1 (w3.setCell ⟨B, 1, none⟩ (.slice a3 (k + 1) c3))) := hM5.trans (Mod.of_set w3 ⟨B, 1, none⟩ _)
        generalize w3.setCell ⟨B, 1, none⟩ (.slice a3 (k + 1) c3) = w4 at *
        clear hS hS2 hS3 hS5 hB3 hB6 o3 hb3 hF3 hB2 hb2 o1 HO HO2 HO3 HU HNw hM5 hbd k0 k1 k2 k3 k4 kf z0 z1 z2 z3 z4 zf HM hBr
        go_wp2
        exact ⟨⟨k + 1, a3, c3, F3, by omega, by go_num, HO4, ⟨j0, j1, j2, j3, j4⟩, jf, HM4⟩, by simp [intOf]; omega⟩
      · have hkm : k = m := by omega
        subst hkm
        replace r0 := HM.out.cell r0 hne1
        replace r1 := HM.out.cell r1 hne1
        replace r2 := HM.out.cell r2 hne1
        replace r3 := HM.out.cell r3 hne1
        replace r4 := HM.out.cell r4 hne1
        replace r5 := HM.out.cell r5 hne1
        replace rf : ∀ o, wr.frozen? ⟨w.heap.size + 1, o, none⟩ = false := fun o => by rw [HM.out.ice (by omega) hne1]; exact rf o
        have HOa2 : Hid (accsR.O wr w.heap.size Fa (.slice aa n n) (List.replicate n accE)) := accsR.mod HOa.out HM.out (fun b h e => (HFF.out.1 b h).2.2.1 e)
        have HOl2 : Hid (ldrsR.O wr w.heap.size Fl (.slice al 2 2) (List.replicate 2 ldrE)) := ldrsR.mod HOl.out HM.out (fun b h e => (HFF.out.2 b h).2.2 e)
        have HFs : Hid (∀ b, Fs b → W1.heap.size ≤ b) := fun b h => (shdsR.rng HO.out b h).1
        have HOs : Hid (shdsR.O wr w.heap.size Fs (.slice as_ k cs_) (shN g k)) := shdsR.base HO.out (by omega)
        clear HO HOa HOl HG HBl HM
        go_wp2
        refine bodyPost_ret (v := .agg #[.int .i64 0, .slice none 0 0, .slice as_ k cs_, .slice aa n n, .slice al 2 2, .slice none 0 0]) (by simp [results, Try.results5, go_sem, r0, r1, r2, r3, r4, r5, rf]) rfl ?_
        obtain ⟨F, h⟩ := clu_new 0 (setX6 shdsR HOs.out (B := w.heap.size + 1) (fun h => by have := HFs.out _ h; omega) (.int .i64 0) (.slice none 0 0) (.slice as_ k cs_) (.slice aa n n) (.slice al 2 2) (.slice none 0 0)) (setX6 accsR HOa2.out (B := w.heap.size + 1) (fun h => by have := HFF.out.1 _ h; omega) (.int .i64 0) (.slice none 0 0) (.slice as_ k cs_) (.slice aa n n) (.slice al 2 2) (.slice none 0 0)) (setX6 ldrsR HOl2.out (B := w.heap.size + 1) (fun h => by have := HFF.out.2 _ h; omega) (.int .i64 0) (.slice none 0 0) (.slice as_ k cs_) (.slice aa n n) (.slice al 2 2) (.slice none 0 0)) (fun b h1 h2 => by have := HFs.out b h1; have := HFF.out.1 b h2; omega) (fun b h1 h2 => by have := HFs.out b h1; have := HFF.out.2 b h2; omega) (fun b h1 h2 => (HFF.out.1 b h1).2.2.2 h2)
        refine ⟨_, F, rfl, ?_, by (repeat (first | refine bset ?_ (by simp; omega) _ | refine bset ?_ (by simp) _ | refine balloc ?_ _ | assumption))⟩
        rw [HC'.out]
        exact h
end Go.Proofs.Ytggigaghfcpbbaa

/-
  How much a new cluster weighs.
-/
set_option linter.unusedVariables false
namespace Go.Proofs.Ytggigaghfcpbbaa
open Go.RowKit
set_option linter.unusedSectionVars false
variable [DecidableEq Leg] [Inhabited Leg] [DecidableEq Mrk] [Inhabited Mrk] [DecidableEq Bal] [Inhabited Bal] [DecidableEq Cont] [Inhabited Cont] [DecidableEq Shd] [Inhabited Shd] [DecidableEq Ledg] [Inhabited Ledg] [DecidableEq ShdR] [Inhabited ShdR] [DecidableEq Vot] [Inhabited Vot] [DecidableEq Slt] [Inhabited Slt] [DecidableEq Acc] [Inhabited Acc] [DecidableEq Trr] [Inhabited Trr] [DecidableEq Hrd] [Inhabited Hrd] [DecidableEq Ldr] [Inhabited Ldr] [DecidableEq Msg] [Inhabited Msg] [DecidableEq Clu] [Inhabited Clu] [DecidableEq CluR] [Inhabited CluR]

theorem cntTo_top {α : Type} [Inhabited α] (f : α → Nat) (M : Nat) (xs : List α) (h : ∀ k, k < xs.length → f (xs.getD k default) ≤ M) : ∀ k, k ≤ xs.length → cntTo f k xs ≤ M * k
  | 0, _ => by simp [cntTo]
  | k + 1, hk => by
    have ih := cntTo_top f M xs h k (by omega)
    rw [cntTo_succ f k xs (by omega)]
    have := h k (by omega)
    rw [Nat.mul_succ]
    omega
theorem newD_shard_wt (i : Int) (bs : List Bal) : wtShd (newD i bs).shard ≤ bs.length := by
  have e : wtConts [] = 0 := rfl
  unfold newD
  split
  · show wtShd (shd0 i bs) ≤ _
    unfold shd0 wtShd wtBals wtMrks wtInts
    simp only [e, List.length_nil]
    omega
  · show wtShd (shd0 0 []) ≤ _
    unfold shd0 wtShd wtBals wtMrks wtInts
    simp only [e, List.length_nil]
    omega
theorem cluE_wt (c : Int) : wtCluR (cluE c) = 0 := rfl
theorem newC_wt (g : Ledg) (a : Int) : wtCluR (newC g a) ≤ 1000 := by
  unfold newC
  split
  · rename_i h0
    split
    · rename_i h1
      obtain ⟨hl1, hl3, hb⟩ := ledOk_of h0
      have hn : a.toNat ≤ 5 := by
        unfold inB at h1
        simp only [Bool.and_eq_true, decide_eq_true_eq] at h1
        omega
      have s1 : cntTo wtShd (shN g g.shards.length).length (shN g g.shards.length) ≤ 18 * (shN g g.shards.length).length := cntTo_top wtShd 18 _ (fun k hk => by
        rw [shN_len] at hk
        have e : (shN g g.shards.length).getD k default = (newD (k : Int) (g.shards.getD k default)).shard := by
          unfold shN
          simp [List.getD, hk]
        rw [e]
        have h2 := newD_shard_wt (k : Int) (g.shards.getD k default)
        have h3 := (hb k hk).len
        omega) _ (Nat.le_refl _)
      have s2 : cntTo wtAcc (List.replicate a.toNat accE).length (List.replicate a.toNat accE) ≤ 0 * (List.replicate a.toNat accE).length := cntTo_top wtAcc 0 _ (fun k hk => by
        rw [List.length_replicate] at hk
        have e : (List.replicate a.toNat accE).getD k default = accE := by simp [List.getD, hk]
        rw [e]
        exact Nat.le_refl _) _ (Nat.le_refl _)
      have s3 : wtLdrs (List.replicate 2 ldrE) = 2 := rfl
      have s4 : wtConts [] = 0 := rfl
      rw [shN_len] at s1
      rw [List.length_replicate] at s2
      show wtClu ⟨[], shN g g.shards.length, List.replicate a.toNat accE, List.replicate 2 ldrE, []⟩ ≤ 1000
      unfold wtClu wtShds wtAccs wtMsgs wtL
      simp only [s3, s4, shN_len, List.length_replicate, List.length_nil]
      omega
    · rw [cluE_wt]; omega
  · rw [cluE_wt]; omega
end Go.Proofs.Ytggigaghfcpbbaa

/-
  Cells that are kept. (Written by program: lawgen.py.)
-/
namespace Go.Proofs.Ytggigaghfcpbbaa
open Go.RowKit
theorem keepN14 {w w' : World} {a0 : Addr} {x0 : Value} {a1 : Addr} {x1 : Value} {a2 : Addr} {x2 : Value} {a3 : Addr} {x3 : Value} {a4 : Addr} {x4 : Value} {a5 : Addr} {x5 : Value} {a6 : Addr} {x6 : Value} {a7 : Addr} {x7 : Value} {a8 : Addr} {x8 : Value} {a9 : Addr} {x9 : Value} {a10 : Addr} {x10 : Value} {a11 : Addr} {x11 : Value} {a12 : Addr} {x12 : Value} {a13 : Addr} {x13 : Value} (hb : Below w.heap.size w w') (g0 : w.cell? a0 = some x0) (g1 : w.cell? a1 = some x1) (g2 : w.cell? a2 = some x2) (g3 : w.cell? a3 = some x3) (g4 : w.cell? a4 = some x4) (g5 : w.cell? a5 = some x5) (g6 : w.cell? a6 = some x6) (g7 : w.cell? a7 = some x7) (g8 : w.cell? a8 = some x8) (g9 : w.cell? a9 = some x9) (g10 : w.cell? a10 = some x10) (g11 : w.cell? a11 = some x11) (g12 : w.cell? a12 = some x12) (g13 : w.cell? a13 = some x13) : Below w.heap.size w w' ∧ w'.cell? a0 = some x0 ∧ w'.cell? a1 = some x1 ∧ w'.cell? a2 = some x2 ∧ w'.cell? a3 = some x3 ∧ w'.cell? a4 = some x4 ∧ w'.cell? a5 = some x5 ∧ w'.cell? a6 = some x6 ∧ w'.cell? a7 = some x7 ∧ w'.cell? a8 = some x8 ∧ w'.cell? a9 = some x9 ∧ w'.cell? a10 = some x10 ∧ w'.cell? a11 = some x11 ∧ w'.cell? a12 = some x12 ∧ w'.cell? a13 = some x13 :=
  ⟨hb, cell_keep hb g0, cell_keep hb g1, cell_keep hb g2, cell_keep hb g3, cell_keep hb g4, cell_keep hb g5, cell_keep hb g6, cell_keep hb g7, cell_keep hb g8, cell_keep hb g9, cell_keep hb g10, cell_keep hb g11, cell_keep hb g12, cell_keep hb g13⟩
end Go.Proofs.Ytggigaghfcpbbaa

/-
  What is handed in, read as data, is data in memory: rows and structs of rows.
-/
namespace Go.Proofs.Ytggigaghfcpbbaa
open Go.ChangeShapes Go.WideShapes Go.ChangeAt Go.RowKit Go.Joins

theorem spot_none {W : World} {base k : Nat} {a : Addr} {cs : List Value} (hk : 0 < k) (hc : W.cells? base a k = some cs) : a.spot = none := by
  obtain ⟨hb, hl, hcell⟩ := World.cells?_some hc
  have q0 := hcell 0 hk
  obtain ⟨b, o, s⟩ := a
  cases s with
  | none => rfl
  | some s =>
    have : 0 < cs.length := by omega
    simp [Addr.add, World.cell?, this] at q0
    split at q0 <;> simp at q0
theorem add_plain (b o i : Nat) : (Addr.mk b o none).add i = ⟨b, o + i, none⟩ := by
  by_cases h : i = 0
  · subst h; simp [Addr.add]
  · simp [Addr.add, h]
theorem openRow {H : Type} {enc : TypeId × Value → H} {W : World} {sp : Nat → Bool} {held : Bool} {n : Nat} {v : Value} {y : DataW H × List MemPlace} {t e size : Nat} {α : Type} [Inhabited α] {q : List Value → α → Prop}
    (ht : Try.prog.underlying t = some (.slice e)) (hz : Try.prog.cellsOf e = size) (hs : 0 < size)
    (hq : ∀ n cs y, DataW.trod enc Try.prog W 0 sp held n e cs = some y → cs.length = size → ∃ x, q cs x) (h : DataW.trod enc Try.prog W 0 sp held n t [v] = some y) :
    ∃ (a : Option Addr) (cap : Nat) (xs : List α) (cs : Nat → List Value), v = .slice a xs.length cap ∧ xs.length ≤ cap ∧ cap ≤ maxLen ∧ ∀ i, i < xs.length → q (cs i) (xs.getD i default) ∧ (cs i).length = size ∧ ∃ b o, a = some ⟨b, o, none⟩ ∧ ∀ j, j < size → W.cell? ⟨b, o + i * size + j, none⟩ = (cs i)[j]? := by
  rcases Go.Deep.open_slice ht h with ⟨hcs, _⟩ | ⟨a, len, cap, m, n', D, Pl, hcs, hb, hl, hm, hmm, _, hc⟩
  · simp at hcs
    subst hcs
    exact ⟨none, 0, [], fun _ => [], rfl, by simp, by unfold maxLen; omega, fun i hi => by simp at hi⟩
  · simp at hcs
    subst hcs
    have hlm : len ≤ m := by rw [hmm]; split <;> omega
    rw [hz] at hc
    have h1 : ∀ i, i < len → ∃ z : List Value × α, q z.1 z.2 ∧ z.1.length = size ∧ ∃ b o, a = ⟨b, o, none⟩ ∧ ∀ j, j < size → W.cell? ⟨b, o + i * size + j, none⟩ = z.1[j]? := by
      intro i hi
      obtain ⟨cs', h1, h2⟩ := hc i (by omega)
      obtain ⟨_, hl', hcell⟩ := World.cells?_some h1
      obtain ⟨x, hx⟩ := hq _ _ _ h2 hl'
      obtain ⟨cs0, k1, _⟩ := hc 0 (by omega)
      have hsp := spot_none hs k1
      obtain ⟨b, o, s⟩ := a
      have hs0 : s = none := by simpa [Addr.add] using hsp
      subst hs0
      refine ⟨(cs', x), hx, hl', b, o, rfl, fun j hj => ?_⟩
      have := hcell j hj
      rw [add_plain, add_plain] at this
      exact this
    obtain ⟨f, hf⟩ := Go.Deep.choose_lt h1
    refine ⟨some a, cap, (List.range len).map (fun i => (f i).2), fun i => (f i).1, by simp, by simpa using hl, hm, fun i hi => ?_⟩
    simp at hi
    obtain ⟨g1, g2, b, o, rfl, g3⟩ := hf i hi
    have e : (List.map (fun i => (f i).2) (List.range len)).getD i default = (f i).2 := by simp [List.getD, hi]
    rw [e]
    exact ⟨g1, g2, b, o, rfl, g3⟩
theorem openN {H : Type} {enc : TypeId × Value → H} {W : World} {sp : Nat → Bool} {held : Bool} {n : Nat} {v : Value} {y : DataW H × List MemPlace} {t e size : Nat} {α : Type} [Inhabited α] {R : Rep α} {te : Nat} {lv : Value → List Value}
    (ht : Try.prog.underlying t = some (.slice e)) (hz : Try.prog.cellsOf e = size) (hs : 0 < size)
    (hq : ∀ n cs y, DataW.trod enc Try.prog W 0 sp held n e cs = some y → cs.length = size → ∃ x u, lv u = cs ∧ R.V W u x) (h : DataW.trod enc Try.prog W 0 sp held n t [v] = some y) :
    ∃ xs : List α, (nRep R te size lv).V W v xs := by
  obtain ⟨a, cap, xs, cs, rfl, h1, h2, h3⟩ := openRow (q := fun cs x => ∃ u, lv u = cs ∧ R.V W u x) ht hz hs hq h
  refine ⟨xs, a, cap, rfl, h1, h2, fun i hi => ?_⟩
  obtain ⟨⟨u, g1, g2⟩, g3, b, o, g4, g5⟩ := h3 i hi
  exact ⟨b, o, u, g4, by rw [g1]; exact g3, fun j hj => by rw [g1]; exact g5 j hj, g2⟩
end Go.Proofs.Ytggigaghfcpbbaa


import Derived.Test.YtndghenlapbaaaaGreatPrnVoteShardLaw29
import Derived.Test.YtndghenlapbaaaaGreatPrnVoteShardLaw1
import Derived.Test.YtndghenlapbaaaaGreatPrnVoteShardLaw5
import Derived.Deep.RegionHeld3
import Derived.Test.YtndghenlapbaaaaGreatPrnVoteShardLaw23
import Derived.Test.YtndghenlapbaaaaGreatPrnVoteShardLaw2
import Derived.Deep.DrawnRows
import Derived.Deep.DeepCutAuto
set_option linter.unusedSimpArgs false
set_option linter.unusedVariables false
set_option linter.unusedSectionVars false

/-
 Proved: laws.FnExactVoteShard answers true at every argument, and its arguments read behind the call as they read before. No condition. (The walk.)
-/
namespace Go.Proofs.YtndghenlapbaaaaGreat.voteShardLaw
open Go.RowKit
variable [DecidableEq Rw] [Inhabited Rw] [DecidableEq Bal] [Inhabited Bal] [DecidableEq Ledg] [Inhabited Ledg] [DecidableEq Leg] [Inhabited Leg] [DecidableEq Cont] [Inhabited Cont] [DecidableEq LedgR] [Inhabited LedgR] [DecidableEq OutcR] [Inhabited OutcR] [DecidableEq Mrk] [Inhabited Mrk] [DecidableEq Shd] [Inhabited Shd] [DecidableEq ShdR] [Inhabited ShdR]
attribute [local go_sem ↓] Go.wp_at_zero Go.wp_at_succ

def vtLG (base : Nat) (d : Shd) (c : Cont) (D : ShdR) (s0 s1 s2 s3 : Nat) : Nat → (Nat → Value) → (Nat → Prop) → World → Prop
 | 1, y, F, w => shdR.O w base F (y s0) d
 | 3, y, F, w => contR.O w base F (y s1) c
 | 4, y, F, w => shdRR.O w base F (y s2) D
 | 5, y, F, w => ∃ B, y s3 = .pointer (some ⟨B, 0, none⟩) ∧ F B ∧ base ≤ B ∧ B < w.heap.size ∧ (w.cell? ⟨B, 0, none⟩ = some (.int .i64 0) ∧ w.cell? ⟨B, 1, none⟩ = some (.int .i64 0) ∧ w.cell? ⟨B, 2, none⟩ = some (.int .i64 0) ∧ w.cell? ⟨B, 3, none⟩ = some (.slice none 0 0) ∧ w.cell? ⟨B, 4, none⟩ = some (.slice none 0 0) ∧ w.cell? ⟨B, 5, none⟩ = some (.slice none 0 0) ∧ w.cell? ⟨B, 6, none⟩ = some (.slice none 0 0) ∧ w.cell? ⟨B, 7, none⟩ = some (.slice none 0 0)) ∧ ∀ o, w.frozen? ⟨B, o, none⟩ = false
 | _, _, _, _ => True
set_option maxHeartbeats 8000000 in
set_option maxRecDepth 20000 in
theorem walk (x0 : Value) (d0 : Shd) (x1 : Value) (d1 : Cont) (w : World) (hx0 : shdR.V w x0 d0) (hx1 : contR.V w x1 d1) :
  Calls Tryz.prog 3 #[x0, x1] w fun e w' => e = .returned (.bool true) ∧ Below w.heap.size w w' := by
 have hX0 := hx0
 obtain ⟨ax01, ax02, ax03, ax04, ax05, cx01, cx02, cx03, cx04, cx05, rfl⟩ := shd_form hx0
 have hX1 := hx1
 obtain ⟨ax11, cx11, rfl⟩ := cont_form hx1
 go_enter Tryz.func3, Tryz.ntmps3
 go_wp2_with fail
 refine (szShard_u _ d0 1048576 _ (shdR.below hX0 (qBq)) (by omega) (by omega)).mono ?_
 rintro e w1 ⟨rfl, hb1⟩
 have hB1 : Below w.heap.size w w1 := qBq
 have s1 := hb1.size
 try simp only [World.size_alloc] at s1
 have b0_0 : w1.cell? ⟨w.heap.size, 0, none⟩ = some (.int .i64 d0.idx) := cK hb1 (by simp [go_sem])
 have b0_1 : w1.cell? ⟨w.heap.size, 1, none⟩ = some (.slice ax01 d0.bals.length cx01) := cK hb1 (by simp [go_sem])
 have b0_2 : w1.cell? ⟨w.heap.size, 2, none⟩ = some (.slice ax02 d0.votes.length cx02) := cK hb1 (by simp [go_sem])
 have b0_3 : w1.cell? ⟨w.heap.size, 3, none⟩ = some (.slice ax03 d0.held.length cx03) := cK hb1 (by simp [go_sem])
 have b0_4 : w1.cell? ⟨w.heap.size, 4, none⟩ = some (.slice ax04 d0.done.length cx04) := cK hb1 (by simp [go_sem])
 have b0_5 : w1.cell? ⟨w.heap.size, 5, none⟩ = some (.slice ax05 d0.appl.length cx05) := cK hb1 (by simp [go_sem])
 have b1_0 : w1.cell? ⟨w.heap.size + 1, 0, none⟩ = some (.int .i64 d1.id) := cK hb1 (by simp [go_sem])
 have b1_1 : w1.cell? ⟨w.heap.size + 1, 1, none⟩ = some (.slice ax11 d1.legs.length cx11) := cK hb1 (by simp [go_sem])
 clear hb1
 by_cases hs0 : szLen 1048576 ((wtShd d0 : Nat) : Int) < 0
 ·
  go_wp2
  go_ret
  exact ⟨rfl, qBq⟩
 go_wp2_with fail
 refine (szContract_u _ d1 (szLen 1048576 (wtShd d0 : Nat)) _ (contR.below hX1 (qBq)) (by omega) (by have := szLen_le (left := 1048576) (n := wtShd d0) (by omega); omega)).mono ?_
 rintro e w2 ⟨rfl, hb2⟩
 have hB2 : Below w.heap.size w w2 := qBq
 have s2 := hb2.size
 try simp only [World.size_alloc] at s2
 replace b0_0 := cK hb2 (cK (qBq) b0_0)
 replace b0_1 := cK hb2 (cK (qBq) b0_1)
 replace b0_2 := cK hb2 (cK (qBq) b0_2)
 replace b0_3 := cK hb2 (cK (qBq) b0_3)
 replace b0_4 := cK hb2 (cK (qBq) b0_4)
 replace b0_5 := cK hb2 (cK (qBq) b0_5)
 replace b1_0 := cK hb2 (cK (qBq) b1_0)
 replace b1_1 := cK hb2 (cK (qBq) b1_1)
 clear hB1
 rw [szLen_add (n := wtShd d0) (by omega)]
 clear hb2
 by_cases hsz : 1048576 < wtShd d0 + wtCont d1
 ·
  rw [show szLen 1048576 ((wtShd d0 + wtCont d1 : Nat) : Int) = -1 by unfold szLen; rw [if_pos (by omega)]]
  go_wp2
  go_ret
  exact ⟨rfl, qBq⟩
 have e1 : szLen 1048576 ((wtShd d0 + wtCont d1 : Nat) : Int) = 1048576 - ((wtShd d0 + wtCont d1 : Nat) : Int) := by unfold szLen; rw [if_neg (by omega)]
 have e2 : ¬ (1048576 : Int) - ((wtShd d0 + wtCont d1 : Nat) : Int) < 0 := by omega
 rw [e1]
 clear e1
 have hcA0 := shd_cnt d0
 have hcA1 := cont_cnt d1
 have hwR : wtShdR (voteD d0 d1) ≤ 1048576 := by have := voteD_wt d0 d1; omega
 have hcR : (1 : Int) + cntShdR (voteD d0 d1) ≤ 1073741824 := by have := voteD_wt d0 d1; have := shdR_cnt (voteD d0 d1); omega
 have hkA0 : (1 : Int) + cntShd d0 ≤ 1073741824 := by omega
 have hkA1 : (1 : Int) + cntShd d0 + cntCont d1 ≤ 1073741824 := by omega
 have hk1 : ¬ (1 : Int) + cntShd d0 + cntCont d1 < 0 := by omega
 have hk2 : ¬ (1 : Int) + cntShdR (voteD d0 d1) < 0 := by omega
 go_wp2_with fail
 go_cut [6] (fun p wx => ∃ B aW1_1 aW1_2 aW1_3 aW1_4 aW1_5 cW1_1 cW1_2 cW1_3 cW1_4 cW1_5 F, p = .pointer (some ⟨B, 0, none⟩) ∧ wx.cell? ⟨B, 0, none⟩ = some (.int .i64 (voteD d0 d1).code) ∧ wx.cell? ⟨B, 1, none⟩ = some (.int .i64 (voteD d0 d1).vote) ∧ wx.cell? ⟨B, 2, none⟩ = some (.int .i64 (voteD d0 d1).shard.idx) ∧ wx.cell? ⟨B, 3, none⟩ = some (.slice aW1_1 (voteD d0 d1).shard.bals.length cW1_1) ∧ wx.cell? ⟨B, 4, none⟩ = some (.slice aW1_2 (voteD d0 d1).shard.votes.length cW1_2) ∧ wx.cell? ⟨B, 5, none⟩ = some (.slice aW1_3 (voteD d0 d1).shard.held.length cW1_3) ∧ wx.cell? ⟨B, 6, none⟩ = some (.slice aW1_4 (voteD d0 d1).shard.done.length cW1_4) ∧ wx.cell? ⟨B, 7, none⟩ = some (.slice aW1_5 (voteD d0 d1).shard.appl.length cW1_5) ∧ shdRR.O wx w2.heap.size F (.agg #[.int .i64 (voteD d0 d1).code, .int .i64 (voteD d0 d1).vote, .int .i64 (voteD d0 d1).shard.idx, .slice aW1_1 (voteD d0 d1).shard.bals.length cW1_1, .slice aW1_2 (voteD d0 d1).shard.votes.length cW1_2, .slice aW1_3 (voteD d0 d1).shard.held.length cW1_3, .slice aW1_4 (voteD d0 d1).shard.done.length cW1_4, .slice aW1_5 (voteD d0 d1).shard.appl.length cW1_5]) (voteD d0 d1) ∧ ¬ F B ∧ w2.heap.size ≤ B ∧ B < wx.heap.size ∧ Below w2.heap.size w2 wx)
 case first =>
  refine wp_region_noPanic ?_
  refine region_upto (fun Wy => Below w2.heap.size w2 Wy ∧ Wy.cell? ⟨w.heap.size, 0, none⟩ = some (.int .i64 d0.idx) ∧ Wy.cell? ⟨w.heap.size, 1, none⟩ = some (.slice ax01 d0.bals.length cx01) ∧ Wy.cell? ⟨w.heap.size, 2, none⟩ = some (.slice ax02 d0.votes.length cx02) ∧ Wy.cell? ⟨w.heap.size, 3, none⟩ = some (.slice ax03 d0.held.length cx03) ∧ Wy.cell? ⟨w.heap.size, 4, none⟩ = some (.slice ax04 d0.done.length cx04) ∧ Wy.cell? ⟨w.heap.size, 5, none⟩ = some (.slice ax05 d0.appl.length cx05) ∧ Wy.cell? ⟨w.heap.size + 1, 0, none⟩ = some (.int .i64 d1.id) ∧ Wy.cell? ⟨w.heap.size + 1, 1, none⟩ = some (.slice ax11 d1.legs.length cx11)) 6 (by kernel_rfl) ⟨Below.drew (Below.refl _ _), cK (Below.drew (Below.refl _ _)) b0_0, cK (Below.drew (Below.refl _ _)) b0_1, cK (Below.drew (Below.refl _ _)) b0_2, cK (Below.drew (Below.refl _ _)) b0_3, cK (Below.drew (Below.refl _ _)) b0_4, cK (Below.drew (Below.refl _ _)) b0_5, cK (Below.drew (Below.refl _ _)) b1_0, cK (Below.drew (Below.refl _ _)) b1_1⟩ (fun hS => ?_)
  refine tK (i := 0) (v := ?_) rfl (by kernel_rfl) hS ?_ ?_
  rotate_left
  ·
   intro wS hSw; (try dsimp only at hSw); go_simp; try with_reducible rfl
  try simp only [Act.put, jA, jB, jC, jD, jE, jF]
  refine tK (i := 2) (v := ?_) rfl (by kernel_rfl) hS ?_ ?_
  rotate_left
  ·
   intro wS hSw; (try dsimp only at hSw); go_simp; try with_reducible rfl
  try simp only [Act.put, jA, jB, jC, jD, jE, jF]
  have hbz : Below w2.heap.size w2 w2.drew := Below.drew (Below.refl _ _)
  generalize w2.drew = Wz at *
  have hszz := hbz.size
  have hbw0 := wL w2 _ b0_0
  have hbw1 := wL w2 _ b1_0
  dsimp only at hbw0 hbw1
  refine upto_cons' [(1, 25), (3, 27), (4, 28), (5, 6)] (fun _ => []) (vtLG Wz.heap.size d0 d1 (voteD d0 d1) 25 27 28 6) (by kernel_rfl) hS ?_ ?_ ?_ ?_
  ·
   intro F Wy Wy' h hm hF
   have hne : ¬ F w.heap.size := fun e => by have := hF _ e; omega
   have hne1 : ¬ F (w.heap.size + 1) := fun e => by have := hF _ e; omega
   obtain ⟨h0, h1, h2, h3, h4, h5, h6, h7, h8⟩ := h
   exact ⟨hm.below h0 h0.size (fun b hb => by have := hF b hb; omega), hm.cell h1 hne, hm.cell h2 hne, hm.cell h3 hne, hm.cell h4 hne, hm.cell h5 hne, hm.cell h6 hne, hm.cell h7 hne1, hm.cell h8 hne1⟩
  ·
   intro p hp
   simp only [List.mem_cons, List.not_mem_nil, or_false] at hp
   rcases hp with rfl | rfl | rfl | rfl
   all_goals
    intro y y' F F' Wy Wy' h hF hm hap hF' e he
    simp only [vtLG] at h ⊢
    rw [e]
   ·
    exact shdR.mod h hm (fun b hb hf => hap b hf hb)
   ·
    exact contR.mod h hm (fun b hb hf => hap b hf hb)
   ·
    exact shdRR.mod h hm (fun b hb hf => hap b hf hb)
   ·
    obtain ⟨B, h1, h2, h3, h3', ⟨g0, g1, g2, g3, g4, g5, g6, g7⟩, h4⟩ := h
    have hne : ¬ F' B := fun hf => hap B hf h2
    exact ⟨B, h1, h2, h3, Nat.lt_of_lt_of_le h3' hm.size, ⟨hm.cell g0 hne, hm.cell g1 hne, hm.cell g2 hne, hm.cell g3 hne, hm.cell g4 hne, hm.cell g5 hne, hm.cell g6 hne, hm.cell g7 hne⟩, fun o => (hm.frz10 (a := ⟨B, o, none⟩) h3' hne).trans (h4 o)⟩
  ·
   intro p hp
   simp only [List.mem_cons, List.not_mem_nil, or_false] at hp
   rcases hp with rfl | rfl | rfl | rfl
   all_goals
    refine ⟨_, rfl, rfl, ?_⟩
    intro y Wy Φ hSW hBW hd K hK
   ·
    clear hd
    refine ⟨?_⟩
    simp only [over, Act.put, jA, jB, jC, List.map_cons, List.map_nil, List.foldl_cons, List.foldl_nil, jD, jE, jF] at hK ⊢
    go_simp
    refine (toShard_u _ d0 _ (shdR.below hX0 (bS hB2 hSW.1)) (by omega)).mono ?_
    rintro e w' ⟨v, F, rfl, o3, hb3⟩
    refine hK _ _ F (Mod.of_below hb3) (fun b hb => .inr (shdR.rng o3 b hb)) ?_
    simp only [vtLG, updV]
    simpa using shdR.base o3 hBW.size
   ·
    clear hd
    refine ⟨?_⟩
    simp only [over, Act.put, jA, jB, jC, List.map_cons, List.map_nil, List.foldl_cons, List.foldl_nil, jD, jE, jF] at hK ⊢
    go_simp
    refine (toContract_u _ d1 _ (contR.below hX1 (bS hB2 hSW.1)) (by omega)).mono ?_
    rintro e w' ⟨v, F, rfl, o3, hb3⟩
    refine hK _ _ F (Mod.of_below hb3) (fun b hb => .inr (contR.rng o3 b hb)) ?_
    simp only [vtLG, updV]
    simpa using contR.base o3 hBW.size
   ·
    have g1 := (hd (1, 25) (by simp) (by kernel_rfl) (.inr (by simp))).2
    have g3 := (hd (3, 27) (by simp) (by kernel_rfl) (.inr (by simp))).2
    clear hd
    simp only [vtLG] at g1 g3
    refine ⟨?_⟩
    simp only [over, Act.put, jA, jB, jC, List.map_cons, List.map_nil, List.foldl_cons, List.foldl_nil, jD, jE, jF] at hK ⊢
    go_simp
    refine (specVote_w _ _ d0 d1 _ (shdR.ofO g1) (contR.ofO g3)).mono ?_
    rintro e w' ⟨v, F, rfl, o3, hb3⟩
    refine hK _ _ F (Mod.of_below hb3) (fun b hb => .inr (shdRR.rng o3 b hb)) ?_
    simp only [vtLG, updV]
    simpa using shdRR.base o3 hBW.size
   ·
    clear hd
    have hbw := hBW.size
    refine ⟨?_⟩
    simp only [over, Act.put, jA, jB, jC, List.map_cons, List.map_nil, List.foldl_cons, List.foldl_nil, jD, jE, jF] at hK ⊢
    go_simp
    refine hK _ _ (fun b => b = Wy.heap.size) (Mod.of_below (bA (Below.refl _ _) _)) (fun b hb => .inr (by rw [hb]; simp)) ?_
    simp only [vtLG, updV]
    exact ⟨Wy.heap.size, by simp, rfl, hbw, by simp, ⟨by simp [go_sem], by simp [go_sem], by simp [go_sem], by simp [go_sem], by simp [go_sem], by simp [go_sem], by simp [go_sem], by simp [go_sem]⟩, fun o => by simp [go_sem]⟩
  ·
   refine ⟨_, rfl, ?_⟩
   intro y Wy Φ hSW hBW hd hap K hK
   have g4 := (hd (4, 28) (by simp) (by simp)).2
   have g5 := (hd (5, 6) (by simp) (by simp)).2
   have p45 := hap (4, 28) (by simp) (5, 6) (by simp) (by simp) (by simp) (by simp)
   clear hd hap
   simp only [vtLG] at g4 g5
   obtain ⟨B, eB, hFB, hBlo, hBhi, ⟨k0, k1, k2, k3, k4, k5, k6, k7⟩, kf⟩ := g5
   have nB : ¬ Φ 4 B := fun h => p45 B h hFB
   obtain ⟨aW1_1, aW1_2, aW1_3, aW1_4, aW1_5, cW1_1, cW1_2, cW1_3, cW1_4, cW1_5, e4⟩ := shdR_form (shdRR.ofO g4)
   rw [e4] at g4
   have hBWz : Below w2.heap.size w2 Wy := bS hbz hBW
   have hlo : w2.heap.size ≤ B := by omega
   have HG4 : Hid (shdRR.O Wy w2.heap.size (Φ 4) (.agg #[.int .i64 (voteD d0 d1).code, .int .i64 (voteD d0 d1).vote, .int .i64 (voteD d0 d1).shard.idx, .slice aW1_1 (voteD d0 d1).shard.bals.length cW1_1, .slice aW1_2 (voteD d0 d1).shard.votes.length cW1_2, .slice aW1_3 (voteD d0 d1).shard.held.length cW1_3, .slice aW1_4 (voteD d0 d1).shard.done.length cW1_4, .slice aW1_5 (voteD d0 d1).shard.appl.length cW1_5]) (voteD d0 d1)) := shdRR.base g4 hszz
   have HFin : Hid (Below w2.heap.size w2 Wy ∧ w2.heap.size ≤ B ∧ B < Wy.heap.size ∧ ¬ Φ 4 B) := ⟨hBWz, hlo, hBhi, nB⟩
   generalize Φ 4 = F4 at *
   clear hFB p45 g4 hBlo hSW hS hBW hBWz hlo nB
   refine ⟨?_⟩
   simp only [over, Act.put, jA, jB, jC, List.map_cons, List.map_nil, List.foldl_cons, List.foldl_nil, jD, jE, jF]
   simp only [e4, eB]
   clear e4 eB
   go_simp
   refine hK _ _ ?_
   clear hK K
   refine NoPanic.normal ?_
   go_wp2_with fail
   go_meet
   case rel =>
    obtain ⟨hBWz, hlo, hBhi, nB⟩ := HFin.out
    refine ⟨B, aW1_1, aW1_2, aW1_3, aW1_4, aW1_5, cW1_1, cW1_2, cW1_3, cW1_4, cW1_5, F4, rfl, ?_, ?_, ?_, ?_, ?_, ?_, ?_, ?_, ?_, nB, hlo, ?_, ?_⟩
    ·
     simp [go_sem, k0, k1, k2, k3, k4, k5, k6, k7, kf]
    ·
     simp [go_sem, k0, k1, k2, k3, k4, k5, k6, k7, kf]
    ·
     simp [go_sem, k0, k1, k2, k3, k4, k5, k6, k7, kf]
    ·
     simp [go_sem, k0, k1, k2, k3, k4, k5, k6, k7, kf]
    ·
     simp [go_sem, k0, k1, k2, k3, k4, k5, k6, k7, kf]
    ·
     simp [go_sem, k0, k1, k2, k3, k4, k5, k6, k7, kf]
    ·
     simp [go_sem, k0, k1, k2, k3, k4, k5, k6, k7, kf]
    ·
     simp [go_sem, k0, k1, k2, k3, k4, k5, k6, k7, kf]
    ·
     exact setR8 shdRR HG4.out nB _ _ _ _ _ _ _ _
    ·
     simpa using hBhi
    ·
     exact bset (p := ⟨B, 7, none⟩) (bset (p := ⟨B, 6, none⟩) (bset (p := ⟨B, 5, none⟩) (bset (p := ⟨B, 4, none⟩) (bset (p := ⟨B, 3, none⟩) (bset (p := ⟨B, 2, none⟩) (bset (p := ⟨B, 1, none⟩) (bset (p := ⟨B, 0, none⟩) (hBWz) hlo _) hlo _) hlo _) hlo _) hlo _) hlo _) hlo _) hlo _
 case rest =>
  obtain ⟨BW, aW1_1, aW1_2, aW1_3, aW1_4, aW1_5, cW1_1, cW1_2, cW1_3, cW1_4, cW1_5, FW, rfl, W_0, W_1, W_2, W_3, W_4, W_5, W_6, W_7, oW, nbW, loW, hiW, hbx⟩ := hcut
  generalize hwc : wc = wW at *
  clear hwc
  have hBW : Below w.heap.size w wW := bS hB2 hbx
  have sW := hbx.size
  replace b0_0 := cK hbx b0_0
  replace b0_1 := cK hbx b0_1
  replace b0_2 := cK hbx b0_2
  replace b0_3 := cK hbx b0_3
  replace b0_4 := cK hbx b0_4
  replace b0_5 := cK hbx b0_5
  replace b1_0 := cK hbx b1_0
  replace b1_1 := cK hbx b1_1
  have rW : ∀ b, FW b → w2.heap.size ≤ b ∧ b < wW.heap.size := fun b hb => shdRR.rng oW b hb
  clear hB2 hbx
  have z0 := wL _ _ b0_0
  dsimp only at z0
  have z6 := wL _ _ b1_0
  dsimp only at z6
  have z8 := wL _ _ W_0
  dsimp only at z8
  go_wp2_with fail
  refine (toShard_u _ d0 _ (shdR.below hX0 (qBq)) (by omega)).mono ?_
  rintro e w3 ⟨vC0, FC0, rfl, oC0, hb3⟩
  have hB3 : Below w.heap.size w w3 := qBq
  have s3 := hb3.size
  try simp only [World.size_alloc] at s3
  replace b0_0 := cK hb3 (cK (qBq) b0_0)
  replace b0_1 := cK hb3 (cK (qBq) b0_1)
  replace b0_2 := cK hb3 (cK (qBq) b0_2)
  replace b0_3 := cK hb3 (cK (qBq) b0_3)
  replace b0_4 := cK hb3 (cK (qBq) b0_4)
  replace b0_5 := cK hb3 (cK (qBq) b0_5)
  replace b1_0 := cK hb3 (cK (qBq) b1_0)
  replace b1_1 := cK hb3 (cK (qBq) b1_1)
  replace W_0 := cK hb3 (cK (qBq) W_0)
  replace W_1 := cK hb3 (cK (qBq) W_1)
  replace W_2 := cK hb3 (cK (qBq) W_2)
  replace W_3 := cK hb3 (cK (qBq) W_3)
  replace W_4 := cK hb3 (cK (qBq) W_4)
  replace W_5 := cK hb3 (cK (qBq) W_5)
  replace W_6 := cK hb3 (cK (qBq) W_6)
  replace W_7 := cK hb3 (cK (qBq) W_7)
  replace oW := shdRR.keep2 oW (qBq) hb3
  clear hBW
  have roC0 : ∀ b, FC0 b → wW.heap.size ≤ b ∧ b < w3.heap.size := fun b hb => by
   have := shdR.rng oC0 b hb
   try simp only [World.size_alloc] at this
   omega
  clear hb3
  have fC0 := shdR.ofO oC0
  obtain ⟨ay01, ay02, ay03, ay04, ay05, cy01, cy02, cy03, cy04, cy05, rfl⟩ := shd_form fC0
  clear z0 z6 z8
  have z0 := wL _ _ b0_0
  dsimp only at z0
  have z6 := wL _ _ b1_0
  dsimp only at z6
  have z8 := wL _ _ W_0
  dsimp only at z8
  go_wp2_with fail
  refine (toContract_u _ d1 _ (contR.below hX1 (qBq)) (by omega)).mono ?_
  rintro e w4 ⟨vC1, FC1, rfl, oC1, hb4⟩
  have hB4 : Below w.heap.size w w4 := qBq
  have s4 := hb4.size
  try simp only [World.size_alloc] at s4
  replace b0_0 := cK hb4 (cK (qBq) b0_0)
  replace b0_1 := cK hb4 (cK (qBq) b0_1)
  replace b0_2 := cK hb4 (cK (qBq) b0_2)
  replace b0_3 := cK hb4 (cK (qBq) b0_3)
  replace b0_4 := cK hb4 (cK (qBq) b0_4)
  replace b0_5 := cK hb4 (cK (qBq) b0_5)
  replace b1_0 := cK hb4 (cK (qBq) b1_0)
  replace b1_1 := cK hb4 (cK (qBq) b1_1)
  replace W_0 := cK hb4 (cK (qBq) W_0)
  replace W_1 := cK hb4 (cK (qBq) W_1)
  replace W_2 := cK hb4 (cK (qBq) W_2)
  replace W_3 := cK hb4 (cK (qBq) W_3)
  replace W_4 := cK hb4 (cK (qBq) W_4)
  replace W_5 := cK hb4 (cK (qBq) W_5)
  replace W_6 := cK hb4 (cK (qBq) W_6)
  replace W_7 := cK hb4 (cK (qBq) W_7)
  have y0_0 : w4.cell? ⟨w3.heap.size, 0, none⟩ = some (.int .i64 d0.idx) := cK hb4 (by simp [go_sem])
  have y0_1 : w4.cell? ⟨w3.heap.size, 1, none⟩ = some (.slice ay01 d0.bals.length cy01) := cK hb4 (by simp [go_sem])
  have y0_2 : w4.cell? ⟨w3.heap.size, 2, none⟩ = some (.slice ay02 d0.votes.length cy02) := cK hb4 (by simp [go_sem])
  have y0_3 : w4.cell? ⟨w3.heap.size, 3, none⟩ = some (.slice ay03 d0.held.length cy03) := cK hb4 (by simp [go_sem])
  have y0_4 : w4.cell? ⟨w3.heap.size, 4, none⟩ = some (.slice ay04 d0.done.length cy04) := cK hb4 (by simp [go_sem])
  have y0_5 : w4.cell? ⟨w3.heap.size, 5, none⟩ = some (.slice ay05 d0.appl.length cy05) := cK hb4 (by simp [go_sem])
  replace oW := shdRR.keep2 oW (qBq) hb4
  replace oC0 := shdR.keep2 oC0 (qBq) hb4
  clear hB3
  have roC1 : ∀ b, FC1 b → w3.heap.size + 1 ≤ b ∧ b < w4.heap.size := fun b hb => by
   have := contR.rng oC1 b hb
   try simp only [World.size_alloc] at this
   omega
  clear hb4
  have fC1 := contR.ofO oC1
  obtain ⟨ay11, cy11, rfl⟩ := cont_form fC1
  clear z0 z6 z8
  have z0 := wL _ _ b0_0
  dsimp only at z0
  have z6 := wL _ _ b1_0
  dsimp only at z6
  have z8 := wL _ _ W_0
  dsimp only at z8
  have z16 := wL _ _ y0_0
  dsimp only at z16
  go_wp2_with fail
  refine (implVote_w _ _ d0 d1 _ (shdR.below (shdR.ofO oC0) (qBq)) (contR.below (contR.ofO oC1) (qBq))).mono ?_
  rintro e w5 ⟨vG, FG, rfl, oG, hb5⟩
  have hB5 : Below w.heap.size w w5 := qBq
  have s5 := hb5.size
  try simp only [World.size_alloc] at s5
  replace b0_0 := cK hb5 (cK (qBq) b0_0)
  replace b0_1 := cK hb5 (cK (qBq) b0_1)
  replace b0_2 := cK hb5 (cK (qBq) b0_2)
  replace b0_3 := cK hb5 (cK (qBq) b0_3)
  replace b0_4 := cK hb5 (cK (qBq) b0_4)
  replace b0_5 := cK hb5 (cK (qBq) b0_5)
  replace b1_0 := cK hb5 (cK (qBq) b1_0)
  replace b1_1 := cK hb5 (cK (qBq) b1_1)
  replace W_0 := cK hb5 (cK (qBq) W_0)
  replace W_1 := cK hb5 (cK (qBq) W_1)
  replace W_2 := cK hb5 (cK (qBq) W_2)
  replace W_3 := cK hb5 (cK (qBq) W_3)
  replace W_4 := cK hb5 (cK (qBq) W_4)
  replace W_5 := cK hb5 (cK (qBq) W_5)
  replace W_6 := cK hb5 (cK (qBq) W_6)
  replace W_7 := cK hb5 (cK (qBq) W_7)
  replace y0_0 := cK hb5 (cK (qBq) y0_0)
  replace y0_1 := cK hb5 (cK (qBq) y0_1)
  replace y0_2 := cK hb5 (cK (qBq) y0_2)
  replace y0_3 := cK hb5 (cK (qBq) y0_3)
  replace y0_4 := cK hb5 (cK (qBq) y0_4)
  replace y0_5 := cK hb5 (cK (qBq) y0_5)
  have y1_0 : w5.cell? ⟨w4.heap.size, 0, none⟩ = some (.int .i64 d1.id) := cK hb5 (by simp [go_sem])
  have y1_1 : w5.cell? ⟨w4.heap.size, 1, none⟩ = some (.slice ay11 d1.legs.length cy11) := cK hb5 (by simp [go_sem])
  replace oW := shdRR.keep2 oW (qBq) hb5
  replace oC0 := shdR.keep2 oC0 (qBq) hb5
  replace oC1 := contR.keep2 oC1 (qBq) hb5
  clear hB4
  have roG : ∀ b, FG b → w4.heap.size + 1 ≤ b ∧ b < w5.heap.size := fun b hb => by
   have := shdRR.rng oG b hb
   try simp only [World.size_alloc] at this
   omega
  clear hb5
  have fG := shdRR.ofO oG
  obtain ⟨ag1_1, ag1_2, ag1_3, ag1_4, ag1_5, cg1_1, cg1_2, cg1_3, cg1_4, cg1_5, rfl⟩ := shdR_form fG
  clear z0 z6 z8 z16
  have z0 := wL _ _ b0_0
  dsimp only at z0
  have z6 := wL _ _ b1_0
  dsimp only at z6
  have z8 := wL _ _ W_0
  dsimp only at z8
  have z16 := wL _ _ y0_0
  dsimp only at z16
  have z22 := wL _ _ y1_0
  dsimp only at z22
  go_wp2_with fail
  refine (eqShardResult_u _ _ (voteD d0 d1) (voteD d0 d1) _ (shdRR.below (shdRR.ofO oG) (qBq)) (shdRR.below (shdRR.ofO oW) (qBq))).mono ?_
  rintro e w6 ⟨rfl, hb6⟩
  have hB6 : Below w.heap.size w w6 := qBq
  have s6 := hb6.size
  try simp only [World.size_alloc] at s6
  replace b0_0 := cK hb6 (cK (qBq) b0_0)
  replace b0_1 := cK hb6 (cK (qBq) b0_1)
  replace b0_2 := cK hb6 (cK (qBq) b0_2)
  replace b0_3 := cK hb6 (cK (qBq) b0_3)
  replace b0_4 := cK hb6 (cK (qBq) b0_4)
  replace b0_5 := cK hb6 (cK (qBq) b0_5)
  replace b1_0 := cK hb6 (cK (qBq) b1_0)
  replace b1_1 := cK hb6 (cK (qBq) b1_1)
  replace W_0 := cK hb6 (cK (qBq) W_0)
  replace W_1 := cK hb6 (cK (qBq) W_1)
  replace W_2 := cK hb6 (cK (qBq) W_2)
  replace W_3 := cK hb6 (cK (qBq) W_3)
  replace W_4 := cK hb6 (cK (qBq) W_4)
  replace W_5 := cK hb6 (cK (qBq) W_5)
  replace W_6 := cK hb6 (cK (qBq) W_6)
  replace W_7 := cK hb6 (cK (qBq) W_7)
  replace y0_0 := cK hb6 (cK (qBq) y0_0)
  replace y0_1 := cK hb6 (cK (qBq) y0_1)
  replace y0_2 := cK hb6 (cK (qBq) y0_2)
  replace y0_3 := cK hb6 (cK (qBq) y0_3)
  replace y0_4 := cK hb6 (cK (qBq) y0_4)
  replace y0_5 := cK hb6 (cK (qBq) y0_5)
  replace y1_0 := cK hb6 (cK (qBq) y1_0)
  replace y1_1 := cK hb6 (cK (qBq) y1_1)
  have g_0 : w6.cell? ⟨w5.heap.size, 0, none⟩ = some (.int .i64 (voteD d0 d1).code) := cK hb6 (by simp [go_sem])
  have g_1 : w6.cell? ⟨w5.heap.size, 1, none⟩ = some (.int .i64 (voteD d0 d1).vote) := cK hb6 (by simp [go_sem])
  have g_2 : w6.cell? ⟨w5.heap.size, 2, none⟩ = some (.int .i64 (voteD d0 d1).shard.idx) := cK hb6 (by simp [go_sem])
  have g_3 : w6.cell? ⟨w5.heap.size, 3, none⟩ = some (.slice ag1_1 (voteD d0 d1).shard.bals.length cg1_1) := cK hb6 (by simp [go_sem])
  have g_4 : w6.cell? ⟨w5.heap.size, 4, none⟩ = some (.slice ag1_2 (voteD d0 d1).shard.votes.length cg1_2) := cK hb6 (by simp [go_sem])
  have g_5 : w6.cell? ⟨w5.heap.size, 5, none⟩ = some (.slice ag1_3 (voteD d0 d1).shard.held.length cg1_3) := cK hb6 (by simp [go_sem])
  have g_6 : w6.cell? ⟨w5.heap.size, 6, none⟩ = some (.slice ag1_4 (voteD d0 d1).shard.done.length cg1_4) := cK hb6 (by simp [go_sem])
  have g_7 : w6.cell? ⟨w5.heap.size, 7, none⟩ = some (.slice ag1_5 (voteD d0 d1).shard.appl.length cg1_5) := cK hb6 (by simp [go_sem])
  replace oW := shdRR.keep2 oW (qBq) hb6
  replace oC0 := shdR.keep2 oC0 (qBq) hb6
  replace oC1 := contR.keep2 oC1 (qBq) hb6
  replace oG := shdRR.keep2 oG (qBq) hb6
  clear hB5
  clear hb6
  clear z0 z6 z8 z16 z22
  have z0 := wL _ _ b0_0
  dsimp only at z0
  have z6 := wL _ _ b1_0
  dsimp only at z6
  have z8 := wL _ _ W_0
  dsimp only at z8
  have z16 := wL _ _ y0_0
  dsimp only at z16
  have z22 := wL _ _ y1_0
  dsimp only at z22
  have z24 := wL _ _ g_0
  dsimp only at z24
  go_wp2
  have VC : shdR.V w6 _ d0 := shdR.ofO oC0
  go_region_held3 (fun w' => Below w6.heap.size w6 w' ∧ w'.cell? ⟨w.heap.size, 0, none⟩ = some (.int .i64 d0.idx) ∧ w'.cell? ⟨w.heap.size, 1, none⟩ = some (.slice ax01 d0.bals.length cx01) ∧ w'.cell? ⟨w.heap.size, 2, none⟩ = some (.slice ax02 d0.votes.length cx02) ∧ w'.cell? ⟨w.heap.size, 3, none⟩ = some (.slice ax03 d0.held.length cx03) ∧ w'.cell? ⟨w.heap.size, 4, none⟩ = some (.slice ax04 d0.done.length cx04) ∧ w'.cell? ⟨w.heap.size, 5, none⟩ = some (.slice ax05 d0.appl.length cx05) ∧ w'.cell? ⟨w.heap.size + 1, 0, none⟩ = some (.int .i64 d1.id) ∧ w'.cell? ⟨w.heap.size + 1, 1, none⟩ = some (.slice ax11 d1.legs.length cx11) ∧ w'.cell? ⟨BW, 0, none⟩ = some (.int .i64 (voteD d0 d1).code) ∧ w'.cell? ⟨BW, 1, none⟩ = some (.int .i64 (voteD d0 d1).vote) ∧ w'.cell? ⟨BW, 2, none⟩ = some (.int .i64 (voteD d0 d1).shard.idx) ∧ w'.cell? ⟨BW, 3, none⟩ = some (.slice aW1_1 (voteD d0 d1).shard.bals.length cW1_1) ∧ w'.cell? ⟨BW, 4, none⟩ = some (.slice aW1_2 (voteD d0 d1).shard.votes.length cW1_2) ∧ w'.cell? ⟨BW, 5, none⟩ = some (.slice aW1_3 (voteD d0 d1).shard.held.length cW1_3) ∧ w'.cell? ⟨BW, 6, none⟩ = some (.slice aW1_4 (voteD d0 d1).shard.done.length cW1_4) ∧ w'.cell? ⟨BW, 7, none⟩ = some (.slice aW1_5 (voteD d0 d1).shard.appl.length cW1_5) ∧ w'.cell? ⟨w3.heap.size, 0, none⟩ = some (.int .i64 d0.idx) ∧ w'.cell? ⟨w3.heap.size, 1, none⟩ = some (.slice ay01 d0.bals.length cy01) ∧ w'.cell? ⟨w3.heap.size, 2, none⟩ = some (.slice ay02 d0.votes.length cy02) ∧ w'.cell? ⟨w3.heap.size, 3, none⟩ = some (.slice ay03 d0.held.length cy03) ∧ w'.cell? ⟨w3.heap.size, 4, none⟩ = some (.slice ay04 d0.done.length cy04) ∧ w'.cell? ⟨w3.heap.size, 5, none⟩ = some (.slice ay05 d0.appl.length cy05) ∧ w'.cell? ⟨w4.heap.size, 0, none⟩ = some (.int .i64 d1.id) ∧ w'.cell? ⟨w4.heap.size, 1, none⟩ = some (.slice ay11 d1.legs.length cy11) ∧ w'.cell? ⟨w5.heap.size, 0, none⟩ = some (.int .i64 (voteD d0 d1).code) ∧ w'.cell? ⟨w5.heap.size, 1, none⟩ = some (.int .i64 (voteD d0 d1).vote) ∧ w'.cell? ⟨w5.heap.size, 2, none⟩ = some (.int .i64 (voteD d0 d1).shard.idx) ∧ w'.cell? ⟨w5.heap.size, 3, none⟩ = some (.slice ag1_1 (voteD d0 d1).shard.bals.length cg1_1) ∧ w'.cell? ⟨w5.heap.size, 4, none⟩ = some (.slice ag1_2 (voteD d0 d1).shard.votes.length cg1_2) ∧ w'.cell? ⟨w5.heap.size, 5, none⟩ = some (.slice ag1_3 (voteD d0 d1).shard.held.length cg1_3) ∧ w'.cell? ⟨w5.heap.size, 6, none⟩ = some (.slice ag1_4 (voteD d0 d1).shard.done.length cg1_4) ∧ w'.cell? ⟨w5.heap.size, 7, none⟩ = some (.slice ag1_5 (voteD d0 d1).shard.appl.length cg1_5))
   ((refine keepN32 ?_ b0_0 b0_1 b0_2 b0_3 b0_4 b0_5 b1_0 b1_1 W_0 W_1 W_2 W_3 W_4 W_5 W_6 W_7 y0_0 y0_1 y0_2 y0_3 y0_4 y0_5 y1_0 y1_1 g_0 g_1 g_2 g_3 g_4 g_5 g_6 g_7; repeat (first | exact bR _ _ | assumption | refine bD ?_ | refine bA ?_ _ | refine bS ?_ (by assumption))))
   (first | (go_at_call 8; refine (toShard_u _ d0 _ (shdR.below hX0 (qBq)) (by omega)).mono ?_; rintro e wD0 ⟨vE, FE, rfl, oE, hbD⟩; have fE := shdR.ofO oE; obtain ⟨ae1, ae2, ae3, ae4, ae5, ce1, ce2, ce3, ce4, ce5, rfl⟩ := shd_form fE) | (go_at_call 12; refine (eqShard_u _ _ d0 d0 _ (shdR.below VC (qBq)) (shdR.below (shdR.ofO oE) (qBq))).mono ?_; rintro e wE0 ⟨rfl, hbE⟩))
  rename_i hH
  have hBE0 : Below w.heap.size w wE0 := bS hB6 hH.1
  have sE0 := hH.1.size
  replace oW := shdRR.keep oW hH.1
  replace oC0 := shdR.keep oC0 hH.1
  replace oC1 := contR.keep oC1 hH.1
  replace oG := shdRR.keep oG hH.1
  obtain ⟨_, rb0_0, rb0_1, rb0_2, rb0_3, rb0_4, rb0_5, rb1_0, rb1_1, rW_0, rW_1, rW_2, rW_3, rW_4, rW_5, rW_6, rW_7, ry0_0, ry0_1, ry0_2, ry0_3, ry0_4, ry0_5, ry1_0, ry1_1, rg_0, rg_1, rg_2, rg_3, rg_4, rg_5, rg_6, rg_7⟩ := hH
  replace b0_0 := rb0_0
  replace b0_1 := rb0_1
  replace b0_2 := rb0_2
  replace b0_3 := rb0_3
  replace b0_4 := rb0_4
  replace b0_5 := rb0_5
  replace b1_0 := rb1_0
  replace b1_1 := rb1_1
  replace W_0 := rW_0
  replace W_1 := rW_1
  replace W_2 := rW_2
  replace W_3 := rW_3
  replace W_4 := rW_4
  replace W_5 := rW_5
  replace W_6 := rW_6
  replace W_7 := rW_7
  replace y0_0 := ry0_0
  replace y0_1 := ry0_1
  replace y0_2 := ry0_2
  replace y0_3 := ry0_3
  replace y0_4 := ry0_4
  replace y0_5 := ry0_5
  replace y1_0 := ry1_0
  replace y1_1 := ry1_1
  replace g_0 := rg_0
  replace g_1 := rg_1
  replace g_2 := rg_2
  replace g_3 := rg_3
  replace g_4 := rg_4
  replace g_5 := rg_5
  replace g_6 := rg_6
  replace g_7 := rg_7
  clear rb0_0 rb0_1 rb0_2 rb0_3 rb0_4 rb0_5 rb1_0 rb1_1 rW_0 rW_1 rW_2 rW_3 rW_4 rW_5 rW_6 rW_7 ry0_0 ry0_1 ry0_2 ry0_3 ry0_4 ry0_5 ry1_0 ry1_1 rg_0 rg_1 rg_2 rg_3 rg_4 rg_5 rg_6 rg_7 hB6 oE hbD hbE VC
  clear z0 z6 z8 z16 z22 z24
  have z0 := wL _ _ b0_0
  dsimp only at z0
  have z6 := wL _ _ b1_0
  dsimp only at z6
  have z8 := wL _ _ W_0
  dsimp only at z8
  have z16 := wL _ _ y0_0
  dsimp only at z16
  have z22 := wL _ _ y1_0
  dsimp only at z22
  have z24 := wL _ _ g_0
  dsimp only at z24
  go_wp2
  have VC : contR.V wE0 _ d1 := contR.ofO oC1
  go_region_held3 (fun w' => Below wE0.heap.size wE0 w' ∧ w'.cell? ⟨w.heap.size, 0, none⟩ = some (.int .i64 d0.idx) ∧ w'.cell? ⟨w.heap.size, 1, none⟩ = some (.slice ax01 d0.bals.length cx01) ∧ w'.cell? ⟨w.heap.size, 2, none⟩ = some (.slice ax02 d0.votes.length cx02) ∧ w'.cell? ⟨w.heap.size, 3, none⟩ = some (.slice ax03 d0.held.length cx03) ∧ w'.cell? ⟨w.heap.size, 4, none⟩ = some (.slice ax04 d0.done.length cx04) ∧ w'.cell? ⟨w.heap.size, 5, none⟩ = some (.slice ax05 d0.appl.length cx05) ∧ w'.cell? ⟨w.heap.size + 1, 0, none⟩ = some (.int .i64 d1.id) ∧ w'.cell? ⟨w.heap.size + 1, 1, none⟩ = some (.slice ax11 d1.legs.length cx11) ∧ w'.cell? ⟨BW, 0, none⟩ = some (.int .i64 (voteD d0 d1).code) ∧ w'.cell? ⟨BW, 1, none⟩ = some (.int .i64 (voteD d0 d1).vote) ∧ w'.cell? ⟨BW, 2, none⟩ = some (.int .i64 (voteD d0 d1).shard.idx) ∧ w'.cell? ⟨BW, 3, none⟩ = some (.slice aW1_1 (voteD d0 d1).shard.bals.length cW1_1) ∧ w'.cell? ⟨BW, 4, none⟩ = some (.slice aW1_2 (voteD d0 d1).shard.votes.length cW1_2) ∧ w'.cell? ⟨BW, 5, none⟩ = some (.slice aW1_3 (voteD d0 d1).shard.held.length cW1_3) ∧ w'.cell? ⟨BW, 6, none⟩ = some (.slice aW1_4 (voteD d0 d1).shard.done.length cW1_4) ∧ w'.cell? ⟨BW, 7, none⟩ = some (.slice aW1_5 (voteD d0 d1).shard.appl.length cW1_5) ∧ w'.cell? ⟨w3.heap.size, 0, none⟩ = some (.int .i64 d0.idx) ∧ w'.cell? ⟨w3.heap.size, 1, none⟩ = some (.slice ay01 d0.bals.length cy01) ∧ w'.cell? ⟨w3.heap.size, 2, none⟩ = some (.slice ay02 d0.votes.length cy02) ∧ w'.cell? ⟨w3.heap.size, 3, none⟩ = some (.slice ay03 d0.held.length cy03) ∧ w'.cell? ⟨w3.heap.size, 4, none⟩ = some (.slice ay04 d0.done.length cy04) ∧ w'.cell? ⟨w3.heap.size, 5, none⟩ = some (.slice ay05 d0.appl.length cy05) ∧ w'.cell? ⟨w4.heap.size, 0, none⟩ = some (.int .i64 d1.id) ∧ w'.cell? ⟨w4.heap.size, 1, none⟩ = some (.slice ay11 d1.legs.length cy11) ∧ w'.cell? ⟨w5.heap.size, 0, none⟩ = some (.int .i64 (voteD d0 d1).code) ∧ w'.cell? ⟨w5.heap.size, 1, none⟩ = some (.int .i64 (voteD d0 d1).vote) ∧ w'.cell? ⟨w5.heap.size, 2, none⟩ = some (.int .i64 (voteD d0 d1).shard.idx) ∧ w'.cell? ⟨w5.heap.size, 3, none⟩ = some (.slice ag1_1 (voteD d0 d1).shard.bals.length cg1_1) ∧ w'.cell? ⟨w5.heap.size, 4, none⟩ = some (.slice ag1_2 (voteD d0 d1).shard.votes.length cg1_2) ∧ w'.cell? ⟨w5.heap.size, 5, none⟩ = some (.slice ag1_3 (voteD d0 d1).shard.held.length cg1_3) ∧ w'.cell? ⟨w5.heap.size, 6, none⟩ = some (.slice ag1_4 (voteD d0 d1).shard.done.length cg1_4) ∧ w'.cell? ⟨w5.heap.size, 7, none⟩ = some (.slice ag1_5 (voteD d0 d1).shard.appl.length cg1_5))
   ((refine keepN32 ?_ b0_0 b0_1 b0_2 b0_3 b0_4 b0_5 b1_0 b1_1 W_0 W_1 W_2 W_3 W_4 W_5 W_6 W_7 y0_0 y0_1 y0_2 y0_3 y0_4 y0_5 y1_0 y1_1 g_0 g_1 g_2 g_3 g_4 g_5 g_6 g_7; repeat (first | exact bR _ _ | assumption | refine bD ?_ | refine bA ?_ _ | refine bS ?_ (by assumption))))
   (first | (go_at_call 9; refine (toContract_u _ d1 _ (contR.below hX1 (qBq)) (by omega)).mono ?_; rintro e wD1 ⟨vE, FE, rfl, oE, hbD⟩; have fE := contR.ofO oE; obtain ⟨ae1, ce1, rfl⟩ := cont_form fE) | (go_at_call 13; refine (eqContract_u _ _ d1 d1 _ (contR.below VC (qBq)) (contR.below (contR.ofO oE) (qBq))).mono ?_; rintro e wE1 ⟨rfl, hbE⟩))
  rename_i hH
  have hBE1 : Below w.heap.size w wE1 := bS hBE0 hH.1
  have sE1 := hH.1.size
  replace oW := shdRR.keep oW hH.1
  replace oC0 := shdR.keep oC0 hH.1
  replace oC1 := contR.keep oC1 hH.1
  replace oG := shdRR.keep oG hH.1
  obtain ⟨_, rb0_0, rb0_1, rb0_2, rb0_3, rb0_4, rb0_5, rb1_0, rb1_1, rW_0, rW_1, rW_2, rW_3, rW_4, rW_5, rW_6, rW_7, ry0_0, ry0_1, ry0_2, ry0_3, ry0_4, ry0_5, ry1_0, ry1_1, rg_0, rg_1, rg_2, rg_3, rg_4, rg_5, rg_6, rg_7⟩ := hH
  replace b0_0 := rb0_0
  replace b0_1 := rb0_1
  replace b0_2 := rb0_2
  replace b0_3 := rb0_3
  replace b0_4 := rb0_4
  replace b0_5 := rb0_5
  replace b1_0 := rb1_0
  replace b1_1 := rb1_1
  replace W_0 := rW_0
  replace W_1 := rW_1
  replace W_2 := rW_2
  replace W_3 := rW_3
  replace W_4 := rW_4
  replace W_5 := rW_5
  replace W_6 := rW_6
  replace W_7 := rW_7
  replace y0_0 := ry0_0
  replace y0_1 := ry0_1
  replace y0_2 := ry0_2
  replace y0_3 := ry0_3
  replace y0_4 := ry0_4
  replace y0_5 := ry0_5
  replace y1_0 := ry1_0
  replace y1_1 := ry1_1
  replace g_0 := rg_0
  replace g_1 := rg_1
  replace g_2 := rg_2
  replace g_3 := rg_3
  replace g_4 := rg_4
  replace g_5 := rg_5
  replace g_6 := rg_6
  replace g_7 := rg_7
  clear rb0_0 rb0_1 rb0_2 rb0_3 rb0_4 rb0_5 rb1_0 rb1_1 rW_0 rW_1 rW_2 rW_3 rW_4 rW_5 rW_6 rW_7 ry0_0 ry0_1 ry0_2 ry0_3 ry0_4 ry0_5 ry1_0 ry1_1 rg_0 rg_1 rg_2 rg_3 rg_4 rg_5 rg_6 rg_7 hBE0 oE hbD hbE VC
  clear z0 z6 z8 z16 z22 z24
  have z0 := wL _ _ b0_0
  dsimp only at z0
  have z6 := wL _ _ b1_0
  dsimp only at z6
  have z8 := wL _ _ W_0
  dsimp only at z8
  have z16 := wL _ _ y0_0
  dsimp only at z16
  have z22 := wL _ _ y1_0
  dsimp only at z22
  have z24 := wL _ _ g_0
  dsimp only at z24
  go_wp2_with fail
  refine (markShard_u _ d0 _ FC0 1 _ oC0 (by omega) hkA0 (by omega)).mono ?_
  rintro e w7 ⟨rfl, oC0m, m7⟩
  have hB7 : Below w.heap.size w w7 := m7.below hBE1 hBE1.size (fun b hb => by have := roC0 b hb; omega)
  have s7 := m7.size
  replace b0_0 := m7.cell b0_0 (fun hf => by have := roC0 _ hf; dsimp only at this; omega)
  replace b0_1 := m7.cell b0_1 (fun hf => by have := roC0 _ hf; dsimp only at this; omega)
  replace b0_2 := m7.cell b0_2 (fun hf => by have := roC0 _ hf; dsimp only at this; omega)
  replace b0_3 := m7.cell b0_3 (fun hf => by have := roC0 _ hf; dsimp only at this; omega)
  replace b0_4 := m7.cell b0_4 (fun hf => by have := roC0 _ hf; dsimp only at this; omega)
  replace b0_5 := m7.cell b0_5 (fun hf => by have := roC0 _ hf; dsimp only at this; omega)
  replace b1_0 := m7.cell b1_0 (fun hf => by have := roC0 _ hf; dsimp only at this; omega)
  replace b1_1 := m7.cell b1_1 (fun hf => by have := roC0 _ hf; dsimp only at this; omega)
  replace W_0 := m7.cell W_0 (fun hf => by have := roC0 _ hf; dsimp only at this; omega)
  replace W_1 := m7.cell W_1 (fun hf => by have := roC0 _ hf; dsimp only at this; omega)
  replace W_2 := m7.cell W_2 (fun hf => by have := roC0 _ hf; dsimp only at this; omega)
  replace W_3 := m7.cell W_3 (fun hf => by have := roC0 _ hf; dsimp only at this; omega)
  replace W_4 := m7.cell W_4 (fun hf => by have := roC0 _ hf; dsimp only at this; omega)
  replace W_5 := m7.cell W_5 (fun hf => by have := roC0 _ hf; dsimp only at this; omega)
  replace W_6 := m7.cell W_6 (fun hf => by have := roC0 _ hf; dsimp only at this; omega)
  replace W_7 := m7.cell W_7 (fun hf => by have := roC0 _ hf; dsimp only at this; omega)
  replace y0_0 := m7.cell y0_0 (fun hf => by have := roC0 _ hf; dsimp only at this; omega)
  replace y0_1 := m7.cell y0_1 (fun hf => by have := roC0 _ hf; dsimp only at this; omega)
  replace y0_2 := m7.cell y0_2 (fun hf => by have := roC0 _ hf; dsimp only at this; omega)
  replace y0_3 := m7.cell y0_3 (fun hf => by have := roC0 _ hf; dsimp only at this; omega)
  replace y0_4 := m7.cell y0_4 (fun hf => by have := roC0 _ hf; dsimp only at this; omega)
  replace y0_5 := m7.cell y0_5 (fun hf => by have := roC0 _ hf; dsimp only at this; omega)
  replace y1_0 := m7.cell y1_0 (fun hf => by have := roC0 _ hf; dsimp only at this; omega)
  replace y1_1 := m7.cell y1_1 (fun hf => by have := roC0 _ hf; dsimp only at this; omega)
  replace g_0 := m7.cell g_0 (fun hf => by have := roC0 _ hf; dsimp only at this; omega)
  replace g_1 := m7.cell g_1 (fun hf => by have := roC0 _ hf; dsimp only at this; omega)
  replace g_2 := m7.cell g_2 (fun hf => by have := roC0 _ hf; dsimp only at this; omega)
  replace g_3 := m7.cell g_3 (fun hf => by have := roC0 _ hf; dsimp only at this; omega)
  replace g_4 := m7.cell g_4 (fun hf => by have := roC0 _ hf; dsimp only at this; omega)
  replace g_5 := m7.cell g_5 (fun hf => by have := roC0 _ hf; dsimp only at this; omega)
  replace g_6 := m7.cell g_6 (fun hf => by have := roC0 _ hf; dsimp only at this; omega)
  replace g_7 := m7.cell g_7 (fun hf => by have := roC0 _ hf; dsimp only at this; omega)
  replace oW := shdRR.mod oW m7 (fun b p q => by have := rW b p; have := roC0 b q; omega)
  replace oC1 := contR.mod oC1 m7 (fun b p q => by have := roC1 b p; have := roC0 b q; omega)
  replace oG := shdRR.mod oG m7 (fun b p q => by have := roG b p; have := roC0 b q; omega)
  clear hBE1 oC0 m7
  clear z0 z6 z8 z16 z22 z24
  have z0 := wL _ _ b0_0
  dsimp only at z0
  have z6 := wL _ _ b1_0
  dsimp only at z6
  have z8 := wL _ _ W_0
  dsimp only at z8
  have z16 := wL _ _ y0_0
  dsimp only at z16
  have z22 := wL _ _ y1_0
  dsimp only at z22
  have z24 := wL _ _ g_0
  dsimp only at z24
  go_wp2_with fail
  refine (markContract_u _ d1 _ FC1 ((1 : Int) + cntShd d0) _ oC1 (by omega) hkA1 (by omega)).mono ?_
  rintro e w8 ⟨rfl, oC1m, m8⟩
  have hB8 : Below w.heap.size w w8 := m8.below hB7 hB7.size (fun b hb => by have := roC1 b hb; omega)
  have s8 := m8.size
  replace b0_0 := m8.cell b0_0 (fun hf => by have := roC1 _ hf; dsimp only at this; omega)
  replace b0_1 := m8.cell b0_1 (fun hf => by have := roC1 _ hf; dsimp only at this; omega)
  replace b0_2 := m8.cell b0_2 (fun hf => by have := roC1 _ hf; dsimp only at this; omega)
  replace b0_3 := m8.cell b0_3 (fun hf => by have := roC1 _ hf; dsimp only at this; omega)
  replace b0_4 := m8.cell b0_4 (fun hf => by have := roC1 _ hf; dsimp only at this; omega)
  replace b0_5 := m8.cell b0_5 (fun hf => by have := roC1 _ hf; dsimp only at this; omega)
  replace b1_0 := m8.cell b1_0 (fun hf => by have := roC1 _ hf; dsimp only at this; omega)
  replace b1_1 := m8.cell b1_1 (fun hf => by have := roC1 _ hf; dsimp only at this; omega)
  replace W_0 := m8.cell W_0 (fun hf => by have := roC1 _ hf; dsimp only at this; omega)
  replace W_1 := m8.cell W_1 (fun hf => by have := roC1 _ hf; dsimp only at this; omega)
  replace W_2 := m8.cell W_2 (fun hf => by have := roC1 _ hf; dsimp only at this; omega)
  replace W_3 := m8.cell W_3 (fun hf => by have := roC1 _ hf; dsimp only at this; omega)
  replace W_4 := m8.cell W_4 (fun hf => by have := roC1 _ hf; dsimp only at this; omega)
  replace W_5 := m8.cell W_5 (fun hf => by have := roC1 _ hf; dsimp only at this; omega)
  replace W_6 := m8.cell W_6 (fun hf => by have := roC1 _ hf; dsimp only at this; omega)
  replace W_7 := m8.cell W_7 (fun hf => by have := roC1 _ hf; dsimp only at this; omega)
  replace y0_0 := m8.cell y0_0 (fun hf => by have := roC1 _ hf; dsimp only at this; omega)
  replace y0_1 := m8.cell y0_1 (fun hf => by have := roC1 _ hf; dsimp only at this; omega)
  replace y0_2 := m8.cell y0_2 (fun hf => by have := roC1 _ hf; dsimp only at this; omega)
  replace y0_3 := m8.cell y0_3 (fun hf => by have := roC1 _ hf; dsimp only at this; omega)
  replace y0_4 := m8.cell y0_4 (fun hf => by have := roC1 _ hf; dsimp only at this; omega)
  replace y0_5 := m8.cell y0_5 (fun hf => by have := roC1 _ hf; dsimp only at this; omega)
  replace y1_0 := m8.cell y1_0 (fun hf => by have := roC1 _ hf; dsimp only at this; omega)
  replace y1_1 := m8.cell y1_1 (fun hf => by have := roC1 _ hf; dsimp only at this; omega)
  replace g_0 := m8.cell g_0 (fun hf => by have := roC1 _ hf; dsimp only at this; omega)
  replace g_1 := m8.cell g_1 (fun hf => by have := roC1 _ hf; dsimp only at this; omega)
  replace g_2 := m8.cell g_2 (fun hf => by have := roC1 _ hf; dsimp only at this; omega)
  replace g_3 := m8.cell g_3 (fun hf => by have := roC1 _ hf; dsimp only at this; omega)
  replace g_4 := m8.cell g_4 (fun hf => by have := roC1 _ hf; dsimp only at this; omega)
  replace g_5 := m8.cell g_5 (fun hf => by have := roC1 _ hf; dsimp only at this; omega)
  replace g_6 := m8.cell g_6 (fun hf => by have := roC1 _ hf; dsimp only at this; omega)
  replace g_7 := m8.cell g_7 (fun hf => by have := roC1 _ hf; dsimp only at this; omega)
  replace oW := shdRR.mod oW m8 (fun b p q => by have := rW b p; have := roC1 b q; omega)
  replace oG := shdRR.mod oG m8 (fun b p q => by have := roG b p; have := roC1 b q; omega)
  replace oC0m := shdR.mod oC0m m8 (fun b p q => by have := roC0 b p; have := roC1 b q; omega)
  clear hB7 oC1 m8
  clear z0 z6 z8 z16 z22 z24
  have z0 := wL _ _ b0_0
  dsimp only at z0
  have z6 := wL _ _ b1_0
  dsimp only at z6
  have z8 := wL _ _ W_0
  dsimp only at z8
  have z16 := wL _ _ y0_0
  dsimp only at z16
  have z22 := wL _ _ y1_0
  dsimp only at z22
  have z24 := wL _ _ g_0
  dsimp only at z24
  go_wp2_with fail
  refine (eqShardResult_u _ _ (voteD d0 d1) (voteD d0 d1) _ (shdRR.below (shdRR.ofO oG) (qBq)) (shdRR.below (shdRR.ofO oW) (qBq))).mono ?_
  rintro e w9 ⟨rfl, hb9⟩
  have hB9 : Below w.heap.size w w9 := qBq
  have s9 := hb9.size
  try simp only [World.size_alloc] at s9
  replace b0_0 := cK hb9 (cK (qBq) b0_0)
  replace b0_1 := cK hb9 (cK (qBq) b0_1)
  replace b0_2 := cK hb9 (cK (qBq) b0_2)
  replace b0_3 := cK hb9 (cK (qBq) b0_3)
  replace b0_4 := cK hb9 (cK (qBq) b0_4)
  replace b0_5 := cK hb9 (cK (qBq) b0_5)
  replace b1_0 := cK hb9 (cK (qBq) b1_0)
  replace b1_1 := cK hb9 (cK (qBq) b1_1)
  replace W_0 := cK hb9 (cK (qBq) W_0)
  replace W_1 := cK hb9 (cK (qBq) W_1)
  replace W_2 := cK hb9 (cK (qBq) W_2)
  replace W_3 := cK hb9 (cK (qBq) W_3)
  replace W_4 := cK hb9 (cK (qBq) W_4)
  replace W_5 := cK hb9 (cK (qBq) W_5)
  replace W_6 := cK hb9 (cK (qBq) W_6)
  replace W_7 := cK hb9 (cK (qBq) W_7)
  replace y0_0 := cK hb9 (cK (qBq) y0_0)
  replace y0_1 := cK hb9 (cK (qBq) y0_1)
  replace y0_2 := cK hb9 (cK (qBq) y0_2)
  replace y0_3 := cK hb9 (cK (qBq) y0_3)
  replace y0_4 := cK hb9 (cK (qBq) y0_4)
  replace y0_5 := cK hb9 (cK (qBq) y0_5)
  replace y1_0 := cK hb9 (cK (qBq) y1_0)
  replace y1_1 := cK hb9 (cK (qBq) y1_1)
  replace g_0 := cK hb9 (cK (qBq) g_0)
  replace g_1 := cK hb9 (cK (qBq) g_1)
  replace g_2 := cK hb9 (cK (qBq) g_2)
  replace g_3 := cK hb9 (cK (qBq) g_3)
  replace g_4 := cK hb9 (cK (qBq) g_4)
  replace g_5 := cK hb9 (cK (qBq) g_5)
  replace g_6 := cK hb9 (cK (qBq) g_6)
  replace g_7 := cK hb9 (cK (qBq) g_7)
  replace oW := shdRR.keep2 oW (qBq) hb9
  replace oG := shdRR.keep2 oG (qBq) hb9
  replace oC0m := shdR.keep2 oC0m (qBq) hb9
  replace oC1m := contR.keep2 oC1m (qBq) hb9
  clear hB8
  clear hb9
  clear z0 z6 z8 z16 z22 z24
  have z0 := wL _ _ b0_0
  dsimp only at z0
  have z6 := wL _ _ b1_0
  dsimp only at z6
  have z8 := wL _ _ W_0
  dsimp only at z8
  have z16 := wL _ _ y0_0
  dsimp only at z16
  have z22 := wL _ _ y1_0
  dsimp only at z22
  have z24 := wL _ _ g_0
  dsimp only at z24
  go_wp2_with fail
  refine (markShardResult_u _ (voteD d0 d1) _ FG 1 _ oG hwR hcR (by omega)).mono ?_
  rintro e w10 ⟨rfl, oGm, m10⟩
  have hB10 : Below w.heap.size w w10 := m10.below hB9 hB9.size (fun b hb => by have := roG b hb; omega)
  have s10 := m10.size
  replace b0_0 := m10.cell b0_0 (fun hf => by have := roG _ hf; dsimp only at this; omega)
  replace b0_1 := m10.cell b0_1 (fun hf => by have := roG _ hf; dsimp only at this; omega)
  replace b0_2 := m10.cell b0_2 (fun hf => by have := roG _ hf; dsimp only at this; omega)
  replace b0_3 := m10.cell b0_3 (fun hf => by have := roG _ hf; dsimp only at this; omega)
  replace b0_4 := m10.cell b0_4 (fun hf => by have := roG _ hf; dsimp only at this; omega)
  replace b0_5 := m10.cell b0_5 (fun hf => by have := roG _ hf; dsimp only at this; omega)
  replace b1_0 := m10.cell b1_0 (fun hf => by have := roG _ hf; dsimp only at this; omega)
  replace b1_1 := m10.cell b1_1 (fun hf => by have := roG _ hf; dsimp only at this; omega)
  replace W_0 := m10.cell W_0 (fun hf => by have := roG _ hf; dsimp only at this; omega)
  replace W_1 := m10.cell W_1 (fun hf => by have := roG _ hf; dsimp only at this; omega)
  replace W_2 := m10.cell W_2 (fun hf => by have := roG _ hf; dsimp only at this; omega)
  replace W_3 := m10.cell W_3 (fun hf => by have := roG _ hf; dsimp only at this; omega)
  replace W_4 := m10.cell W_4 (fun hf => by have := roG _ hf; dsimp only at this; omega)
  replace W_5 := m10.cell W_5 (fun hf => by have := roG _ hf; dsimp only at this; omega)
  replace W_6 := m10.cell W_6 (fun hf => by have := roG _ hf; dsimp only at this; omega)
  replace W_7 := m10.cell W_7 (fun hf => by have := roG _ hf; dsimp only at this; omega)
  replace y0_0 := m10.cell y0_0 (fun hf => by have := roG _ hf; dsimp only at this; omega)
  replace y0_1 := m10.cell y0_1 (fun hf => by have := roG _ hf; dsimp only at this; omega)
  replace y0_2 := m10.cell y0_2 (fun hf => by have := roG _ hf; dsimp only at this; omega)
  replace y0_3 := m10.cell y0_3 (fun hf => by have := roG _ hf; dsimp only at this; omega)
  replace y0_4 := m10.cell y0_4 (fun hf => by have := roG _ hf; dsimp only at this; omega)
  replace y0_5 := m10.cell y0_5 (fun hf => by have := roG _ hf; dsimp only at this; omega)
  replace y1_0 := m10.cell y1_0 (fun hf => by have := roG _ hf; dsimp only at this; omega)
  replace y1_1 := m10.cell y1_1 (fun hf => by have := roG _ hf; dsimp only at this; omega)
  replace g_0 := m10.cell g_0 (fun hf => by have := roG _ hf; dsimp only at this; omega)
  replace g_1 := m10.cell g_1 (fun hf => by have := roG _ hf; dsimp only at this; omega)
  replace g_2 := m10.cell g_2 (fun hf => by have := roG _ hf; dsimp only at this; omega)
  replace g_3 := m10.cell g_3 (fun hf => by have := roG _ hf; dsimp only at this; omega)
  replace g_4 := m10.cell g_4 (fun hf => by have := roG _ hf; dsimp only at this; omega)
  replace g_5 := m10.cell g_5 (fun hf => by have := roG _ hf; dsimp only at this; omega)
  replace g_6 := m10.cell g_6 (fun hf => by have := roG _ hf; dsimp only at this; omega)
  replace g_7 := m10.cell g_7 (fun hf => by have := roG _ hf; dsimp only at this; omega)
  replace oW := shdRR.mod oW m10 (fun b p q => by have := rW b p; have := roG b q; omega)
  replace oC0m := shdR.mod oC0m m10 (fun b p q => by have := roC0 b p; have := roG b q; omega)
  replace oC1m := contR.mod oC1m m10 (fun b p q => by have := roC1 b p; have := roG b q; omega)
  clear hB9 oG m10
  clear z0 z6 z8 z16 z22 z24
  have z0 := wL _ _ b0_0
  dsimp only at z0
  have z6 := wL _ _ b1_0
  dsimp only at z6
  have z8 := wL _ _ W_0
  dsimp only at z8
  have z16 := wL _ _ y0_0
  dsimp only at z16
  have z22 := wL _ _ y1_0
  dsimp only at z22
  have z24 := wL _ _ g_0
  dsimp only at z24
  go_wp2_with fail
  refine (heldShardResult_u _ (voteD d0 d1) 1 _ (shdRR.below (shdRR.ofO oGm) (qBq)) hwR hcR (by omega)).mono ?_
  rintro e w11 ⟨rfl, hb11⟩
  have hB11 : Below w.heap.size w w11 := qBq
  have s11 := hb11.size
  try simp only [World.size_alloc] at s11
  replace b0_0 := cK hb11 (cK (qBq) b0_0)
  replace b0_1 := cK hb11 (cK (qBq) b0_1)
  replace b0_2 := cK hb11 (cK (qBq) b0_2)
  replace b0_3 := cK hb11 (cK (qBq) b0_3)
  replace b0_4 := cK hb11 (cK (qBq) b0_4)
  replace b0_5 := cK hb11 (cK (qBq) b0_5)
  replace b1_0 := cK hb11 (cK (qBq) b1_0)
  replace b1_1 := cK hb11 (cK (qBq) b1_1)
  replace W_0 := cK hb11 (cK (qBq) W_0)
  replace W_1 := cK hb11 (cK (qBq) W_1)
  replace W_2 := cK hb11 (cK (qBq) W_2)
  replace W_3 := cK hb11 (cK (qBq) W_3)
  replace W_4 := cK hb11 (cK (qBq) W_4)
  replace W_5 := cK hb11 (cK (qBq) W_5)
  replace W_6 := cK hb11 (cK (qBq) W_6)
  replace W_7 := cK hb11 (cK (qBq) W_7)
  replace y0_0 := cK hb11 (cK (qBq) y0_0)
  replace y0_1 := cK hb11 (cK (qBq) y0_1)
  replace y0_2 := cK hb11 (cK (qBq) y0_2)
  replace y0_3 := cK hb11 (cK (qBq) y0_3)
  replace y0_4 := cK hb11 (cK (qBq) y0_4)
  replace y0_5 := cK hb11 (cK (qBq) y0_5)
  replace y1_0 := cK hb11 (cK (qBq) y1_0)
  replace y1_1 := cK hb11 (cK (qBq) y1_1)
  replace g_0 := cK hb11 (cK (qBq) g_0)
  replace g_1 := cK hb11 (cK (qBq) g_1)
  replace g_2 := cK hb11 (cK (qBq) g_2)
  replace g_3 := cK hb11 (cK (qBq) g_3)
  replace g_4 := cK hb11 (cK (qBq) g_4)
  replace g_5 := cK hb11 (cK (qBq) g_5)
  replace g_6 := cK hb11 (cK (qBq) g_6)
  replace g_7 := cK hb11 (cK (qBq) g_7)
  replace oW := shdRR.keep2 oW (qBq) hb11
  replace oC0m := shdR.keep2 oC0m (qBq) hb11
  replace oC1m := contR.keep2 oC1m (qBq) hb11
  replace oGm := shdRR.keep2 oGm (qBq) hb11
  clear hB10
  clear hb11
  clear z0 z6 z8 z16 z22 z24
  have z0 := wL _ _ b0_0
  dsimp only at z0
  have z6 := wL _ _ b1_0
  dsimp only at z6
  have z8 := wL _ _ W_0
  dsimp only at z8
  have z16 := wL _ _ y0_0
  dsimp only at z16
  have z22 := wL _ _ y1_0
  dsimp only at z22
  have z24 := wL _ _ g_0
  dsimp only at z24
  go_wp2_with fail
  go_cut [13] (fun p wx => ∃ B aH1_1 aH1_2 aH1_3 aH1_4 aH1_5 cH1_1 cH1_2 cH1_3 cH1_4 cH1_5 F, p = .pointer (some ⟨B, 0, none⟩) ∧ wx.cell? ⟨B, 0, none⟩ = some (.int .i64 (voteD d0 d1).code) ∧ wx.cell? ⟨B, 1, none⟩ = some (.int .i64 (voteD d0 d1).vote) ∧ wx.cell? ⟨B, 2, none⟩ = some (.int .i64 (voteD d0 d1).shard.idx) ∧ wx.cell? ⟨B, 3, none⟩ = some (.slice aH1_1 (voteD d0 d1).shard.bals.length cH1_1) ∧ wx.cell? ⟨B, 4, none⟩ = some (.slice aH1_2 (voteD d0 d1).shard.votes.length cH1_2) ∧ wx.cell? ⟨B, 5, none⟩ = some (.slice aH1_3 (voteD d0 d1).shard.held.length cH1_3) ∧ wx.cell? ⟨B, 6, none⟩ = some (.slice aH1_4 (voteD d0 d1).shard.done.length cH1_4) ∧ wx.cell? ⟨B, 7, none⟩ = some (.slice aH1_5 (voteD d0 d1).shard.appl.length cH1_5) ∧ shdRR.O wx w11.heap.size F (.agg #[.int .i64 (voteD d0 d1).code, .int .i64 (voteD d0 d1).vote, .int .i64 (voteD d0 d1).shard.idx, .slice aH1_1 (voteD d0 d1).shard.bals.length cH1_1, .slice aH1_2 (voteD d0 d1).shard.votes.length cH1_2, .slice aH1_3 (voteD d0 d1).shard.held.length cH1_3, .slice aH1_4 (voteD d0 d1).shard.done.length cH1_4, .slice aH1_5 (voteD d0 d1).shard.appl.length cH1_5]) (voteD d0 d1) ∧ ¬ F B ∧ w11.heap.size ≤ B ∧ B < wx.heap.size ∧ Below w11.heap.size w11 wx)
  case first =>
   refine wp_region_noPanic ?_
   refine region_upto (fun Wy => Below w11.heap.size w11 Wy ∧ Wy.cell? ⟨w.heap.size, 0, none⟩ = some (.int .i64 d0.idx) ∧ Wy.cell? ⟨w.heap.size, 1, none⟩ = some (.slice ax01 d0.bals.length cx01) ∧ Wy.cell? ⟨w.heap.size, 2, none⟩ = some (.slice ax02 d0.votes.length cx02) ∧ Wy.cell? ⟨w.heap.size, 3, none⟩ = some (.slice ax03 d0.held.length cx03) ∧ Wy.cell? ⟨w.heap.size, 4, none⟩ = some (.slice ax04 d0.done.length cx04) ∧ Wy.cell? ⟨w.heap.size, 5, none⟩ = some (.slice ax05 d0.appl.length cx05) ∧ Wy.cell? ⟨w.heap.size + 1, 0, none⟩ = some (.int .i64 d1.id) ∧ Wy.cell? ⟨w.heap.size + 1, 1, none⟩ = some (.slice ax11 d1.legs.length cx11)) 6 (by kernel_rfl) ⟨Below.drew (Below.refl _ _), cK (Below.drew (Below.refl _ _)) b0_0, cK (Below.drew (Below.refl _ _)) b0_1, cK (Below.drew (Below.refl _ _)) b0_2, cK (Below.drew (Below.refl _ _)) b0_3, cK (Below.drew (Below.refl _ _)) b0_4, cK (Below.drew (Below.refl _ _)) b0_5, cK (Below.drew (Below.refl _ _)) b1_0, cK (Below.drew (Below.refl _ _)) b1_1⟩ (fun hS => ?_)
   refine tK (i := 0) (v := ?_) rfl (by kernel_rfl) hS ?_ ?_
   rotate_left
   ·
    intro wS hSw; (try dsimp only at hSw); go_simp; try with_reducible rfl
   try simp only [Act.put, jA, jB, jC, jD, jE, jF]
   refine tK (i := 2) (v := ?_) rfl (by kernel_rfl) hS ?_ ?_
   rotate_left
   ·
    intro wS hSw; (try dsimp only at hSw); go_simp; try with_reducible rfl
   try simp only [Act.put, jA, jB, jC, jD, jE, jF]
   have hbz : Below w11.heap.size w11 w11.drew := Below.drew (Below.refl _ _)
   generalize w11.drew = Wz at *
   have hszz := hbz.size
   have hbw0 := wL w11 _ b0_0
   have hbw1 := wL w11 _ b1_0
   dsimp only at hbw0 hbw1
   refine upto_cons' [(1, 76), (3, 78), (4, 79), (5, 13)] (fun _ => []) (vtLG Wz.heap.size d0 d1 (voteD d0 d1) 76 78 79 13) (by kernel_rfl) hS ?_ ?_ ?_ ?_
   ·
    intro F Wy Wy' h hm hF
    have hne : ¬ F w.heap.size := fun e => by have := hF _ e; omega
    have hne1 : ¬ F (w.heap.size + 1) := fun e => by have := hF _ e; omega
    obtain ⟨h0, h1, h2, h3, h4, h5, h6, h7, h8⟩ := h
    exact ⟨hm.below h0 h0.size (fun b hb => by have := hF b hb; omega), hm.cell h1 hne, hm.cell h2 hne, hm.cell h3 hne, hm.cell h4 hne, hm.cell h5 hne, hm.cell h6 hne, hm.cell h7 hne1, hm.cell h8 hne1⟩
   ·
    intro p hp
    simp only [List.mem_cons, List.not_mem_nil, or_false] at hp
    rcases hp with rfl | rfl | rfl | rfl
    all_goals
     intro y y' F F' Wy Wy' h hF hm hap hF' e he
     simp only [vtLG] at h ⊢
     rw [e]
    ·
     exact shdR.mod h hm (fun b hb hf => hap b hf hb)
    ·
     exact contR.mod h hm (fun b hb hf => hap b hf hb)
    ·
     exact shdRR.mod h hm (fun b hb hf => hap b hf hb)
    ·
     obtain ⟨B, h1, h2, h3, h3', ⟨g0, g1, g2, g3, g4, g5, g6, g7⟩, h4⟩ := h
     have hne : ¬ F' B := fun hf => hap B hf h2
     exact ⟨B, h1, h2, h3, Nat.lt_of_lt_of_le h3' hm.size, ⟨hm.cell g0 hne, hm.cell g1 hne, hm.cell g2 hne, hm.cell g3 hne, hm.cell g4 hne, hm.cell g5 hne, hm.cell g6 hne, hm.cell g7 hne⟩, fun o => (hm.frz10 (a := ⟨B, o, none⟩) h3' hne).trans (h4 o)⟩
   ·
    intro p hp
    simp only [List.mem_cons, List.not_mem_nil, or_false] at hp
    rcases hp with rfl | rfl | rfl | rfl
    all_goals
     refine ⟨_, rfl, rfl, ?_⟩
     intro y Wy Φ hSW hBW hd K hK
    ·
     clear hd
     refine ⟨?_⟩
     simp only [over, Act.put, jA, jB, jC, List.map_cons, List.map_nil, List.foldl_cons, List.foldl_nil, jD, jE, jF] at hK ⊢
     go_simp
     refine (toShard_u _ d0 _ (shdR.below hX0 (bS hB11 hSW.1)) (by omega)).mono ?_
     rintro e w' ⟨v, F, rfl, o3, hb3⟩
     refine hK _ _ F (Mod.of_below hb3) (fun b hb => .inr (shdR.rng o3 b hb)) ?_
     simp only [vtLG, updV]
     simpa using shdR.base o3 hBW.size
    ·
     clear hd
     refine ⟨?_⟩
     simp only [over, Act.put, jA, jB, jC, List.map_cons, List.map_nil, List.foldl_cons, List.foldl_nil, jD, jE, jF] at hK ⊢
     go_simp
     refine (toContract_u _ d1 _ (contR.below hX1 (bS hB11 hSW.1)) (by omega)).mono ?_
     rintro e w' ⟨v, F, rfl, o3, hb3⟩
     refine hK _ _ F (Mod.of_below hb3) (fun b hb => .inr (contR.rng o3 b hb)) ?_
     simp only [vtLG, updV]
     simpa using contR.base o3 hBW.size
    ·
     have g1 := (hd (1, 76) (by simp) (by kernel_rfl) (.inr (by simp))).2
     have g3 := (hd (3, 78) (by simp) (by kernel_rfl) (.inr (by simp))).2
     clear hd
     simp only [vtLG] at g1 g3
     refine ⟨?_⟩
     simp only [over, Act.put, jA, jB, jC, List.map_cons, List.map_nil, List.foldl_cons, List.foldl_nil, jD, jE, jF] at hK ⊢
     go_simp
     refine (implVote_w _ _ d0 d1 _ (shdR.ofO g1) (contR.ofO g3)).mono ?_
     rintro e w' ⟨v, F, rfl, o3, hb3⟩
     refine hK _ _ F (Mod.of_below hb3) (fun b hb => .inr (shdRR.rng o3 b hb)) ?_
     simp only [vtLG, updV]
     simpa using shdRR.base o3 hBW.size
    ·
     clear hd
     have hbw := hBW.size
     refine ⟨?_⟩
     simp only [over, Act.put, jA, jB, jC, List.map_cons, List.map_nil, List.foldl_cons, List.foldl_nil, jD, jE, jF] at hK ⊢
     go_simp
     refine hK _ _ (fun b => b = Wy.heap.size) (Mod.of_below (bA (Below.refl _ _) _)) (fun b hb => .inr (by rw [hb]; simp)) ?_
     simp only [vtLG, updV]
     exact ⟨Wy.heap.size, by simp, rfl, hbw, by simp, ⟨by simp [go_sem], by simp [go_sem], by simp [go_sem], by simp [go_sem], by simp [go_sem], by simp [go_sem], by simp [go_sem], by simp [go_sem]⟩, fun o => by simp [go_sem]⟩
   ·
    refine ⟨_, rfl, ?_⟩
    intro y Wy Φ hSW hBW hd hap K hK
    have g4 := (hd (4, 79) (by simp) (by simp)).2
    have g5 := (hd (5, 13) (by simp) (by simp)).2
    have p45 := hap (4, 79) (by simp) (5, 13) (by simp) (by simp) (by simp) (by simp)
    clear hd hap
    simp only [vtLG] at g4 g5
    obtain ⟨B, eB, hFB, hBlo, hBhi, ⟨k0, k1, k2, k3, k4, k5, k6, k7⟩, kf⟩ := g5
    have nB : ¬ Φ 4 B := fun h => p45 B h hFB
    obtain ⟨aH1_1, aH1_2, aH1_3, aH1_4, aH1_5, cH1_1, cH1_2, cH1_3, cH1_4, cH1_5, e4⟩ := shdR_form (shdRR.ofO g4)
    rw [e4] at g4
    have hBWz : Below w11.heap.size w11 Wy := bS hbz hBW
    have hlo : w11.heap.size ≤ B := by omega
    have HG4 : Hid (shdRR.O Wy w11.heap.size (Φ 4) (.agg #[.int .i64 (voteD d0 d1).code, .int .i64 (voteD d0 d1).vote, .int .i64 (voteD d0 d1).shard.idx, .slice aH1_1 (voteD d0 d1).shard.bals.length cH1_1, .slice aH1_2 (voteD d0 d1).shard.votes.length cH1_2, .slice aH1_3 (voteD d0 d1).shard.held.length cH1_3, .slice aH1_4 (voteD d0 d1).shard.done.length cH1_4, .slice aH1_5 (voteD d0 d1).shard.appl.length cH1_5]) (voteD d0 d1)) := shdRR.base g4 hszz
    have HFin : Hid (Below w11.heap.size w11 Wy ∧ w11.heap.size ≤ B ∧ B < Wy.heap.size ∧ ¬ Φ 4 B) := ⟨hBWz, hlo, hBhi, nB⟩
    generalize Φ 4 = F4 at *
    clear hFB p45 g4 hBlo hSW hS hBW hBWz hlo nB
    refine ⟨?_⟩
    simp only [over, Act.put, jA, jB, jC, List.map_cons, List.map_nil, List.foldl_cons, List.foldl_nil, jD, jE, jF]
    simp only [e4, eB]
    clear e4 eB
    go_simp
    refine hK _ _ ?_
    clear hK K
    refine NoPanic.normal ?_
    go_wp2_with fail
    go_meet
    case rel =>
     obtain ⟨hBWz, hlo, hBhi, nB⟩ := HFin.out
     refine ⟨B, aH1_1, aH1_2, aH1_3, aH1_4, aH1_5, cH1_1, cH1_2, cH1_3, cH1_4, cH1_5, F4, rfl, ?_, ?_, ?_, ?_, ?_, ?_, ?_, ?_, ?_, nB, hlo, ?_, ?_⟩
     ·
      simp [go_sem, k0, k1, k2, k3, k4, k5, k6, k7, kf]
     ·
      simp [go_sem, k0, k1, k2, k3, k4, k5, k6, k7, kf]
     ·
      simp [go_sem, k0, k1, k2, k3, k4, k5, k6, k7, kf]
     ·
      simp [go_sem, k0, k1, k2, k3, k4, k5, k6, k7, kf]
     ·
      simp [go_sem, k0, k1, k2, k3, k4, k5, k6, k7, kf]
     ·
      simp [go_sem, k0, k1, k2, k3, k4, k5, k6, k7, kf]
     ·
      simp [go_sem, k0, k1, k2, k3, k4, k5, k6, k7, kf]
     ·
      simp [go_sem, k0, k1, k2, k3, k4, k5, k6, k7, kf]
     ·
      exact setR8 shdRR HG4.out nB _ _ _ _ _ _ _ _
     ·
      simpa using hBhi
     ·
      exact bset (p := ⟨B, 7, none⟩) (bset (p := ⟨B, 6, none⟩) (bset (p := ⟨B, 5, none⟩) (bset (p := ⟨B, 4, none⟩) (bset (p := ⟨B, 3, none⟩) (bset (p := ⟨B, 2, none⟩) (bset (p := ⟨B, 1, none⟩) (bset (p := ⟨B, 0, none⟩) (hBWz) hlo _) hlo _) hlo _) hlo _) hlo _) hlo _) hlo _) hlo _
  case rest =>
   obtain ⟨BH, aH1_1, aH1_2, aH1_3, aH1_4, aH1_5, cH1_1, cH1_2, cH1_3, cH1_4, cH1_5, FH, rfl, H_0, H_1, H_2, H_3, H_4, H_5, H_6, H_7, oH, nbH, loH, hiH, hbx⟩ := hcut
   generalize hwc : wc = wH at *
   clear hwc
   have hBH : Below w.heap.size w wH := bS hB11 hbx
   have sH := hbx.size
   replace b0_0 := cK hbx b0_0
   replace b0_1 := cK hbx b0_1
   replace b0_2 := cK hbx b0_2
   replace b0_3 := cK hbx b0_3
   replace b0_4 := cK hbx b0_4
   replace b0_5 := cK hbx b0_5
   replace b1_0 := cK hbx b1_0
   replace b1_1 := cK hbx b1_1
   replace W_0 := cK hbx W_0
   replace W_1 := cK hbx W_1
   replace W_2 := cK hbx W_2
   replace W_3 := cK hbx W_3
   replace W_4 := cK hbx W_4
   replace W_5 := cK hbx W_5
   replace W_6 := cK hbx W_6
   replace W_7 := cK hbx W_7
   replace y0_0 := cK hbx y0_0
   replace y0_1 := cK hbx y0_1
   replace y0_2 := cK hbx y0_2
   replace y0_3 := cK hbx y0_3
   replace y0_4 := cK hbx y0_4
   replace y0_5 := cK hbx y0_5
   replace y1_0 := cK hbx y1_0
   replace y1_1 := cK hbx y1_1
   replace g_0 := cK hbx g_0
   replace g_1 := cK hbx g_1
   replace g_2 := cK hbx g_2
   replace g_3 := cK hbx g_3
   replace g_4 := cK hbx g_4
   replace g_5 := cK hbx g_5
   replace g_6 := cK hbx g_6
   replace g_7 := cK hbx g_7
   replace oW := shdRR.keep oW hbx
   replace oC0m := shdR.keep oC0m hbx
   replace oC1m := contR.keep oC1m hbx
   replace oGm := shdRR.keep oGm hbx
   have rH : ∀ b, FH b → w11.heap.size ≤ b ∧ b < wH.heap.size := fun b hb => shdRR.rng oH b hb
   clear hB11 hbx
   clear z0 z6 z8 z16 z22 z24
   have z0 := wL _ _ b0_0
   dsimp only at z0
   have z6 := wL _ _ b1_0
   dsimp only at z6
   have z8 := wL _ _ W_0
   dsimp only at z8
   have z16 := wL _ _ y0_0
   dsimp only at z16
   have z22 := wL _ _ y1_0
   dsimp only at z22
   have z24 := wL _ _ g_0
   dsimp only at z24
   have z32 := wL _ _ H_0
   dsimp only at z32
   go_wp2_with fail
   refine (eqShardResult_u _ _ (voteD d0 d1) (voteD d0 d1) _ (shdRR.below (shdRR.ofO oH) (qBq)) (shdRR.below (shdRR.ofO oW) (qBq))).mono ?_
   rintro e w12 ⟨rfl, hb12⟩
   have hB12 : Below w.heap.size w w12 := qBq
   have s12 := hb12.size
   try simp only [World.size_alloc] at s12
   replace b0_0 := cK hb12 (cK (qBq) b0_0)
   replace b0_1 := cK hb12 (cK (qBq) b0_1)
   replace b0_2 := cK hb12 (cK (qBq) b0_2)
   replace b0_3 := cK hb12 (cK (qBq) b0_3)
   replace b0_4 := cK hb12 (cK (qBq) b0_4)
   replace b0_5 := cK hb12 (cK (qBq) b0_5)
   replace b1_0 := cK hb12 (cK (qBq) b1_0)
   replace b1_1 := cK hb12 (cK (qBq) b1_1)
   replace W_0 := cK hb12 (cK (qBq) W_0)
   replace W_1 := cK hb12 (cK (qBq) W_1)
   replace W_2 := cK hb12 (cK (qBq) W_2)
   replace W_3 := cK hb12 (cK (qBq) W_3)
   replace W_4 := cK hb12 (cK (qBq) W_4)
   replace W_5 := cK hb12 (cK (qBq) W_5)
   replace W_6 := cK hb12 (cK (qBq) W_6)
   replace W_7 := cK hb12 (cK (qBq) W_7)
   replace y0_0 := cK hb12 (cK (qBq) y0_0)
   replace y0_1 := cK hb12 (cK (qBq) y0_1)
   replace y0_2 := cK hb12 (cK (qBq) y0_2)
   replace y0_3 := cK hb12 (cK (qBq) y0_3)
   replace y0_4 := cK hb12 (cK (qBq) y0_4)
   replace y0_5 := cK hb12 (cK (qBq) y0_5)
   replace y1_0 := cK hb12 (cK (qBq) y1_0)
   replace y1_1 := cK hb12 (cK (qBq) y1_1)
   replace g_0 := cK hb12 (cK (qBq) g_0)
   replace g_1 := cK hb12 (cK (qBq) g_1)
   replace g_2 := cK hb12 (cK (qBq) g_2)
   replace g_3 := cK hb12 (cK (qBq) g_3)
   replace g_4 := cK hb12 (cK (qBq) g_4)
   replace g_5 := cK hb12 (cK (qBq) g_5)
   replace g_6 := cK hb12 (cK (qBq) g_6)
   replace g_7 := cK hb12 (cK (qBq) g_7)
   replace H_0 := cK hb12 (cK (qBq) H_0)
   replace H_1 := cK hb12 (cK (qBq) H_1)
   replace H_2 := cK hb12 (cK (qBq) H_2)
   replace H_3 := cK hb12 (cK (qBq) H_3)
   replace H_4 := cK hb12 (cK (qBq) H_4)
   replace H_5 := cK hb12 (cK (qBq) H_5)
   replace H_6 := cK hb12 (cK (qBq) H_6)
   replace H_7 := cK hb12 (cK (qBq) H_7)
   replace oW := shdRR.keep2 oW (qBq) hb12
   replace oC0m := shdR.keep2 oC0m (qBq) hb12
   replace oC1m := contR.keep2 oC1m (qBq) hb12
   replace oGm := shdRR.keep2 oGm (qBq) hb12
   replace oH := shdRR.keep2 oH (qBq) hb12
   clear hBH
   clear hb12
   clear z0 z6 z8 z16 z22 z24 z32
   have z0 := wL _ _ b0_0
   dsimp only at z0
   have z6 := wL _ _ b1_0
   dsimp only at z6
   have z8 := wL _ _ W_0
   dsimp only at z8
   have z16 := wL _ _ y0_0
   dsimp only at z16
   have z22 := wL _ _ y1_0
   dsimp only at z22
   have z24 := wL _ _ g_0
   dsimp only at z24
   have z32 := wL _ _ H_0
   dsimp only at z32
   go_wp2_with fail
   refine (heldShardResult_u _ (voteD d0 d1) 1 _ (shdRR.below (shdRR.ofO oGm) (qBq)) hwR hcR (by omega)).mono ?_
   rintro e w13 ⟨rfl, hb13⟩
   have hB13 : Below w.heap.size w w13 := qBq
   have s13 := hb13.size
   try simp only [World.size_alloc] at s13
   replace b0_0 := cK hb13 (cK (qBq) b0_0)
   replace b0_1 := cK hb13 (cK (qBq) b0_1)
   replace b0_2 := cK hb13 (cK (qBq) b0_2)
   replace b0_3 := cK hb13 (cK (qBq) b0_3)
   replace b0_4 := cK hb13 (cK (qBq) b0_4)
   replace b0_5 := cK hb13 (cK (qBq) b0_5)
   replace b1_0 := cK hb13 (cK (qBq) b1_0)
   replace b1_1 := cK hb13 (cK (qBq) b1_1)
   replace W_0 := cK hb13 (cK (qBq) W_0)
   replace W_1 := cK hb13 (cK (qBq) W_1)
   replace W_2 := cK hb13 (cK (qBq) W_2)
   replace W_3 := cK hb13 (cK (qBq) W_3)
   replace W_4 := cK hb13 (cK (qBq) W_4)
   replace W_5 := cK hb13 (cK (qBq) W_5)
   replace W_6 := cK hb13 (cK (qBq) W_6)
   replace W_7 := cK hb13 (cK (qBq) W_7)
   replace y0_0 := cK hb13 (cK (qBq) y0_0)
   replace y0_1 := cK hb13 (cK (qBq) y0_1)
   replace y0_2 := cK hb13 (cK (qBq) y0_2)
   replace y0_3 := cK hb13 (cK (qBq) y0_3)
   replace y0_4 := cK hb13 (cK (qBq) y0_4)
   replace y0_5 := cK hb13 (cK (qBq) y0_5)
   replace y1_0 := cK hb13 (cK (qBq) y1_0)
   replace y1_1 := cK hb13 (cK (qBq) y1_1)
   replace g_0 := cK hb13 (cK (qBq) g_0)
   replace g_1 := cK hb13 (cK (qBq) g_1)
   replace g_2 := cK hb13 (cK (qBq) g_2)
   replace g_3 := cK hb13 (cK (qBq) g_3)
   replace g_4 := cK hb13 (cK (qBq) g_4)
   replace g_5 := cK hb13 (cK (qBq) g_5)
   replace g_6 := cK hb13 (cK (qBq) g_6)
   replace g_7 := cK hb13 (cK (qBq) g_7)
   replace H_0 := cK hb13 (cK (qBq) H_0)
   replace H_1 := cK hb13 (cK (qBq) H_1)
   replace H_2 := cK hb13 (cK (qBq) H_2)
   replace H_3 := cK hb13 (cK (qBq) H_3)
   replace H_4 := cK hb13 (cK (qBq) H_4)
   replace H_5 := cK hb13 (cK (qBq) H_5)
   replace H_6 := cK hb13 (cK (qBq) H_6)
   replace H_7 := cK hb13 (cK (qBq) H_7)
   replace oW := shdRR.keep2 oW (qBq) hb13
   replace oC0m := shdR.keep2 oC0m (qBq) hb13
   replace oC1m := contR.keep2 oC1m (qBq) hb13
   replace oGm := shdRR.keep2 oGm (qBq) hb13
   replace oH := shdRR.keep2 oH (qBq) hb13
   clear hB12
   go_wp2
   go_ret
   exact ⟨rfl, hB13⟩
end Go.Proofs.YtndghenlapbaaaaGreat.voteShardLaw


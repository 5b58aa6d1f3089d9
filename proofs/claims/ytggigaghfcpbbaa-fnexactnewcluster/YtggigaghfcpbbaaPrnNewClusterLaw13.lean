import Derived.Test.YtggigaghfcpbbaaPrnNewClusterLaw12
import Derived.Test.YtggigaghfcpbbaaPrnNewClusterLaw2
import Derived.Test.YtggigaghfcpbbaaPrnNewClusterLaw8
import Derived.Test.YtggigaghfcpbbaaPrnNewClusterLaw6
import Derived.Test.YtggigaghfcpbbaaPrnNewClusterLaw5
import Derived.Test.YtggigaghfcpbbaaPrnNewClusterLaw7
import Derived.BigQuiet
import Derived.Deep.QuietTactic
import Derived.Deep.RegionHeld3

/-
  ClusterResult. (Written by program: nest.py.)
-/
namespace Go.Proofs.Ytggigaghfcpbbaa
open Go.RowKit
set_option linter.unusedSectionVars false
variable [DecidableEq Leg] [Inhabited Leg] [DecidableEq Cont] [Inhabited Cont] [DecidableEq Bal] [Inhabited Bal] [DecidableEq Mrk] [Inhabited Mrk] [DecidableEq Shd] [Inhabited Shd] [DecidableEq Vot] [Inhabited Vot] [DecidableEq Slt] [Inhabited Slt] [DecidableEq Acc] [Inhabited Acc] [DecidableEq Trr] [Inhabited Trr] [DecidableEq Hrd] [Inhabited Hrd] [DecidableEq Ldr] [Inhabited Ldr] [DecidableEq Msg] [Inhabited Msg] [DecidableEq Clu] [Inhabited Clu]
attribute [local go_sem ↓] Go.wp_at_zero Go.wp_at_succ

set_option linter.unusedSimpArgs false

structure CluR where
  code : Int
  clu : Clu
variable [DecidableEq CluR] [Inhabited CluR]

def cluRR : Rep CluR where
  V := fun w v x => ∃ u1_1 u1_2 u1_3 u1_4 u1_5, v = .agg #[.int .i64 x.code, u1_1, u1_2, u1_3, u1_4, u1_5] ∧ cluR.V w (.agg #[u1_1, u1_2, u1_3, u1_4, u1_5]) x.clu
  O := fun w base F v x => ∃ u1_1 u1_2 u1_3 u1_4 u1_5 F1, v = .agg #[.int .i64 x.code, u1_1, u1_2, u1_3, u1_4, u1_5] ∧ cluR.O w base F1 (.agg #[u1_1, u1_2, u1_3, u1_4, u1_5]) x.clu ∧ (∀ b, F b ↔ (F1 b))
  below := fun h hb => by
    obtain ⟨u1_1, u1_2, u1_3, u1_4, u1_5, rfl, h1⟩ := h
    exact ⟨u1_1, u1_2, u1_3, u1_4, u1_5, rfl, cluR.below h1 hb⟩
  ofO := fun h => by
    obtain ⟨u1_1, u1_2, u1_3, u1_4, u1_5, F1, rfl, h1, _⟩ := h
    exact ⟨u1_1, u1_2, u1_3, u1_4, u1_5, rfl, cluR.ofO h1⟩
  mod := fun h hm hd => by
    obtain ⟨u1_1, u1_2, u1_3, u1_4, u1_5, F1, rfl, h1, hF⟩ := h
    exact ⟨u1_1, u1_2, u1_3, u1_4, u1_5, F1, rfl, cluR.mod h1 hm (fun b hb => hd b ((hF b).2 hb)), hF⟩
  rng := fun h b hb => by
    obtain ⟨u1_1, u1_2, u1_3, u1_4, u1_5, F1, rfl, h1, hF⟩ := h
    rcases (hF b).1 hb with hb
    · exact cluR.rng h1 b hb
  base := fun h hb => by
    obtain ⟨u1_1, u1_2, u1_3, u1_4, u1_5, F1, rfl, h1, hF⟩ := h
    exact ⟨u1_1, u1_2, u1_3, u1_4, u1_5, F1, rfl, cluR.base h1 hb, hF⟩
def wtCluR (x : CluR) : Nat := wtClu x.clu
def cntCluR (x : CluR) : Nat := cntClu x.clu
def mkCluR (k : Int) (x : CluR) : CluR := { x with clu := mkClu k x.clu }
theorem cluR_form {w : World} {v : Value} {x : CluR} (h : cluRR.V w v x) : ∃ a1_1 a1_2 a1_3 a1_4 a1_5 c1_1 c1_2 c1_3 c1_4 c1_5, v = .agg #[.int .i64 x.code, .slice a1_1 x.clu.cons.length c1_1, .slice a1_2 x.clu.shards.length c1_2, .slice a1_3 x.clu.accs.length c1_3, .slice a1_4 x.clu.ldrs.length c1_4, .slice a1_5 x.clu.msgs.length c1_5] := by
  obtain ⟨u1_1, u1_2, u1_3, u1_4, u1_5, rfl, h1⟩ := h
  obtain ⟨a1_1, a1_2, a1_3, a1_4, a1_5, c1_1, c1_2, c1_3, c1_4, c1_5, e1⟩ := clu_form h1
  simp only [Value.agg.injEq, Array.mk.injEq, List.cons.injEq, and_true] at e1
  obtain ⟨rfl, rfl, rfl, rfl, rfl⟩ := e1
  exact ⟨_, _, _, _, _, _, _, _, _, _, rfl⟩
theorem cluR_cnt (d : CluR) : cntCluR d ≤ 9 * wtCluR d := by
  unfold cntCluR wtCluR
  have q1 := clu_cnt d.clu
  omega
set_option maxHeartbeats 1000000 in
theorem eqClusterResult_u (x y : Value) (d d' : CluR) (w : World) (hx : cluRR.V w x d) (hy : cluRR.V w y d') :
    Calls Try.prog 8 #[x, y] w fun e w' => e = .returned (.bool (decide (d = d'))) ∧ Below w.heap.size w w' := by
  obtain ⟨u1_1, u1_2, u1_3, u1_4, u1_5, rfl, h1⟩ := hx
  obtain ⟨v1_1, v1_2, v1_3, v1_4, v1_5, rfl, k1⟩ := hy
  obtain ⟨code, clu⟩ := d
  obtain ⟨code', clu'⟩ := d'
  dsimp only at h1 k1
  go_enter Try.func8, Try.ntmps8
  go_wp2_with fail
  all_goals try (go_ret; exact ⟨by simp_all, by (repeat (first | exact Below.refl _ _ | assumption | refine Below.drew ?_ | refine balloc ?_ _ | refine bset ?_ (by simp; omega) _ | refine bset ?_ (by simp) _ | refine bstep ?_ (by assumption)))⟩)
  refine (eqCluster_u _ _ clu clu' _ (cluR.below h1 (by (repeat (first | exact Below.refl _ _ | assumption | refine Below.drew ?_ | refine balloc ?_ _ | refine bset ?_ (by simp; omega) _ | refine bset ?_ (by simp) _ | refine bstep ?_ (by assumption))))) (cluR.below k1 (by (repeat (first | exact Below.refl _ _ | assumption | refine Below.drew ?_ | refine balloc ?_ _ | refine bset ?_ (by simp; omega) _ | refine bset ?_ (by simp) _ | refine bstep ?_ (by assumption)))))).mono ?_
  rintro e w1 ⟨rfl, b1⟩
  go_wp2
  all_goals
    go_ret
    exact ⟨by simp_all, by (repeat (first | exact Below.refl _ _ | assumption | refine Below.drew ?_ | refine balloc ?_ _ | refine bset ?_ (by simp; omega) _ | refine bset ?_ (by simp) _ | refine bstep ?_ (by assumption)))⟩
set_option maxHeartbeats 1000000 in
theorem markClusterResult_u (v : Value) (d : CluR) (base : Nat) (F : Nat → Prop) (k : Int) (w : World) (ho : cluRR.O w base F v d) (hw : wtCluR d ≤ 1048576) (hn : k + cntCluR d ≤ 1073741824) (hk0 : 0 ≤ k) :
    Calls Try.prog 11 #[v, .int .i64 k] w fun r w' => r = .returned (.int .i64 (k + cntCluR d)) ∧ cluRR.O w' base F v (mkCluR k d) ∧ Mod F w w' := by
  obtain ⟨u1_1, u1_2, u1_3, u1_4, u1_5, F1, rfl, h1, hF⟩ := ho
  unfold wtCluR at hw
  unfold cntCluR at hn ⊢
  have HF : Hid (∀ b, F b ↔ (F1 b)) := hF
  clear hF
  go_enter Try.func11, Try.ntmps11
  go_wp2_with fail
  refine (markCluster_u _ d.clu base F1 k _ (cluR.alloc h1 _) (by omega) (by omega) (by omega)).mono ?_
  rintro e w1 ⟨rfl, r1, m1⟩
  go_wp2
  go_ret
  refine ⟨?_, ⟨_, _, _, _, _, F1, rfl, r1, HF.out⟩, ((Mod.refl F w).alloc _).trans (m1.mono (fun b hb => (HF.out b).2 hb))⟩
  simp
  try omega
set_option maxHeartbeats 1000000 in
theorem heldClusterResult_u (v : Value) (d : CluR) (k : Int) (w : World) (hv : cluRR.V w v (mkCluR k d)) (hw : wtCluR d ≤ 1048576) (hn : k + cntCluR d ≤ 1073741824) (hk0 : 0 ≤ k) :
    Calls Try.prog 12 #[v, .int .i64 k] w fun r w' => r = .returned (.int .i64 (k + cntCluR d)) ∧ Below w.heap.size w w' := by
  obtain ⟨u1_1, u1_2, u1_3, u1_4, u1_5, rfl, h1⟩ := hv
  unfold wtCluR at hw
  unfold cntCluR at hn ⊢
  go_enter Try.func12, Try.ntmps12
  go_wp2_with fail
  refine (heldCluster_u _ d.clu k _ (cluR.below h1 (by (repeat (first | exact Below.refl _ _ | assumption | refine Below.drew ?_ | refine balloc ?_ _ | refine bset ?_ (by simp; omega) _ | refine bset ?_ (by simp) _ | refine bstep ?_ (by assumption))))) (by omega) (by omega) (by omega)).mono ?_
  rintro e w1 ⟨rfl, b1⟩
  go_wp2
  go_ret
  refine ⟨?_, by (repeat (first | exact Below.refl _ _ | assumption | refine Below.drew ?_ | refine balloc ?_ _ | refine bset ?_ (by simp; omega) _ | refine bset ?_ (by simp) _ | refine bstep ?_ (by assumption)))⟩
  simp
  try omega
end Go.Proofs.Ytggigaghfcpbbaa

/-
  LedgerFault on both sides.
-/
namespace Go.Proofs.Ytggigaghfcpbbaa
open Go.RowKit
set_option linter.unusedSectionVars false
variable [DecidableEq Bal] [Inhabited Bal] [DecidableEq Ledg] [Inhabited Ledg] [DecidableEq Leg] [Inhabited Leg]
attribute [local go_sem ↓] Go.wp_at_zero Go.wp_at_succ

set_option maxHeartbeats 2000000 in
theorem specLedFault_any (x : Value) (g : Ledg) (w : World) (hx : ledgR.V w x g) :
    Calls Try.prog 14 #[x] w fun e w' => e = .returned (.int .i64 (ledFault g)) ∧ Below w.heap.size w w' := by
  obtain ⟨u, rfl, ax, cx, rfl, hcx, hmx, hxx⟩ := hx
  unfold maxLen at hmx
  by_cases h1 : g.shards.length < 1
  · have e : ledFault g = 2 := by simp [ledFault, h1]
    rw [e]
    go_enter Try.func14, Try.ntmps14
    go_wp2
    go_ret
    exact ⟨rfl, balloc (Below.refl _ _) _⟩
  by_cases h3 : 3 < g.shards.length
  · have e : ledFault g = 2 := by simp [ledFault, h3]
    rw [e]
    go_enter Try.func14, Try.ntmps14
    go_wp2
    go_ret
    exact ⟨rfl, balloc (Below.refl _ _) _⟩
  generalize hn' : g.shards.length = n at *
  have HN : Hid (g.shards.length = n) := hn'
  clear hn'
  go_enter Try.func14, Try.ntmps14
  go_wp2
  go_loopw [3] (fun i w' => ∃ k : Nat, k ≤ n ∧ i = .int .i64 k ∧ scanI (ledAt g) k = 0 ∧ Below w.heap.size w w' ∧ w'.cell? ⟨w.heap.size, 0, none⟩ = some (.slice ax n cx) ∧ w.heap.size < w'.heap.size) (fun i _ => n - (intOf i).toNat)
  case atStart => exact ⟨0, Nat.zero_le _, rfl, rfl, balloc (Below.refl _ _) _, by simp [go_sem], by simp⟩
  case round =>
    obtain ⟨k, hk, rfl, hs, hbl, hc0, hz0⟩ := hrel
    have HS : Hid (scanI (ledAt g) k = 0) := hs
    clear hs
    by_cases hlt : k < n
    · obtain ⟨bx, ox, u, rfl, _, hc, hu⟩ := hxx k hlt
      have c1 := cell_keep hbl (cells1 hc)
      have hu1 := balsR.below hu hbl
      clear hu hc hxx
      obtain ⟨l, hl⟩ : ∃ l, l = g.shards.getD k default := ⟨_, rfl⟩
      rw [← hl] at hu1
      have HL : Hid (l = g.shards.getD k default) := hl
      clear hl
      obtain ⟨a', c', rfl⟩ := bals_form hu1
      go_wp2_with fail
      refine (specBalFault_any _ l _ hu1).mono ?_
      rintro e w' ⟨rfl, hb⟩
      have hat : Hid (ledAt g k = balFault l) := by show _ = _; rw [ledAt, ← HL.out]
      have hB := bstep hbl hb
      by_cases h0 : balFault l = 0
      · rw [h0] at hat ⊢
        go_wp2
        exact ⟨⟨k + 1, by omega, by go_num, scanI_succ HS.out hat.out, hB, by rw [cell_keep hb hc0], by have := hb.size; omega⟩, by simp [intOf]; omega⟩
      · go_wp2
        go_ret
        refine ⟨?_, hB⟩
        rw [ledFault, if_neg (by rw [HN.out]; omega), scanI_hit HS.out (by rw [hat.out]; exact h0) _ (by rw [HN.out]; exact hlt), hat.out]
        rfl
    · go_wp2
      go_ret
      have hkn : k = n := by omega
      subst hkn
      refine ⟨?_, hbl⟩
      rw [ledFault, if_neg (by rw [HN.out]; omega), HN.out, HS.out]
      rfl
set_option maxHeartbeats 2000000 in
theorem implLedFault_any (x : Value) (g : Ledg) (w : World) (hx : ledgR.V w x g) :
    Calls Try.prog 18 #[x] w fun e w' => e = .returned (.int .i64 (ledFault g)) ∧ Below w.heap.size w w' := by
  obtain ⟨u, rfl, ax, cx, rfl, hcx, hmx, hxx⟩ := hx
  unfold maxLen at hmx
  by_cases h1 : g.shards.length < 1
  · have e : ledFault g = 2 := by simp [ledFault, h1]
    rw [e]
    go_enter Try.func18, Try.ntmps18
    go_wp2
    go_ret
    exact ⟨rfl, balloc (Below.refl _ _) _⟩
  by_cases h3 : 3 < g.shards.length
  · have e : ledFault g = 2 := by simp [ledFault, h3]
    rw [e]
    go_enter Try.func18, Try.ntmps18
    go_wp2
    go_ret
    exact ⟨rfl, balloc (Below.refl _ _) _⟩
  generalize hn' : g.shards.length = n at *
  have HN : Hid (g.shards.length = n) := hn'
  clear hn'
  go_enter Try.func18, Try.ntmps18
  go_wp2
  go_loopw [19] (fun i w' => ∃ k : Nat, k ≤ n ∧ i = .int .i64 k ∧ scanI (ledAt g) k = 0 ∧ Below w.heap.size w w') (fun i _ => n - (intOf i).toNat)
  case atStart => exact ⟨0, Nat.zero_le _, rfl, rfl, balloc (Below.refl _ _) _⟩
  case round =>
    obtain ⟨k, hk, rfl, hs, hbl⟩ := hrel
    have HS : Hid (scanI (ledAt g) k = 0) := hs
    clear hs
    by_cases hlt : k < n
    · obtain ⟨bx, ox, u, rfl, _, hc, hu⟩ := hxx k hlt
      have c1 := cell_keep hbl (cells1 hc)
      have hu1 := balsR.below hu hbl
      clear hu hc hxx
      obtain ⟨l, hl⟩ : ∃ l, l = g.shards.getD k default := ⟨_, rfl⟩
      rw [← hl] at hu1
      have HL : Hid (l = g.shards.getD k default) := hl
      clear hl
      obtain ⟨a', c', rfl⟩ := bals_form hu1
      go_wp2_with fail
      refine (implBalFault_any _ l _ hu1).mono ?_
      rintro e w' ⟨rfl, hb⟩
      have hat : Hid (ledAt g k = balFault l) := by show _ = _; rw [ledAt, ← HL.out]
      have hB := bstep hbl hb
      by_cases h0 : balFault l = 0
      · rw [h0] at hat ⊢
        go_wp2
        exact ⟨⟨k + 1, by omega, by go_num, scanI_succ HS.out hat.out, hB⟩, by simp [intOf]; omega⟩
      · go_wp2
        go_ret
        refine ⟨?_, hB⟩
        rw [ledFault, if_neg (by rw [HN.out]; omega), scanI_hit HS.out (by rw [hat.out]; exact h0) _ (by rw [HN.out]; exact hlt), hat.out]
        rfl
    · go_wp2
      go_ret
      have hkn : k = n := by omega
      subst hkn
      refine ⟨?_, hbl⟩
      rw [ledFault, if_neg (by rw [HN.out]; omega), HN.out, HS.out]
      rfl
end Go.Proofs.Ytggigaghfcpbbaa

/-
  A new cluster: data and pieces.
-/
set_option linter.unusedSimpArgs false
set_option linter.unusedVariables false
namespace Go.Proofs.Ytggigaghfcpbbaa
open Go.RowKit
set_option linter.unusedSectionVars false
variable [DecidableEq Leg] [Inhabited Leg] [DecidableEq Mrk] [Inhabited Mrk] [DecidableEq Bal] [Inhabited Bal] [DecidableEq Cont] [Inhabited Cont] [DecidableEq Shd] [Inhabited Shd] [DecidableEq Ledg] [Inhabited Ledg] [DecidableEq ShdR] [Inhabited ShdR] [DecidableEq Vot] [Inhabited Vot] [DecidableEq Slt] [Inhabited Slt] [DecidableEq Acc] [Inhabited Acc] [DecidableEq Trr] [Inhabited Trr] [DecidableEq Hrd] [Inhabited Hrd] [DecidableEq Ldr] [Inhabited Ldr] [DecidableEq Msg] [Inhabited Msg] [DecidableEq Clu] [Inhabited Clu] [DecidableEq CluR] [Inhabited CluR]
attribute [local go_sem ↓] Go.wp_at_zero Go.wp_at_succ

def accE : Acc := ⟨[]⟩
def ldrE : Ldr := ⟨0, [], []⟩
def shN (g : Ledg) (k : Nat) : List Shd := (List.range k).map (fun (i : Nat) => (newD (i : Int) (g.shards.getD i default)).shard)
theorem shN_len (g : Ledg) (k : Nat) : (shN g k).length = k := by unfold shN; rw [List.length_map, List.length_range]
theorem shN_succ (g : Ledg) (k : Nat) : shN g (k + 1) = shN g k ++ [(newD k (g.shards.getD k default)).shard] := by
  unfold shN
  rw [List.range_succ, List.map_append]
  rfl
def cluE (c : Int) : CluR := ⟨c, ⟨[], [], [], [], []⟩⟩
def newC (g : Ledg) (a : Int) : CluR := if ledFault g = 0 then (if inB a 1 5 = true then ⟨0, ⟨[], shN g g.shards.length, List.replicate a.toNat accE, List.replicate 2 ldrE, []⟩⟩ else cluE 3) else cluE (ledFault g)
theorem no_nil {α : Type} [Inhabited α] (R : Rep α) (e size : Nat) (lv : Value → List Value) (w : World) (base : Nat) : NO R e size lv w base (fun _ => False) (.slice none 0 0) [] :=
  ⟨[], fun _ => default, fun _ _ => False, ⟨World.ownsRow_nil _ _ _ _, fun i hi => absurd hi (Nat.not_lt_zero _), fun i hi => absurd hi (Nat.not_lt_zero _), fun i hi => absurd hi (Nat.not_lt_zero _), fun i hi => absurd hi (Nat.not_lt_zero _), fun i j hi => absurd hi (Nat.not_lt_zero _)⟩, fun b => ⟨fun h => h.elim, fun h => h.elim (fun h => by simp [Value.ownBlock] at h) (fun ⟨i, hi, _⟩ => absurd hi (Nat.not_lt_zero _))⟩⟩
theorem msgs_nil (w : World) (base : Nat) : msgsR.O w base (fun b => (Value.slice none 0 0).ownBlock = some b) (.slice none 0 0) [] := ⟨World.ownsRow_nil _ _ _ _, rfl⟩
theorem hrds_nil (w : World) (base : Nat) : hrdsR.O w base (fun b => (Value.slice none 0 0).ownBlock = some b) (.slice none 0 0) [] := ⟨World.ownsRow_nil _ _ _ _, rfl⟩
theorem accE_O (w : World) (base : Nat) : accR.O w base (fun _ => False) (.agg #[.slice none 0 0]) accE :=
  ⟨_, (fun _ => False), rfl, no_nil _ _ _ _ w base, fun _ => Iff.rfl⟩
theorem ldrE_O (w : World) (base : Nat) : ldrR.O w base (fun _ => False) (.agg #[.int .i64 0, .slice none 0 0, .slice none 0 0]) ldrE :=
  ⟨_, _, (fun _ => False), _, rfl, no_nil _ _ _ _ w base, hrds_nil w base, fun _ h => h.elim, fun b => ⟨fun h => h.elim, fun h => h.elim (fun h => h) (fun h => noBlk h)⟩⟩
theorem made_rep {α : Type} [Inhabited α] {R : Rep α} {e size : Nat} {lv : Value → List Value} {z u : Value} {x : α} (hz : z.cells.toList = lv u) (hl : (lv u).length = size) (hs : 0 < size) (hO : ∀ w base, R.O w base (fun _ => False) u x) {w : World} {base : Nat} {v : Value} {n : Nat}
    (hr : w.ownsRow base e size v n (madeCells z.cells (n * size)).toList) : NO R e size lv w base (fun b => v.ownBlock = some b) v (List.replicate n x) := by
  have hzl : z.cells.size = size := by rw [← Array.length_toList, hz, hl]
  refine ⟨(madeCells z.cells (n * size)).toList, fun _ => u, fun _ _ => False, ⟨by rw [List.length_replicate]; exact hr, fun i hi => ?_, fun i _ => hl, fun i hi j hj => ?_, fun i _ b h => h.elim, fun i j _ _ _ b h => h.elim⟩, fun b => ⟨fun h => .inl h, fun h => h.elim id (fun ⟨_, _, h⟩ => h.elim)⟩⟩
  · rw [List.length_replicate] at hi
    have e : (List.replicate n x).getD i default = x := by simp [List.getD, hi]
    rw [e]
    exact hO w base
  · rw [List.length_replicate] at hi
    have h1 : i * size + j < n * size := by
      have : (i + 1) * size ≤ n * size := Nat.mul_le_mul_right _ hi
      rw [Nat.succ_mul] at this
      omega
    have hm : (i * size + j) % size = j := by rw [Nat.mul_comm, Nat.mul_add_mod]; exact Nat.mod_eq_of_lt hj
    have hj' : j < z.cells.size := by omega
    rw [← hz]
    simp only [madeCells, Array.toList_map, Array.toList_range, List.getElem?_map]
    rw [List.getElem?_range h1, hzl]
    simp only [Option.map_some, hm]
    rw [getElem!_pos z.cells j hj']
    simp [hj']
theorem shdRR_parts {w : World} {base : Nat} {F : Nat → Prop} {v : Value} {r : ShdR} (h : shdRR.O w base F v r) : ∃ p1 p2 p3 p4 p5 q1 q2 q3 q4 q5 F1, v = .agg #[.int .i64 r.code, .int .i64 r.vote, .int .i64 r.shard.idx, .slice p1 r.shard.bals.length q1, .slice p2 r.shard.votes.length q2, .slice p3 r.shard.held.length q3, .slice p4 r.shard.done.length q4, .slice p5 r.shard.appl.length q5] ∧ shdR.O w base F1 (.agg #[.int .i64 r.shard.idx, .slice p1 r.shard.bals.length q1, .slice p2 r.shard.votes.length q2, .slice p3 r.shard.held.length q3, .slice p4 r.shard.done.length q4, .slice p5 r.shard.appl.length q5]) r.shard := by
  obtain ⟨u1, u2, u3, u4, u5, F1, rfl, h1, _⟩ := h
  obtain ⟨p1, p2, p3, p4, p5, q1, q2, q3, q4, q5, e⟩ := shd_form (shdR.ofO h1)
  simp only [Value.agg.injEq, Array.mk.injEq, List.cons.injEq, and_true, true_and] at e
  obtain ⟨rfl, rfl, rfl, rfl, rfl⟩ := e
  exact ⟨_, _, _, _, _, _, _, _, _, _, F1, rfl, h1⟩
theorem shardField (a b c : Int) (v1 v2 v3 v4 v5 : Value) (h : ∃ p1 p2 p3 p4 p5 q1 q2 q3 q4 q5 m1 m2 m3 m4 m5, v1 = .slice p1 m1 q1 ∧ v2 = .slice p2 m2 q2 ∧ v3 = .slice p3 m3 q3 ∧ v4 = .slice p4 m4 q4 ∧ v5 = .slice p5 m5 q5) (w : World) : (Instr.field 54 (.agg #[.int .i64 a, .int .i64 b, .int .i64 c, v1, v2, v3, v4, v5]) 2).run Try.prog w = .ok (.agg #[.int .i64 c, v1, v2, v3, v4, v5]) w := by
  obtain ⟨p1, p2, p3, p4, p5, q1, q2, q3, q4, q5, m1, m2, m3, m4, m5, rfl, rfl, rfl, rfl, rfl⟩ := h
  kernel_rfl
theorem step_appH (w : World) {ops : Array Oper} {o : Oper} {a : Act} {K : Act → World → Prop} {Q : Exit → Act → World → Prop} {E : Prop} (hgd : o.guard = none) (s x : Operand)
    (ho : o.op = .call { callee := .builtin .append, args := #[s, x], argTypes := #[27, 27] })
    (base : Nat) (F Fu : Nat → Prop) (v : Value) (xs : List Shd) (y : Shd) (g : Nat) (p1 p2 p3 p4 p5 : Option Addr) (q1 q2 q3 q4 q5 : Nat) (hs : a.eval s = v) (hx : a.eval x = .slice (some ⟨g, 0, none⟩) 1 1) (hown : shdsR.O w base F v xs) (hu : shdR.O w base Fu (.agg #[.int .i64 y.idx, .slice p1 y.bals.length q1, .slice p2 y.votes.length q2, .slice p3 y.held.length q3, .slice p4 y.done.length q4, .slice p5 y.appl.length q5]) y) (hd : ∀ b, F b → ¬ Fu b)
    (hc : w.cell? ⟨g, 0, none⟩ = some (.int .i64 y.idx) ∧ w.cell? ⟨g, 1, none⟩ = some (.slice p1 y.bals.length q1) ∧ w.cell? ⟨g, 2, none⟩ = some (.slice p2 y.votes.length q2) ∧ w.cell? ⟨g, 3, none⟩ = some (.slice p3 y.held.length q3) ∧ w.cell? ⟨g, 4, none⟩ = some (.slice p4 y.done.length q4) ∧ w.cell? ⟨g, 5, none⟩ = some (.slice p5 y.appl.length q5)) (hn : xs.length ≤ 2000000) (hbase : base ≤ w.heap.size)
    (h : ∀ v' w' F', shdsR.O w' base F' v' (xs ++ [y]) → Below base w w' → (∀ b, F' b → F b ∨ Fu b ∨ w.heap.size ≤ b) → K (a.put o.dst v') w') :
    if Region.wanted o (yielded ops a.tmps) = true then Oper.wp Try.prog o a w K Q else E := by
  obtain ⟨i0, hi, hz0, hz1, hz2⟩ := info_parts infoShds
  exact step_appN w hgd s x 27 ho 52 i0 _ 6 128 Try.underlying27 hi hz0 hz1 hz2 rfl (by decide) (by decide) base F Fu v _ xs y ⟨g, 0, none⟩ 1 hs hx hown hu rfl (fun z hz => by
    simp [lvShd, one] at hz
    rcases hz with rfl | rfl | rfl | rfl | rfl | rfl <;> rfl) hd (fun j y' hj => by
    match j, hj with
    | 0, hj => simp [lvShd, one] at hj; subst hj; simpa [Addr.add] using hc.1
    | 1, hj => simp [lvShd, one] at hj; subst hj; simpa [Addr.add] using hc.2.1
    | 2, hj => simp [lvShd, one] at hj; subst hj; simpa [Addr.add] using hc.2.2.1
    | 3, hj => simp [lvShd, one] at hj; subst hj; simpa [Addr.add] using hc.2.2.2.1
    | 4, hj => simp [lvShd, one] at hj; subst hj; simpa [Addr.add] using hc.2.2.2.2.1
    | 5, hj => simp [lvShd, one] at hj; subst hj; simpa [Addr.add] using hc.2.2.2.2.2
    | j + 6, hj => simp [lvShd, one] at hj) hn hbase h
theorem setX {α : Type} (R : Rep α) {w : World} {base : Nat} {F : Nat → Prop} {v : Value} {x : α} (h : R.O w base F v x) {p : Addr} (u : Value) (hp : ¬ F p.block) : R.O (w.setCell p u) base F v x :=
  R.mod h (Mod.of_set w p u) (fun b hb e => hp (e ▸ hb))
theorem setX5 {α : Type} (R : Rep α) {W : World} {base B : Nat} {F : Nat → Prop} {v : Value} {x : α} (h : R.O W base F v x) (hB : ¬ F B) (u0 u1 u2 u3 u4 : Value) :
    R.O (((((W.setCell ⟨B, 0, none⟩ u0).setCell ⟨B, 1, none⟩ u1).setCell ⟨B, 2, none⟩ u2).setCell ⟨B, 3, none⟩ u3).setCell ⟨B, 4, none⟩ u4) base F v x :=
  setX R (setX R (setX R (setX R (setX R h _ hB) _ hB) _ hB) _ hB) _ hB
theorem setX6 {α : Type} (R : Rep α) {W : World} {base B : Nat} {F : Nat → Prop} {v : Value} {x : α} (h : R.O W base F v x) (hB : ¬ F B) (u0 u1 u2 u3 u4 u5 : Value) :
    R.O ((((((W.setCell ⟨B, 0, none⟩ u0).setCell ⟨B, 1, none⟩ u1).setCell ⟨B, 2, none⟩ u2).setCell ⟨B, 3, none⟩ u3).setCell ⟨B, 4, none⟩ u4).setCell ⟨B, 5, none⟩ u5) base F v x :=
  setX R (setX5 R h hB _ _ _ _ _) _ hB
theorem clu_new {w : World} {base : Nat} {Fs Fa Fl : Nat → Prop} {vs va vl : Value} {ss : List Shd} {az : List Acc} {ls : List Ldr} (c : Int) (h1 : shdsR.O w base Fs vs ss) (h2 : accsR.O w base Fa va az) (h3 : ldrsR.O w base Fl vl ls) (s1 : ∀ b, Fs b → ¬ Fa b) (s2 : ∀ b, Fs b → ¬ Fl b) (s3 : ∀ b, Fa b → ¬ Fl b) :
    ∃ F, cluRR.O w base F (.agg #[.int .i64 c, .slice none 0 0, vs, va, vl, .slice none 0 0]) ⟨c, ⟨[], ss, az, ls, []⟩⟩ :=
  ⟨_, _, _, _, _, _, _, rfl, ⟨_, _, _, _, _, (fun _ => False), Fs, Fa, Fl, _, rfl, no_nil _ _ _ _ w base, h1, h2, h3, msgs_nil w base, fun b h => h.elim, fun b h => h.elim, fun b h => h.elim, fun b h => h.elim, s1, s2, fun b _ h => noBlk h, s3, fun b _ h => noBlk h, fun b _ h => noBlk h, fun b => Iff.rfl⟩, fun b => Iff.rfl⟩
theorem cluE_ret {w W : World} {Z : CluR} (c : Int) (hZ : Z = cluE c) (hb : Below w.heap.size w W) : ∃ v F, Ending.returned (.agg #[.int .i64 c, .slice none 0 0, .slice none 0 0, .slice none 0 0, .slice none 0 0, .slice none 0 0]) = .returned v ∧ cluRR.O W w.heap.size F v Z ∧ Below w.heap.size w W := by
  subst hZ
  obtain ⟨F, h⟩ := clu_new (w := W) (base := w.heap.size) c (no_nil _ _ _ _ W w.heap.size) (no_nil _ _ _ _ W w.heap.size) (no_nil _ _ _ _ W w.heap.size) (fun b h => h.elim) (fun b h => h.elim) (fun b h => h.elim)
  exact ⟨_, F, rfl, h, hb⟩
theorem Mod.onto {F : Nat → Prop} {w1 w w' : World} (h : Mod F w1 w) (hb : Below w1.heap.size w w') : Mod F w1 w' :=
  ⟨hb.os.trans h.os, hb.tape.trans h.tape, hb.output.trans h.output, Nat.le_trans h.size hb.size, fun i hi hn => (hb.block i hi).trans (h.block i hi hn)⟩
theorem Mod.ice {F : Nat → Prop} {w w' : World} (h : Mod F w w') {b o : Nat} (hb : b < w.heap.size) (hn : ¬ F b) : w'.frozen? ⟨b, o, none⟩ = w.frozen? ⟨b, o, none⟩ := World.frozen?_of_block (h.block b hb hn)
def ncG (n sa sl sb : Nat) : Nat → (Nat → Value) → Nat → Nat → World → Prop
  | 1, y, lo, hi, w => (∃ a, y sa = .slice a n n) ∧ ∃ F, accsR.O w lo F (y sa) (List.replicate n accE) ∧ ∀ b, F b → b < hi
  | 2, y, lo, hi, w => (∃ a, y sl = .slice a 2 2) ∧ ∃ F, ldrsR.O w lo F (y sl) (List.replicate 2 ldrE) ∧ ∀ b, F b → b < hi
  | 3, y, _, _, _ => y sb = .agg #[.slice none 0 0, .slice none 0 0, y sa, y sl, .slice none 0 0]
  | 4, y, lo, hi, w => y 6 = .pointer (some ⟨lo, 0, none⟩) ∧ lo < hi ∧ (w.cell? ⟨lo, 0, none⟩ = some (.slice none 0 0) ∧ w.cell? ⟨lo, 1, none⟩ = some (.slice none 0 0) ∧ w.cell? ⟨lo, 2, none⟩ = some (.slice none 0 0) ∧ w.cell? ⟨lo, 3, none⟩ = some (.slice none 0 0) ∧ w.cell? ⟨lo, 4, none⟩ = some (.slice none 0 0)) ∧ ∀ o, w.frozen? ⟨lo, o, none⟩ = false
  | _, _, _, _, _ => True
end Go.Proofs.Ytggigaghfcpbbaa

/-
  NewCluster, the program's.
-/
set_option linter.unusedSimpArgs false
set_option linter.unusedVariables false
namespace Go.Proofs.Ytggigaghfcpbbaa
open Go.RowKit
set_option linter.unusedSectionVars false
variable [DecidableEq Leg] [Inhabited Leg] [DecidableEq Mrk] [Inhabited Mrk] [DecidableEq Bal] [Inhabited Bal] [DecidableEq Cont] [Inhabited Cont] [DecidableEq Shd] [Inhabited Shd] [DecidableEq Ledg] [Inhabited Ledg] [DecidableEq ShdR] [Inhabited ShdR] [DecidableEq Vot] [Inhabited Vot] [DecidableEq Slt] [Inhabited Slt] [DecidableEq Acc] [Inhabited Acc] [DecidableEq Trr] [Inhabited Trr] [DecidableEq Hrd] [Inhabited Hrd] [DecidableEq Ldr] [Inhabited Ldr] [DecidableEq Msg] [Inhabited Msg] [DecidableEq Clu] [Inhabited Clu] [DecidableEq CluR] [Inhabited CluR]
attribute [local go_sem ↓] Go.wp_at_zero Go.wp_at_succ

set_option maxRecDepth 20000 in
set_option maxHeartbeats 8000000 in
theorem implNewC_u (x : Value) (g : Ledg) (a : Int) (w : World) (hx : ledgR.V w x g) :
    Calls Try.prog 7 #[x, .int .i64 a] w fun e w' => ∃ v F, e = .returned v ∧ cluRR.O w' w.heap.size F v (newC g a) ∧ Below w.heap.size w w' := by
  have HLf : Hid (∀ W, Below w.heap.size w W → Calls Try.prog 18 #[x] W fun e w' => e = .returned (.int .i64 (ledFault g)) ∧ Below W.heap.size W w') := fun W hW => implLedFault_any x g W (ledgR.below hx hW)
  obtain ⟨u, rfl, hu⟩ := hx
  obtain ⟨ag, cg, rfl, hcg, hmg, hg⟩ := hu
  unfold maxLen at hmg
  have HG : Hid (∀ k, k < g.shards.length → ∃ b o v, ag = some ⟨b, o, none⟩ ∧ w.cell? ⟨b, o + k, none⟩ = some v ∧ balsR.V w v (g.shards.getD k default)) := fun k hk => by
    obtain ⟨b, o, v, e, _, hc, hv⟩ := hg k hk
    exact ⟨b, o, v, e, cells1 hc, hv⟩
  clear hg
  have HE0 : Hid (¬ ledFault g = 0 → newC g a = cluE (ledFault g)) := fun h => by unfold newC; rw [if_neg h]
  have HE1 : Hid (ledFault g = 0 → inB a 1 5 = false → newC g a = cluE 3) := fun h h1 => by unfold newC; rw [if_pos h, h1]; rfl
  have HE2 : Hid (ledFault g = 0 → inB a 1 5 = true → newC g a = ⟨0, ⟨[], shN g g.shards.length, List.replicate a.toNat accE, List.replicate 2 ldrE, []⟩⟩) := fun h h1 => by unfold newC; rw [if_pos h, if_pos h1]
  have HOk : Hid (ledFault g = 0 → g.shards.length ≤ 3 ∧ ∀ k, k < g.shards.length → (g.shards.getD k default).length ≤ 1048576) := fun h => ⟨(ledOk_of h).2.1, fun k hk => by have := ((ledOk_of h).2.2 k hk).len; omega⟩
  generalize newC g a = Z at *
  generalize ledFault g = lf at *
  obtain ⟨m, hm⟩ : ∃ m, m = g.shards.length := ⟨_, rfl⟩
  rw [← hm] at hcg HG HE2 HOk HLf ⊢
  clear hm
  go_enter Try.func7, Try.ntmps7
  go_wp2_with fail
  refine (HLf.out _ (by (repeat (first | exact Below.refl _ _ | assumption | refine Below.drew ?_ | refine balloc ?_ _ | refine bset ?_ (by simp; omega) _ | refine bset ?_ (by simp) _ | refine bstep ?_ (by assumption))))).mono ?_
  rintro e w1 ⟨rfl, hb1⟩
  have hB1 : Below w.heap.size w w1 := bstep (by (repeat (first | exact Below.refl _ _ | assumption | refine Below.drew ?_ | refine balloc ?_ _ | refine bset ?_ (by simp; omega) _ | refine bset ?_ (by simp) _ | refine bstep ?_ (by assumption)))) hb1
  have hz1 := hb1.size
  simp at hz1
  have y0 : w1.cell? ⟨w.heap.size, 0, none⟩ = some (.slice ag m cg) := cell_keep hb1 (by simp [go_sem])
  have r0 : w1.cell? ⟨w.heap.size + 1, 0, none⟩ = some (.int .i64 0) := cell_keep hb1 (by simp [go_sem])
  have r1 : w1.cell? ⟨w.heap.size + 1, 1, none⟩ = some (.slice none 0 0) := cell_keep hb1 (by simp [go_sem])
  have r2 : w1.cell? ⟨w.heap.size + 1, 2, none⟩ = some (.slice none 0 0) := cell_keep hb1 (by simp [go_sem])
  have r3 : w1.cell? ⟨w.heap.size + 1, 3, none⟩ = some (.slice none 0 0) := cell_keep hb1 (by simp [go_sem])
  have r4 : w1.cell? ⟨w.heap.size + 1, 4, none⟩ = some (.slice none 0 0) := cell_keep hb1 (by simp [go_sem])
  have r5 : w1.cell? ⟨w.heap.size + 1, 5, none⟩ = some (.slice none 0 0) := cell_keep hb1 (by simp [go_sem])
  have rf : ∀ o, w1.frozen? ⟨w.heap.size + 1, o, none⟩ = false := fun o => by rw [(bcell hb1).2 _ _ (by simp)]; simp [go_sem]
  clear hb1 HLf
  by_cases hlf : lf = 0
  rotate_left
  · have HC : Hid (Z = cluE lf) := HE0.out hlf
    have hlf' : (lf != 0) = true := by simp [hlf]
    clear HE0 HE1 HE2 HOk HG
    go_wp2
    exact bodyPost_ret (v := .agg #[.int .i64 lf, .slice none 0 0, .slice none 0 0, .slice none 0 0, .slice none 0 0, .slice none 0 0]) (by simp [results, Try.results7, go_sem, r0, r1, r2, r3, r4, r5, rf]) rfl (cluE_ret lf HC.out (by (repeat (first | refine bset ?_ (by simp; omega) _ | refine bset ?_ (by simp) _ | refine balloc ?_ _ | assumption))))
  have HE1' : Hid (inB a 1 5 = false → Z = cluE 3) := HE1.out hlf
  have HE2' : Hid (inB a 1 5 = true → Z = ⟨0, ⟨[], shN g m, List.replicate a.toNat accE, List.replicate 2 ldrE, []⟩⟩) := HE2.out hlf
  have hm3 : m ≤ 3 := (HOk.out hlf).1
  have HBl : Hid (∀ k, k < m → (g.shards.getD k default).length ≤ 1048576) := (HOk.out hlf).2
  rw [hlf]
  clear HE0 HE1 HE2 HOk hlf
  cases hin : inB a 1 5
  · have HC : Hid (Z = cluE 3) := HE1'.out hin
    clear HE1' HE2' HG HBl
    go_wp2_with (first | (go_at_call 19; refine (within_any _ _ _ _).mono ?_; rintro e w' ⟨rfl, hw⟩; obtain rfl := hw.symm; rw [hin]))
    exact bodyPost_ret (v := .agg #[.int .i64 3, .slice none 0 0, .slice none 0 0, .slice none 0 0, .slice none 0 0, .slice none 0 0]) (by simp [results, Try.results7, go_sem, r0, r1, r2, r3, r4, r5, rf]) rfl (cluE_ret 3 HC.out (by (repeat (first | refine bset ?_ (by simp; omega) _ | refine bset ?_ (by simp) _ | refine balloc ?_ _ | assumption))))
  have HC : Hid (Z = ⟨0, ⟨[], shN g m, List.replicate a.toNat accE, List.replicate 2 ldrE, []⟩⟩) := HE2'.out hin
  obtain ⟨n, hn⟩ : ∃ n : Nat, a = n ∧ 1 ≤ n ∧ n ≤ 5 := by
    unfold inB at hin
    simp only [Bool.and_eq_true, decide_eq_true_eq] at hin
    exact ⟨a.toNat, by omega, by omega, by omega⟩
  obtain ⟨rfl, hn1, hn5⟩ := hn
  have HC' : Hid (Z = ⟨0, ⟨[], shN g m, List.replicate n accE, List.replicate 2 ldrE, []⟩⟩) := by
    have h := HC.out
    rw [Int.toNat_natCast] at h
    exact h
  clear HC HE1' HE2'
  obtain ⟨i0, hi, hzA0, hzA1, hzA2⟩ := info_parts infoAccs
  obtain ⟨i1, hj, hzB0, hzB1, hzB2⟩ := info_parts infoLdrs
  have HM1 : Hid (∀ W : World, ∃ w', (Instr.makeSlice 28 (.int .i64 (n : Int)) (.int .i64 (n : Int))).run Try.prog W = .ok (.slice (some ⟨W.heap.size, 0, none⟩) n n) w' ∧ accsR.O w' W.heap.size (fun b => (Value.slice (some ⟨W.heap.size, 0, none⟩) n n).ownBlock = some b) (.slice (some ⟨W.heap.size, 0, none⟩) n n) (List.replicate n accE) ∧ Below W.heap.size W w') := fun W => by
    obtain ⟨w', h1, h2, h3⟩ := run_make_full (P := Try.prog) W W.heap.size 28 97 i0 _ 1 Try.underlying28 hi hzA0 hzA1 .i64 .i64 n (by rw [hzA2]; omega) (by unfold maxLen; omega) (Nat.le_refl _)
    exact ⟨w', h1, made_rep (R := accR) (lv := lvAcc) (size := 1) (z := .agg #[.slice none 0 0]) (u := .agg #[.slice none 0 0]) rfl rfl (by decide) accE_O h2, (Below.refl _ _).grown h3 (Nat.le_refl _) (fun k h => by cases h)⟩
  have HM2 : Hid (∀ W : World, ∃ w', (Instr.makeSlice 29 (.int .i64 2) (.int .i64 2)).run Try.prog W = .ok (.slice (some ⟨W.heap.size, 0, none⟩) 2 2) w' ∧ ldrsR.O w' W.heap.size (fun b => (Value.slice (some ⟨W.heap.size, 0, none⟩) 2 2).ownBlock = some b) (.slice (some ⟨W.heap.size, 0, none⟩) 2 2) (List.replicate 2 ldrE) ∧ Below W.heap.size W w') := fun W => by
    obtain ⟨w', h1, h2, h3⟩ := run_make_full (P := Try.prog) W W.heap.size 29 102 i1 _ 3 Try.underlying29 hj hzB0 hzB1 .i64 .i64 2 (by rw [hzB2]; omega) (by unfold maxLen; omega) (Nat.le_refl _)
    exact ⟨w', h1, made_rep (R := ldrR) (lv := lvLdr) (size := 3) (z := .agg #[.int .i64 0, .slice none 0 0, .slice none 0 0]) (u := .agg #[.int .i64 0, .slice none 0 0, .slice none 0 0]) rfl rfl (by decide) ldrE_O h2, (Below.refl _ _).grown h3 (Nat.le_refl _) (fun k h => by cases h)⟩
  clear hi hzA0 hzA1 hzA2 hj hzB0 hzB1 hzB2 i0 i1
  go_wp2_with (first | (go_at_call 19; refine (within_any _ _ _ _).mono ?_; rintro e w' ⟨rfl, hw⟩; obtain rfl := hw.symm; rw [hin]))
  refine wp_region_noPanic ?_
  refine region_upto (fun W => Below w1.heap.size w1 W) 5 (by kernel_rfl) (Below.drew (Below.refl _ _)) (fun hS => ?_)
  refine upto_take (i := 0) (v := ?_) rfl (by kernel_rfl) (by kernel_rfl) (by kernel_rfl) (by kernel_rfl) (fun _ _ _ h => h) (by rfl) hS ?_ ?_
  rotate_left
  · intro wS hSw
    try dsimp only at hSw
    first | (go_simp; done) | (go_simp; with_reducible rfl)
  try simp only [Act.put, List.getElem_toArray, List.getElem_cons_zero, List.getElem_cons_succ, List.setIfInBounds_toArray, List.set_cons_zero, List.set_cons_succ]
  refine upto_stable' [(1, 20), (2, 21), (3, 22), (4, 6)] (ncG n 20 21 22) (by kernel_rfl) hS (fun W W' h hb => bstep h hb) ?_ ?_ ?_
  · intro p hp
    simp only [List.mem_cons, List.not_mem_nil, or_false] at hp
    rcases hp with rfl | rfl | rfl | rfl
    all_goals intro y y' lo hi W W' h hi' hb e he
    · simp only [ncG] at h ⊢
      rw [e]
      obtain ⟨h1, F, h2, h3⟩ := h
      exact ⟨h1, F, accsR.keep h2 hb, h3⟩
    · simp only [ncG] at h ⊢
      rw [e]
      obtain ⟨h1, F, h2, h3⟩ := h
      exact ⟨h1, F, ldrsR.keep h2 hb, h3⟩
    · have e1 := he (1, 20) (by simp) (by kernel_rfl)
      have e2 := he (2, 21) (by simp) (by kernel_rfl)
      simp only [ncG] at h ⊢
      rw [e, e1, e2]
      exact h
    · simp only [ncG] at h ⊢
      rw [e]
      exact ⟨h.1, h.2.1, ⟨cell_keep hb h.2.2.1.1, cell_keep hb h.2.2.1.2.1, cell_keep hb h.2.2.1.2.2.1, cell_keep hb h.2.2.1.2.2.2.1, cell_keep hb h.2.2.1.2.2.2.2⟩, fun o => by rw [(bcell hb).2 _ _ (Nat.lt_of_lt_of_le h.2.1 hi'.2.2)]; exact h.2.2.2 o⟩
  · intro p hp
    simp only [List.mem_cons, List.not_mem_nil, or_false] at hp
    rcases hp with rfl | rfl | rfl | rfl
    all_goals
      refine ⟨_, rfl, rfl, ?_⟩
      intro y W lo hi hSW hBW hd hap K hK
      clear hap
    · clear hd
      obtain ⟨w', hmk, ho, hb⟩ := HM1.out W
      refine ⟨?_⟩
      simp only [over, Act.put, List.getElem_toArray, List.getElem_cons_zero, List.getElem_cons_succ, List.map_cons, List.map_nil, List.foldl_cons, List.foldl_nil, List.setIfInBounds_toArray, List.set_cons_zero, List.set_cons_succ] at hK ⊢
      go_simp
      refine hK _ _ hb ?_
      simp only [ncG, updV]
      exact ⟨⟨some ⟨W.heap.size, 0, none⟩, by simp⟩, _, by simpa using ho, fun b hb' => (accsR.rng ho b hb').2⟩
    · clear hd
      obtain ⟨w', hmk, ho, hb⟩ := HM2.out W
      refine ⟨?_⟩
      simp only [over, Act.put, List.getElem_toArray, List.getElem_cons_zero, List.getElem_cons_succ, List.map_cons, List.map_nil, List.foldl_cons, List.foldl_nil, List.setIfInBounds_toArray, List.set_cons_zero, List.set_cons_succ] at hK ⊢
      go_simp
      refine hK _ _ hb ?_
      simp only [ncG, updV]
      exact ⟨⟨some ⟨W.heap.size, 0, none⟩, by simp⟩, _, by simpa using ho, fun b hb' => (ldrsR.rng ho b hb').2⟩
    · have g1 := (hd (1, 20) (by simp) (by kernel_rfl)).2
      have g2 := (hd (2, 21) (by simp) (by kernel_rfl)).2
      clear hd
      simp only [ncG] at g1 g2
      obtain ⟨⟨q1, e1⟩, _⟩ := g1
      obtain ⟨⟨q2, e2⟩, _⟩ := g2
      refine ⟨?_⟩
      simp only [over, Act.put, List.getElem_toArray, List.getElem_cons_zero, List.getElem_cons_succ, List.map_cons, List.map_nil, List.foldl_cons, List.foldl_nil, List.setIfInBounds_toArray, List.set_cons_zero, List.set_cons_succ] at hK ⊢
      simp only [e1, e2] at hK ⊢
      go_simp
      refine hK _ _ (Below.refl _ _) ?_
      simp only [ncG, updV]
      simp [e1, e2]
    · clear hd
      refine ⟨?_⟩
      simp only [over, Act.put, List.getElem_toArray, List.getElem_cons_zero, List.getElem_cons_succ, List.map_cons, List.map_nil, List.foldl_cons, List.foldl_nil, List.setIfInBounds_toArray, List.set_cons_zero, List.set_cons_succ] at hK ⊢
      go_simp
      refine hK _ _ (by (repeat (first | exact Below.refl _ _ | assumption | refine Below.drew ?_ | refine balloc ?_ _ | refine bset ?_ (by simp; omega) _ | refine bset ?_ (by simp) _ | refine bstep ?_ (by assumption)))) ?_
      simp only [ncG, updV]
      exact ⟨by simp, by simp, ⟨by simp [go_sem], by simp [go_sem], by simp [go_sem], by simp [go_sem], by simp [go_sem]⟩, fun o => by simp [go_sem]⟩
  · refine ⟨_, rfl, ?_⟩
    intro y W lo hi hSW hBW hd hap K hK
    have g1 := hd (1, 20) (by simp)
    have g2 := hd (2, 21) (by simp)
    have g3 := (hd (3, 22) (by simp)).2
    have g4 := hd (4, 6) (by simp)
    clear hd
    have p12 := hap (1, 20) (by simp) (2, 21) (by simp) (by simp)
    have p14 := hap (1, 20) (by simp) (4, 6) (by simp) (by simp)
    have p24 := hap (2, 21) (by simp) (4, 6) (by simp) (by simp)
    clear hap
    simp only [ncG, ApartB, InB] at g1 g2 g3 g4 p12 p14 p24
    obtain ⟨b1, ⟨aa, e1⟩, Fa, oa, la⟩ := g1
    obtain ⟨b2, ⟨al, e2⟩, Fl, ol, ll⟩ := g2
    obtain ⟨b4, e4, hlh, ⟨z0, z1, z2, z3, z4⟩, zf⟩ := g4
    rw [e1] at oa g3
    rw [e2] at ol g3
    have ta : ∀ b, Fa b → lo 1 ≤ b ∧ b < hi 1 := fun b h => ⟨(accsR.rng oa b h).1, la b h⟩
    have tl : ∀ b, Fl b → lo 2 ≤ b ∧ b < hi 2 := fun b h => ⟨(ldrsR.rng ol b h).1, ll b h⟩
    have hd0 : w1.heap.size ≤ w1.drew.heap.size := by simp
    have HFF : Hid ((∀ b, Fa b → w1.heap.size ≤ b ∧ b < W.heap.size ∧ ¬ b = lo 4 ∧ ¬ Fl b) ∧ ∀ b, Fl b → w1.heap.size ≤ b ∧ b < W.heap.size ∧ ¬ b = lo 4) := ⟨fun b h => by
      have := ta b h
      exact ⟨by omega, by omega, by omega, fun h2 => by have := tl b h2; omega⟩, fun b h => by have := tl b h; exact ⟨by omega, by omega, by omega⟩⟩
    have HB : Hid (w1.heap.size ≤ lo 4 ∧ lo 4 < W.heap.size) := ⟨by omega, by omega⟩
    replace oa := accsR.base (base' := w.heap.size) oa (by omega)
    replace ol := ldrsR.base (base' := w.heap.size) ol (by omega)
    clear ta tl la ll e1 e2 p12 p14 p24 b1 b2 b4 hlh HM1 HM2
    generalize lo 4 = B at *
    refine ⟨?_⟩
    simp only [over, Act.put, List.getElem_toArray, List.getElem_cons_zero, List.getElem_cons_succ, List.map_cons, List.map_nil, List.foldl_cons, List.foldl_nil, List.setIfInBounds_toArray, List.set_cons_zero, List.set_cons_succ]
    simp only [e4, g3]
    clear e4 g3 hS
    go_simp
    refine hK _ _ ?_
    clear hK K
    refine NoPanic.normal ?_
    have hnA : ¬ Fa B := fun h => (HFF.out.1 B h).2.2.1 rfl
    have hnL : ¬ Fl B := fun h => (HFF.out.2 B h).2.2 rfl
    obtain ⟨W1, hW1⟩ : ∃ W1, W1 = ((((W.setCell ⟨B, 0, none⟩ (.slice none 0 0)).setCell ⟨B, 1, none⟩ (.slice none 0 0)).setCell ⟨B, 2, none⟩ (.slice aa n n)).setCell ⟨B, 3, none⟩ (.slice al 2 2)).setCell ⟨B, 4, none⟩ (.slice none 0 0) := ⟨_, rfl⟩
    have HOa : Hid (accsR.O W1 w.heap.size Fa (.slice aa n n) (List.replicate n accE)) := by rw [hW1]; exact setX5 accsR oa hnA _ _ _ _ _
    have HOl : Hid (ldrsR.O W1 w.heap.size Fl (.slice al 2 2) (List.replicate 2 ldrE)) := by rw [hW1]; exact setX5 ldrsR ol hnL _ _ _ _ _
    have i0 : W1.cell? ⟨B, 0, none⟩ = some (.slice none 0 0) := by rw [hW1]; simp [go_sem, z0, z1, z2, z3, z4, zf]
    have i1 : W1.cell? ⟨B, 1, none⟩ = some (.slice none 0 0) := by rw [hW1]; simp [go_sem, z0, z1, z2, z3, z4, zf]
    have i2 : W1.cell? ⟨B, 2, none⟩ = some (.slice aa n n) := by rw [hW1]; simp [go_sem, z0, z1, z2, z3, z4, zf]
    have i3 : W1.cell? ⟨B, 3, none⟩ = some (.slice al 2 2) := by rw [hW1]; simp [go_sem, z0, z1, z2, z3, z4, zf]
    have i4 : W1.cell? ⟨B, 4, none⟩ = some (.slice none 0 0) := by rw [hW1]; simp [go_sem, z0, z1, z2, z3, z4, zf]
    have if_ : ∀ o, W1.frozen? ⟨B, o, none⟩ = false := fun o => by rw [hW1]; simp [go_sem, zf]
    have hsz : W1.heap.size = W.heap.size := by rw [hW1]; simp
    have hB11 : Below w1.heap.size w1 W1 := by
      rw [hW1]
      exact bset (bset (bset (bset (bset hSW HB.out.1 _) HB.out.1 _) HB.out.1 _) HB.out.1 _) HB.out.1 _
    rw [← hsz] at HB HFF
    have HSz : Hid (W1.heap.size = W.heap.size) := hsz
    rw [← hW1]
    clear hW1 hsz z0 z1 z2 z3 z4 zf hSW hBW oa ol hnA hnL HSz
    replace y0 := cell_keep hB11 y0
    replace r0 := cell_keep hB11 r0
    replace r1 := cell_keep hB11 r1
    replace r2 := cell_keep hB11 r2
    replace r3 := cell_keep hB11 r3
    replace r4 := cell_keep hB11 r4
    replace r5 := cell_keep hB11 r5
    replace rf : ∀ o, W1.frozen? ⟨w.heap.size + 1, o, none⟩ = false := fun o => by rw [(bcell hB11).2 _ _ (by omega)]; exact rf o
    have hBW1 : Below w.heap.size w W1 := bstep hB1 hB11
    have hzW := hB11.size
    clear hB11
    go_wp2
    go_loopw [26] (fun i W => ∃ (k : Nat) (a : Option Addr) (c : Nat) (Fs : Nat → Prop), k ≤ m ∧ i = .int .i64 k ∧ Hid (shdsR.O W W1.heap.size Fs (.slice a k c) (shN g k)) ∧ (W.cell? ⟨B, 0, none⟩ = some (.slice none 0 0) ∧ W.cell? ⟨B, 1, none⟩ = some (.slice a k c) ∧ W.cell? ⟨B, 2, none⟩ = some (.slice aa n n) ∧ W.cell? ⟨B, 3, none⟩ = some (.slice al 2 2) ∧ W.cell? ⟨B, 4, none⟩ = some (.slice none 0 0)) ∧ (∀ o, W.frozen? ⟨B, o, none⟩ = false) ∧ Hid (Mod (fun b => b = B) W1 W)) (fun i _ => m - (intOf i).toNat)
    case atStart => exact ⟨0, none, 0, _, Nat.zero_le _, rfl, no_nil _ _ _ _ _ _, ⟨i0, i1, i2, i3, i4⟩, if_, Mod.refl _ _⟩
    case round =>
      obtain ⟨k, as_, cs_, Fs, hk, rfl, HO, ⟨z0, z1, z2, z3, z4⟩, zf, HM⟩ := hrel
      clear i0 i1 i2 i3 i4 if_
      have hB12 := HB.out
      have hne0 : ¬ w.heap.size = B := by omega
      have hne1 : ¬ w.heap.size + 1 = B := by omega
      have hBr : Below w.heap.size w wr := Mod.below hBW1 HM.out (by omega) (fun b e => by omega)
      replace y0 := HM.out.cell y0 hne0
      by_cases hlt : k < m
      · obtain ⟨bx, ox, u, rfl, c1, hu⟩ := HG.out k hlt
        have hbl := HBl.out k hlt
        have HL : Hid (shN g (k + 1) = shN g k ++ [(newD k (g.shards.getD k default)).shard]) := shN_succ g k
        have zbx : bx < w.heap.size := World.block_lt_of_cell? w _ c1
        obtain ⟨ab, cb, rfl⟩ := bals_form hu
        have hneb : ¬ bx = B := by omega
        generalize g.shards.getD k default = bs at *
        have HNw : Hid (∀ W, Below w.heap.size w W → Calls Try.prog 20 #[.int .i64 k, .slice ab bs.length cb] W fun e w' => ∃ v F, e = .returned v ∧ shdRR.O w' W.heap.size F v (newD k bs) ∧ Below W.heap.size W w') := fun W hW => implNew10_u k _ bs W (balsR.below hu hW) hbl
        replace c1 := cell_keep hBr c1
        have zbr : bx < wr.heap.size := World.block_lt_of_cell? wr _ c1
        clear hu HG HBl r0 r1 r2 r3 r4 r5 rf
        have hi5 : (k : Int) < m := by omega
        have hi4 : (0 : Int) ≤ k := by omega
        go_wp2
        refine wp_region_noPanic ?_
        refine region_upto (fun W => W.cell? ⟨B, 1, none⟩ = some (.slice as_ k cs_)) 9 (by kernel_rfl) (cell_keep (Below.drew (Below.refl _ _)) z1) (fun hS => ?_)
        refine upto_take (i := 0) (v := ?_) rfl (by kernel_rfl) (by kernel_rfl) (by kernel_rfl) (by kernel_rfl) (fun _ _ _ h => h) (by rfl) hS ?_ ?_
        rotate_left
        · intro wS hSw
          try dsimp only at hSw
          first | (go_simp; done) | (go_simp; with_reducible rfl)
        try simp only [Act.put, List.getElem_toArray, List.getElem_cons_zero, List.getElem_cons_succ, List.setIfInBounds_toArray, List.set_cons_zero, List.set_cons_succ]
        refine upto_take (i := 1) (v := ?_) rfl (by kernel_rfl) (by kernel_rfl) (by kernel_rfl) (by kernel_rfl) (fun _ _ _ h => h) (by rfl) hS ?_ ?_
        rotate_left
        · intro wS hSw
          try dsimp only at hSw
          first | (go_simp; done) | (go_simp; with_reducible rfl)
        try simp only [Act.put, List.getElem_toArray, List.getElem_cons_zero, List.getElem_cons_succ, List.setIfInBounds_toArray, List.set_cons_zero, List.set_cons_succ]
        refine upto_take (i := 2) (v := ?_) rfl (by kernel_rfl) (by kernel_rfl) (by kernel_rfl) (by kernel_rfl) (fun _ _ _ h => h) (by rfl) hS ?_ ?_
        rotate_left
        · intro wS hSw
          try dsimp only at hSw
          first | (go_simp; done) | (go_simp; with_reducible rfl)
        try simp only [Act.put, List.getElem_toArray, List.getElem_cons_zero, List.getElem_cons_succ, List.setIfInBounds_toArray, List.set_cons_zero, List.set_cons_succ]
        refine upto_take (i := 3) (v := ?_) rfl (by kernel_rfl) (by kernel_rfl) (by kernel_rfl) (by kernel_rfl) (fun _ _ _ h => h) (by rfl) hS ?_ ?_
        rotate_left
        · intro wS hSw
          try dsimp only at hSw
          first | (go_simp; done) | (go_simp; with_reducible rfl)
        try simp only [Act.put, List.getElem_toArray, List.getElem_cons_zero, List.getElem_cons_succ, List.setIfInBounds_toArray, List.set_cons_zero, List.set_cons_succ]
        have hbd : Below wr.heap.size wr wr.drew := Below.drew (Below.refl _ _)
        refine upto_step (i := 4) (by kernel_rfl) rfl ?_
        intro K hK
        go_simp
        refine (HNw.out _ (bstep hBr hbd)).mono ?_
        rintro e w2 ⟨v2, F2, rfl, o2, hb2⟩
        have hB2 : Below wr.heap.size wr w2 := bstep hbd hb2
        have hS2 : (fun W => W.cell? ⟨B, 1, none⟩ = some (.slice as_ k cs_)) w2 := cell_keep hB2 z1
        refine hK _ _ (fun _ => hS2) ?_
        clear hK K
        have HF2' : ∀ b, F2 b → wr.heap.size ≤ b := fun b hb => (shdRR.rng o2 b hb).1
        obtain ⟨p1, p2, p3, p4, p5, q1, q2, q3, q4, q5, F1, rfl, o1⟩ := shdRR_parts o2
        generalize (newD k bs).code = cd at *
        generalize (newD k bs).vote = vt at *
        obtain ⟨sd, hsd⟩ : ∃ sd, sd = (newD k bs).shard := ⟨_, rfl⟩
        rw [← hsd] at o1 HL
        rw [← hsd]
        clear o2 hsd
        try simp only [Act.put, List.getElem_toArray, List.getElem_cons_zero, List.getElem_cons_succ, List.setIfInBounds_toArray, List.set_cons_zero, List.set_cons_succ]
        have HO2 : Hid (shdsR.O w2 W1.heap.size Fs (.slice as_ k cs_) (shN g k)) := shdsR.keep HO.out hB2
        have HFl : Hid (∀ b, Fs b → W1.heap.size ≤ b ∧ b < wr.heap.size) := fun b hb => shdsR.rng HO.out b hb
        have HF2 : Hid (∀ b, F1 b → wr.heap.size ≤ b) := fun b hb => (shdR.rng o1 b hb).1
        have hzr : W1.heap.size ≤ wr.heap.size := HM.out.size
        have HU : Hid (shdR.O w2 W1.heap.size F1 (.agg #[.int .i64 sd.idx, .slice p1 sd.bals.length q1, .slice p2 sd.votes.length q2, .slice p3 sd.held.length q3, .slice p4 sd.done.length q4, .slice p5 sd.appl.length q5]) sd) := shdR.base o1 (by show _ ≤ wr.heap.size; omega)
        have hz2 := hB2.size
        have hfd : (Instr.field 54 (.agg #[.int .i64 cd, .int .i64 vt, .int .i64 sd.idx, .slice p1 sd.bals.length q1, .slice p2 sd.votes.length q2, .slice p3 sd.held.length q3, .slice p4 sd.done.length q4, .slice p5 sd.appl.length q5]) 2).run Try.prog w2 = .ok (.agg #[.int .i64 sd.idx, .slice p1 sd.bals.length q1, .slice p2 sd.votes.length q2, .slice p3 sd.held.length q3, .slice p4 sd.done.length q4, .slice p5 sd.appl.length q5]) w2 := shardField _ _ _ _ _ _ _ _ ⟨_, _, _, _, _, _, _, _, _, _, _, _, _, _, _, rfl, rfl, rfl, rfl, rfl⟩ w2
        refine upto_step (i := 5) (by kernel_rfl) rfl ?_
        intro K hK
        go_simp
        refine hK _ _ (fun _ => hS2) ?_
        clear hK K hfd
        try simp only [Act.put, List.getElem_toArray, List.getElem_cons_zero, List.getElem_cons_succ, List.setIfInBounds_toArray, List.set_cons_zero, List.set_cons_succ]
        refine upto_step (i := 6) (by kernel_rfl) rfl ?_
        intro K hK
        go_simp
        have hB3 : Below wr.heap.size wr (w2.alloc (.cells #[.int .i64 sd.idx, .slice p1 sd.bals.length q1, .slice p2 sd.votes.length q2, .slice p3 sd.held.length q3, .slice p4 sd.done.length q4, .slice p5 sd.appl.length q5] 52)) := balloc hB2 _
        have hS3 : (fun W => W.cell? ⟨B, 1, none⟩ = some (.slice as_ k cs_)) (w2.alloc (.cells #[.int .i64 sd.idx, .slice p1 sd.bals.length q1, .slice p2 sd.votes.length q2, .slice p3 sd.held.length q3, .slice p4 sd.done.length q4, .slice p5 sd.appl.length q5] 52)) := cell_keep hB3 z1
        refine hK _ _ (fun _ => hS3) ?_
        clear hK K
        try simp only [Act.put, List.getElem_toArray, List.getElem_cons_zero, List.getElem_cons_succ, List.setIfInBounds_toArray, List.set_cons_zero, List.set_cons_succ]
        refine upto_step (i := 7) (by kernel_rfl) rfl ?_
        intro K hK
        refine step_appH _ rfl _ _ rfl W1.heap.size Fs F1 _ (shN g k) sd w2.heap.size p1 p2 p3 p4 p5 q1 q2 q3 q4 q5 rfl rfl ?a1 ?a2 ?a3 ?a4 ?a5 ?a6 ?_
        case a1 => exact shdsR.alloc HO2.out _
        case a2 => exact shdR.alloc HU.out _
        case a3 => exact fun b h1 h2 => by have := HFl.out b h1; have := HF2.out b h2; omega
        case a4 => simp [go_sem]
        case a5 => rw [shN_len]; omega
        case a6 => simp; omega
        intro v3 w3 F3 o3 hb3 hF3
        rw [← HL.out] at o3
        obtain ⟨a3, c3, e3⟩ := shds_form (shdsR.ofO o3)
        rw [shN_len] at e3
        subst e3
        have HO3 : Hid (shdsR.O w3 W1.heap.size F3 (.slice a3 (k + 1) c3) (shN g (k + 1))) := o3
        have hB6 : Below W1.heap.size wr w3 := (hB3.mono hzr).trans hb3
        have hM5 : Mod (fun b => b = B) W1 w3 := HM.out.onto hB6
        have hlt3 : B < W1.heap.size := HB.out.2
        have hS5 : (fun W => W.cell? ⟨B, 1, none⟩ = some (.slice as_ k cs_)) w3 := (hB6.cell (p := ⟨B, 1, none⟩) (by dsimp only; omega)).trans z1
        have k0 := (hB6.cell (p := ⟨B, 0, none⟩) hlt3).trans z0
        have k1 := (hB6.cell (p := ⟨B, 1, none⟩) hlt3).trans z1
        have k2 := (hB6.cell (p := ⟨B, 2, none⟩) hlt3).trans z2
        have k3 := (hB6.cell (p := ⟨B, 3, none⟩) hlt3).trans z3
        have k4 := (hB6.cell (p := ⟨B, 4, none⟩) hlt3).trans z4
        have kf : ∀ o, w3.frozen? ⟨B, o, none⟩ = false := fun o => (hB6.frozen (p := ⟨B, o, none⟩) hlt3).trans (zf o)
        refine hK _ _ (fun _ => hS5) ?_
        clear hK K
        try simp only [Act.put, List.getElem_toArray, List.getElem_cons_zero, List.getElem_cons_succ, List.setIfInBounds_toArray, List.set_cons_zero, List.set_cons_succ]
        refine upto_take (i := 8) (v := ?_) rfl (by kernel_rfl) (by kernel_rfl) (by kernel_rfl) (by kernel_rfl) (fun _ _ _ h => h) (by rfl) hS5 ?_ ?_
        rotate_left
        · intro wS hSw
          try dsimp only at hSw
          first | (go_simp; done) | (go_simp; with_reducible rfl)
        try simp only [Act.put, List.getElem_toArray, List.getElem_cons_zero, List.getElem_cons_succ, List.setIfInBounds_toArray, List.set_cons_zero, List.set_cons_succ]
        refine upto_step (i := 9) (by kernel_rfl) rfl ?_
        intro K hK
        go_simp
        refine hK _ _ (fun h => absurd rfl h) ?_
        clear hK K
        refine upto_done (by kernel_rfl) ?_
        refine NoPanic.normal ?_
        have HO4 : Hid (shdsR.O (w3.setCell ⟨B, 1, none⟩ (.slice a3 (k + 1) c3)) W1.heap.size F3 (.slice a3 (k + 1) c3) (shN g (k + 1))) := shdsR.set HO3.out _ hlt3
        have j0 : (w3.setCell ⟨B, 1, none⟩ (.slice a3 (k + 1) c3)).cell? ⟨B, 0, none⟩ = some (.slice none 0 0) := by simp [go_sem, k0, k1, kf]
        have j1 : (w3.setCell ⟨B, 1, none⟩ (.slice a3 (k + 1) c3)).cell? ⟨B, 1, none⟩ = some (.slice a3 (k + 1) c3) := by simp [go_sem, k0, k1, kf]
        have j2 : (w3.setCell ⟨B, 1, none⟩ (.slice a3 (k + 1) c3)).cell? ⟨B, 2, none⟩ = some (.slice aa n n) := by simp [go_sem, k2, k1, kf]
        have j3 : (w3.setCell ⟨B, 1, none⟩ (.slice a3 (k + 1) c3)).cell? ⟨B, 3, none⟩ = some (.slice al 2 2) := by simp [go_sem, k3, k1, kf]
        have j4 : (w3.setCell ⟨B, 1, none⟩ (.slice a3 (k + 1) c3)).cell? ⟨B, 4, none⟩ = some (.slice none 0 0) := by simp [go_sem, k4, k1, kf]
        have jf : ∀ o, (w3.setCell ⟨B, 1, none⟩ (.slice a3 (k + 1) c3)).frozen? ⟨B, o, none⟩ = false := fun o => by simp [go_sem, kf]
        have HM4 : Hid (Mod (fun b => b = B) W1 (w3.setCell ⟨B, 1, none⟩ (.slice a3 (k + 1) c3))) := hM5.trans (Mod.of_set w3 ⟨B, 1, none⟩ _)
        generalize w3.setCell ⟨B, 1, none⟩ (.slice a3 (k + 1) c3) = w4 at *
        clear hS hS2 hS3 hS5 hB3 hB6 o3 hb3 hF3 hB2 hb2 o1 HO HO2 HO3 HU HNw hM5 hbd k0 k1 k2 k3 k4 kf z0 z1 z2 z3 z4 zf HM hBr
        go_wp2
        exact ⟨⟨k + 1, a3, c3, F3, by omega, by go_num, HO4, ⟨j0, j1, j2, j3, j4⟩, jf, HM4⟩, by simp [intOf]; omega⟩
      · have hkm : k = m := by omega
        subst hkm
        replace r0 := HM.out.cell r0 hne1
        replace r1 := HM.out.cell r1 hne1
        replace r2 := HM.out.cell r2 hne1
        replace r3 := HM.out.cell r3 hne1
        replace r4 := HM.out.cell r4 hne1
        replace r5 := HM.out.cell r5 hne1
        replace rf : ∀ o, wr.frozen? ⟨w.heap.size + 1, o, none⟩ = false := fun o => by rw [HM.out.ice (by omega) hne1]; exact rf o
        have HOa2 : Hid (accsR.O wr w.heap.size Fa (.slice aa n n) (List.replicate n accE)) := accsR.mod HOa.out HM.out (fun b h e => (HFF.out.1 b h).2.2.1 e)
        have HOl2 : Hid (ldrsR.O wr w.heap.size Fl (.slice al 2 2) (List.replicate 2 ldrE)) := ldrsR.mod HOl.out HM.out (fun b h e => (HFF.out.2 b h).2.2 e)
        have HFs : Hid (∀ b, Fs b → W1.heap.size ≤ b) := fun b h => (shdsR.rng HO.out b h).1
        have HOs : Hid (shdsR.O wr w.heap.size Fs (.slice as_ k cs_) (shN g k)) := shdsR.base HO.out (by omega)
        clear HO HOa HOl HG HBl HM
        go_wp2
        refine bodyPost_ret (v := .agg #[.int .i64 0, .slice none 0 0, .slice as_ k cs_, .slice aa n n, .slice al 2 2, .slice none 0 0]) (by simp [results, Try.results7, go_sem, r0, r1, r2, r3, r4, r5, rf]) rfl ?_
        obtain ⟨F, h⟩ := clu_new 0 (setX6 shdsR HOs.out (B := w.heap.size + 1) (fun h => by have := HFs.out _ h; omega) (.int .i64 0) (.slice none 0 0) (.slice as_ k cs_) (.slice aa n n) (.slice al 2 2) (.slice none 0 0)) (setX6 accsR HOa2.out (B := w.heap.size + 1) (fun h => by have := HFF.out.1 _ h; omega) (.int .i64 0) (.slice none 0 0) (.slice as_ k cs_) (.slice aa n n) (.slice al 2 2) (.slice none 0 0)) (setX6 ldrsR HOl2.out (B := w.heap.size + 1) (fun h => by have := HFF.out.2 _ h; omega) (.int .i64 0) (.slice none 0 0) (.slice as_ k cs_) (.slice aa n n) (.slice al 2 2) (.slice none 0 0)) (fun b h1 h2 => by have := HFs.out b h1; have := HFF.out.1 b h2; omega) (fun b h1 h2 => by have := HFs.out b h1; have := HFF.out.2 b h2; omega) (fun b h1 h2 => (HFF.out.1 b h1).2.2.2 h2)
        refine ⟨_, F, rfl, ?_, by (repeat (first | refine bset ?_ (by simp; omega) _ | refine bset ?_ (by simp) _ | refine balloc ?_ _ | assumption))⟩
        rw [HC'.out]
        exact h
end Go.Proofs.Ytggigaghfcpbbaa


import Derived.Test.YtncmdeijimgchaaPrnNewShardLaw7
import Derived.RegionTactic
import Derived.ChangeAlike
import Derived.BigRegion
import Derived.BigQuiet
import Derived.Deep.QuietTactic
import Derived.Test.YtncmdeijimgchaaPrnNewShardLaw6
import Derived.Test.YtncmdeijimgchaaPrnNewShardLaw2
import Derived.Deep.RegionHeld3
import Derived.Deep.Slices
import Derived.Lib.SmallJoins

/-
  BalancesFault on both sides.
-/
namespace Go.Proofs.Ytncmdeijimgchaa
open Go.RowKit
set_option linter.unusedSectionVars false
variable [DecidableEq Bal] [Inhabited Bal] [DecidableEq Ledg] [Inhabited Ledg] [DecidableEq Leg] [Inhabited Leg]
attribute [local go_sem ↓] Go.wp_at_zero Go.wp_at_succ

theorem l2Key_any (a s : Int) (w : World) : Calls Try.prog 145 #[.int .i64 a, .int .i64 s] w fun e w' => e = .returned (.bool (keyOk a s)) ∧ w' = w := by
  unfold keyOk
  cases h1 : inB a 0 5
  all_goals
    go_enter Try.func145, Try.ntmps145
    go_wp2_with (go_at_call 99; refine (l1In_any _ _ _ _).mono ?_; rintro e w' ⟨rfl, rfl⟩)
    go_ret
    exact ⟨by simp, rfl⟩
theorem isBalance_any (x : Bal) (w : World) : Calls Try.prog 146 #[.agg #[.int .i64 x.ac, .int .i64 x.ast, .int .i64 x.am]] w fun e w' => e = .returned (.bool (balOk x)) ∧ Below w.heap.size w w' := by
  unfold balOk keyOk
  cases h1 : inB x.ac 0 5
  · go_enter Try.func146, Try.ntmps146
    go_wp2_with (go_at_call 152; refine (isAccount_any _ _).mono ?_; rintro e w' ⟨rfl, rfl⟩)
    go_ret
    exact ⟨by simp, balloc (Below.refl _ _) _⟩
  cases h2 : inB x.ast 0 2
  all_goals
    go_enter Try.func146, Try.ntmps146
    go_wp2_with (first | (go_at_call 152; refine (isAccount_any _ _).mono ?_; rintro e w' ⟨rfl, rfl⟩) | (go_at_call 153; refine (isAsset_any _ _).mono ?_; rintro e w' ⟨rfl, rfl⟩) | (go_at_call 90; refine (within_any _ _ _ _).mono ?_; rintro e w' ⟨rfl, rfl⟩))
    go_ret
    exact ⟨by simp, balloc (Below.refl _ _) _⟩
theorem standsBehind_any (x y : Bal) (w : World) : Calls Try.prog 147 #[.agg #[.int .i64 x.ac, .int .i64 x.ast, .int .i64 x.am], .agg #[.int .i64 y.ac, .int .i64 y.ast, .int .i64 y.am]] w fun e w' => e = .returned (.bool (behind x y)) ∧ Below w.heap.size w w' := by
  unfold behind
  go_enter Try.func147, Try.ntmps147
  go_wp2
  all_goals
    go_ret
    exact ⟨by simp_all, balloc (balloc (Below.refl _ _) _) _⟩
theorem balAt_bad {xs : List Bal} {k : Nat} (h : balOk (xs.getD k default) = false) : balAt xs k = 3 := by unfold balAt; rw [h]; rfl
theorem balAt_first {xs : List Bal} (h : balOk (xs.getD 0 default) = true) : balAt xs 0 = 0 := by simp only [balAt, h]; simp
theorem balAt_next {xs : List Bal} {k : Nat} (h : balOk (xs.getD (k + 1) default) = true) : balAt xs (k + 1) = if behind (xs.getD (k + 1) default) (xs.getD k default) = false then 1 else 0 := by
  simp only [balAt, h, if_true, Nat.add_sub_cancel]
  simp
theorem balFault_hit {xs : List Bal} {k : Nat} {c : Int} (h18 : xs.length ≤ 18) (hk : k < xs.length) (h : scanI (balAt xs) k = 0) (hc : balAt xs k = c) (h0 : c ≠ 0) : balFault xs = c := by
  rw [balFault, if_neg (by omega), scanI_hit h (by rw [hc]; exact h0) _ hk, hc]
theorem balAt_ok {xs : List Bal} {k : Nat} (h : balAt xs k = 0) : balOk (xs.getD k default) = true := by
  cases e : balOk (xs.getD k default) with
  | true => rfl
  | false => rw [balAt_bad e] at h; omega
set_option maxHeartbeats 2000000 in
theorem specBalFault_any (x : Value) (xs : List Bal) (w : World) (hx : balsR.V w x xs) :
    Calls Try.prog 113 #[x] w fun e w' => e = .returned (.int .i64 (balFault xs)) ∧ Below w.heap.size w w' := by
  obtain ⟨ax, cx, rfl, hcx, hmx, hx⟩ := hx
  unfold maxLen at hmx
  by_cases h18 : 18 < xs.length
  · have e : balFault xs = 2 := by simp [balFault, h18]
    rw [e]
    go_enter Try.func113, Try.ntmps113
    go_wp2
    go_ret
    exact ⟨rfl, Below.refl _ _⟩
  generalize hn' : xs.length = n at *
  have HN : Hid (xs.length = n) := hn'
  clear hn'
  go_enter Try.func113, Try.ntmps113
  go_wp2
  go_loopw [3] (fun i w' => ∃ k : Nat, k ≤ n ∧ i = .int .i64 k ∧ scanI (balAt xs) k = 0 ∧ Below w.heap.size w w') (fun i _ => n - (intOf i).toNat)
  case atStart => exact ⟨0, Nat.zero_le _, rfl, rfl, Below.refl _ _⟩
  case round =>
    obtain ⟨k, hk, rfl, hs, hbl⟩ := hrel
    have HS : Hid (scanI (balAt xs) k = 0) := hs
    clear hs
    by_cases hlt : k < n
    · obtain ⟨bx, ox, rfl, g1⟩ := hx k hlt
      obtain ⟨l, hl⟩ : ∃ l, l = xs.getD k default := ⟨_, rfl⟩
      rw [← hl] at g1
      have HL : Hid (l = xs.getD k default) := hl
      clear hl
      obtain ⟨a1, a2, a3⟩ := balCells_below hbl g1
      cases h1 : keyOk l.ac l.ast
      · clear hx
        go_wp2_with (first | (go_at_call 145; refine (l2Key_any _ _ _).mono ?_; rintro e w' ⟨rfl, rfl⟩) | (go_at_call 99; refine (l1In_any _ _ _ _).mono ?_; rintro e w' ⟨rfl, rfl⟩))
        go_ret
        refine ⟨?_, balloc hbl _⟩
        rw [balFault_hit (k := k) (c := 3) (by rw [HN.out]; omega) (by rw [HN.out]; exact hlt) HS.out (balAt_bad (by rw [← HL.out]; simp [balOk, h1])) (by omega)]
        rfl
      cases h2 : inB l.am 1 1000000000000
      · clear hx
        go_wp2_with (first | (go_at_call 145; refine (l2Key_any _ _ _).mono ?_; rintro e w' ⟨rfl, rfl⟩) | (go_at_call 99; refine (l1In_any _ _ _ _).mono ?_; rintro e w' ⟨rfl, rfl⟩))
        go_ret
        refine ⟨?_, balloc hbl _⟩
        rw [balFault_hit (k := k) (c := 3) (by rw [HN.out]; omega) (by rw [HN.out]; exact hlt) HS.out (balAt_bad (by rw [← HL.out]; simp [balOk, h2])) (by omega)]
        rfl
      have hok : balOk (xs.getD k default) = true := by rw [← HL.out]; simp [balOk, h1, h2]
      cases k with
      | zero =>
        clear hx
        simp only [Nat.zero_mul, Nat.add_zero] at a1 a2 a3
        go_wp2_with (first | (go_at_call 145; refine (l2Key_any _ _ _).mono ?_; rintro e w' ⟨rfl, rfl⟩) | (go_at_call 99; refine (l1In_any _ _ _ _).mono ?_; rintro e w' ⟨rfl, rfl⟩))
        go_quiet (fail)
        go_wp2
        exact ⟨⟨1, by omega, by go_num, scanI_succ HS.out (balAt_first hok), bdrewN (balloc hbl _) _⟩, by simp [intOf]; omega⟩
      | succ m =>
        obtain ⟨b', o', he, g2⟩ := hx m (by omega)
        simp only [Option.some.injEq, Addr.mk.injEq, and_true] at he
        obtain ⟨rfl, rfl⟩ := he
        have hok' : balOk (xs.getD m default) = true := balAt_ok (scanI_zero HS.out m (by omega))
        obtain ⟨o, ho⟩ : ∃ o, o = xs.getD m default := ⟨_, rfl⟩
        rw [← ho] at g2 hok'
        have HO : Hid (o = xs.getD m default) := ho
        clear ho hx
        obtain ⟨d1, d2, d3⟩ := balCells_below hbl g2
        obtain ⟨⟨⟨p1, p2⟩, p3, p4⟩, p5, p6⟩ := balOk_iff.1 hok'
        obtain ⟨⟨q1, q2⟩, q3, q4⟩ := keyOk_iff.1 h1
        have i1 : (m : Int) < (n : Int) := by omega
        have z5 : bx < wr.heap.size := World.block_lt_of_cell? wr _ d1
        have i2 : m < n := by omega
        have v1 : IntKind.i64.wrap (m : Int) = m := wrapId (by omega) (by omega)
        have v2 : IntKind.i64.wrap (l.ac * 3) = l.ac * 3 := wrapId (by omega) (by omega)
        have v3 : IntKind.i64.wrap (l.ac * 3 + l.ast) = l.ac * 3 + l.ast := wrapId (by omega) (by omega)
        have v4 : IntKind.i64.wrap (o.ac * 3) = o.ac * 3 := wrapId (by omega) (by omega)
        have v5 : IntKind.i64.wrap (o.ac * 3 + o.ast) = o.ac * 3 + o.ast := wrapId (by omega) (by omega)
        have hbi := behind_iff (b := l) (a := o) h1 (balOk_key hok')
        have HBI : Hid (behind l o = false ↔ l.ac * 3 + l.ast ≤ o.ac * 3 + o.ast) := hbi
        clear hbi
        go_wp2_with (first | (go_at_call 145; refine (l2Key_any _ _ _).mono ?_; rintro e w' ⟨rfl, rfl⟩) | (go_at_call 99; refine (l1In_any _ _ _ _).mono ?_; rintro e w' ⟨rfl, rfl⟩))
        go_quiet (fail)
        go_wp2
        · rename_i hle
          go_ret
          refine ⟨?_, bdrewN (balloc hbl _) _⟩
          have hb0 : balAt xs (m + 1) = 1 := by rw [balAt_next hok, ← HL.out, ← HO.out, if_pos (HBI.out.2 hle)]
          rw [balFault_hit (k := m + 1) (c := 1) (by rw [HN.out]; omega) (by rw [HN.out]; exact hlt) HS.out hb0 (by omega)]
          rfl
        · rename_i hle
          refine ⟨⟨m + 1 + 1, by omega, by go_num, scanI_succ HS.out ?_, bdrewN (balloc hbl _) _⟩, by simp [intOf]; omega⟩
          rw [balAt_next hok, ← HL.out, ← HO.out, if_neg (fun e => by have := HBI.out.1 e; omega)]
    · go_wp2
      go_ret
      have hkn : k = n := by omega
      subst hkn
      refine ⟨?_, hbl⟩
      rw [balFault, if_neg (by rw [HN.out]; omega), HN.out, HS.out]
      rfl
set_option maxHeartbeats 2000000 in
theorem implBalFault_any (x : Value) (xs : List Bal) (w : World) (hx : balsR.V w x xs) :
    Calls Try.prog 114 #[x] w fun e w' => e = .returned (.int .i64 (balFault xs)) ∧ Below w.heap.size w w' := by
  obtain ⟨ax, cx, rfl, hcx, hmx, hx⟩ := hx
  unfold maxLen at hmx
  by_cases h18 : 18 < xs.length
  · have e : balFault xs = 2 := by simp [balFault, h18]
    rw [e]
    go_enter Try.func114, Try.ntmps114
    go_wp2
    go_ret
    exact ⟨rfl, Below.refl _ _⟩
  generalize hn' : xs.length = n at *
  have HN : Hid (xs.length = n) := hn'
  clear hn'
  go_enter Try.func114, Try.ntmps114
  go_wp2
  go_loopw [10] (fun i w' => ∃ k : Nat, k ≤ n ∧ i = .int .i64 k ∧ scanI (balAt xs) k = 0 ∧ Below w.heap.size w w') (fun i _ => n - (intOf i).toNat)
  case atStart => exact ⟨0, Nat.zero_le _, rfl, rfl, Below.refl _ _⟩
  case round =>
    obtain ⟨k, hk, rfl, hs, hbl⟩ := hrel
    have HS : Hid (scanI (balAt xs) k = 0) := hs
    clear hs
    by_cases hlt : k < n
    · obtain ⟨bx, ox, rfl, g1⟩ := hx k hlt
      obtain ⟨l, hl⟩ : ∃ l, l = xs.getD k default := ⟨_, rfl⟩
      rw [← hl] at g1
      have HL : Hid (l = xs.getD k default) := hl
      clear hl
      obtain ⟨a1, a2, a3⟩ := balCells_below hbl g1
      cases hok : balOk l
      · clear hx
        go_wp2_with (go_at_call 146; refine (isBalance_any l _).mono ?_; rintro e w' ⟨rfl, hb⟩)
        go_ret
        refine ⟨?_, bstep (balloc hbl _) hb⟩
        rw [balFault_hit (k := k) (c := 3) (by rw [HN.out]; omega) (by rw [HN.out]; exact hlt) HS.out (balAt_bad (by rw [← HL.out]; exact hok)) (by omega)]
        rfl
      have hok2 : balOk (xs.getD k default) = true := by rw [← HL.out]; exact hok
      cases k with
      | zero =>
        clear hx
        simp only [Nat.zero_mul, Nat.add_zero] at a1 a2 a3
        go_wp2_with (go_at_call 146; refine (isBalance_any l _).mono ?_; rintro e w' ⟨rfl, hb⟩)
        go_quiet (fail)
        go_wp2
        exact ⟨⟨1, by omega, by go_num, scanI_succ HS.out (balAt_first hok2), bdrewN (bstep (balloc hbl _) hb) _⟩, by simp [intOf]; omega⟩
      | succ m =>
        obtain ⟨b', o', he, g2⟩ := hx m (by omega)
        simp only [Option.some.injEq, Addr.mk.injEq, and_true] at he
        obtain ⟨rfl, rfl⟩ := he
        obtain ⟨o, ho⟩ : ∃ o, o = xs.getD m default := ⟨_, rfl⟩
        rw [← ho] at g2
        have HO : Hid (o = xs.getD m default) := ho
        clear ho hx
        obtain ⟨d1, d2, d3⟩ := balCells_below hbl g2
        have i1 : (m : Int) < (n : Int) := by omega
        have v1 : IntKind.i64.wrap (m : Int) = m := wrapId (by omega) (by omega)
        go_wp2_with (go_at_call 146; refine (isBalance_any l _).mono ?_; rintro e w' ⟨rfl, hb⟩)
        have hB := bstep (balloc hbl _) hb
        have g3 := balCells_below hB g2
        have g4 : balCells w' wr.heap.size 0 l := ⟨cell_keep hb (by simp [go_sem]), cell_keep hb (by simp [go_sem]), cell_keep hb (by simp [go_sem])⟩
        clear hb d1 d2 d3 a1 a2 a3 g1 g2
        have z5 : bx < w'.heap.size := World.block_lt_of_cell? w' _ g3.1
        have z6 : wr.heap.size < w'.heap.size := World.block_lt_of_cell? w' _ g4.1
        go_region_held3 (fun w'' => Below w'.heap.size w' w'' ∧ (w''.cell? ⟨wr.heap.size, 0, none⟩ = some (.int .i64 l.ac) ∧ w''.cell? ⟨wr.heap.size, 1, none⟩ = some (.int .i64 l.ast) ∧ w''.cell? ⟨wr.heap.size, 2, none⟩ = some (.int .i64 l.am)) ∧ (w''.cell? ⟨bx, ox + m * 3, none⟩ = some (.int .i64 o.ac) ∧ w''.cell? ⟨bx, ox + m * 3 + 1, none⟩ = some (.int .i64 o.ast) ∧ w''.cell? ⟨bx, ox + m * 3 + 2, none⟩ = some (.int .i64 o.am)))
          ((refine balKeep2 ?_ g4 g3; repeat (first | exact Below.refl _ _ | assumption | refine Below.drew ?_ | refine balloc ?_ _ | refine bstep ?_ (by assumption))))
          (first | (go_at_call 147; refine (standsBehind_any l o _).mono ?_; rintro e w3 ⟨rfl, hb3⟩))
        rename_i hH
        have hB3 := bstep hB hH.1
        clear hH
        cases hbe : behind l o
        · go_wp2
          go_ret
          refine ⟨?_, hB3⟩
          have hb0 : balAt xs (m + 1) = 1 := by rw [balAt_next hok2, ← HL.out, ← HO.out, if_pos hbe]
          rw [balFault_hit (k := m + 1) (c := 1) (by rw [HN.out]; omega) (by rw [HN.out]; exact hlt) HS.out hb0 (by omega)]
          rfl
        · go_wp2
          refine ⟨⟨m + 1 + 1, by omega, by go_num, scanI_succ HS.out ?_, hB3⟩, by simp [intOf]; omega⟩
          rw [balAt_next hok2, ← HL.out, ← HO.out, if_neg (by rw [hbe]; simp)]
    · go_wp2
      go_ret
      have hkn : k = n := by omega
      subst hkn
      refine ⟨?_, hbl⟩
      rw [balFault, if_neg (by rw [HN.out]; omega), HN.out, HS.out]
      rfl
end Go.Proofs.Ytncmdeijimgchaa

/-
  ShardResult. (Written by program: nest.py.)
-/
namespace Go.Proofs.Ytncmdeijimgchaa
open Go.RowKit
set_option linter.unusedSectionVars false
variable [DecidableEq Bal] [Inhabited Bal] [DecidableEq Mrk] [Inhabited Mrk] [DecidableEq Leg] [Inhabited Leg] [DecidableEq Cont] [Inhabited Cont] [DecidableEq Shd] [Inhabited Shd]
attribute [local go_sem ↓] Go.wp_at_zero Go.wp_at_succ

set_option linter.unusedSimpArgs false

structure ShdR where
  code : Int
  vote : Int
  shard : Shd
variable [DecidableEq ShdR] [Inhabited ShdR]

def shdRR : Rep ShdR where
  V := fun w v x => ∃ u1_1 u1_2 u1_3 u1_4 u1_5, v = .agg #[.int .i64 x.code, .int .i64 x.vote, .int .i64 x.shard.idx, u1_1, u1_2, u1_3, u1_4, u1_5] ∧ shdR.V w (.agg #[.int .i64 x.shard.idx, u1_1, u1_2, u1_3, u1_4, u1_5]) x.shard
  O := fun w base F v x => ∃ u1_1 u1_2 u1_3 u1_4 u1_5 F1, v = .agg #[.int .i64 x.code, .int .i64 x.vote, .int .i64 x.shard.idx, u1_1, u1_2, u1_3, u1_4, u1_5] ∧ shdR.O w base F1 (.agg #[.int .i64 x.shard.idx, u1_1, u1_2, u1_3, u1_4, u1_5]) x.shard ∧ (∀ b, F b ↔ (F1 b))
  below := fun h hb => by
    obtain ⟨u1_1, u1_2, u1_3, u1_4, u1_5, rfl, h1⟩ := h
    exact ⟨u1_1, u1_2, u1_3, u1_4, u1_5, rfl, shdR.below h1 hb⟩
  ofO := fun h => by
    obtain ⟨u1_1, u1_2, u1_3, u1_4, u1_5, F1, rfl, h1, _⟩ := h
    exact ⟨u1_1, u1_2, u1_3, u1_4, u1_5, rfl, shdR.ofO h1⟩
  mod := fun h hm hd => by
    obtain ⟨u1_1, u1_2, u1_3, u1_4, u1_5, F1, rfl, h1, hF⟩ := h
    exact ⟨u1_1, u1_2, u1_3, u1_4, u1_5, F1, rfl, shdR.mod h1 hm (fun b hb => hd b ((hF b).2 hb)), hF⟩
  rng := fun h b hb => by
    obtain ⟨u1_1, u1_2, u1_3, u1_4, u1_5, F1, rfl, h1, hF⟩ := h
    rcases (hF b).1 hb with hb
    · exact shdR.rng h1 b hb
  base := fun h hb => by
    obtain ⟨u1_1, u1_2, u1_3, u1_4, u1_5, F1, rfl, h1, hF⟩ := h
    exact ⟨u1_1, u1_2, u1_3, u1_4, u1_5, F1, rfl, shdR.base h1 hb, hF⟩
def wtShdR (x : ShdR) : Nat := wtShd x.shard
def cntShdR (x : ShdR) : Nat := cntShd x.shard
def mkShdR (k : Int) (x : ShdR) : ShdR := { x with shard := mkShd k x.shard }
theorem shdR_form {w : World} {v : Value} {x : ShdR} (h : shdRR.V w v x) : ∃ a1_1 a1_2 a1_3 a1_4 a1_5 c1_1 c1_2 c1_3 c1_4 c1_5, v = .agg #[.int .i64 x.code, .int .i64 x.vote, .int .i64 x.shard.idx, .slice a1_1 x.shard.bals.length c1_1, .slice a1_2 x.shard.votes.length c1_2, .slice a1_3 x.shard.held.length c1_3, .slice a1_4 x.shard.done.length c1_4, .slice a1_5 x.shard.appl.length c1_5] := by
  obtain ⟨u1_1, u1_2, u1_3, u1_4, u1_5, rfl, h1⟩ := h
  obtain ⟨a1_1, a1_2, a1_3, a1_4, a1_5, c1_1, c1_2, c1_3, c1_4, c1_5, e1⟩ := shd_form h1
  simp only [Value.agg.injEq, Array.mk.injEq, List.cons.injEq, and_true, true_and] at e1
  obtain ⟨rfl, rfl, rfl, rfl, rfl⟩ := e1
  exact ⟨_, _, _, _, _, _, _, _, _, _, rfl⟩
theorem shdR_cnt (d : ShdR) : cntShdR d ≤ 5 * wtShdR d := by
  unfold cntShdR wtShdR
  have q1 := shd_cnt d.shard
  omega
set_option maxHeartbeats 1000000 in
theorem eqShardResult_u (x y : Value) (d d' : ShdR) (w : World) (hx : shdRR.V w x d) (hy : shdRR.V w y d') :
    Calls Try.prog 36 #[x, y] w fun e w' => e = .returned (.bool (decide (d = d'))) ∧ Below w.heap.size w w' := by
  obtain ⟨u1_1, u1_2, u1_3, u1_4, u1_5, rfl, h1⟩ := hx
  obtain ⟨v1_1, v1_2, v1_3, v1_4, v1_5, rfl, k1⟩ := hy
  obtain ⟨code, vote, shard⟩ := d
  obtain ⟨code', vote', shard'⟩ := d'
  dsimp only at h1 k1
  go_enter Try.func36, Try.ntmps36
  go_wp2_with fail
  all_goals try (go_ret; exact ⟨by simp_all, by (repeat (first | exact Below.refl _ _ | assumption | refine Below.drew ?_ | refine balloc ?_ _ | refine bset ?_ (by simp; omega) _ | refine bset ?_ (by simp) _ | refine bstep ?_ (by assumption)))⟩)
  refine (eqShard_u _ _ shard shard' _ (shdR.below h1 (by (repeat (first | exact Below.refl _ _ | assumption | refine Below.drew ?_ | refine balloc ?_ _ | refine bset ?_ (by simp; omega) _ | refine bset ?_ (by simp) _ | refine bstep ?_ (by assumption))))) (shdR.below k1 (by (repeat (first | exact Below.refl _ _ | assumption | refine Below.drew ?_ | refine balloc ?_ _ | refine bset ?_ (by simp; omega) _ | refine bset ?_ (by simp) _ | refine bstep ?_ (by assumption)))))).mono ?_
  rintro e w1 ⟨rfl, b1⟩
  go_wp2
  all_goals
    go_ret
    exact ⟨by simp_all, by (repeat (first | exact Below.refl _ _ | assumption | refine Below.drew ?_ | refine balloc ?_ _ | refine bset ?_ (by simp; omega) _ | refine bset ?_ (by simp) _ | refine bstep ?_ (by assumption)))⟩
set_option maxHeartbeats 1000000 in
theorem markShardResult_u (v : Value) (d : ShdR) (base : Nat) (F : Nat → Prop) (k : Int) (w : World) (ho : shdRR.O w base F v d) (hw : wtShdR d ≤ 1048576) (hn : k + cntShdR d ≤ 1073741824) (hk0 : 0 ≤ k) :
    Calls Try.prog 39 #[v, .int .i64 k] w fun r w' => r = .returned (.int .i64 (k + cntShdR d)) ∧ shdRR.O w' base F v (mkShdR k d) ∧ Mod F w w' := by
  obtain ⟨u1_1, u1_2, u1_3, u1_4, u1_5, F1, rfl, h1, hF⟩ := ho
  unfold wtShdR at hw
  unfold cntShdR at hn ⊢
  have HF : Hid (∀ b, F b ↔ (F1 b)) := hF
  clear hF
  go_enter Try.func39, Try.ntmps39
  go_wp2_with fail
  refine (markShard_u _ d.shard base F1 k _ (shdR.alloc h1 _) (by omega) (by omega) (by omega)).mono ?_
  rintro e w1 ⟨rfl, r1, m1⟩
  go_wp2
  go_ret
  refine ⟨?_, ⟨_, _, _, _, _, F1, rfl, r1, HF.out⟩, ((Mod.refl F w).alloc _).trans (m1.mono (fun b hb => (HF.out b).2 hb))⟩
  simp
  try omega
set_option maxHeartbeats 1000000 in
theorem heldShardResult_u (v : Value) (d : ShdR) (k : Int) (w : World) (hv : shdRR.V w v (mkShdR k d)) (hw : wtShdR d ≤ 1048576) (hn : k + cntShdR d ≤ 1073741824) (hk0 : 0 ≤ k) :
    Calls Try.prog 40 #[v, .int .i64 k] w fun r w' => r = .returned (.int .i64 (k + cntShdR d)) ∧ Below w.heap.size w w' := by
  obtain ⟨u1_1, u1_2, u1_3, u1_4, u1_5, rfl, h1⟩ := hv
  unfold wtShdR at hw
  unfold cntShdR at hn ⊢
  go_enter Try.func40, Try.ntmps40
  go_wp2_with fail
  refine (heldShard_u _ d.shard k _ (shdR.below h1 (by (repeat (first | exact Below.refl _ _ | assumption | refine Below.drew ?_ | refine balloc ?_ _ | refine bset ?_ (by simp; omega) _ | refine bset ?_ (by simp) _ | refine bstep ?_ (by assumption))))) (by omega) (by omega) (by omega)).mono ?_
  rintro e w1 ⟨rfl, b1⟩
  go_wp2
  go_ret
  refine ⟨?_, by (repeat (first | exact Below.refl _ _ | assumption | refine Below.drew ?_ | refine balloc ?_ _ | refine bset ?_ (by simp; omega) _ | refine bset ?_ (by simp) _ | refine bstep ?_ (by assumption)))⟩
  simp
  try omega
end Go.Proofs.Ytncmdeijimgchaa

/-
  NewShard, on both sides.
-/
set_option linter.unusedSimpArgs false
set_option linter.unusedVariables false
namespace Go.Proofs.Ytncmdeijimgchaa
open Go.RowKit
set_option linter.unusedSectionVars false
variable [DecidableEq Leg] [Inhabited Leg] [DecidableEq Mrk] [Inhabited Mrk] [DecidableEq Bal] [Inhabited Bal] [DecidableEq Cont] [Inhabited Cont] [DecidableEq Shd] [Inhabited Shd] [DecidableEq Ledg] [Inhabited Ledg] [DecidableEq ShdR] [Inhabited ShdR]
attribute [local go_sem ↓] Go.wp_at_zero Go.wp_at_succ

def baseN (idx : Int) (bs : List Bal) : Int := if inB idx 0 2 = true then balFault bs else 3
theorem startF_any (i : Int) (x : Value) (xs : List Bal) (w : World) (hx : balsR.V w x xs) :
    Calls Try.prog 77 #[.int .i64 i, x] w fun e w' => e = .returned (.int .i64 (baseN i xs)) ∧ Below w.heap.size w w' := by
  have HB : Hid (∀ W, Below w.heap.size w W → Calls Try.prog 114 #[x] W fun e w' => e = .returned (.int .i64 (balFault xs)) ∧ Below W.heap.size W w') := fun W hW => implBalFault_any x xs W (balsR.below hx hW)
  obtain ⟨a, c, rfl⟩ := bals_form hx
  clear hx
  generalize xs.length = n at *
  unfold baseN
  cases h : inB i 0 2
  · go_enter Try.func77, Try.ntmps77
    go_wp2_with (first | (go_at_call 97; refine (isShard_any _ _).mono ?_; rintro e w' ⟨rfl, rfl⟩; rw [h]))
    go_ret
    exact ⟨rfl, by (repeat (first | exact Below.refl _ _ | assumption | refine Below.drew ?_ | refine balloc ?_ _ | refine bset ?_ (by simp; omega) _ | refine bset ?_ (by simp) _ | refine bstep ?_ (by assumption)))⟩
  · go_enter Try.func77, Try.ntmps77
    go_wp2_with (first | (go_at_call 97; refine (isShard_any _ _).mono ?_; rintro e w' ⟨rfl, rfl⟩; rw [h]) | (go_at_call 114; refine (HB.out _ (by (repeat (first | exact Below.refl _ _ | assumption | refine Below.drew ?_ | refine balloc ?_ _ | refine bset ?_ (by simp; omega) _ | refine bset ?_ (by simp) _ | refine bstep ?_ (by assumption))))).mono ?_; rintro e w' ⟨rfl, hb1⟩))
    go_ret
    exact ⟨rfl, by (repeat (first | exact Below.refl _ _ | assumption | refine Below.drew ?_ | refine balloc ?_ _ | refine bset ?_ (by simp; omega) _ | refine bset ?_ (by simp) _ | refine bstep ?_ (by assumption)))⟩
theorem baseS_any (i : Int) (x : Value) (xs : List Bal) (w : World) (hx : balsR.V w x xs) :
    Calls Try.prog 75 #[.int .i64 i, x] w fun e w' => e = .returned (.int .i64 (baseN i xs)) ∧ Below w.heap.size w w' := by
  have HB : Hid (∀ W, Below w.heap.size w W → Calls Try.prog 113 #[x] W fun e w' => e = .returned (.int .i64 (balFault xs)) ∧ Below W.heap.size W w') := fun W hW => specBalFault_any x xs W (balsR.below hx hW)
  obtain ⟨a, c, rfl⟩ := bals_form hx
  clear hx
  generalize xs.length = n at *
  unfold baseN
  cases h : inB i 0 2
  · go_enter Try.func75, Try.ntmps75
    go_wp2_with (first | (go_at_call 99; refine (l1In_any _ _ _ _).mono ?_; rintro e w' ⟨rfl, rfl⟩; rw [h]))
    go_ret
    exact ⟨rfl, by (repeat (first | exact Below.refl _ _ | assumption | refine Below.drew ?_ | refine balloc ?_ _ | refine bset ?_ (by simp; omega) _ | refine bset ?_ (by simp) _ | refine bstep ?_ (by assumption)))⟩
  · go_enter Try.func75, Try.ntmps75
    go_wp2_with (first | (go_at_call 99; refine (l1In_any _ _ _ _).mono ?_; rintro e w' ⟨rfl, rfl⟩; rw [h]) | (go_at_call 113; refine (HB.out _ (by (repeat (first | exact Below.refl _ _ | assumption | refine Below.drew ?_ | refine balloc ?_ _ | refine bset ?_ (by simp; omega) _ | refine bset ?_ (by simp) _ | refine bstep ?_ (by assumption))))).mono ?_; rintro e w' ⟨rfl, hb1⟩))
    go_ret
    exact ⟨rfl, by (repeat (first | exact Below.refl _ _ | assumption | refine Below.drew ?_ | refine balloc ?_ _ | refine bset ?_ (by simp; omega) _ | refine bset ?_ (by simp) _ | refine bstep ?_ (by assumption)))⟩
def shd0 (i : Int) (bs : List Bal) : Shd := ⟨i, bs, [], [], [], []⟩
def newD (i : Int) (bs : List Bal) : ShdR := if baseN i bs = 0 then ⟨0, 0, shd0 i bs⟩ else ⟨baseN i bs, 0, shd0 0 []⟩
theorem bals_nil (w : World) (base : Nat) : balsR.O w base (fun b => (Value.slice none 0 0).ownBlock = some b) (.slice none 0 0) [] := ⟨World.ownsRow_nil _ _ _ _, rfl⟩
theorem mrks_nil (w : World) (base : Nat) : mrksR.O w base (fun b => (Value.slice none 0 0).ownBlock = some b) (.slice none 0 0) [] := ⟨World.ownsRow_nil _ _ _ _, rfl⟩
theorem ints_nil (w : World) (base : Nat) : intsR.O w base (fun b => (Value.slice none 0 0).ownBlock = some b) (.slice none 0 0) [] := ⟨World.ownsRow_nil _ _ _ _, rfl⟩
theorem noBlk {b : Nat} (h : (Value.slice none 0 0).ownBlock = some b) : False := by simp [Value.ownBlock] at h
theorem shd0_O {w : World} {base : Nat} {F : Nat → Prop} {v : Value} {i : Int} {bs : List Bal} (h : balsR.O w base F v bs) : ∃ F', shdR.O w base F' (.agg #[.int .i64 i, v, .slice none 0 0, .slice none 0 0, .slice none 0 0, .slice none 0 0]) (shd0 i bs) :=
  ⟨_, _, _, _, _, _, F, _, (fun _ => False), _, _, rfl, h, mrks_nil w base, conts_nil w base, mrks_nil w base, ints_nil w base, fun b _ h => noBlk h, fun b _ h => h, fun b _ h => noBlk h, fun b _ h => noBlk h, fun b h _ => noBlk h, fun b h _ => noBlk h, fun b h _ => noBlk h, fun b h _ => h, fun b h _ => h, fun b h _ => noBlk h, fun b => Iff.rfl⟩
theorem shd0_V {w : World} {v : Value} {i : Int} {bs : List Bal} (h : balsR.V w v bs) : shdR.V w (.agg #[.int .i64 i, v, .slice none 0 0, .slice none 0 0, .slice none 0 0, .slice none 0 0]) (shd0 i bs) :=
  ⟨_, _, _, _, _, rfl, h, mrksR.ofO (mrks_nil w 0), contsR.ofO (conts_nil w 0), mrksR.ofO (mrks_nil w 0), intsR.ofO (ints_nil w 0)⟩
theorem set8 {α : Type} (R : Rep α) {W : World} {base B : Nat} {F : Nat → Prop} {v : Value} {x : α} (h : R.O W base F v x) (hB : B < base) (u0 u1 u2 u3 u4 u5 u6 u7 : Value) :
    R.O ((((((((W.setCell ⟨B, 0, none⟩ u0).setCell ⟨B, 1, none⟩ u1).setCell ⟨B, 2, none⟩ u2).setCell ⟨B, 3, none⟩ u3).setCell ⟨B, 4, none⟩ u4).setCell ⟨B, 5, none⟩ u5).setCell ⟨B, 6, none⟩ u6).setCell ⟨B, 7, none⟩ u7) base F v x :=
  R.set (R.set (R.set (R.set (R.set (R.set (R.set (R.set h _ hB) _ hB) _ hB) _ hB) _ hB) _ hB) _ hB) _ hB
theorem new_err {i : Int} {bs : List Bal} {w W : World} {c : Int} (h : newD i bs = ⟨c, 0, shd0 0 []⟩) (hb : Below w.heap.size w W) : ∃ v F, Ending.returned (.agg #[.int .i64 c, .int .i64 0, .int .i64 0, .slice none 0 0, .slice none 0 0, .slice none 0 0, .slice none 0 0, .slice none 0 0]) = .returned v ∧ shdRR.O W w.heap.size F v (newD i bs) ∧ Below w.heap.size w W := by
  rw [h]
  obtain ⟨F', h'⟩ := shd0_O (i := 0) (bals_nil W w.heap.size)
  exact ⟨_, F', rfl, ⟨_, _, _, _, _, F', rfl, h', fun _ => Iff.rfl⟩, hb⟩
set_option maxRecDepth 20000 in
set_option maxHeartbeats 4000000 in
theorem implNew10_u (i : Int) (x : Value) (bs : List Bal) (w : World) (hx : balsR.V w x bs) (hn : bs.length ≤ 1048576) :
    Calls Try.prog 35 #[.int .i64 i, x] w fun e w' => ∃ v F, e = .returned v ∧ shdRR.O w' w.heap.size F v (newD i bs) ∧ Below w.heap.size w w' := by
  have HBa : Hid (∀ W, Below w.heap.size w W → Calls Try.prog 77 #[.int .i64 i, x] W fun e w' => e = .returned (.int .i64 (baseN i bs)) ∧ Below W.heap.size W w') := fun W hW => startF_any i x bs W (balsR.below hx hW)
  have HX : Hid (∀ W, Below w.heap.size w W → balsR.V W x bs) := fun W hW => balsR.below hx hW
  obtain ⟨ax, cx, rfl⟩ := bals_form hx
  clear hx
  have HE : Hid (¬ baseN i bs = 0 → newD i bs = ⟨baseN i bs, 0, shd0 0 []⟩) := fun h => by unfold newD; rw [if_neg h]
  have HK : Hid (baseN i bs = 0 → newD i bs = ⟨0, 0, shd0 i bs⟩) := fun h => by unfold newD; rw [if_pos h]
  generalize baseN i bs = bf at *
  go_enter Try.func35, Try.ntmps35
  go_wp2_with fail
  refine (HBa.out _ (by (repeat (first | exact Below.refl _ _ | assumption | refine Below.drew ?_ | refine balloc ?_ _ | refine bset ?_ (by simp; omega) _ | refine bset ?_ (by simp) _ | refine bstep ?_ (by assumption))))).mono ?_
  rintro e w1 ⟨rfl, hb1⟩
  have hB1 : Below w.heap.size w w1 := bstep (by (repeat (first | exact Below.refl _ _ | assumption | refine Below.drew ?_ | refine balloc ?_ _ | refine bset ?_ (by simp; omega) _ | refine bset ?_ (by simp) _ | refine bstep ?_ (by assumption)))) hb1
  have hz1 := hb1.size
  simp at hz1
  have f1 := (bcell hb1).2
  have r0 : w1.cell? ⟨w.heap.size, 0, none⟩ = some (.int .i64 0) := cell_keep hb1 (by simp [go_sem])
  have r1 : w1.cell? ⟨w.heap.size, 1, none⟩ = some (.int .i64 0) := cell_keep hb1 (by simp [go_sem])
  have r2 : w1.cell? ⟨w.heap.size, 2, none⟩ = some (.int .i64 0) := cell_keep hb1 (by simp [go_sem])
  have r3 : w1.cell? ⟨w.heap.size, 3, none⟩ = some (.slice none 0 0) := cell_keep hb1 (by simp [go_sem])
  have r4 : w1.cell? ⟨w.heap.size, 4, none⟩ = some (.slice none 0 0) := cell_keep hb1 (by simp [go_sem])
  have r5 : w1.cell? ⟨w.heap.size, 5, none⟩ = some (.slice none 0 0) := cell_keep hb1 (by simp [go_sem])
  have r6 : w1.cell? ⟨w.heap.size, 6, none⟩ = some (.slice none 0 0) := cell_keep hb1 (by simp [go_sem])
  have r7 : w1.cell? ⟨w.heap.size, 7, none⟩ = some (.slice none 0 0) := cell_keep hb1 (by simp [go_sem])
  have rf : ∀ o, w1.frozen? ⟨w.heap.size, o, none⟩ = false := fun o => by rw [f1 _ _ (by simp)]; simp [go_sem]
  clear hb1 f1 HBa
  by_cases hbf : bf = 0
  rotate_left
  · have HC := HE.out hbf
    have hbf' : (bf != 0) = true := by simp [hbf]
    clear HE HK HX
    go_wp2
    exact bodyPost_ret (v := .agg #[.int .i64 bf, .int .i64 0, .int .i64 0, .slice none 0 0, .slice none 0 0, .slice none 0 0, .slice none 0 0, .slice none 0 0]) (by simp [results, Try.results35, go_sem, r0, r1, r2, r3, r4, r5, r6, r7, rf]) rfl (new_err HC (by (repeat (first | refine bset ?_ (by simp; omega) _ | refine bset ?_ (by simp) _ | refine balloc ?_ _ | assumption))))
  have HC : Hid (newD i bs = ⟨0, 0, shd0 i bs⟩) := HK.out hbf
  rw [hbf]
  clear HE HK hbf
  have HCp : Hid (∀ W, Below w.heap.size w W → Calls Try.prog 78 #[.agg #[.int .i64 i, .slice ax bs.length cx, .slice none 0 0, .slice none 0 0, .slice none 0 0, .slice none 0 0]] W fun e w' => ∃ v F, e = .returned v ∧ shdR.O w' W.heap.size F v (shd0 i bs) ∧ Below W.heap.size W w') := fun W hW => copiedShd_u _ (shd0 i bs) W (shd0_V (HX.out W hW)) ⟨hn, by simp [shd0], by simp [shd0], by simp [shd0], by simp [shd0]⟩ (fun k hk => by simp [shd0] at hk)
  go_wp2_with fail
  refine (HCp.out _ hB1).mono ?_
  rintro e w2 ⟨v2, F2, rfl, o2, hb2⟩
  have hB2 : Below w.heap.size w w2 := bstep hB1 hb2
  replace r0 := cell_keep hb2 r0
  replace r1 := cell_keep hb2 r1
  replace r2 := cell_keep hb2 r2
  replace r3 := cell_keep hb2 r3
  replace r4 := cell_keep hb2 r4
  replace r5 := cell_keep hb2 r5
  replace r6 := cell_keep hb2 r6
  replace r7 := cell_keep hb2 r7
  replace rf : ∀ o, w2.frozen? ⟨w.heap.size, o, none⟩ = false := fun o => by rw [(bcell hb2).2 _ _ (by omega)]; exact rf o
  have hform : ∃ q1 s1 q2 s2 q3 s3 q4 s4 q5 s5, v2 = .agg #[.int .i64 i, .slice q1 bs.length s1, .slice q2 0 s2, .slice q3 0 s3, .slice q4 0 s4, .slice q5 0 s5] := by
    obtain ⟨u1, u2, u3, u4, u5, rfl, h1, h2, h3, h4, h5⟩ := shdR.ofO o2
    obtain ⟨q1, s1, rfl⟩ := bals_form h1
    obtain ⟨q2, s2, rfl⟩ := mrks_form h2
    obtain ⟨q3, s3, rfl⟩ := conts_form h3
    obtain ⟨q4, s4, rfl⟩ := mrks_form h4
    obtain ⟨q5, s5, rfl⟩ := ints_form h5
    exact ⟨q1, s1, q2, s2, q3, s3, q4, s4, q5, s5, rfl⟩
  obtain ⟨q1, s1, q2, s2, q3, s3, q4, s4, q5, s5, rfl⟩ := hform
  have HO : Hid (shdR.O w2 w1.heap.size F2 (.agg #[.int .i64 i, .slice q1 bs.length s1, .slice q2 0 s2, .slice q3 0 s3, .slice q4 0 s4, .slice q5 0 s5]) (shd0 i bs)) := o2
  clear o2 hb2 HCp
  go_wp2
  refine bodyPost_ret (v := .agg #[.int .i64 0, .int .i64 0, .int .i64 i, .slice q1 bs.length s1, .slice q2 0 s2, .slice q3 0 s3, .slice q4 0 s4, .slice q5 0 s5]) (by simp [results, Try.results35, go_sem, r0, r1, r2, r3, r4, r5, r6, r7, rf]) rfl ⟨_, F2, rfl, ?_, by (repeat (first | refine bset ?_ (by simp; omega) _ | refine bset ?_ (by simp) _ | refine balloc ?_ _ | assumption))⟩
  rw [HC.out]
  exact ⟨_, _, _, _, _, F2, rfl, shdR.base (set8 shdR HO.out (by omega) _ _ _ _ _ _ _ _) (by omega), fun _ => Iff.rfl⟩
set_option maxRecDepth 20000 in
set_option maxHeartbeats 4000000 in
theorem specNew10_u (i : Int) (x : Value) (bs : List Bal) (w : World) (hx : balsR.V w x bs) (hn : bs.length ≤ 1048576) :
    Calls Try.prog 33 #[.int .i64 i, x] w fun e w' => ∃ v F, e = .returned v ∧ shdRR.O w' w.heap.size F v (newD i bs) ∧ Below w.heap.size w w' := by
  have HBa : Hid (∀ W, Below w.heap.size w W → Calls Try.prog 75 #[.int .i64 i, x] W fun e w' => e = .returned (.int .i64 (baseN i bs)) ∧ Below W.heap.size W w') := fun W hW => baseS_any i x bs W (balsR.below hx hW)
  have HX : Hid (∀ W, Below w.heap.size w W → balsR.V W x bs) := fun W hW => balsR.below hx hW
  obtain ⟨ax, cx, rfl⟩ := bals_form hx
  clear hx
  have HE : Hid (¬ baseN i bs = 0 → newD i bs = ⟨baseN i bs, 0, shd0 0 []⟩) := fun h => by unfold newD; rw [if_neg h]
  have HK : Hid (baseN i bs = 0 → newD i bs = ⟨0, 0, shd0 i bs⟩) := fun h => by unfold newD; rw [if_pos h]
  generalize baseN i bs = bf at *
  go_enter Try.func33, Try.ntmps33
  go_wp2_with fail
  refine (HBa.out _ (by (repeat (first | exact Below.refl _ _ | assumption | refine Below.drew ?_ | refine balloc ?_ _ | refine bset ?_ (by simp; omega) _ | refine bset ?_ (by simp) _ | refine bstep ?_ (by assumption))))).mono ?_
  rintro e w1 ⟨rfl, hb1⟩
  have hB1 : Below w.heap.size w w1 := bstep (by (repeat (first | exact Below.refl _ _ | assumption | refine Below.drew ?_ | refine balloc ?_ _ | refine bset ?_ (by simp; omega) _ | refine bset ?_ (by simp) _ | refine bstep ?_ (by assumption)))) hb1
  have hz1 := hb1.size
  simp at hz1
  have f1 := (bcell hb1).2
  have r0 : w1.cell? ⟨w.heap.size, 0, none⟩ = some (.int .i64 0) := cell_keep hb1 (by simp [go_sem])
  have r1 : w1.cell? ⟨w.heap.size, 1, none⟩ = some (.int .i64 0) := cell_keep hb1 (by simp [go_sem])
  have r2 : w1.cell? ⟨w.heap.size, 2, none⟩ = some (.int .i64 0) := cell_keep hb1 (by simp [go_sem])
  have r3 : w1.cell? ⟨w.heap.size, 3, none⟩ = some (.slice none 0 0) := cell_keep hb1 (by simp [go_sem])
  have r4 : w1.cell? ⟨w.heap.size, 4, none⟩ = some (.slice none 0 0) := cell_keep hb1 (by simp [go_sem])
  have r5 : w1.cell? ⟨w.heap.size, 5, none⟩ = some (.slice none 0 0) := cell_keep hb1 (by simp [go_sem])
  have r6 : w1.cell? ⟨w.heap.size, 6, none⟩ = some (.slice none 0 0) := cell_keep hb1 (by simp [go_sem])
  have r7 : w1.cell? ⟨w.heap.size, 7, none⟩ = some (.slice none 0 0) := cell_keep hb1 (by simp [go_sem])
  have rf : ∀ o, w1.frozen? ⟨w.heap.size, o, none⟩ = false := fun o => by rw [f1 _ _ (by simp)]; simp [go_sem]
  clear hb1 f1 HBa
  by_cases hbf : bf = 0
  rotate_left
  · have HC := HE.out hbf
    have hbf' : (bf != 0) = true := by simp [hbf]
    clear HE HK HX
    go_wp2
    exact bodyPost_ret (v := .agg #[.int .i64 bf, .int .i64 0, .int .i64 0, .slice none 0 0, .slice none 0 0, .slice none 0 0, .slice none 0 0, .slice none 0 0]) (by simp [results, Try.results33, go_sem, r0, r1, r2, r3, r4, r5, r6, r7, rf]) rfl (new_err HC (by (repeat (first | refine bset ?_ (by simp; omega) _ | refine bset ?_ (by simp) _ | refine balloc ?_ _ | assumption))))
  have HC : Hid (newD i bs = ⟨0, 0, shd0 i bs⟩) := HK.out hbf
  rw [hbf]
  clear HE HK hbf
  have hs0 : AppAny (w1.alloc (.cells #[] 129)) (.slice ax bs.length cx) bs.length (balsC bs) := appAny_bals (HX.out _ (by (repeat (first | exact Below.refl _ _ | assumption | refine Below.drew ?_ | refine balloc ?_ _ | refine bset ?_ (by simp; omega) _ | refine bset ?_ (by simp) _ | refine bstep ?_ (by assumption)))))
  have ho0 := World.ownsRow_lit (base := w1.heap.size) (e := 129) (size := 3) w1 #[] 0 (Nat.le_refl _) (by unfold maxLen; omega) rfl
  go_wp2_with (at_builtin; refine wpList_app10B _ rfl _ _ rfl w1.heap.size _ [] rfl _ bs rfl ho0 hs0 ?c1 ?c2 ?_)
  case c1 => simp; omega
  case c2 => simp
  intro v2 w2 ho _ hbel
  have hY := hbel w1 (by (repeat (first | exact Below.refl _ _ | assumption | refine Below.drew ?_ | refine balloc ?_ _ | refine bset ?_ (by simp; omega) _ | refine bset ?_ (by simp) _ | refine bstep ?_ (by assumption))))
  try simp only [List.nil_append] at ho
  obtain ⟨q1, s1, rfl⟩ := owns_form ho
  have hB2 : Below w.heap.size w w2 := bstep hB1 hY
  replace r0 := cell_keep hY r0
  replace r1 := cell_keep hY r1
  replace r2 := cell_keep hY r2
  replace r3 := cell_keep hY r3
  replace r4 := cell_keep hY r4
  replace r5 := cell_keep hY r5
  replace r6 := cell_keep hY r6
  replace r7 := cell_keep hY r7
  replace rf : ∀ o, w2.frozen? ⟨w.heap.size, o, none⟩ = false := fun o => by rw [(bcell hY).2 _ _ (by omega)]; exact rf o
  obtain ⟨F2, h2⟩ := shd0_O (i := i) (show balsR.O w2 w1.heap.size (fun b => (Value.slice q1 bs.length s1).ownBlock = some b) (.slice q1 bs.length s1) bs from ⟨ho, rfl⟩)
  have HO : Hid (shdR.O w2 w1.heap.size F2 (.agg #[.int .i64 i, .slice q1 bs.length s1, .slice none 0 0, .slice none 0 0, .slice none 0 0, .slice none 0 0]) (shd0 i bs)) := h2
  clear h2 ho hs0 ho0 hbel hY
  go_wp2
  refine bodyPost_ret (v := .agg #[.int .i64 0, .int .i64 0, .int .i64 i, .slice q1 bs.length s1, .slice none 0 0, .slice none 0 0, .slice none 0 0, .slice none 0 0]) (by simp [results, Try.results33, go_sem, r0, r1, r2, r3, r4, r5, r6, r7, rf]) rfl ⟨_, F2, rfl, ?_, by (repeat (first | refine bset ?_ (by simp; omega) _ | refine bset ?_ (by simp) _ | refine balloc ?_ _ | assumption))⟩
  rw [HC.out]
  exact ⟨_, _, _, _, _, F2, rfl, shdR.base (set8 shdR HO.out (by omega) _ _ _ _ _ _ _ _) (by omega), fun _ => Iff.rfl⟩
theorem newD_wt (i : Int) (bs : List Bal) : wtShdR (newD i bs) ≤ wtBals bs := by
  unfold newD wtShdR wtShd
  split <;> simp [shd0, wtBals, wtMrks, wtInts, wtConts, wtL, cntTo]
end Go.Proofs.Ytncmdeijimgchaa

/-
  What is handed in, read as data, is data in memory: rows and structs of rows.
-/
namespace Go.Proofs.Ytncmdeijimgchaa
open Go.ChangeShapes Go.WideShapes Go.ChangeAt Go.RowKit Go.Joins

theorem spot_none {W : World} {base k : Nat} {a : Addr} {cs : List Value} (hk : 0 < k) (hc : W.cells? base a k = some cs) : a.spot = none := by
  obtain ⟨hb, hl, hcell⟩ := World.cells?_some hc
  have q0 := hcell 0 hk
  obtain ⟨b, o, s⟩ := a
  cases s with
  | none => rfl
  | some s =>
    have : 0 < cs.length := by omega
    simp [Addr.add, World.cell?, this] at q0
    split at q0 <;> simp at q0
theorem add_plain (b o i : Nat) : (Addr.mk b o none).add i = ⟨b, o + i, none⟩ := by
  by_cases h : i = 0
  · subst h; simp [Addr.add]
  · simp [Addr.add, h]
theorem openRow {H : Type} {enc : TypeId × Value → H} {W : World} {sp : Nat → Bool} {held : Bool} {n : Nat} {v : Value} {y : DataW H × List MemPlace} {t e size : Nat} {α : Type} [Inhabited α] {q : List Value → α → Prop}
    (ht : Try.prog.underlying t = some (.slice e)) (hz : Try.prog.cellsOf e = size) (hs : 0 < size)
    (hq : ∀ n cs y, DataW.trod enc Try.prog W 0 sp held n e cs = some y → cs.length = size → ∃ x, q cs x) (h : DataW.trod enc Try.prog W 0 sp held n t [v] = some y) :
    ∃ (a : Option Addr) (cap : Nat) (xs : List α) (cs : Nat → List Value), v = .slice a xs.length cap ∧ xs.length ≤ cap ∧ cap ≤ maxLen ∧ ∀ i, i < xs.length → q (cs i) (xs.getD i default) ∧ (cs i).length = size ∧ ∃ b o, a = some ⟨b, o, none⟩ ∧ ∀ j, j < size → W.cell? ⟨b, o + i * size + j, none⟩ = (cs i)[j]? := by
  rcases Go.Deep.open_slice ht h with ⟨hcs, _⟩ | ⟨a, len, cap, m, n', D, Pl, hcs, hb, hl, hm, hmm, _, hc⟩
  · simp at hcs
    subst hcs
    exact ⟨none, 0, [], fun _ => [], rfl, by simp, by unfold maxLen; omega, fun i hi => by simp at hi⟩
  · simp at hcs
    subst hcs
    have hlm : len ≤ m := by rw [hmm]; split <;> omega
    rw [hz] at hc
    have h1 : ∀ i, i < len → ∃ z : List Value × α, q z.1 z.2 ∧ z.1.length = size ∧ ∃ b o, a = ⟨b, o, none⟩ ∧ ∀ j, j < size → W.cell? ⟨b, o + i * size + j, none⟩ = z.1[j]? := by
      intro i hi
      obtain ⟨cs', h1, h2⟩ := hc i (by omega)
      obtain ⟨_, hl', hcell⟩ := World.cells?_some h1
      obtain ⟨x, hx⟩ := hq _ _ _ h2 hl'
      obtain ⟨cs0, k1, _⟩ := hc 0 (by omega)
      have hsp := spot_none hs k1
      obtain ⟨b, o, s⟩ := a
      have hs0 : s = none := by simpa [Addr.add] using hsp
      subst hs0
      refine ⟨(cs', x), hx, hl', b, o, rfl, fun j hj => ?_⟩
      have := hcell j hj
      rw [add_plain, add_plain] at this
      exact this
    obtain ⟨f, hf⟩ := Go.Deep.choose_lt h1
    refine ⟨some a, cap, (List.range len).map (fun i => (f i).2), fun i => (f i).1, by simp, by simpa using hl, hm, fun i hi => ?_⟩
    simp at hi
    obtain ⟨g1, g2, b, o, rfl, g3⟩ := hf i hi
    have e : (List.map (fun i => (f i).2) (List.range len)).getD i default = (f i).2 := by simp [List.getD, hi]
    rw [e]
    exact ⟨g1, g2, b, o, rfl, g3⟩
end Go.Proofs.Ytncmdeijimgchaa


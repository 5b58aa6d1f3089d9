/-
  BalancesFault on both sides.
-/
import Derived.Test.YteebglgbeijolaaLed
import Derived.RegionTactic
import Derived.ChangeAlike
import Derived.BigRegion
import Derived.BigQuiet
import Derived.Deep.QuietTactic
namespace Go.Proofs.Yteebglgbeijolaa
open Go.RowKit
set_option linter.unusedSectionVars false
variable [DecidableEq Bal] [Inhabited Bal] [DecidableEq Ledg] [Inhabited Ledg] [DecidableEq Leg] [Inhabited Leg]
attribute [local go_sem ↓] Go.wp_at_zero Go.wp_at_succ

theorem l2Key_any (a s : Int) (w : World) : Calls Try.prog 167 #[.int .i64 a, .int .i64 s] w fun e w' => e = .returned (.bool (keyOk a s)) ∧ w' = w := by
  unfold keyOk
  cases h1 : inB a 0 5
  all_goals
    go_enter Try.func167, Try.ntmps167
    go_wp2_with (go_at_call 103; refine (l1In_any _ _ _ _).mono ?_; rintro e w' ⟨rfl, rfl⟩)
    go_ret
    exact ⟨by simp, rfl⟩

theorem isBalance_any (x : Bal) (w : World) : Calls Try.prog 168 #[.agg #[.int .i64 x.ac, .int .i64 x.ast, .int .i64 x.am]] w fun e w' => e = .returned (.bool (balOk x)) ∧ Below w.heap.size w w' := by
  unfold balOk keyOk
  cases h1 : inB x.ac 0 5
  · go_enter Try.func168, Try.ntmps168
    go_wp2_with (go_at_call 141; refine (isAccount_any _ _).mono ?_; rintro e w' ⟨rfl, rfl⟩)
    go_ret
    exact ⟨by simp, balloc (Below.refl _ _) _⟩
  cases h2 : inB x.ast 0 2
  all_goals
    go_enter Try.func168, Try.ntmps168
    go_wp2_with (first | (go_at_call 141; refine (isAccount_any _ _).mono ?_; rintro e w' ⟨rfl, rfl⟩) | (go_at_call 55; refine (isAsset_any _ _).mono ?_; rintro e w' ⟨rfl, rfl⟩) | (go_at_call 102; refine (within_any _ _ _ _).mono ?_; rintro e w' ⟨rfl, rfl⟩))
    go_ret
    exact ⟨by simp, balloc (Below.refl _ _) _⟩

theorem standsBehind_any (x y : Bal) (w : World) : Calls Try.prog 169 #[.agg #[.int .i64 x.ac, .int .i64 x.ast, .int .i64 x.am], .agg #[.int .i64 y.ac, .int .i64 y.ast, .int .i64 y.am]] w fun e w' => e = .returned (.bool (behind x y)) ∧ Below w.heap.size w w' := by
  unfold behind
  go_enter Try.func169, Try.ntmps169
  go_wp2
  all_goals
    go_ret
    exact ⟨by simp_all, balloc (balloc (Below.refl _ _) _) _⟩

theorem balAt_bad {xs : List Bal} {k : Nat} (h : balOk (xs.getD k default) = false) : balAt xs k = 3 := by unfold balAt; rw [h]; rfl
theorem balAt_first {xs : List Bal} (h : balOk (xs.getD 0 default) = true) : balAt xs 0 = 0 := by simp only [balAt, h]; simp
theorem balAt_next {xs : List Bal} {k : Nat} (h : balOk (xs.getD (k + 1) default) = true) : balAt xs (k + 1) = if behind (xs.getD (k + 1) default) (xs.getD k default) = false then 1 else 0 := by
  simp only [balAt, h, if_true, Nat.add_sub_cancel]
  simp
theorem balFault_hit {xs : List Bal} {k : Nat} {c : Int} (h18 : xs.length ≤ 18) (hk : k < xs.length) (h : scanI (balAt xs) k = 0) (hc : balAt xs k = c) (h0 : c ≠ 0) : balFault xs = c := by
  rw [balFault, if_neg (by omega), scanI_hit h (by rw [hc]; exact h0) _ hk, hc]
theorem balAt_ok {xs : List Bal} {k : Nat} (h : balAt xs k = 0) : balOk (xs.getD k default) = true := by
  cases e : balOk (xs.getD k default) with
  | true => rfl
  | false => rw [balAt_bad e] at h; omega

set_option maxHeartbeats 2000000 in
theorem specBalFault_any (x : Value) (xs : List Bal) (w : World) (hx : balsR.V w x xs) :
    Calls Try.prog 150 #[x] w fun e w' => e = .returned (.int .i64 (balFault xs)) ∧ Below w.heap.size w w' := by
  obtain ⟨ax, cx, rfl, hcx, hmx, hx⟩ := hx
  unfold maxLen at hmx
  by_cases h18 : 18 < xs.length
  · have e : balFault xs = 2 := by simp [balFault, h18]
    rw [e]
    go_enter Try.func150, Try.ntmps150
    go_wp2
    go_ret
    exact ⟨rfl, Below.refl _ _⟩
  generalize hn' : xs.length = n at *
  have HN : Hid (xs.length = n) := hn'
  clear hn'
  go_enter Try.func150, Try.ntmps150
  go_wp2
  go_loopw [3] (fun i w' => ∃ k : Nat, k ≤ n ∧ i = .int .i64 k ∧ scanI (balAt xs) k = 0 ∧ Below w.heap.size w w') (fun i _ => n - (intOf i).toNat)
  case atStart => exact ⟨0, Nat.zero_le _, rfl, rfl, Below.refl _ _⟩
  case round =>
    obtain ⟨k, hk, rfl, hs, hbl⟩ := hrel
    have HS : Hid (scanI (balAt xs) k = 0) := hs
    clear hs
    by_cases hlt : k < n
    · obtain ⟨bx, ox, rfl, g1⟩ := hx k hlt
      obtain ⟨l, hl⟩ : ∃ l, l = xs.getD k default := ⟨_, rfl⟩
      rw [← hl] at g1
      have HL : Hid (l = xs.getD k default) := hl
      clear hl
      obtain ⟨a1, a2, a3⟩ := balCells_below hbl g1
      cases h1 : keyOk l.ac l.ast
      · clear hx
        go_wp2_with (first | (go_at_call 167; refine (l2Key_any _ _ _).mono ?_; rintro e w' ⟨rfl, rfl⟩) | (go_at_call 103; refine (l1In_any _ _ _ _).mono ?_; rintro e w' ⟨rfl, rfl⟩))
        go_ret
        refine ⟨?_, balloc hbl _⟩
        rw [balFault_hit (k := k) (c := 3) (by rw [HN.out]; omega) (by rw [HN.out]; exact hlt) HS.out (balAt_bad (by rw [← HL.out]; simp [balOk, h1])) (by omega)]
        rfl
      cases h2 : inB l.am 1 1000000000000
      · clear hx
        go_wp2_with (first | (go_at_call 167; refine (l2Key_any _ _ _).mono ?_; rintro e w' ⟨rfl, rfl⟩) | (go_at_call 103; refine (l1In_any _ _ _ _).mono ?_; rintro e w' ⟨rfl, rfl⟩))
        go_ret
        refine ⟨?_, balloc hbl _⟩
        rw [balFault_hit (k := k) (c := 3) (by rw [HN.out]; omega) (by rw [HN.out]; exact hlt) HS.out (balAt_bad (by rw [← HL.out]; simp [balOk, h2])) (by omega)]
        rfl
      have hok : balOk (xs.getD k default) = true := by rw [← HL.out]; simp [balOk, h1, h2]
      cases k with
      | zero =>
        clear hx
        simp only [Nat.zero_mul, Nat.add_zero] at a1 a2 a3
        go_wp2_with (first | (go_at_call 167; refine (l2Key_any _ _ _).mono ?_; rintro e w' ⟨rfl, rfl⟩) | (go_at_call 103; refine (l1In_any _ _ _ _).mono ?_; rintro e w' ⟨rfl, rfl⟩))
        go_quiet (fail)
        go_wp2
        exact ⟨⟨1, by omega, by go_num, scanI_succ HS.out (balAt_first hok), bdrewN (balloc hbl _) _⟩, by simp [intOf]; omega⟩
      | succ m =>
        obtain ⟨b', o', he, g2⟩ := hx m (by omega)
        simp only [Option.some.injEq, Addr.mk.injEq, and_true] at he
        obtain ⟨rfl, rfl⟩ := he
        have hok' : balOk (xs.getD m default) = true := balAt_ok (scanI_zero HS.out m (by omega))
        obtain ⟨o, ho⟩ : ∃ o, o = xs.getD m default := ⟨_, rfl⟩
        rw [← ho] at g2 hok'
        have HO : Hid (o = xs.getD m default) := ho
        clear ho hx
        obtain ⟨d1, d2, d3⟩ := balCells_below hbl g2
        obtain ⟨⟨⟨p1, p2⟩, p3, p4⟩, p5, p6⟩ := balOk_iff.1 hok'
        obtain ⟨⟨q1, q2⟩, q3, q4⟩ := keyOk_iff.1 h1
        have i1 : (m : Int) < (n : Int) := by omega
        have z5 : bx < wr.heap.size := World.block_lt_of_cell? wr _ d1
        have i2 : m < n := by omega
        have v1 : IntKind.i64.wrap (m : Int) = m := wrapId (by omega) (by omega)
        have v2 : IntKind.i64.wrap (l.ac * 3) = l.ac * 3 := wrapId (by omega) (by omega)
        have v3 : IntKind.i64.wrap (l.ac * 3 + l.ast) = l.ac * 3 + l.ast := wrapId (by omega) (by omega)
        have v4 : IntKind.i64.wrap (o.ac * 3) = o.ac * 3 := wrapId (by omega) (by omega)
        have v5 : IntKind.i64.wrap (o.ac * 3 + o.ast) = o.ac * 3 + o.ast := wrapId (by omega) (by omega)
        have hbi := behind_iff (b := l) (a := o) h1 (balOk_key hok')
        have HBI : Hid (behind l o = false ↔ l.ac * 3 + l.ast ≤ o.ac * 3 + o.ast) := hbi
        clear hbi
        go_wp2_with (first | (go_at_call 167; refine (l2Key_any _ _ _).mono ?_; rintro e w' ⟨rfl, rfl⟩) | (go_at_call 103; refine (l1In_any _ _ _ _).mono ?_; rintro e w' ⟨rfl, rfl⟩))
        go_quiet (fail)
        go_wp2
        · rename_i hle
          go_ret
          refine ⟨?_, bdrewN (balloc hbl _) _⟩
          have hb0 : balAt xs (m + 1) = 1 := by rw [balAt_next hok, ← HL.out, ← HO.out, if_pos (HBI.out.2 hle)]
          rw [balFault_hit (k := m + 1) (c := 1) (by rw [HN.out]; omega) (by rw [HN.out]; exact hlt) HS.out hb0 (by omega)]
          rfl
        · rename_i hle
          refine ⟨⟨m + 1 + 1, by omega, by go_num, scanI_succ HS.out ?_, bdrewN (balloc hbl _) _⟩, by simp [intOf]; omega⟩
          rw [balAt_next hok, ← HL.out, ← HO.out, if_neg (fun e => by have := HBI.out.1 e; omega)]
    · go_wp2
      go_ret
      have hkn : k = n := by omega
      subst hkn
      refine ⟨?_, hbl⟩
      rw [balFault, if_neg (by rw [HN.out]; omega), HN.out, HS.out]
      rfl

set_option maxHeartbeats 2000000 in
theorem implBalFault_any (x : Value) (xs : List Bal) (w : World) (hx : balsR.V w x xs) :
    Calls Try.prog 155 #[x] w fun e w' => e = .returned (.int .i64 (balFault xs)) ∧ Below w.heap.size w w' := by
  obtain ⟨ax, cx, rfl, hcx, hmx, hx⟩ := hx
  unfold maxLen at hmx
  by_cases h18 : 18 < xs.length
  · have e : balFault xs = 2 := by simp [balFault, h18]
    rw [e]
    go_enter Try.func155, Try.ntmps155
    go_wp2
    go_ret
    exact ⟨rfl, Below.refl _ _⟩
  generalize hn' : xs.length = n at *
  have HN : Hid (xs.length = n) := hn'
  clear hn'
  go_enter Try.func155, Try.ntmps155
  go_wp2
  go_loopw [10] (fun i w' => ∃ k : Nat, k ≤ n ∧ i = .int .i64 k ∧ scanI (balAt xs) k = 0 ∧ Below w.heap.size w w') (fun i _ => n - (intOf i).toNat)
  case atStart => exact ⟨0, Nat.zero_le _, rfl, rfl, Below.refl _ _⟩
  case round =>
    obtain ⟨k, hk, rfl, hs, hbl⟩ := hrel
    have HS : Hid (scanI (balAt xs) k = 0) := hs
    clear hs
    by_cases hlt : k < n
    · obtain ⟨bx, ox, rfl, g1⟩ := hx k hlt
      obtain ⟨l, hl⟩ : ∃ l, l = xs.getD k default := ⟨_, rfl⟩
      rw [← hl] at g1
      have HL : Hid (l = xs.getD k default) := hl
      clear hl
      obtain ⟨a1, a2, a3⟩ := balCells_below hbl g1
      cases hok : balOk l
      · clear hx
        go_wp2_with (go_at_call 168; refine (isBalance_any l _).mono ?_; rintro e w' ⟨rfl, hb⟩)
        go_ret
        refine ⟨?_, bstep (balloc hbl _) hb⟩
        rw [balFault_hit (k := k) (c := 3) (by rw [HN.out]; omega) (by rw [HN.out]; exact hlt) HS.out (balAt_bad (by rw [← HL.out]; exact hok)) (by omega)]
        rfl
      have hok2 : balOk (xs.getD k default) = true := by rw [← HL.out]; exact hok
      cases k with
      | zero =>
        clear hx
        simp only [Nat.zero_mul, Nat.add_zero] at a1 a2 a3
        go_wp2_with (go_at_call 168; refine (isBalance_any l _).mono ?_; rintro e w' ⟨rfl, hb⟩)
        go_quiet (fail)
        go_wp2
        exact ⟨⟨1, by omega, by go_num, scanI_succ HS.out (balAt_first hok2), bdrewN (bstep (balloc hbl _) hb) _⟩, by simp [intOf]; omega⟩
      | succ m =>
        obtain ⟨b', o', he, g2⟩ := hx m (by omega)
        simp only [Option.some.injEq, Addr.mk.injEq, and_true] at he
        obtain ⟨rfl, rfl⟩ := he
        obtain ⟨o, ho⟩ : ∃ o, o = xs.getD m default := ⟨_, rfl⟩
        rw [← ho] at g2
        have HO : Hid (o = xs.getD m default) := ho
        clear ho hx
        obtain ⟨d1, d2, d3⟩ := balCells_below hbl g2
        have i1 : (m : Int) < (n : Int) := by omega
        have v1 : IntKind.i64.wrap (m : Int) = m := wrapId (by omega) (by omega)
        go_wp2_with (go_at_call 168; refine (isBalance_any l _).mono ?_; rintro e w' ⟨rfl, hb⟩)
        have hB := bstep (balloc hbl _) hb
        have g3 := balCells_below hB g2
        have g4 : balCells w' wr.heap.size 0 l := ⟨cell_keep hb (by simp [go_sem]), cell_keep hb (by simp [go_sem]), cell_keep hb (by simp [go_sem])⟩
        clear hb d1 d2 d3 a1 a2 a3 g1 g2
        have z5 : bx < w'.heap.size := World.block_lt_of_cell? w' _ g3.1
        have z6 : wr.heap.size < w'.heap.size := World.block_lt_of_cell? w' _ g4.1
        go_region_held3 (fun w'' => Below w'.heap.size w' w'' ∧ (w''.cell? ⟨wr.heap.size, 0, none⟩ = some (.int .i64 l.ac) ∧ w''.cell? ⟨wr.heap.size, 1, none⟩ = some (.int .i64 l.ast) ∧ w''.cell? ⟨wr.heap.size, 2, none⟩ = some (.int .i64 l.am)) ∧ (w''.cell? ⟨bx, ox + m * 3, none⟩ = some (.int .i64 o.ac) ∧ w''.cell? ⟨bx, ox + m * 3 + 1, none⟩ = some (.int .i64 o.ast) ∧ w''.cell? ⟨bx, ox + m * 3 + 2, none⟩ = some (.int .i64 o.am)))
          ((refine balKeep2 ?_ g4 g3; repeat (first | exact Below.refl _ _ | assumption | refine Below.drew ?_ | refine balloc ?_ _ | refine bstep ?_ (by assumption))))
          (first | (go_at_call 169; refine (standsBehind_any l o _).mono ?_; rintro e w3 ⟨rfl, hb3⟩))
        rename_i hH
        have hB3 := bstep hB hH.1
        clear hH
        cases hbe : behind l o
        · go_wp2
          go_ret
          refine ⟨?_, hB3⟩
          have hb0 : balAt xs (m + 1) = 1 := by rw [balAt_next hok2, ← HL.out, ← HO.out, if_pos hbe]
          rw [balFault_hit (k := m + 1) (c := 1) (by rw [HN.out]; omega) (by rw [HN.out]; exact hlt) HS.out hb0 (by omega)]
          rfl
        · go_wp2
          refine ⟨⟨m + 1 + 1, by omega, by go_num, scanI_succ HS.out ?_, hB3⟩, by simp [intOf]; omega⟩
          rw [balAt_next hok2, ← HL.out, ← HO.out, if_neg (by rw [hbe]; simp)]
    · go_wp2
      go_ret
      have hkn : k = n := by omega
      subst hkn
      refine ⟨?_, hbl⟩
      rw [balFault, if_neg (by rw [HN.out]; omega), HN.out, HS.out]
      rfl

end Go.Proofs.Yteebglgbeijolaa

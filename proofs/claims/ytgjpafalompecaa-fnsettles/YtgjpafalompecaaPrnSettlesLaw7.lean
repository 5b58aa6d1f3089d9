import Derived.Test.YtgjpafalompecaaPrnSettlesLaw4
import Derived.RegionTactic
import Derived.ChangeAlike
import Derived.BigRegion
import Derived.BigQuiet
import Derived.Deep.QuietTactic
import Derived.Test.YtgjpafalompecaaPrnSettlesLaw6
import Derived.Deep.RegionHeld3
import Derived.Deep.DrawnRows

/-
  BalancesFault on both sides.
-/
namespace Go.Proofs.Ytgjpafalompecaa
open Go.RowKit
set_option linter.unusedSectionVars false
variable [DecidableEq Bal] [Inhabited Bal] [DecidableEq Ledg] [Inhabited Ledg] [DecidableEq Leg] [Inhabited Leg]
attribute [local go_sem ↓] Go.wp_at_zero Go.wp_at_succ

theorem l2Key_any (a s : Int) (w : World) : Calls Try.prog 68 #[.int .i64 a, .int .i64 s] w fun e w' => e = .returned (.bool (keyOk a s)) ∧ w' = w := by
  unfold keyOk
  cases h1 : inB a 0 5
  all_goals
    go_enter Try.func68, Try.ntmps68
    go_wp2_with (go_at_call 69; refine (l1In_any _ _ _ _).mono ?_; rintro e w' ⟨rfl, rfl⟩)
    go_ret
    exact ⟨by simp, rfl⟩
theorem isBalance_any (x : Bal) (w : World) : Calls Try.prog 56 #[.agg #[.int .i64 x.ac, .int .i64 x.ast, .int .i64 x.am]] w fun e w' => e = .returned (.bool (balOk x)) ∧ Below w.heap.size w w' := by
  unfold balOk keyOk
  cases h1 : inB x.ac 0 5
  · go_enter Try.func56, Try.ntmps56
    go_wp2_with (go_at_call 28; refine (isAccount_any _ _).mono ?_; rintro e w' ⟨rfl, rfl⟩)
    go_ret
    exact ⟨by simp, balloc (Below.refl _ _) _⟩
  cases h2 : inB x.ast 0 2
  all_goals
    go_enter Try.func56, Try.ntmps56
    go_wp2_with (first | (go_at_call 28; refine (isAccount_any _ _).mono ?_; rintro e w' ⟨rfl, rfl⟩) | (go_at_call 25; refine (isAsset_any _ _).mono ?_; rintro e w' ⟨rfl, rfl⟩) | (go_at_call 52; refine (within_any _ _ _ _).mono ?_; rintro e w' ⟨rfl, rfl⟩))
    go_ret
    exact ⟨by simp, balloc (Below.refl _ _) _⟩
theorem standsBehind_any (x y : Bal) (w : World) : Calls Try.prog 57 #[.agg #[.int .i64 x.ac, .int .i64 x.ast, .int .i64 x.am], .agg #[.int .i64 y.ac, .int .i64 y.ast, .int .i64 y.am]] w fun e w' => e = .returned (.bool (behind x y)) ∧ Below w.heap.size w w' := by
  unfold behind
  go_enter Try.func57, Try.ntmps57
  go_wp2
  all_goals
    go_ret
    exact ⟨by simp_all, balloc (balloc (Below.refl _ _) _) _⟩
theorem balAt_bad {xs : List Bal} {k : Nat} (h : balOk (xs.getD k default) = false) : balAt xs k = 3 := by unfold balAt; rw [h]; rfl
theorem balAt_first {xs : List Bal} (h : balOk (xs.getD 0 default) = true) : balAt xs 0 = 0 := by simp only [balAt, h]; simp
theorem balAt_next {xs : List Bal} {k : Nat} (h : balOk (xs.getD (k + 1) default) = true) : balAt xs (k + 1) = if behind (xs.getD (k + 1) default) (xs.getD k default) = false then 1 else 0 := by
  simp only [balAt, h, if_true, Nat.add_sub_cancel]
  simp
theorem balFault_hit {xs : List Bal} {k : Nat} {c : Int} (h18 : xs.length ≤ 18) (hk : k < xs.length) (h : scanI (balAt xs) k = 0) (hc : balAt xs k = c) (h0 : c ≠ 0) : balFault xs = c := by
  rw [balFault, if_neg (by omega), scanI_hit h (by rw [hc]; exact h0) _ hk, hc]
theorem balAt_ok {xs : List Bal} {k : Nat} (h : balAt xs k = 0) : balOk (xs.getD k default) = true := by
  cases e : balOk (xs.getD k default) with
  | true => rfl
  | false => rw [balAt_bad e] at h; omega
set_option maxHeartbeats 2000000 in
theorem specBalFault_any (x : Value) (xs : List Bal) (w : World) (hx : balsR.V w x xs) :
    Calls Try.prog 48 #[x] w fun e w' => e = .returned (.int .i64 (balFault xs)) ∧ Below w.heap.size w w' := by
  obtain ⟨ax, cx, rfl, hcx, hmx, hx⟩ := hx
  unfold maxLen at hmx
  by_cases h18 : 18 < xs.length
  · have e : balFault xs = 2 := by simp [balFault, h18]
    rw [e]
    go_enter Try.func48, Try.ntmps48
    go_wp2
    go_ret
    exact ⟨rfl, Below.refl _ _⟩
  generalize hn' : xs.length = n at *
  have HN : Hid (xs.length = n) := hn'
  clear hn'
  go_enter Try.func48, Try.ntmps48
  go_wp2
  go_loopw [3] (fun i w' => ∃ k : Nat, k ≤ n ∧ i = .int .i64 k ∧ scanI (balAt xs) k = 0 ∧ Below w.heap.size w w') (fun i _ => n - (intOf i).toNat)
  case atStart => exact ⟨0, Nat.zero_le _, rfl, rfl, Below.refl _ _⟩
  case round =>
    obtain ⟨k, hk, rfl, hs, hbl⟩ := hrel
    have HS : Hid (scanI (balAt xs) k = 0) := hs
    clear hs
    by_cases hlt : k < n
    · obtain ⟨bx, ox, rfl, g1⟩ := hx k hlt
      obtain ⟨l, hl⟩ : ∃ l, l = xs.getD k default := ⟨_, rfl⟩
      rw [← hl] at g1
      have HL : Hid (l = xs.getD k default) := hl
      clear hl
      obtain ⟨a1, a2, a3⟩ := balCells_below hbl g1
      cases h1 : keyOk l.ac l.ast
      · clear hx
        go_wp2_with (first | (go_at_call 68; refine (l2Key_any _ _ _).mono ?_; rintro e w' ⟨rfl, rfl⟩) | (go_at_call 69; refine (l1In_any _ _ _ _).mono ?_; rintro e w' ⟨rfl, rfl⟩))
        go_ret
        refine ⟨?_, balloc hbl _⟩
        rw [balFault_hit (k := k) (c := 3) (by rw [HN.out]; omega) (by rw [HN.out]; exact hlt) HS.out (balAt_bad (by rw [← HL.out]; simp [balOk, h1])) (by omega)]
        rfl
      cases h2 : inB l.am 1 1000000000000
      · clear hx
        go_wp2_with (first | (go_at_call 68; refine (l2Key_any _ _ _).mono ?_; rintro e w' ⟨rfl, rfl⟩) | (go_at_call 69; refine (l1In_any _ _ _ _).mono ?_; rintro e w' ⟨rfl, rfl⟩))
        go_ret
        refine ⟨?_, balloc hbl _⟩
        rw [balFault_hit (k := k) (c := 3) (by rw [HN.out]; omega) (by rw [HN.out]; exact hlt) HS.out (balAt_bad (by rw [← HL.out]; simp [balOk, h2])) (by omega)]
        rfl
      have hok : balOk (xs.getD k default) = true := by rw [← HL.out]; simp [balOk, h1, h2]
      cases k with
      | zero =>
        clear hx
        simp only [Nat.zero_mul, Nat.add_zero] at a1 a2 a3
        go_wp2_with (first | (go_at_call 68; refine (l2Key_any _ _ _).mono ?_; rintro e w' ⟨rfl, rfl⟩) | (go_at_call 69; refine (l1In_any _ _ _ _).mono ?_; rintro e w' ⟨rfl, rfl⟩))
        go_quiet (fail)
        go_wp2
        exact ⟨⟨1, by omega, by go_num, scanI_succ HS.out (balAt_first hok), bdrewN (balloc hbl _) _⟩, by simp [intOf]; omega⟩
      | succ m =>
        obtain ⟨b', o', he, g2⟩ := hx m (by omega)
        simp only [Option.some.injEq, Addr.mk.injEq, and_true] at he
        obtain ⟨rfl, rfl⟩ := he
        have hok' : balOk (xs.getD m default) = true := balAt_ok (scanI_zero HS.out m (by omega))
        obtain ⟨o, ho⟩ : ∃ o, o = xs.getD m default := ⟨_, rfl⟩
        rw [← ho] at g2 hok'
        have HO : Hid (o = xs.getD m default) := ho
        clear ho hx
        obtain ⟨d1, d2, d3⟩ := balCells_below hbl g2
        obtain ⟨⟨⟨p1, p2⟩, p3, p4⟩, p5, p6⟩ := balOk_iff.1 hok'
        obtain ⟨⟨q1, q2⟩, q3, q4⟩ := keyOk_iff.1 h1
        have i1 : (m : Int) < (n : Int) := by omega
        have z5 : bx < wr.heap.size := World.block_lt_of_cell? wr _ d1
        have i2 : m < n := by omega
        have v1 : IntKind.i64.wrap (m : Int) = m := wrapId (by omega) (by omega)
        have v2 : IntKind.i64.wrap (l.ac * 3) = l.ac * 3 := wrapId (by omega) (by omega)
        have v3 : IntKind.i64.wrap (l.ac * 3 + l.ast) = l.ac * 3 + l.ast := wrapId (by omega) (by omega)
        have v4 : IntKind.i64.wrap (o.ac * 3) = o.ac * 3 := wrapId (by omega) (by omega)
        have v5 : IntKind.i64.wrap (o.ac * 3 + o.ast) = o.ac * 3 + o.ast := wrapId (by omega) (by omega)
        have hbi := behind_iff (b := l) (a := o) h1 (balOk_key hok')
        have HBI : Hid (behind l o = false ↔ l.ac * 3 + l.ast ≤ o.ac * 3 + o.ast) := hbi
        clear hbi
        go_wp2_with (first | (go_at_call 68; refine (l2Key_any _ _ _).mono ?_; rintro e w' ⟨rfl, rfl⟩) | (go_at_call 69; refine (l1In_any _ _ _ _).mono ?_; rintro e w' ⟨rfl, rfl⟩))
        go_quiet (fail)
        go_wp2
        · rename_i hle
          go_ret
          refine ⟨?_, bdrewN (balloc hbl _) _⟩
          have hb0 : balAt xs (m + 1) = 1 := by rw [balAt_next hok, ← HL.out, ← HO.out, if_pos (HBI.out.2 hle)]
          rw [balFault_hit (k := m + 1) (c := 1) (by rw [HN.out]; omega) (by rw [HN.out]; exact hlt) HS.out hb0 (by omega)]
          rfl
        · rename_i hle
          refine ⟨⟨m + 1 + 1, by omega, by go_num, scanI_succ HS.out ?_, bdrewN (balloc hbl _) _⟩, by simp [intOf]; omega⟩
          rw [balAt_next hok, ← HL.out, ← HO.out, if_neg (fun e => by have := HBI.out.1 e; omega)]
    · go_wp2
      go_ret
      have hkn : k = n := by omega
      subst hkn
      refine ⟨?_, hbl⟩
      rw [balFault, if_neg (by rw [HN.out]; omega), HN.out, HS.out]
      rfl
set_option maxHeartbeats 2000000 in
theorem implBalFault_any (x : Value) (xs : List Bal) (w : World) (hx : balsR.V w x xs) :
    Calls Try.prog 33 #[x] w fun e w' => e = .returned (.int .i64 (balFault xs)) ∧ Below w.heap.size w w' := by
  obtain ⟨ax, cx, rfl, hcx, hmx, hx⟩ := hx
  unfold maxLen at hmx
  by_cases h18 : 18 < xs.length
  · have e : balFault xs = 2 := by simp [balFault, h18]
    rw [e]
    go_enter Try.func33, Try.ntmps33
    go_wp2
    go_ret
    exact ⟨rfl, Below.refl _ _⟩
  generalize hn' : xs.length = n at *
  have HN : Hid (xs.length = n) := hn'
  clear hn'
  go_enter Try.func33, Try.ntmps33
  go_wp2
  go_loopw [10] (fun i w' => ∃ k : Nat, k ≤ n ∧ i = .int .i64 k ∧ scanI (balAt xs) k = 0 ∧ Below w.heap.size w w') (fun i _ => n - (intOf i).toNat)
  case atStart => exact ⟨0, Nat.zero_le _, rfl, rfl, Below.refl _ _⟩
  case round =>
    obtain ⟨k, hk, rfl, hs, hbl⟩ := hrel
    have HS : Hid (scanI (balAt xs) k = 0) := hs
    clear hs
    by_cases hlt : k < n
    · obtain ⟨bx, ox, rfl, g1⟩ := hx k hlt
      obtain ⟨l, hl⟩ : ∃ l, l = xs.getD k default := ⟨_, rfl⟩
      rw [← hl] at g1
      have HL : Hid (l = xs.getD k default) := hl
      clear hl
      obtain ⟨a1, a2, a3⟩ := balCells_below hbl g1
      cases hok : balOk l
      · clear hx
        go_wp2_with (go_at_call 56; refine (isBalance_any l _).mono ?_; rintro e w' ⟨rfl, hb⟩)
        go_ret
        refine ⟨?_, bstep (balloc hbl _) hb⟩
        rw [balFault_hit (k := k) (c := 3) (by rw [HN.out]; omega) (by rw [HN.out]; exact hlt) HS.out (balAt_bad (by rw [← HL.out]; exact hok)) (by omega)]
        rfl
      have hok2 : balOk (xs.getD k default) = true := by rw [← HL.out]; exact hok
      cases k with
      | zero =>
        clear hx
        simp only [Nat.zero_mul, Nat.add_zero] at a1 a2 a3
        go_wp2_with (go_at_call 56; refine (isBalance_any l _).mono ?_; rintro e w' ⟨rfl, hb⟩)
        go_quiet (fail)
        go_wp2
        exact ⟨⟨1, by omega, by go_num, scanI_succ HS.out (balAt_first hok2), bdrewN (bstep (balloc hbl _) hb) _⟩, by simp [intOf]; omega⟩
      | succ m =>
        obtain ⟨b', o', he, g2⟩ := hx m (by omega)
        simp only [Option.some.injEq, Addr.mk.injEq, and_true] at he
        obtain ⟨rfl, rfl⟩ := he
        obtain ⟨o, ho⟩ : ∃ o, o = xs.getD m default := ⟨_, rfl⟩
        rw [← ho] at g2
        have HO : Hid (o = xs.getD m default) := ho
        clear ho hx
        obtain ⟨d1, d2, d3⟩ := balCells_below hbl g2
        have i1 : (m : Int) < (n : Int) := by omega
        have v1 : IntKind.i64.wrap (m : Int) = m := wrapId (by omega) (by omega)
        go_wp2_with (go_at_call 56; refine (isBalance_any l _).mono ?_; rintro e w' ⟨rfl, hb⟩)
        have hB := bstep (balloc hbl _) hb
        have g3 := balCells_below hB g2
        have g4 : balCells w' wr.heap.size 0 l := ⟨cell_keep hb (by simp [go_sem]), cell_keep hb (by simp [go_sem]), cell_keep hb (by simp [go_sem])⟩
        clear hb d1 d2 d3 a1 a2 a3 g1 g2
        have z5 : bx < w'.heap.size := World.block_lt_of_cell? w' _ g3.1
        have z6 : wr.heap.size < w'.heap.size := World.block_lt_of_cell? w' _ g4.1
        go_region_held3 (fun w'' => Below w'.heap.size w' w'' ∧ (w''.cell? ⟨wr.heap.size, 0, none⟩ = some (.int .i64 l.ac) ∧ w''.cell? ⟨wr.heap.size, 1, none⟩ = some (.int .i64 l.ast) ∧ w''.cell? ⟨wr.heap.size, 2, none⟩ = some (.int .i64 l.am)) ∧ (w''.cell? ⟨bx, ox + m * 3, none⟩ = some (.int .i64 o.ac) ∧ w''.cell? ⟨bx, ox + m * 3 + 1, none⟩ = some (.int .i64 o.ast) ∧ w''.cell? ⟨bx, ox + m * 3 + 2, none⟩ = some (.int .i64 o.am)))
          ((refine balKeep2 ?_ g4 g3; repeat (first | exact Below.refl _ _ | assumption | refine Below.drew ?_ | refine balloc ?_ _ | refine bstep ?_ (by assumption))))
          (first | (go_at_call 57; refine (standsBehind_any l o _).mono ?_; rintro e w3 ⟨rfl, hb3⟩))
        rename_i hH
        have hB3 := bstep hB hH.1
        clear hH
        cases hbe : behind l o
        · go_wp2
          go_ret
          refine ⟨?_, hB3⟩
          have hb0 : balAt xs (m + 1) = 1 := by rw [balAt_next hok2, ← HL.out, ← HO.out, if_pos hbe]
          rw [balFault_hit (k := m + 1) (c := 1) (by rw [HN.out]; omega) (by rw [HN.out]; exact hlt) HS.out hb0 (by omega)]
          rfl
        · go_wp2
          refine ⟨⟨m + 1 + 1, by omega, by go_num, scanI_succ HS.out ?_, hB3⟩, by simp [intOf]; omega⟩
          rw [balAt_next hok2, ← HL.out, ← HO.out, if_neg (by rw [hbe]; simp)]
    · go_wp2
      go_ret
      have hkn : k = n := by omega
      subst hkn
      refine ⟨?_, hbl⟩
      rw [balFault, if_neg (by rw [HN.out]; omega), HN.out, HS.out]
      rfl
end Go.Proofs.Ytgjpafalompecaa

/-
  LedgerFault on both sides.
-/
namespace Go.Proofs.Ytgjpafalompecaa
open Go.RowKit
set_option linter.unusedSectionVars false
variable [DecidableEq Bal] [Inhabited Bal] [DecidableEq Ledg] [Inhabited Ledg] [DecidableEq Leg] [Inhabited Leg]
attribute [local go_sem ↓] Go.wp_at_zero Go.wp_at_succ

set_option maxHeartbeats 2000000 in
theorem specLedFault_any (x : Value) (g : Ledg) (w : World) (hx : ledgR.V w x g) :
    Calls Try.prog 22 #[x] w fun e w' => e = .returned (.int .i64 (ledFault g)) ∧ Below w.heap.size w w' := by
  obtain ⟨u, rfl, ax, cx, rfl, hcx, hmx, hxx⟩ := hx
  unfold maxLen at hmx
  by_cases h1 : g.shards.length < 1
  · have e : ledFault g = 2 := by simp [ledFault, h1]
    rw [e]
    go_enter Try.func22, Try.ntmps22
    go_wp2
    go_ret
    exact ⟨rfl, balloc (Below.refl _ _) _⟩
  by_cases h3 : 3 < g.shards.length
  · have e : ledFault g = 2 := by simp [ledFault, h3]
    rw [e]
    go_enter Try.func22, Try.ntmps22
    go_wp2
    go_ret
    exact ⟨rfl, balloc (Below.refl _ _) _⟩
  generalize hn' : g.shards.length = n at *
  have HN : Hid (g.shards.length = n) := hn'
  clear hn'
  go_enter Try.func22, Try.ntmps22
  go_wp2
  go_loopw [3] (fun i w' => ∃ k : Nat, k ≤ n ∧ i = .int .i64 k ∧ scanI (ledAt g) k = 0 ∧ Below w.heap.size w w' ∧ w'.cell? ⟨w.heap.size, 0, none⟩ = some (.slice ax n cx) ∧ w.heap.size < w'.heap.size) (fun i _ => n - (intOf i).toNat)
  case atStart => exact ⟨0, Nat.zero_le _, rfl, rfl, balloc (Below.refl _ _) _, by simp [go_sem], by simp⟩
  case round =>
    obtain ⟨k, hk, rfl, hs, hbl, hc0, hz0⟩ := hrel
    have HS : Hid (scanI (ledAt g) k = 0) := hs
    clear hs
    by_cases hlt : k < n
    · obtain ⟨bx, ox, u, rfl, _, hc, hu⟩ := hxx k hlt
      have c1 := cell_keep hbl (cells1 hc)
      have hu1 := balsR.below hu hbl
      clear hu hc hxx
      obtain ⟨l, hl⟩ : ∃ l, l = g.shards.getD k default := ⟨_, rfl⟩
      rw [← hl] at hu1
      have HL : Hid (l = g.shards.getD k default) := hl
      clear hl
      obtain ⟨a', c', rfl⟩ := bals_form hu1
      go_wp2_with fail
      refine (specBalFault_any _ l _ hu1).mono ?_
      rintro e w' ⟨rfl, hb⟩
      have hat : Hid (ledAt g k = balFault l) := by show _ = _; rw [ledAt, ← HL.out]
      have hB := bstep hbl hb
      by_cases h0 : balFault l = 0
      · rw [h0] at hat ⊢
        go_wp2
        exact ⟨⟨k + 1, by omega, by go_num, scanI_succ HS.out hat.out, hB, by rw [cell_keep hb hc0], by have := hb.size; omega⟩, by simp [intOf]; omega⟩
      · go_wp2
        go_ret
        refine ⟨?_, hB⟩
        rw [ledFault, if_neg (by rw [HN.out]; omega), scanI_hit HS.out (by rw [hat.out]; exact h0) _ (by rw [HN.out]; exact hlt), hat.out]
        rfl
    · go_wp2
      go_ret
      have hkn : k = n := by omega
      subst hkn
      refine ⟨?_, hbl⟩
      rw [ledFault, if_neg (by rw [HN.out]; omega), HN.out, HS.out]
      rfl
set_option maxHeartbeats 2000000 in
theorem implLedFault_any (x : Value) (g : Ledg) (w : World) (hx : ledgR.V w x g) :
    Calls Try.prog 13 #[x] w fun e w' => e = .returned (.int .i64 (ledFault g)) ∧ Below w.heap.size w w' := by
  obtain ⟨u, rfl, ax, cx, rfl, hcx, hmx, hxx⟩ := hx
  unfold maxLen at hmx
  by_cases h1 : g.shards.length < 1
  · have e : ledFault g = 2 := by simp [ledFault, h1]
    rw [e]
    go_enter Try.func13, Try.ntmps13
    go_wp2
    go_ret
    exact ⟨rfl, balloc (Below.refl _ _) _⟩
  by_cases h3 : 3 < g.shards.length
  · have e : ledFault g = 2 := by simp [ledFault, h3]
    rw [e]
    go_enter Try.func13, Try.ntmps13
    go_wp2
    go_ret
    exact ⟨rfl, balloc (Below.refl _ _) _⟩
  generalize hn' : g.shards.length = n at *
  have HN : Hid (g.shards.length = n) := hn'
  clear hn'
  go_enter Try.func13, Try.ntmps13
  go_wp2
  go_loopw [19] (fun i w' => ∃ k : Nat, k ≤ n ∧ i = .int .i64 k ∧ scanI (ledAt g) k = 0 ∧ Below w.heap.size w w') (fun i _ => n - (intOf i).toNat)
  case atStart => exact ⟨0, Nat.zero_le _, rfl, rfl, balloc (Below.refl _ _) _⟩
  case round =>
    obtain ⟨k, hk, rfl, hs, hbl⟩ := hrel
    have HS : Hid (scanI (ledAt g) k = 0) := hs
    clear hs
    by_cases hlt : k < n
    · obtain ⟨bx, ox, u, rfl, _, hc, hu⟩ := hxx k hlt
      have c1 := cell_keep hbl (cells1 hc)
      have hu1 := balsR.below hu hbl
      clear hu hc hxx
      obtain ⟨l, hl⟩ : ∃ l, l = g.shards.getD k default := ⟨_, rfl⟩
      rw [← hl] at hu1
      have HL : Hid (l = g.shards.getD k default) := hl
      clear hl
      obtain ⟨a', c', rfl⟩ := bals_form hu1
      go_wp2_with fail
      refine (implBalFault_any _ l _ hu1).mono ?_
      rintro e w' ⟨rfl, hb⟩
      have hat : Hid (ledAt g k = balFault l) := by show _ = _; rw [ledAt, ← HL.out]
      have hB := bstep hbl hb
      by_cases h0 : balFault l = 0
      · rw [h0] at hat ⊢
        go_wp2
        exact ⟨⟨k + 1, by omega, by go_num, scanI_succ HS.out hat.out, hB⟩, by simp [intOf]; omega⟩
      · go_wp2
        go_ret
        refine ⟨?_, hB⟩
        rw [ledFault, if_neg (by rw [HN.out]; omega), scanI_hit HS.out (by rw [hat.out]; exact h0) _ (by rw [HN.out]; exact hlt), hat.out]
        rfl
    · go_wp2
      go_ret
      have hkn : k = n := by omega
      subst hkn
      refine ⟨?_, hbl⟩
      rw [ledFault, if_neg (by rw [HN.out]; omega), HN.out, HS.out]
      rfl
end Go.Proofs.Ytgjpafalompecaa

/-
  BalanceOf on both sides.
-/
namespace Go.Proofs.Ytgjpafalompecaa
open Go.RowKit
set_option linter.unusedSectionVars false
variable [DecidableEq Bal] [Inhabited Bal] [DecidableEq Ledg] [Inhabited Ledg] [DecidableEq Leg] [Inhabited Leg]
attribute [local go_sem ↓] Go.wp_at_zero Go.wp_at_succ

set_option maxHeartbeats 1000000 in
theorem l2Has_any (x : Value) (xs : List Bal) (a s : Int) (w : World) (hx : balsR.V w x xs) :
    Calls Try.prog 72 #[x, .int .i64 a, .int .i64 s] w fun e w' => e = .returned (.int .i64 (hasB a s xs)) ∧ w' = w := by
  obtain ⟨ax, cx, rfl, hcx, hmx, hx⟩ := hx
  unfold maxLen at hmx
  generalize hn' : xs.length = n at *
  have HN : Hid (xs.length = n) := hn'
  clear hn'
  go_enter Try.func72, Try.ntmps72
  go_wp2
  go_loopw [7] (fun i w' => ∃ k : Nat, k ≤ n ∧ i = .int .i64 k ∧ hasB a s (xs.drop k) = hasB a s xs ∧ w' = w) (fun i _ => n - (intOf i).toNat)
  case atStart => exact ⟨0, Nat.zero_le _, rfl, rfl, rfl⟩
  case round =>
    obtain ⟨k, hk, rfl, hs, rfl⟩ := hrel
    have HS : Hid (hasB a s (xs.drop k) = hasB a s xs) := hs
    clear hs
    by_cases hlt : k < n
    · obtain ⟨bx, ox, rfl, g1⟩ := hx k hlt
      have HD : Hid (hasB a s (xs.drop k) = if (xs.getD k default).ac = a ∧ (xs.getD k default).ast = s then (xs.getD k default).am else hasB a s (xs.drop (k + 1))) := hasB_drop (by rw [HN.out]; exact hlt)
      obtain ⟨l, hl⟩ : ∃ l, l = xs.getD k default := ⟨_, rfl⟩
      rw [← hl] at g1 HD
      clear hl hx
      obtain ⟨a1, a2, a3⟩ := g1
      go_wp2
      · rename_i e1 e2
        go_ret
        refine ⟨?_, rfl⟩
        rw [← HS.out, HD.out, if_pos ⟨e1, by simpa using e2⟩]
        rfl
      · rename_i e1 e2
        refine ⟨⟨k + 1, by omega, by go_num, ?_, trivial⟩, by simp [intOf]; omega⟩
        rw [← HS.out, HD.out, if_neg (fun h => by simp_all)]
      · rename_i e1
        refine ⟨⟨k + 1, by omega, by go_num, ?_, trivial⟩, by simp [intOf]; omega⟩
        rw [← HS.out, HD.out, if_neg (fun h => by simp_all)]
    · go_wp2
      go_ret
      refine ⟨?_, rfl⟩
      rw [← HS.out, List.drop_eq_nil_of_le (by rw [HN.out]; omega)]
      rfl
set_option maxHeartbeats 2000000 in
theorem implBalOf_any (x : Value) (g : Ledg) (s a t : Int) (w : World) (hx : ledgR.V w x g) :
    Calls Try.prog 11 #[x, .int .i64 s, .int .i64 a, .int .i64 t] w fun e w' => e = .returned (.agg #[.int .i64 (balCode g s a t), .int .i64 (balVal g s a t)]) ∧ Below w.heap.size w w' := by
  have hX := hx
  obtain ⟨u, rfl, hu⟩ := hx
  obtain ⟨ax, cx, rfl⟩ := balss_form hu
  clear hu
  go_enter Try.func11, Try.ntmps11
  go_wp2_with fail
  refine (implLedFault_any _ g _ (ledgR.below hX (by (repeat (first | exact Below.refl _ _ | assumption | refine Below.drew ?_ | refine balloc ?_ _ | refine bset ?_ (by simp; omega) _ | refine bset ?_ (by simp) _ | refine bstep ?_ (by assumption)))))).mono ?_
  rintro e w1 ⟨rfl, hb1⟩
  have hB1 : Below w.heap.size w w1 := by (repeat (first | exact Below.refl _ _ | assumption | refine Below.drew ?_ | refine balloc ?_ _ | refine bset ?_ (by simp; omega) _ | refine bset ?_ (by simp) _ | refine bstep ?_ (by assumption)))
  have b0 : w1.cell? ⟨w.heap.size, 0, none⟩ = some (.slice ax g.shards.length cx) := cell_keep hb1 (by simp [go_sem])
  have r0 : w1.cell? ⟨w.heap.size + 1, 0, none⟩ = some (.int .i64 0) := cell_keep hb1 (by simp [go_sem])
  have r1 : w1.cell? ⟨w.heap.size + 1, 1, none⟩ = some (.int .i64 0) := cell_keep hb1 (by simp [go_sem])
  have hrf : ∀ o, w1.frozen? ⟨w.heap.size + 1, o, none⟩ = false := fun o => by rw [(bcell hb1).2 _ _ (by simp)]; simp [go_sem]
  clear hb1
  by_cases hf : ledFault g = 0
  · obtain ⟨hl1, hl3, _⟩ := ledOk_of hf
    have HF : Hid (ledFault g = 0) := hf
    rw [hf]
    clear hf
    go_wp2_with fail
    refine (bookOf_any _ g _ (ledgR.below hX (by (repeat (first | exact Below.refl _ _ | assumption | refine Below.drew ?_ | refine balloc ?_ _ | refine bset ?_ (by simp; omega) _ | refine bset ?_ (by simp) _ | refine bstep ?_ (by assumption))))) HF.out).mono ?_
    rintro e w2 ⟨b, rfl, hbb, hK, hb2⟩
    have hB2 : Below w.heap.size w w2 := by (repeat (first | exact Below.refl _ _ | assumption | refine Below.drew ?_ | refine balloc ?_ _ | refine bset ?_ (by simp; omega) _ | refine bset ?_ (by simp) _ | refine bstep ?_ (by assumption)))
    replace hrf : ∀ o, w2.frozen? ⟨w.heap.size + 1, o, none⟩ = false := fun o => by rw [(bcell hb2).2 _ _ (World.block_lt_of_cell? _ _ r0)]; exact hrf o
    replace b0 := cell_keep hb2 b0
    replace r0 := cell_keep hb2 r0
    replace r1 := cell_keep hb2 r1
    have hz : w.heap.size + 1 < w2.heap.size := World.block_lt_of_cell? _ _ r0
    have hbz : w.heap.size ≤ b := by have := hB1.size; omega
    clear hb2 hB1 hbb
    go_wp2_with fail
    refine (hasShard_any g.shards.length _ s _ hl3 ⟨_, rfl⟩).mono ?_
    rintro e w3 ⟨rfl, hb3⟩
    have hB3 : Below w.heap.size w w3 := by (repeat (first | exact Below.refl _ _ | assumption | refine Below.drew ?_ | refine balloc ?_ _ | refine bset ?_ (by simp; omega) _ | refine bset ?_ (by simp) _ | refine bstep ?_ (by assumption)))
    have q1 : w3.cell? ⟨w2.heap.size, 1, none⟩ = some (.map (some b)) := cell_keep hb3 (by simp [go_sem])
    replace hrf : ∀ o, w3.frozen? ⟨w.heap.size + 1, o, none⟩ = false := fun o => by rw [(bcell hb3).2 _ _ (by simp; omega)]; simp [go_sem, hz, hrf]
    replace r0 := cell_keep hb3 (cell_keep (balloc (Below.refl _ _) _) r0)
    replace r1 := cell_keep hb3 (cell_keep (balloc (Below.refl _ _) _) r1)
    have hK3 := (hK.below (balloc (Below.refl _ _) _)).below hb3
    clear hb3 hB2 hK b0
    cases h1 : inB s 0 ((g.shards.length : Int) - 1)
    · go_wp2_with (first | (go_at_call 28; refine (isAccount_any _ _).mono ?_; rintro e w' ⟨rfl, rfl⟩) | (go_at_call 25; refine (isAsset_any _ _).mono ?_; rintro e w' ⟨rfl, rfl⟩))
      refine bodyPost_ret (v := .agg #[.int .i64 3, .int .i64 0]) ?_ rfl ⟨?_, by (repeat (first | exact Below.refl _ _ | assumption | refine Below.drew ?_ | refine balloc ?_ _ | refine bset ?_ (by simp; omega) _ | refine bset ?_ (by simp) _ | refine bstep ?_ (by assumption)))⟩
      · simp [results, Try.results11, go_sem, r0, r1]
      · simp [balCode, balVal, HF.out, h1]
    cases h2 : inB a 0 5
    · go_wp2_with (first | (go_at_call 28; refine (isAccount_any _ _).mono ?_; rintro e w' ⟨rfl, rfl⟩) | (go_at_call 25; refine (isAsset_any _ _).mono ?_; rintro e w' ⟨rfl, rfl⟩))
      refine bodyPost_ret (v := .agg #[.int .i64 3, .int .i64 0]) ?_ rfl ⟨?_, by (repeat (first | exact Below.refl _ _ | assumption | refine Below.drew ?_ | refine balloc ?_ _ | refine bset ?_ (by simp; omega) _ | refine bset ?_ (by simp) _ | refine bstep ?_ (by assumption)))⟩
      · simp [results, Try.results11, go_sem, r0, r1]
      · simp [balCode, balVal, HF.out, h1, keyOk, h2]
    cases h3 : inB t 0 2
    · go_wp2_with (first | (go_at_call 28; refine (isAccount_any _ _).mono ?_; rintro e w' ⟨rfl, rfl⟩) | (go_at_call 25; refine (isAsset_any _ _).mono ?_; rintro e w' ⟨rfl, rfl⟩))
      refine bodyPost_ret (v := .agg #[.int .i64 3, .int .i64 0]) ?_ rfl ⟨?_, by (repeat (first | exact Below.refl _ _ | assumption | refine Below.drew ?_ | refine balloc ?_ _ | refine bset ?_ (by simp; omega) _ | refine bset ?_ (by simp) _ | refine bstep ?_ (by assumption)))⟩
      · simp [results, Try.results11, go_sem, r0, r1]
      · simp [balCode, balVal, HF.out, h1, keyOk, h2, h3]
    have hall : (inB s 0 (g.shards.length - 1) && keyOk a t) = true := by simp [keyOk, h1, h2, h3]
    have HV : Hid (balVal g s a t = (bookF g.shards s a t).getD 0) := balVal_get g s a t HF.out hall
    obtain ⟨i1, i2⟩ := inBi.1 h1
    obtain ⟨i3, i4⟩ := inBi.1 h2
    obtain ⟨i5, i6⟩ := inBi.1 h3
    have hw : kwf s a t := ⟨wf_of (by omega) (by omega), wf_of (by omega) (by omega), wf_of (by omega) (by omega)⟩
    have h0 : Below w.heap.size w w3 ∧ w3.cell? ⟨w2.heap.size, 1, none⟩ = some (.map (some b)) := ⟨hB3, q1⟩
    have hne : ∀ o : Nat, (⟨w.heap.size + 1, o, none⟩ : Addr) ≠ ⟨w2.heap.size, 1, none⟩ := fun o e => by
      simp only [Addr.mk.injEq] at e
      omega
    have hz1 : w.heap.size ≤ w.heap.size + 1 := by omega
    obtain ⟨c, hcc⟩ : ∃ c, c = (bookF g.shards s a t).getD 0 := ⟨_, rfl⟩
    have hlk : ∀ W, Below w3.heap.size w3 W → (Instr.lookup 54 (.map (some b)) (kv s a t) false).run Try.prog W = .ok (.int .i64 c) W := fun W hW => by rw [hcc]; exact ((hK3.below hW).look hw).1
    rw [← hcc] at HV
    clear hcc hK3
    have hfr : ∀ W, Below w3.heap.size w3 W → ∀ o, W.frozen? ⟨w.heap.size + 1, o, none⟩ = false := fun W hW o => by rw [(bcell hW).2 _ _ (World.block_lt_of_cell? _ _ r0)]; exact hrf o
    go_wp2_with (first | (go_at_call 28; refine (isAccount_any _ _).mono ?_; rintro e w' ⟨rfl, rfl⟩) | (go_at_call 25; refine (isAsset_any _ _).mono ?_; rintro e w' ⟨rfl, rfl⟩))
    go_region_held3 (fun w' => Below w.heap.size w w' ∧ w'.cell? ⟨w2.heap.size, 1, none⟩ = some (.map (some b)))
      ((first | exact keepS1 h0 (Below.drew (Below.refl _ _)) | exact hS3 | (refine ⟨bset (bset hS3.1 hz1 _) hz1 _, ?_⟩; rw [set_other (hne _), set_other (hne _)]; exact hS3.2)))
      (first | (go_at_call 29; refine (keyOf_any _ _ _ _).mono ?_; rintro e w5 ⟨rfl, hb5⟩; have hS3 := keepS1 (keepS1 h0 (Below.drew (Below.refl _ _))) hb5; have hb6 := bstep (Below.drew (Below.refl _ _)) hb5; have hl5 := hlk _ hb6; have hf5 := hfr _ hb6; have r05 := cell_keep hb6 r0; have r15 := cell_keep hb6 r1))
    rename_i hH
    have hBZ := hH.1
    clear hH hS3
    go_wp2
    refine bodyPost_ret (v := .agg #[.int .i64 0, .int .i64 c]) ?_ rfl ⟨?_, hBZ⟩
    · simp [results, Try.results11, go_sem, r05, r15]
    · rw [HV.out, balCode, if_pos HF.out, if_pos hall]
  · go_wp2
    refine bodyPost_ret (v := .agg #[.int .i64 (ledFault g), .int .i64 0]) ?_ rfl ⟨?_, by (repeat (first | exact Below.refl _ _ | assumption | refine Below.drew ?_ | refine balloc ?_ _ | refine bset ?_ (by simp; omega) _ | refine bset ?_ (by simp) _ | refine bstep ?_ (by assumption)))⟩
    · simp [results, Try.results11, go_sem, r0, r1]
    · simp [balCode, balVal, hf]
end Go.Proofs.Ytgjpafalompecaa

/-
  Legs in memory: what a slice of legs holds, and the contracts of the functions that only compare, count and copy them.
-/
namespace Go.Proofs.Ytgjpafalompecaa
open Go.RowKit
set_option linter.unusedSectionVars false
variable [DecidableEq Leg] [Inhabited Leg]
attribute [local go_sem ↓] Go.wp_at_zero Go.wp_at_succ

def legCells (w : World) (b o : Nat) (l : Leg) : Prop :=
  w.cell? ⟨b, o, none⟩ = some (.int .i64 l.sh) ∧ w.cell? ⟨b, o + 1, none⟩ = some (.int .i64 l.ac) ∧ w.cell? ⟨b, o + 2, none⟩ = some (.int .i64 l.ast) ∧ w.cell? ⟨b, o + 3, none⟩ = some (.int .i64 l.am)
def LegsV (w : World) (v : Value) (xs : List Leg) : Prop :=
  ∃ a cap, v = .slice a xs.length cap ∧ xs.length ≤ cap ∧ cap ≤ maxLen ∧ ∀ i, i < xs.length → ∃ b o, a = some ⟨b, o, none⟩ ∧ legCells w b (o + i * 4) (xs.getD i default)
theorem legCells_below {w w' : World} {b o : Nat} {l : Leg} (hb : Below w.heap.size w w') (h : legCells w b o l) : legCells w' b o l := by
  obtain ⟨h1, h2, h3, h4⟩ := h
  have hlt : b < w.heap.size := World.block_lt_of_cell? w _ h1
  exact ⟨(hb.cell (p := ⟨b, o, none⟩) hlt).trans h1, (hb.cell (p := ⟨b, o + 1, none⟩) hlt).trans h2, (hb.cell (p := ⟨b, o + 2, none⟩) hlt).trans h3, (hb.cell (p := ⟨b, o + 3, none⟩) hlt).trans h4⟩
theorem keep2 {w w' : World} {b o b' o' : Nat} {l l' : Leg} (hb : Below w.heap.size w w') (h : legCells w b o l) (h' : legCells w b' o' l') :
    Below w.heap.size w w' ∧ (w'.cell? ⟨b, o, none⟩ = some (.int .i64 l.sh) ∧ w'.cell? ⟨b, o + 1, none⟩ = some (.int .i64 l.ac) ∧ w'.cell? ⟨b, o + 2, none⟩ = some (.int .i64 l.ast) ∧ w'.cell? ⟨b, o + 3, none⟩ = some (.int .i64 l.am)) ∧
      (w'.cell? ⟨b', o', none⟩ = some (.int .i64 l'.sh) ∧ w'.cell? ⟨b', o' + 1, none⟩ = some (.int .i64 l'.ac) ∧ w'.cell? ⟨b', o' + 2, none⟩ = some (.int .i64 l'.ast) ∧ w'.cell? ⟨b', o' + 3, none⟩ = some (.int .i64 l'.am)) :=
  ⟨hb, legCells_below hb h, legCells_below hb h'⟩
end Go.Proofs.Ytgjpafalompecaa


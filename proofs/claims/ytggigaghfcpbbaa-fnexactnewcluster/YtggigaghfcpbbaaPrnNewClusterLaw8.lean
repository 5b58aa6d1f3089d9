import Derived.Test.YtggigaghfcpbbaaPrnNewClusterLaw7
import Derived.RegionTactic
import Derived.ChangeAlike
import Derived.BigRegion
import Derived.BigQuiet
import Derived.Deep.QuietTactic
import Derived.Test.YtggigaghfcpbbaaPrnNewClusterLaw6
import Derived.Test.YtggigaghfcpbbaaPrnNewClusterLaw2
import Derived.Deep.RegionHeld3

/-
  Chapter 2 in plain mathematics: faults of balances and ledgers, what is had, totals, what can be settled.
-/
namespace Go.Proofs.Ytggigaghfcpbbaa
open Go.RowKit
set_option linter.unusedSectionVars false
variable [DecidableEq Bal] [Inhabited Bal] [DecidableEq Ledg] [Inhabited Ledg] [DecidableEq Leg] [Inhabited Leg]

theorem wrapId {n : Int} (h0 : -9223372036854775808 ≤ n) (h1 : n ≤ 9223372036854775807) : IntKind.i64.wrap n = n := by
  rw [IntKind.wrap_i64]; omega
theorem bdrewN {B : Nat} {w Y : World} (h : Below B w Y) (n : Nat) : Below B w (Y.drewN n) := h.trans ⟨rfl, rfl, rfl, Nat.le_refl _, fun _ _ => rfl⟩
def scanI (f : Nat → Int) : Nat → Int
  | 0 => 0
  | n + 1 => if scanI f n = 0 then f n else scanI f n
theorem scanI_succ {f : Nat → Int} {k : Nat} (h : scanI f k = 0) (h' : f k = 0) : scanI f (k + 1) = 0 := by simp [scanI, h, h']
theorem scanI_hit {f : Nat → Int} {k : Nat} (h : scanI f k = 0) (h' : f k ≠ 0) : ∀ n, k < n → scanI f n = f k
  | 0, hn => by omega
  | n + 1, hn => by
    by_cases e : k = n
    · subst e; simp [scanI, h]
    · have := scanI_hit h h' n (by omega)
      simp [scanI, this, h']
theorem scanI_zero {f : Nat → Int} : ∀ {n : Nat}, scanI f n = 0 → ∀ k, k < n → f k = 0
  | 0, _, k, hk => by omega
  | n + 1, h, k, hk => by
    unfold scanI at h
    split at h
    · rename_i h1
      by_cases e : k = n
      · subst e; exact h
      · exact scanI_zero h1 k (by omega)
    · exact absurd h (by assumption)
def keyOk (ac ast : Int) : Bool := inB ac 0 5 && inB ast 0 2
def balOk (x : Bal) : Bool := keyOk x.ac x.ast && inB x.am 1 1000000000000
def behind (b a : Bal) : Bool := if b.ac = a.ac then decide (a.ast < b.ast) else decide (a.ac < b.ac)
def balAt (xs : List Bal) (k : Nat) : Int := if balOk (xs.getD k default) then (if 0 < k ∧ behind (xs.getD k default) (xs.getD (k - 1) default) = false then 1 else 0) else 3
def balFault (xs : List Bal) : Int := if 18 < xs.length then 2 else scanI (balAt xs) xs.length
def ledAt (g : Ledg) (k : Nat) : Int := balFault (g.shards.getD k default)
def ledFault (g : Ledg) : Int := if g.shards.length < 1 ∨ 3 < g.shards.length then 2 else scanI (ledAt g) g.shards.length
theorem inBi {n lo hi : Int} : inB n lo hi = true ↔ lo ≤ n ∧ n ≤ hi := by simp [inB]
theorem keyOk_iff {a s : Int} : keyOk a s = true ↔ (0 ≤ a ∧ a ≤ 5) ∧ (0 ≤ s ∧ s ≤ 2) := by simp [keyOk, inBi]
theorem balOk_iff {x : Bal} : balOk x = true ↔ ((0 ≤ x.ac ∧ x.ac ≤ 5) ∧ (0 ≤ x.ast ∧ x.ast ≤ 2)) ∧ (1 ≤ x.am ∧ x.am ≤ 1000000000000) := by simp [balOk, keyOk_iff, inBi]
theorem behind_iff {b a : Bal} (hb : keyOk b.ac b.ast = true) (ha : keyOk a.ac a.ast = true) : behind b a = false ↔ b.ac * 3 + b.ast ≤ a.ac * 3 + a.ast := by
  obtain ⟨⟨_, _⟩, _, _⟩ := keyOk_iff.1 hb
  obtain ⟨⟨_, _⟩, _, _⟩ := keyOk_iff.1 ha
  unfold behind
  split <;> simp <;> omega
theorem balOk_key {x : Bal} (h : balOk x = true) : keyOk x.ac x.ast = true := by
  rw [balOk, Bool.and_eq_true] at h; exact h.1
structure BalsOk (xs : List Bal) : Prop where
  len : xs.length ≤ 18
  ok : ∀ k, k < xs.length → balOk (xs.getD k default) = true
  ord : ∀ k, k + 1 < xs.length → behind (xs.getD (k + 1) default) (xs.getD k default) = true
theorem balsOk_of {xs : List Bal} (h : balFault xs = 0) : BalsOk xs := by
  unfold balFault at h
  split at h
  · omega
  · have hz := scanI_zero h
    refine ⟨by omega, fun k hk => ?_, fun k hk => ?_⟩
    · have := hz k hk
      unfold balAt at this
      split at this
      · assumption
      · omega
    · have := hz (k + 1) hk
      unfold balAt at this
      split at this
      · split at this
        · omega
        · rename_i h1 h2
          simp at h2
          simpa using h2
      · omega
theorem ledOk_of {g : Ledg} (h : ledFault g = 0) : 1 ≤ g.shards.length ∧ g.shards.length ≤ 3 ∧ ∀ k, k < g.shards.length → BalsOk (g.shards.getD k default) := by
  unfold ledFault at h
  split at h
  · omega
  · exact ⟨by omega, by omega, fun k hk => balsOk_of (scanI_zero h k hk)⟩
end Go.Proofs.Ytggigaghfcpbbaa

/-
  BalancesFault on both sides.
-/
namespace Go.Proofs.Ytggigaghfcpbbaa
open Go.RowKit
set_option linter.unusedSectionVars false
variable [DecidableEq Bal] [Inhabited Bal] [DecidableEq Ledg] [Inhabited Ledg] [DecidableEq Leg] [Inhabited Leg]
attribute [local go_sem ↓] Go.wp_at_zero Go.wp_at_succ

theorem l2Key_any (a s : Int) (w : World) : Calls Try.prog 50 #[.int .i64 a, .int .i64 s] w fun e w' => e = .returned (.bool (keyOk a s)) ∧ w' = w := by
  unfold keyOk
  cases h1 : inB a 0 5
  all_goals
    go_enter Try.func50, Try.ntmps50
    go_wp2_with (go_at_call 15; refine (l1In_any _ _ _ _).mono ?_; rintro e w' ⟨rfl, rfl⟩)
    go_ret
    exact ⟨by simp, rfl⟩
theorem isBalance_any (x : Bal) (w : World) : Calls Try.prog 52 #[.agg #[.int .i64 x.ac, .int .i64 x.ast, .int .i64 x.am]] w fun e w' => e = .returned (.bool (balOk x)) ∧ Below w.heap.size w w' := by
  unfold balOk keyOk
  cases h1 : inB x.ac 0 5
  · go_enter Try.func52, Try.ntmps52
    go_wp2_with (go_at_call 76; refine (isAccount_any _ _).mono ?_; rintro e w' ⟨rfl, rfl⟩)
    go_ret
    exact ⟨by simp, balloc (Below.refl _ _) _⟩
  cases h2 : inB x.ast 0 2
  all_goals
    go_enter Try.func52, Try.ntmps52
    go_wp2_with (first | (go_at_call 76; refine (isAccount_any _ _).mono ?_; rintro e w' ⟨rfl, rfl⟩) | (go_at_call 77; refine (isAsset_any _ _).mono ?_; rintro e w' ⟨rfl, rfl⟩) | (go_at_call 19; refine (within_any _ _ _ _).mono ?_; rintro e w' ⟨rfl, rfl⟩))
    go_ret
    exact ⟨by simp, balloc (Below.refl _ _) _⟩
theorem standsBehind_any (x y : Bal) (w : World) : Calls Try.prog 53 #[.agg #[.int .i64 x.ac, .int .i64 x.ast, .int .i64 x.am], .agg #[.int .i64 y.ac, .int .i64 y.ast, .int .i64 y.am]] w fun e w' => e = .returned (.bool (behind x y)) ∧ Below w.heap.size w w' := by
  unfold behind
  go_enter Try.func53, Try.ntmps53
  go_wp2
  all_goals
    go_ret
    exact ⟨by simp_all, balloc (balloc (Below.refl _ _) _) _⟩
theorem balAt_bad {xs : List Bal} {k : Nat} (h : balOk (xs.getD k default) = false) : balAt xs k = 3 := by unfold balAt; rw [h]; rfl
theorem balAt_first {xs : List Bal} (h : balOk (xs.getD 0 default) = true) : balAt xs 0 = 0 := by simp only [balAt, h]; simp
theorem balAt_next {xs : List Bal} {k : Nat} (h : balOk (xs.getD (k + 1) default) = true) : balAt xs (k + 1) = if behind (xs.getD (k + 1) default) (xs.getD k default) = false then 1 else 0 := by
  simp only [balAt, h, if_true, Nat.add_sub_cancel]
  simp
theorem balFault_hit {xs : List Bal} {k : Nat} {c : Int} (h18 : xs.length ≤ 18) (hk : k < xs.length) (h : scanI (balAt xs) k = 0) (hc : balAt xs k = c) (h0 : c ≠ 0) : balFault xs = c := by
  rw [balFault, if_neg (by omega), scanI_hit h (by rw [hc]; exact h0) _ hk, hc]
theorem balAt_ok {xs : List Bal} {k : Nat} (h : balAt xs k = 0) : balOk (xs.getD k default) = true := by
  cases e : balOk (xs.getD k default) with
  | true => rfl
  | false => rw [balAt_bad e] at h; omega
set_option maxHeartbeats 2000000 in
theorem specBalFault_any (x : Value) (xs : List Bal) (w : World) (hx : balsR.V w x xs) :
    Calls Try.prog 27 #[x] w fun e w' => e = .returned (.int .i64 (balFault xs)) ∧ Below w.heap.size w w' := by
  obtain ⟨ax, cx, rfl, hcx, hmx, hx⟩ := hx
  unfold maxLen at hmx
  by_cases h18 : 18 < xs.length
  · have e : balFault xs = 2 := by simp [balFault, h18]
    rw [e]
    go_enter Try.func27, Try.ntmps27
    go_wp2
    go_ret
    exact ⟨rfl, Below.refl _ _⟩
  generalize hn' : xs.length = n at *
  have HN : Hid (xs.length = n) := hn'
  clear hn'
  go_enter Try.func27, Try.ntmps27
  go_wp2
  go_loopw [3] (fun i w' => ∃ k : Nat, k ≤ n ∧ i = .int .i64 k ∧ scanI (balAt xs) k = 0 ∧ Below w.heap.size w w') (fun i _ => n - (intOf i).toNat)
  case atStart => exact ⟨0, Nat.zero_le _, rfl, rfl, Below.refl _ _⟩
  case round =>
    obtain ⟨k, hk, rfl, hs, hbl⟩ := hrel
    have HS : Hid (scanI (balAt xs) k = 0) := hs
    clear hs
    by_cases hlt : k < n
    · obtain ⟨bx, ox, rfl, g1⟩ := hx k hlt
      obtain ⟨l, hl⟩ : ∃ l, l = xs.getD k default := ⟨_, rfl⟩
      rw [← hl] at g1
      have HL : Hid (l = xs.getD k default) := hl
      clear hl
      obtain ⟨a1, a2, a3⟩ := balCells_below hbl g1
      cases h1 : keyOk l.ac l.ast
      · clear hx
        go_wp2_with (first | (go_at_call 50; refine (l2Key_any _ _ _).mono ?_; rintro e w' ⟨rfl, rfl⟩) | (go_at_call 15; refine (l1In_any _ _ _ _).mono ?_; rintro e w' ⟨rfl, rfl⟩))
        go_ret
        refine ⟨?_, balloc hbl _⟩
        rw [balFault_hit (k := k) (c := 3) (by rw [HN.out]; omega) (by rw [HN.out]; exact hlt) HS.out (balAt_bad (by rw [← HL.out]; simp [balOk, h1])) (by omega)]
        rfl
      cases h2 : inB l.am 1 1000000000000
      · clear hx
        go_wp2_with (first | (go_at_call 50; refine (l2Key_any _ _ _).mono ?_; rintro e w' ⟨rfl, rfl⟩) | (go_at_call 15; refine (l1In_any _ _ _ _).mono ?_; rintro e w' ⟨rfl, rfl⟩))
        go_ret
        refine ⟨?_, balloc hbl _⟩
        rw [balFault_hit (k := k) (c := 3) (by rw [HN.out]; omega) (by rw [HN.out]; exact hlt) HS.out (balAt_bad (by rw [← HL.out]; simp [balOk, h2])) (by omega)]
        rfl
      have hok : balOk (xs.getD k default) = true := by rw [← HL.out]; simp [balOk, h1, h2]
      cases k with
      | zero =>
        clear hx
        simp only [Nat.zero_mul, Nat.add_zero] at a1 a2 a3
        go_wp2_with (first | (go_at_call 50; refine (l2Key_any _ _ _).mono ?_; rintro e w' ⟨rfl, rfl⟩) | (go_at_call 15; refine (l1In_any _ _ _ _).mono ?_; rintro e w' ⟨rfl, rfl⟩))
        go_quiet (fail)
        go_wp2
        exact ⟨⟨1, by omega, by go_num, scanI_succ HS.out (balAt_first hok), bdrewN (balloc hbl _) _⟩, by simp [intOf]; omega⟩
      | succ m =>
        obtain ⟨b', o', he, g2⟩ := hx m (by omega)
        simp only [Option.some.injEq, Addr.mk.injEq, and_true] at he
        obtain ⟨rfl, rfl⟩ := he
        have hok' : balOk (xs.getD m default) = true := balAt_ok (scanI_zero HS.out m (by omega))
        obtain ⟨o, ho⟩ : ∃ o, o = xs.getD m default := ⟨_, rfl⟩
        rw [← ho] at g2 hok'
        have HO : Hid (o = xs.getD m default) := ho
        clear ho hx
        obtain ⟨d1, d2, d3⟩ := balCells_below hbl g2
        obtain ⟨⟨⟨p1, p2⟩, p3, p4⟩, p5, p6⟩ := balOk_iff.1 hok'
        obtain ⟨⟨q1, q2⟩, q3, q4⟩ := keyOk_iff.1 h1
        have i1 : (m : Int) < (n : Int) := by omega
        have z5 : bx < wr.heap.size := World.block_lt_of_cell? wr _ d1
        have i2 : m < n := by omega
        have v1 : IntKind.i64.wrap (m : Int) = m := wrapId (by omega) (by omega)
        have v2 : IntKind.i64.wrap (l.ac * 3) = l.ac * 3 := wrapId (by omega) (by omega)
        have v3 : IntKind.i64.wrap (l.ac * 3 + l.ast) = l.ac * 3 + l.ast := wrapId (by omega) (by omega)
        have v4 : IntKind.i64.wrap (o.ac * 3) = o.ac * 3 := wrapId (by omega) (by omega)
        have v5 : IntKind.i64.wrap (o.ac * 3 + o.ast) = o.ac * 3 + o.ast := wrapId (by omega) (by omega)
        have hbi := behind_iff (b := l) (a := o) h1 (balOk_key hok')
        have HBI : Hid (behind l o = false ↔ l.ac * 3 + l.ast ≤ o.ac * 3 + o.ast) := hbi
        clear hbi
        go_wp2_with (first | (go_at_call 50; refine (l2Key_any _ _ _).mono ?_; rintro e w' ⟨rfl, rfl⟩) | (go_at_call 15; refine (l1In_any _ _ _ _).mono ?_; rintro e w' ⟨rfl, rfl⟩))
        go_quiet (fail)
        go_wp2
        · rename_i hle
          go_ret
          refine ⟨?_, bdrewN (balloc hbl _) _⟩
          have hb0 : balAt xs (m + 1) = 1 := by rw [balAt_next hok, ← HL.out, ← HO.out, if_pos (HBI.out.2 hle)]
          rw [balFault_hit (k := m + 1) (c := 1) (by rw [HN.out]; omega) (by rw [HN.out]; exact hlt) HS.out hb0 (by omega)]
          rfl
        · rename_i hle
          refine ⟨⟨m + 1 + 1, by omega, by go_num, scanI_succ HS.out ?_, bdrewN (balloc hbl _) _⟩, by simp [intOf]; omega⟩
          rw [balAt_next hok, ← HL.out, ← HO.out, if_neg (fun e => by have := HBI.out.1 e; omega)]
    · go_wp2
      go_ret
      have hkn : k = n := by omega
      subst hkn
      refine ⟨?_, hbl⟩
      rw [balFault, if_neg (by rw [HN.out]; omega), HN.out, HS.out]
      rfl
set_option maxHeartbeats 2000000 in
theorem implBalFault_any (x : Value) (xs : List Bal) (w : World) (hx : balsR.V w x xs) :
    Calls Try.prog 30 #[x] w fun e w' => e = .returned (.int .i64 (balFault xs)) ∧ Below w.heap.size w w' := by
  obtain ⟨ax, cx, rfl, hcx, hmx, hx⟩ := hx
  unfold maxLen at hmx
  by_cases h18 : 18 < xs.length
  · have e : balFault xs = 2 := by simp [balFault, h18]
    rw [e]
    go_enter Try.func30, Try.ntmps30
    go_wp2
    go_ret
    exact ⟨rfl, Below.refl _ _⟩
  generalize hn' : xs.length = n at *
  have HN : Hid (xs.length = n) := hn'
  clear hn'
  go_enter Try.func30, Try.ntmps30
  go_wp2
  go_loopw [10] (fun i w' => ∃ k : Nat, k ≤ n ∧ i = .int .i64 k ∧ scanI (balAt xs) k = 0 ∧ Below w.heap.size w w') (fun i _ => n - (intOf i).toNat)
  case atStart => exact ⟨0, Nat.zero_le _, rfl, rfl, Below.refl _ _⟩
  case round =>
    obtain ⟨k, hk, rfl, hs, hbl⟩ := hrel
    have HS : Hid (scanI (balAt xs) k = 0) := hs
    clear hs
    by_cases hlt : k < n
    · obtain ⟨bx, ox, rfl, g1⟩ := hx k hlt
      obtain ⟨l, hl⟩ : ∃ l, l = xs.getD k default := ⟨_, rfl⟩
      rw [← hl] at g1
      have HL : Hid (l = xs.getD k default) := hl
      clear hl
      obtain ⟨a1, a2, a3⟩ := balCells_below hbl g1
      cases hok : balOk l
      · clear hx
        go_wp2_with (go_at_call 52; refine (isBalance_any l _).mono ?_; rintro e w' ⟨rfl, hb⟩)
        go_ret
        refine ⟨?_, bstep (balloc hbl _) hb⟩
        rw [balFault_hit (k := k) (c := 3) (by rw [HN.out]; omega) (by rw [HN.out]; exact hlt) HS.out (balAt_bad (by rw [← HL.out]; exact hok)) (by omega)]
        rfl
      have hok2 : balOk (xs.getD k default) = true := by rw [← HL.out]; exact hok
      cases k with
      | zero =>
        clear hx
        simp only [Nat.zero_mul, Nat.add_zero] at a1 a2 a3
        go_wp2_with (go_at_call 52; refine (isBalance_any l _).mono ?_; rintro e w' ⟨rfl, hb⟩)
        go_quiet (fail)
        go_wp2
        exact ⟨⟨1, by omega, by go_num, scanI_succ HS.out (balAt_first hok2), bdrewN (bstep (balloc hbl _) hb) _⟩, by simp [intOf]; omega⟩
      | succ m =>
        obtain ⟨b', o', he, g2⟩ := hx m (by omega)
        simp only [Option.some.injEq, Addr.mk.injEq, and_true] at he
        obtain ⟨rfl, rfl⟩ := he
        obtain ⟨o, ho⟩ : ∃ o, o = xs.getD m default := ⟨_, rfl⟩
        rw [← ho] at g2
        have HO : Hid (o = xs.getD m default) := ho
        clear ho hx
        obtain ⟨d1, d2, d3⟩ := balCells_below hbl g2
        have i1 : (m : Int) < (n : Int) := by omega
        have v1 : IntKind.i64.wrap (m : Int) = m := wrapId (by omega) (by omega)
        go_wp2_with (go_at_call 52; refine (isBalance_any l _).mono ?_; rintro e w' ⟨rfl, hb⟩)
        have hB := bstep (balloc hbl _) hb
        have g3 := balCells_below hB g2
        have g4 : balCells w' wr.heap.size 0 l := ⟨cell_keep hb (by simp [go_sem]), cell_keep hb (by simp [go_sem]), cell_keep hb (by simp [go_sem])⟩
        clear hb d1 d2 d3 a1 a2 a3 g1 g2
        have z5 : bx < w'.heap.size := World.block_lt_of_cell? w' _ g3.1
        have z6 : wr.heap.size < w'.heap.size := World.block_lt_of_cell? w' _ g4.1
        go_region_held3 (fun w'' => Below w'.heap.size w' w'' ∧ (w''.cell? ⟨wr.heap.size, 0, none⟩ = some (.int .i64 l.ac) ∧ w''.cell? ⟨wr.heap.size, 1, none⟩ = some (.int .i64 l.ast) ∧ w''.cell? ⟨wr.heap.size, 2, none⟩ = some (.int .i64 l.am)) ∧ (w''.cell? ⟨bx, ox + m * 3, none⟩ = some (.int .i64 o.ac) ∧ w''.cell? ⟨bx, ox + m * 3 + 1, none⟩ = some (.int .i64 o.ast) ∧ w''.cell? ⟨bx, ox + m * 3 + 2, none⟩ = some (.int .i64 o.am)))
          ((refine balKeep2 ?_ g4 g3; repeat (first | exact Below.refl _ _ | assumption | refine Below.drew ?_ | refine balloc ?_ _ | refine bstep ?_ (by assumption))))
          (first | (go_at_call 53; refine (standsBehind_any l o _).mono ?_; rintro e w3 ⟨rfl, hb3⟩))
        rename_i hH
        have hB3 := bstep hB hH.1
        clear hH
        cases hbe : behind l o
        · go_wp2
          go_ret
          refine ⟨?_, hB3⟩
          have hb0 : balAt xs (m + 1) = 1 := by rw [balAt_next hok2, ← HL.out, ← HO.out, if_pos hbe]
          rw [balFault_hit (k := m + 1) (c := 1) (by rw [HN.out]; omega) (by rw [HN.out]; exact hlt) HS.out hb0 (by omega)]
          rfl
        · go_wp2
          refine ⟨⟨m + 1 + 1, by omega, by go_num, scanI_succ HS.out ?_, hB3⟩, by simp [intOf]; omega⟩
          rw [balAt_next hok2, ← HL.out, ← HO.out, if_neg (by rw [hbe]; simp)]
    · go_wp2
      go_ret
      have hkn : k = n := by omega
      subst hkn
      refine ⟨?_, hbl⟩
      rw [balFault, if_neg (by rw [HN.out]; omega), HN.out, HS.out]
      rfl
end Go.Proofs.Ytggigaghfcpbbaa

/-
  ShardResult. (Written by program: nest.py.)
-/
namespace Go.Proofs.Ytggigaghfcpbbaa
open Go.RowKit
set_option linter.unusedSectionVars false
variable [DecidableEq Bal] [Inhabited Bal] [DecidableEq Mrk] [Inhabited Mrk] [DecidableEq Leg] [Inhabited Leg] [DecidableEq Cont] [Inhabited Cont] [DecidableEq Shd] [Inhabited Shd]
attribute [local go_sem ↓] Go.wp_at_zero Go.wp_at_succ

set_option linter.unusedSimpArgs false

structure ShdR where
  code : Int
  vote : Int
  shard : Shd
variable [DecidableEq ShdR] [Inhabited ShdR]

def shdRR : Rep ShdR where
  V := fun w v x => ∃ u1_1 u1_2 u1_3 u1_4 u1_5, v = .agg #[.int .i64 x.code, .int .i64 x.vote, .int .i64 x.shard.idx, u1_1, u1_2, u1_3, u1_4, u1_5] ∧ shdR.V w (.agg #[.int .i64 x.shard.idx, u1_1, u1_2, u1_3, u1_4, u1_5]) x.shard
  O := fun w base F v x => ∃ u1_1 u1_2 u1_3 u1_4 u1_5 F1, v = .agg #[.int .i64 x.code, .int .i64 x.vote, .int .i64 x.shard.idx, u1_1, u1_2, u1_3, u1_4, u1_5] ∧ shdR.O w base F1 (.agg #[.int .i64 x.shard.idx, u1_1, u1_2, u1_3, u1_4, u1_5]) x.shard ∧ (∀ b, F b ↔ (F1 b))
  below := fun h hb => by
    obtain ⟨u1_1, u1_2, u1_3, u1_4, u1_5, rfl, h1⟩ := h
    exact ⟨u1_1, u1_2, u1_3, u1_4, u1_5, rfl, shdR.below h1 hb⟩
  ofO := fun h => by
    obtain ⟨u1_1, u1_2, u1_3, u1_4, u1_5, F1, rfl, h1, _⟩ := h
    exact ⟨u1_1, u1_2, u1_3, u1_4, u1_5, rfl, shdR.ofO h1⟩
  mod := fun h hm hd => by
    obtain ⟨u1_1, u1_2, u1_3, u1_4, u1_5, F1, rfl, h1, hF⟩ := h
    exact ⟨u1_1, u1_2, u1_3, u1_4, u1_5, F1, rfl, shdR.mod h1 hm (fun b hb => hd b ((hF b).2 hb)), hF⟩
  rng := fun h b hb => by
    obtain ⟨u1_1, u1_2, u1_3, u1_4, u1_5, F1, rfl, h1, hF⟩ := h
    rcases (hF b).1 hb with hb
    · exact shdR.rng h1 b hb
  base := fun h hb => by
    obtain ⟨u1_1, u1_2, u1_3, u1_4, u1_5, F1, rfl, h1, hF⟩ := h
    exact ⟨u1_1, u1_2, u1_3, u1_4, u1_5, F1, rfl, shdR.base h1 hb, hF⟩
end Go.Proofs.Ytggigaghfcpbbaa

/-
  NewShard, on both sides.
-/
set_option linter.unusedSimpArgs false
set_option linter.unusedVariables false
namespace Go.Proofs.Ytggigaghfcpbbaa
open Go.RowKit
set_option linter.unusedSectionVars false
variable [DecidableEq Leg] [Inhabited Leg] [DecidableEq Mrk] [Inhabited Mrk] [DecidableEq Bal] [Inhabited Bal] [DecidableEq Cont] [Inhabited Cont] [DecidableEq Shd] [Inhabited Shd] [DecidableEq Ledg] [Inhabited Ledg] [DecidableEq ShdR] [Inhabited ShdR]
attribute [local go_sem ↓] Go.wp_at_zero Go.wp_at_succ

def baseN (idx : Int) (bs : List Bal) : Int := if inB idx 0 2 = true then balFault bs else 3
theorem startF_any (i : Int) (x : Value) (xs : List Bal) (w : World) (hx : balsR.V w x xs) :
    Calls Try.prog 31 #[.int .i64 i, x] w fun e w' => e = .returned (.int .i64 (baseN i xs)) ∧ Below w.heap.size w w' := by
  have HB : Hid (∀ W, Below w.heap.size w W → Calls Try.prog 30 #[x] W fun e w' => e = .returned (.int .i64 (balFault xs)) ∧ Below W.heap.size W w') := fun W hW => implBalFault_any x xs W (balsR.below hx hW)
  obtain ⟨a, c, rfl⟩ := bals_form hx
  clear hx
  generalize xs.length = n at *
  unfold baseN
  cases h : inB i 0 2
  · go_enter Try.func31, Try.ntmps31
    go_wp2_with (first | (go_at_call 54; refine (isShard_any _ _).mono ?_; rintro e w' ⟨rfl, rfl⟩; rw [h]))
    go_ret
    exact ⟨rfl, by (repeat (first | exact Below.refl _ _ | assumption | refine Below.drew ?_ | refine balloc ?_ _ | refine bset ?_ (by simp; omega) _ | refine bset ?_ (by simp) _ | refine bstep ?_ (by assumption)))⟩
  · go_enter Try.func31, Try.ntmps31
    go_wp2_with (first | (go_at_call 54; refine (isShard_any _ _).mono ?_; rintro e w' ⟨rfl, rfl⟩; rw [h]) | (go_at_call 30; refine (HB.out _ (by (repeat (first | exact Below.refl _ _ | assumption | refine Below.drew ?_ | refine balloc ?_ _ | refine bset ?_ (by simp; omega) _ | refine bset ?_ (by simp) _ | refine bstep ?_ (by assumption))))).mono ?_; rintro e w' ⟨rfl, hb1⟩))
    go_ret
    exact ⟨rfl, by (repeat (first | exact Below.refl _ _ | assumption | refine Below.drew ?_ | refine balloc ?_ _ | refine bset ?_ (by simp; omega) _ | refine bset ?_ (by simp) _ | refine bstep ?_ (by assumption)))⟩
theorem baseS_any (i : Int) (x : Value) (xs : List Bal) (w : World) (hx : balsR.V w x xs) :
    Calls Try.prog 28 #[.int .i64 i, x] w fun e w' => e = .returned (.int .i64 (baseN i xs)) ∧ Below w.heap.size w w' := by
  have HB : Hid (∀ W, Below w.heap.size w W → Calls Try.prog 27 #[x] W fun e w' => e = .returned (.int .i64 (balFault xs)) ∧ Below W.heap.size W w') := fun W hW => specBalFault_any x xs W (balsR.below hx hW)
  obtain ⟨a, c, rfl⟩ := bals_form hx
  clear hx
  generalize xs.length = n at *
  unfold baseN
  cases h : inB i 0 2
  · go_enter Try.func28, Try.ntmps28
    go_wp2_with (first | (go_at_call 15; refine (l1In_any _ _ _ _).mono ?_; rintro e w' ⟨rfl, rfl⟩; rw [h]))
    go_ret
    exact ⟨rfl, by (repeat (first | exact Below.refl _ _ | assumption | refine Below.drew ?_ | refine balloc ?_ _ | refine bset ?_ (by simp; omega) _ | refine bset ?_ (by simp) _ | refine bstep ?_ (by assumption)))⟩
  · go_enter Try.func28, Try.ntmps28
    go_wp2_with (first | (go_at_call 15; refine (l1In_any _ _ _ _).mono ?_; rintro e w' ⟨rfl, rfl⟩; rw [h]) | (go_at_call 27; refine (HB.out _ (by (repeat (first | exact Below.refl _ _ | assumption | refine Below.drew ?_ | refine balloc ?_ _ | refine bset ?_ (by simp; omega) _ | refine bset ?_ (by simp) _ | refine bstep ?_ (by assumption))))).mono ?_; rintro e w' ⟨rfl, hb1⟩))
    go_ret
    exact ⟨rfl, by (repeat (first | exact Below.refl _ _ | assumption | refine Below.drew ?_ | refine balloc ?_ _ | refine bset ?_ (by simp; omega) _ | refine bset ?_ (by simp) _ | refine bstep ?_ (by assumption)))⟩
def shd0 (i : Int) (bs : List Bal) : Shd := ⟨i, bs, [], [], [], []⟩
def newD (i : Int) (bs : List Bal) : ShdR := if baseN i bs = 0 then ⟨0, 0, shd0 i bs⟩ else ⟨baseN i bs, 0, shd0 0 []⟩
theorem bals_nil (w : World) (base : Nat) : balsR.O w base (fun b => (Value.slice none 0 0).ownBlock = some b) (.slice none 0 0) [] := ⟨World.ownsRow_nil _ _ _ _, rfl⟩
theorem mrks_nil (w : World) (base : Nat) : mrksR.O w base (fun b => (Value.slice none 0 0).ownBlock = some b) (.slice none 0 0) [] := ⟨World.ownsRow_nil _ _ _ _, rfl⟩
theorem ints_nil (w : World) (base : Nat) : intsR.O w base (fun b => (Value.slice none 0 0).ownBlock = some b) (.slice none 0 0) [] := ⟨World.ownsRow_nil _ _ _ _, rfl⟩
theorem noBlk {b : Nat} (h : (Value.slice none 0 0).ownBlock = some b) : False := by simp [Value.ownBlock] at h
theorem shd0_O {w : World} {base : Nat} {F : Nat → Prop} {v : Value} {i : Int} {bs : List Bal} (h : balsR.O w base F v bs) : ∃ F', shdR.O w base F' (.agg #[.int .i64 i, v, .slice none 0 0, .slice none 0 0, .slice none 0 0, .slice none 0 0]) (shd0 i bs) :=
  ⟨_, _, _, _, _, _, F, _, (fun _ => False), _, _, rfl, h, mrks_nil w base, conts_nil w base, mrks_nil w base, ints_nil w base, fun b _ h => noBlk h, fun b _ h => h, fun b _ h => noBlk h, fun b _ h => noBlk h, fun b h _ => noBlk h, fun b h _ => noBlk h, fun b h _ => noBlk h, fun b h _ => h, fun b h _ => h, fun b h _ => noBlk h, fun b => Iff.rfl⟩
theorem shd0_V {w : World} {v : Value} {i : Int} {bs : List Bal} (h : balsR.V w v bs) : shdR.V w (.agg #[.int .i64 i, v, .slice none 0 0, .slice none 0 0, .slice none 0 0, .slice none 0 0]) (shd0 i bs) :=
  ⟨_, _, _, _, _, rfl, h, mrksR.ofO (mrks_nil w 0), contsR.ofO (conts_nil w 0), mrksR.ofO (mrks_nil w 0), intsR.ofO (ints_nil w 0)⟩
theorem set8 {α : Type} (R : Rep α) {W : World} {base B : Nat} {F : Nat → Prop} {v : Value} {x : α} (h : R.O W base F v x) (hB : B < base) (u0 u1 u2 u3 u4 u5 u6 u7 : Value) :
    R.O ((((((((W.setCell ⟨B, 0, none⟩ u0).setCell ⟨B, 1, none⟩ u1).setCell ⟨B, 2, none⟩ u2).setCell ⟨B, 3, none⟩ u3).setCell ⟨B, 4, none⟩ u4).setCell ⟨B, 5, none⟩ u5).setCell ⟨B, 6, none⟩ u6).setCell ⟨B, 7, none⟩ u7) base F v x :=
  R.set (R.set (R.set (R.set (R.set (R.set (R.set (R.set h _ hB) _ hB) _ hB) _ hB) _ hB) _ hB) _ hB) _ hB
theorem new_err {i : Int} {bs : List Bal} {w W : World} {c : Int} (h : newD i bs = ⟨c, 0, shd0 0 []⟩) (hb : Below w.heap.size w W) : ∃ v F, Ending.returned (.agg #[.int .i64 c, .int .i64 0, .int .i64 0, .slice none 0 0, .slice none 0 0, .slice none 0 0, .slice none 0 0, .slice none 0 0]) = .returned v ∧ shdRR.O W w.heap.size F v (newD i bs) ∧ Below w.heap.size w W := by
  rw [h]
  obtain ⟨F', h'⟩ := shd0_O (i := 0) (bals_nil W w.heap.size)
  exact ⟨_, F', rfl, ⟨_, _, _, _, _, F', rfl, h', fun _ => Iff.rfl⟩, hb⟩
set_option maxRecDepth 20000 in
set_option maxHeartbeats 4000000 in
theorem implNew10_u (i : Int) (x : Value) (bs : List Bal) (w : World) (hx : balsR.V w x bs) (hn : bs.length ≤ 1048576) :
    Calls Try.prog 20 #[.int .i64 i, x] w fun e w' => ∃ v F, e = .returned v ∧ shdRR.O w' w.heap.size F v (newD i bs) ∧ Below w.heap.size w w' := by
  have HBa : Hid (∀ W, Below w.heap.size w W → Calls Try.prog 31 #[.int .i64 i, x] W fun e w' => e = .returned (.int .i64 (baseN i bs)) ∧ Below W.heap.size W w') := fun W hW => startF_any i x bs W (balsR.below hx hW)
  have HX : Hid (∀ W, Below w.heap.size w W → balsR.V W x bs) := fun W hW => balsR.below hx hW
  obtain ⟨ax, cx, rfl⟩ := bals_form hx
  clear hx
  have HE : Hid (¬ baseN i bs = 0 → newD i bs = ⟨baseN i bs, 0, shd0 0 []⟩) := fun h => by unfold newD; rw [if_neg h]
  have HK : Hid (baseN i bs = 0 → newD i bs = ⟨0, 0, shd0 i bs⟩) := fun h => by unfold newD; rw [if_pos h]
  generalize baseN i bs = bf at *
  go_enter Try.func20, Try.ntmps20
  go_wp2_with fail
  refine (HBa.out _ (by (repeat (first | exact Below.refl _ _ | assumption | refine Below.drew ?_ | refine balloc ?_ _ | refine bset ?_ (by simp; omega) _ | refine bset ?_ (by simp) _ | refine bstep ?_ (by assumption))))).mono ?_
  rintro e w1 ⟨rfl, hb1⟩
  have hB1 : Below w.heap.size w w1 := bstep (by (repeat (first | exact Below.refl _ _ | assumption | refine Below.drew ?_ | refine balloc ?_ _ | refine bset ?_ (by simp; omega) _ | refine bset ?_ (by simp) _ | refine bstep ?_ (by assumption)))) hb1
  have hz1 := hb1.size
  simp at hz1
  have f1 := (bcell hb1).2
  have r0 : w1.cell? ⟨w.heap.size, 0, none⟩ = some (.int .i64 0) := cell_keep hb1 (by simp [go_sem])
  have r1 : w1.cell? ⟨w.heap.size, 1, none⟩ = some (.int .i64 0) := cell_keep hb1 (by simp [go_sem])
  have r2 : w1.cell? ⟨w.heap.size, 2, none⟩ = some (.int .i64 0) := cell_keep hb1 (by simp [go_sem])
  have r3 : w1.cell? ⟨w.heap.size, 3, none⟩ = some (.slice none 0 0) := cell_keep hb1 (by simp [go_sem])
  have r4 : w1.cell? ⟨w.heap.size, 4, none⟩ = some (.slice none 0 0) := cell_keep hb1 (by simp [go_sem])
  have r5 : w1.cell? ⟨w.heap.size, 5, none⟩ = some (.slice none 0 0) := cell_keep hb1 (by simp [go_sem])
  have r6 : w1.cell? ⟨w.heap.size, 6, none⟩ = some (.slice none 0 0) := cell_keep hb1 (by simp [go_sem])
  have r7 : w1.cell? ⟨w.heap.size, 7, none⟩ = some (.slice none 0 0) := cell_keep hb1 (by simp [go_sem])
  have rf : ∀ o, w1.frozen? ⟨w.heap.size, o, none⟩ = false := fun o => by rw [f1 _ _ (by simp)]; simp [go_sem]
  clear hb1 f1 HBa
  by_cases hbf : bf = 0
  rotate_left
  · have HC := HE.out hbf
    have hbf' : (bf != 0) = true := by simp [hbf]
    clear HE HK HX
    go_wp2
    exact bodyPost_ret (v := .agg #[.int .i64 bf, .int .i64 0, .int .i64 0, .slice none 0 0, .slice none 0 0, .slice none 0 0, .slice none 0 0, .slice none 0 0]) (by simp [results, Try.results20, go_sem, r0, r1, r2, r3, r4, r5, r6, r7, rf]) rfl (new_err HC (by (repeat (first | refine bset ?_ (by simp; omega) _ | refine bset ?_ (by simp) _ | refine balloc ?_ _ | assumption))))
  have HC : Hid (newD i bs = ⟨0, 0, shd0 i bs⟩) := HK.out hbf
  rw [hbf]
  clear HE HK hbf
  have HCp : Hid (∀ W, Below w.heap.size w W → Calls Try.prog 32 #[.agg #[.int .i64 i, .slice ax bs.length cx, .slice none 0 0, .slice none 0 0, .slice none 0 0, .slice none 0 0]] W fun e w' => ∃ v F, e = .returned v ∧ shdR.O w' W.heap.size F v (shd0 i bs) ∧ Below W.heap.size W w') := fun W hW => copiedShd_u _ (shd0 i bs) W (shd0_V (HX.out W hW)) ⟨hn, by simp [shd0], by simp [shd0], by simp [shd0], by simp [shd0]⟩ (fun k hk => by simp [shd0] at hk)
  go_wp2_with fail
  refine (HCp.out _ hB1).mono ?_
  rintro e w2 ⟨v2, F2, rfl, o2, hb2⟩
  have hB2 : Below w.heap.size w w2 := bstep hB1 hb2
  replace r0 := cell_keep hb2 r0
  replace r1 := cell_keep hb2 r1
  replace r2 := cell_keep hb2 r2
  replace r3 := cell_keep hb2 r3
  replace r4 := cell_keep hb2 r4
  replace r5 := cell_keep hb2 r5
  replace r6 := cell_keep hb2 r6
  replace r7 := cell_keep hb2 r7
  replace rf : ∀ o, w2.frozen? ⟨w.heap.size, o, none⟩ = false := fun o => by rw [(bcell hb2).2 _ _ (by omega)]; exact rf o
  have hform : ∃ q1 s1 q2 s2 q3 s3 q4 s4 q5 s5, v2 = .agg #[.int .i64 i, .slice q1 bs.length s1, .slice q2 0 s2, .slice q3 0 s3, .slice q4 0 s4, .slice q5 0 s5] := by
    obtain ⟨u1, u2, u3, u4, u5, rfl, h1, h2, h3, h4, h5⟩ := shdR.ofO o2
    obtain ⟨q1, s1, rfl⟩ := bals_form h1
    obtain ⟨q2, s2, rfl⟩ := mrks_form h2
    obtain ⟨q3, s3, rfl⟩ := conts_form h3
    obtain ⟨q4, s4, rfl⟩ := mrks_form h4
    obtain ⟨q5, s5, rfl⟩ := ints_form h5
    exact ⟨q1, s1, q2, s2, q3, s3, q4, s4, q5, s5, rfl⟩
  obtain ⟨q1, s1, q2, s2, q3, s3, q4, s4, q5, s5, rfl⟩ := hform
  have HO : Hid (shdR.O w2 w1.heap.size F2 (.agg #[.int .i64 i, .slice q1 bs.length s1, .slice q2 0 s2, .slice q3 0 s3, .slice q4 0 s4, .slice q5 0 s5]) (shd0 i bs)) := o2
  clear o2 hb2 HCp
  go_wp2
  refine bodyPost_ret (v := .agg #[.int .i64 0, .int .i64 0, .int .i64 i, .slice q1 bs.length s1, .slice q2 0 s2, .slice q3 0 s3, .slice q4 0 s4, .slice q5 0 s5]) (by simp [results, Try.results20, go_sem, r0, r1, r2, r3, r4, r5, r6, r7, rf]) rfl ⟨_, F2, rfl, ?_, by (repeat (first | refine bset ?_ (by simp; omega) _ | refine bset ?_ (by simp) _ | refine balloc ?_ _ | assumption))⟩
  rw [HC.out]
  exact ⟨_, _, _, _, _, F2, rfl, shdR.base (set8 shdR HO.out (by omega) _ _ _ _ _ _ _ _) (by omega), fun _ => Iff.rfl⟩
set_option maxRecDepth 20000 in
set_option maxHeartbeats 4000000 in
theorem specNew10_u (i : Int) (x : Value) (bs : List Bal) (w : World) (hx : balsR.V w x bs) (hn : bs.length ≤ 1048576) :
    Calls Try.prog 16 #[.int .i64 i, x] w fun e w' => ∃ v F, e = .returned v ∧ shdRR.O w' w.heap.size F v (newD i bs) ∧ Below w.heap.size w w' := by
  have HBa : Hid (∀ W, Below w.heap.size w W → Calls Try.prog 28 #[.int .i64 i, x] W fun e w' => e = .returned (.int .i64 (baseN i bs)) ∧ Below W.heap.size W w') := fun W hW => baseS_any i x bs W (balsR.below hx hW)
  have HX : Hid (∀ W, Below w.heap.size w W → balsR.V W x bs) := fun W hW => balsR.below hx hW
  obtain ⟨ax, cx, rfl⟩ := bals_form hx
  clear hx
  have HE : Hid (¬ baseN i bs = 0 → newD i bs = ⟨baseN i bs, 0, shd0 0 []⟩) := fun h => by unfold newD; rw [if_neg h]
  have HK : Hid (baseN i bs = 0 → newD i bs = ⟨0, 0, shd0 i bs⟩) := fun h => by unfold newD; rw [if_pos h]
  generalize baseN i bs = bf at *
  go_enter Try.func16, Try.ntmps16
  go_wp2_with fail
  refine (HBa.out _ (by (repeat (first | exact Below.refl _ _ | assumption | refine Below.drew ?_ | refine balloc ?_ _ | refine bset ?_ (by simp; omega) _ | refine bset ?_ (by simp) _ | refine bstep ?_ (by assumption))))).mono ?_
  rintro e w1 ⟨rfl, hb1⟩
  have hB1 : Below w.heap.size w w1 := bstep (by (repeat (first | exact Below.refl _ _ | assumption | refine Below.drew ?_ | refine balloc ?_ _ | refine bset ?_ (by simp; omega) _ | refine bset ?_ (by simp) _ | refine bstep ?_ (by assumption)))) hb1
  have hz1 := hb1.size
  simp at hz1
  have f1 := (bcell hb1).2
  have r0 : w1.cell? ⟨w.heap.size, 0, none⟩ = some (.int .i64 0) := cell_keep hb1 (by simp [go_sem])
  have r1 : w1.cell? ⟨w.heap.size, 1, none⟩ = some (.int .i64 0) := cell_keep hb1 (by simp [go_sem])
  have r2 : w1.cell? ⟨w.heap.size, 2, none⟩ = some (.int .i64 0) := cell_keep hb1 (by simp [go_sem])
  have r3 : w1.cell? ⟨w.heap.size, 3, none⟩ = some (.slice none 0 0) := cell_keep hb1 (by simp [go_sem])
  have r4 : w1.cell? ⟨w.heap.size, 4, none⟩ = some (.slice none 0 0) := cell_keep hb1 (by simp [go_sem])
  have r5 : w1.cell? ⟨w.heap.size, 5, none⟩ = some (.slice none 0 0) := cell_keep hb1 (by simp [go_sem])
  have r6 : w1.cell? ⟨w.heap.size, 6, none⟩ = some (.slice none 0 0) := cell_keep hb1 (by simp [go_sem])
  have r7 : w1.cell? ⟨w.heap.size, 7, none⟩ = some (.slice none 0 0) := cell_keep hb1 (by simp [go_sem])
  have rf : ∀ o, w1.frozen? ⟨w.heap.size, o, none⟩ = false := fun o => by rw [f1 _ _ (by simp)]; simp [go_sem]
  clear hb1 f1 HBa
  by_cases hbf : bf = 0
  rotate_left
  · have HC := HE.out hbf
    have hbf' : (bf != 0) = true := by simp [hbf]
    clear HE HK HX
    go_wp2
    exact bodyPost_ret (v := .agg #[.int .i64 bf, .int .i64 0, .int .i64 0, .slice none 0 0, .slice none 0 0, .slice none 0 0, .slice none 0 0, .slice none 0 0]) (by simp [results, Try.results16, go_sem, r0, r1, r2, r3, r4, r5, r6, r7, rf]) rfl (new_err HC (by (repeat (first | refine bset ?_ (by simp; omega) _ | refine bset ?_ (by simp) _ | refine balloc ?_ _ | assumption))))
  have HC : Hid (newD i bs = ⟨0, 0, shd0 i bs⟩) := HK.out hbf
  rw [hbf]
  clear HE HK hbf
  have hs0 : AppAny (w1.alloc (.cells #[] 80)) (.slice ax bs.length cx) bs.length (balsC bs) := appAny_bals (HX.out _ (by (repeat (first | exact Below.refl _ _ | assumption | refine Below.drew ?_ | refine balloc ?_ _ | refine bset ?_ (by simp; omega) _ | refine bset ?_ (by simp) _ | refine bstep ?_ (by assumption)))))
  have ho0 := World.ownsRow_lit (base := w1.heap.size) (e := 80) (size := 3) w1 #[] 0 (Nat.le_refl _) (by unfold maxLen; omega) rfl
  go_wp2_with (at_builtin; refine wpList_app10B _ rfl _ _ rfl w1.heap.size _ [] rfl _ bs rfl ho0 hs0 ?c1 ?c2 ?_)
  case c1 => simp; omega
  case c2 => simp
  intro v2 w2 ho _ hbel
  have hY := hbel w1 (by (repeat (first | exact Below.refl _ _ | assumption | refine Below.drew ?_ | refine balloc ?_ _ | refine bset ?_ (by simp; omega) _ | refine bset ?_ (by simp) _ | refine bstep ?_ (by assumption))))
  try simp only [List.nil_append] at ho
  obtain ⟨q1, s1, rfl⟩ := owns_form ho
  have hB2 : Below w.heap.size w w2 := bstep hB1 hY
  replace r0 := cell_keep hY r0
  replace r1 := cell_keep hY r1
  replace r2 := cell_keep hY r2
  replace r3 := cell_keep hY r3
  replace r4 := cell_keep hY r4
  replace r5 := cell_keep hY r5
  replace r6 := cell_keep hY r6
  replace r7 := cell_keep hY r7
  replace rf : ∀ o, w2.frozen? ⟨w.heap.size, o, none⟩ = false := fun o => by rw [(bcell hY).2 _ _ (by omega)]; exact rf o
  obtain ⟨F2, h2⟩ := shd0_O (i := i) (show balsR.O w2 w1.heap.size (fun b => (Value.slice q1 bs.length s1).ownBlock = some b) (.slice q1 bs.length s1) bs from ⟨ho, rfl⟩)
  have HO : Hid (shdR.O w2 w1.heap.size F2 (.agg #[.int .i64 i, .slice q1 bs.length s1, .slice none 0 0, .slice none 0 0, .slice none 0 0, .slice none 0 0]) (shd0 i bs)) := h2
  clear h2 ho hs0 ho0 hbel hY
  go_wp2
  refine bodyPost_ret (v := .agg #[.int .i64 0, .int .i64 0, .int .i64 i, .slice q1 bs.length s1, .slice none 0 0, .slice none 0 0, .slice none 0 0, .slice none 0 0]) (by simp [results, Try.results16, go_sem, r0, r1, r2, r3, r4, r5, r6, r7, rf]) rfl ⟨_, F2, rfl, ?_, by (repeat (first | refine bset ?_ (by simp; omega) _ | refine bset ?_ (by simp) _ | refine balloc ?_ _ | assumption))⟩
  rw [HC.out]
  exact ⟨_, _, _, _, _, F2, rfl, shdR.base (set8 shdR HO.out (by omega) _ _ _ _ _ _ _ _) (by omega), fun _ => Iff.rfl⟩
end Go.Proofs.Ytggigaghfcpbbaa


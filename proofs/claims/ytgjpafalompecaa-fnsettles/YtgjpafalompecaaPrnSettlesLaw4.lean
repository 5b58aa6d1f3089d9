import Derived.Test.YtgjpafalompecaaPrnSettlesLaw1
import Derived.BigQuiet
import Derived.Deep.QuietTactic
import Derived.Test.YtgjpafalompecaaPrnSettlesLaw3
import Derived.Test.YtgjpafalompecaaPrnSettlesLaw2

/-
  A leg as a value: the law's own copy and comparison of one leg.
-/
namespace Go.Proofs.Ytgjpafalompecaa
open Go.RowKit
set_option linter.unusedSectionVars false

structure Leg where
  sh : Int
  ac : Int
  ast : Int
  am : Int
variable [DecidableEq Leg] [Inhabited Leg]

def legV (l : Leg) : Value := .agg #[.int .i64 l.sh, .int .i64 l.ac, .int .i64 l.ast, .int .i64 l.am]
end Go.Proofs.Ytgjpafalompecaa

/-
  Contracts of the small functions of chapter 1: a number within bounds, what is asked of one leg, on both sides (specification and program).
-/
namespace Go.Proofs.Ytgjpafalompecaa
open Go.RowKit
set_option linter.unusedSectionVars false
variable [DecidableEq Leg] [Inhabited Leg]

def inB (n lo hi : Int) : Bool := decide (lo ≤ n) && decide (n ≤ hi)
set_option maxHeartbeats 400000 in
theorem l1In_any (n lo hi : Int) (w : World) :
    Calls Try.prog 69 #[.int .i64 n, .int .i64 lo, .int .i64 hi] w fun e w' => e = .returned (.bool (inB n lo hi)) ∧ w' = w := by
  by_cases h1 : lo ≤ n
  all_goals
    go_enter Try.func69, Try.ntmps69
    go_wp2
    go_ret
    exact ⟨by first | (simp [inB, h1]; done) | (simp [inB]; omega), rfl⟩
set_option maxHeartbeats 400000 in
theorem within_any (n lo hi : Int) (w : World) :
    Calls Try.prog 52 #[.int .i64 n, .int .i64 lo, .int .i64 hi] w fun e w' => e = .returned (.bool (inB n lo hi)) ∧ w' = w := by
  by_cases h1 : lo ≤ n
  all_goals
    go_enter Try.func52, Try.ntmps52
    go_wp2
    go_ret
    exact ⟨by first | (simp [inB, h1]; done) | (simp [inB]; omega), rfl⟩
set_option maxHeartbeats 400000 in
theorem l1Id_any (n : Int) (w : World) :
    Calls Try.prog 70 #[.int .i64 n] w fun e w' => e = .returned (.bool (inB n 1 1000000000)) ∧ w' = w := by
  go_enter Try.func70, Try.ntmps70
  go_wp2_with (go_at_call 69; refine (l1In_any _ _ _ _).mono ?_; rintro e w' ⟨rfl, rfl⟩)
  go_ret
  exact ⟨rfl, rfl⟩
set_option maxHeartbeats 400000 in
theorem isId_any (n : Int) (w : World) :
    Calls Try.prog 31 #[.int .i64 n] w fun e w' => e = .returned (.bool (inB n 1 1000000000)) ∧ w' = w := by
  go_enter Try.func31, Try.ntmps31
  go_wp2_with (go_at_call 52; refine (within_any _ _ _ _).mono ?_; rintro e w' ⟨rfl, rfl⟩)
  go_ret
  exact ⟨rfl, rfl⟩
set_option maxHeartbeats 400000 in
theorem isShard_any (n : Int) (w : World) :
    Calls Try.prog 81 #[.int .i64 n] w fun e w' => e = .returned (.bool (inB n 0 2)) ∧ w' = w := by
  go_enter Try.func81, Try.ntmps81
  go_wp2_with (go_at_call 52; refine (within_any _ _ _ _).mono ?_; rintro e w' ⟨rfl, rfl⟩)
  go_ret
  exact ⟨rfl, rfl⟩
set_option maxHeartbeats 400000 in
theorem isAccount_any (n : Int) (w : World) :
    Calls Try.prog 28 #[.int .i64 n] w fun e w' => e = .returned (.bool (inB n 0 5)) ∧ w' = w := by
  go_enter Try.func28, Try.ntmps28
  go_wp2_with (go_at_call 52; refine (within_any _ _ _ _).mono ?_; rintro e w' ⟨rfl, rfl⟩)
  go_ret
  exact ⟨rfl, rfl⟩
set_option maxHeartbeats 400000 in
theorem isAsset_any (n : Int) (w : World) :
    Calls Try.prog 25 #[.int .i64 n] w fun e w' => e = .returned (.bool (inB n 0 2)) ∧ w' = w := by
  go_enter Try.func25, Try.ntmps25
  go_wp2_with (go_at_call 52; refine (within_any _ _ _ _).mono ?_; rintro e w' ⟨rfl, rfl⟩)
  go_ret
  exact ⟨rfl, rfl⟩
def placeB (l : Leg) : Bool := inB l.sh 0 2 && inB l.ac 0 5 && inB l.ast 0 2
def legFault (l : Leg) : Int := if placeB l && inB l.am (-1000000000000) 1000000000000 then (if l.am = 0 then 1 else 0) else 3
set_option maxHeartbeats 400000 in
theorem isPlace_any (l : Leg) (w : World) :
    Calls Try.prog 73 #[legV l] w fun e w' => e = .returned (.bool (placeB l)) ∧ Below w.heap.size w w' := by
  obtain ⟨a, b, c, d⟩ := l
  unfold legV placeB
  go_enter Try.func73, Try.ntmps73
  go_wp2_with (first | (go_at_call 81; refine (isShard_any _ _).mono ?_; rintro e w' ⟨rfl, rfl⟩) | (go_at_call 28; refine (isAccount_any _ _).mono ?_; rintro e w' ⟨rfl, rfl⟩) | (go_at_call 25; refine (isAsset_any _ _).mono ?_; rintro e w' ⟨rfl, rfl⟩))
  all_goals
    go_ret
    exact ⟨by simp [*], (by repeat (first | exact Below.refl _ _ | (refine Below.drew ?_) | (refine Below.alloc ?_ (by first | (simp; done) | (simp; omega)) _)))⟩
set_option maxHeartbeats 400000 in
theorem specLegFault_any (l : Leg) (w : World) :
    Calls Try.prog 71 #[legV l] w fun e w' => e = .returned (.int .i64 (legFault l)) ∧ Below w.heap.size w w' := by
  obtain ⟨a, b, c, d⟩ := l
  unfold legV
  go_enter Try.func71, Try.ntmps71
  go_wp2_with (go_at_call 69; refine (l1In_any _ _ _ _).mono ?_; rintro e w' ⟨rfl, rfl⟩)
  all_goals
    go_ret
    exact ⟨by simp_all [legFault, placeB], (by repeat (first | exact Below.refl _ _ | (refine Below.drew ?_) | (refine Below.alloc ?_ (by first | (simp; done) | (simp; omega)) _)))⟩
set_option maxHeartbeats 400000 in
theorem implLegFault_any (l : Leg) (w : World) :
    Calls Try.prog 53 #[legV l] w fun e w' => e = .returned (.int .i64 (legFault l)) ∧ Below w.heap.size w w' := by
  obtain ⟨a, b, c, d⟩ := l
  unfold legV
  go_enter Try.func53, Try.ntmps53
  go_wp2_with (first | (go_at_call 73; refine (isPlace_any ⟨a, b, c, d⟩ _).mono ?_; rintro e w' ⟨rfl, hb⟩; obtain ⟨hc, hf⟩ := bcell hb) | (go_at_call 52; refine (within_any _ _ _ _).mono ?_; rintro e w' ⟨rfl, rfl⟩))
  all_goals
    go_ret
    exact ⟨by simp_all [legFault], ((Below.refl _ _).alloc (Nat.le_refl _) _).trans (hb.mono (by simp))⟩
set_option maxHeartbeats 400000 in
theorem placeOf_any (l : Leg) (w : World) :
    Calls Try.prog 74 #[legV l] w fun e w' => e = .returned (legV ⟨l.sh, l.ac, l.ast, 0⟩) ∧ Below w.heap.size w w' := by
  obtain ⟨a, b, c, d⟩ := l
  unfold legV
  go_enter Try.func74, Try.ntmps74
  go_wp2
  exact bodyPost_ret (v := .agg #[.int .i64 a, .int .i64 b, .int .i64 c, .int .i64 0]) (by simp [results, Try.results74, go_sem]) rfl ⟨rfl, (by repeat (first | exact Below.refl _ _ | (refine Below.drew ?_) | (refine Below.alloc ?_ (by first | (simp; done) | (simp; omega)) _)))⟩
end Go.Proofs.Ytgjpafalompecaa

/-
  Chapter 2 in plain mathematics: faults of balances and ledgers, what is had, totals, what can be settled.
-/
namespace Go.Proofs.Ytgjpafalompecaa
open Go.RowKit
set_option linter.unusedSectionVars false
variable [DecidableEq Bal] [Inhabited Bal] [DecidableEq Ledg] [Inhabited Ledg] [DecidableEq Leg] [Inhabited Leg]

theorem wrapId {n : Int} (h0 : -9223372036854775808 ≤ n) (h1 : n ≤ 9223372036854775807) : IntKind.i64.wrap n = n := by
  rw [IntKind.wrap_i64]; omega
theorem bdrewN {B : Nat} {w Y : World} (h : Below B w Y) (n : Nat) : Below B w (Y.drewN n) := h.trans ⟨rfl, rfl, rfl, Nat.le_refl _, fun _ _ => rfl⟩
def scanI (f : Nat → Int) : Nat → Int
  | 0 => 0
  | n + 1 => if scanI f n = 0 then f n else scanI f n
theorem scanI_succ {f : Nat → Int} {k : Nat} (h : scanI f k = 0) (h' : f k = 0) : scanI f (k + 1) = 0 := by simp [scanI, h, h']
theorem scanI_hit {f : Nat → Int} {k : Nat} (h : scanI f k = 0) (h' : f k ≠ 0) : ∀ n, k < n → scanI f n = f k
  | 0, hn => by omega
  | n + 1, hn => by
    by_cases e : k = n
    · subst e; simp [scanI, h]
    · have := scanI_hit h h' n (by omega)
      simp [scanI, this, h']
theorem scanI_zero {f : Nat → Int} : ∀ {n : Nat}, scanI f n = 0 → ∀ k, k < n → f k = 0
  | 0, _, k, hk => by omega
  | n + 1, h, k, hk => by
    unfold scanI at h
    split at h
    · rename_i h1
      by_cases e : k = n
      · subst e; exact h
      · exact scanI_zero h1 k (by omega)
    · exact absurd h (by assumption)
theorem scanI_of {f : Nat → Int} : ∀ {n : Nat}, (∀ k, k < n → f k = 0) → scanI f n = 0
  | 0, _ => rfl
  | n + 1, h => scanI_succ (scanI_of (fun k hk => h k (by omega))) (h n (by omega))
def keyOk (ac ast : Int) : Bool := inB ac 0 5 && inB ast 0 2
def balOk (x : Bal) : Bool := keyOk x.ac x.ast && inB x.am 1 1000000000000
def behind (b a : Bal) : Bool := if b.ac = a.ac then decide (a.ast < b.ast) else decide (a.ac < b.ac)
def balAt (xs : List Bal) (k : Nat) : Int := if balOk (xs.getD k default) then (if 0 < k ∧ behind (xs.getD k default) (xs.getD (k - 1) default) = false then 1 else 0) else 3
def balFault (xs : List Bal) : Int := if 18 < xs.length then 2 else scanI (balAt xs) xs.length
def ledAt (g : Ledg) (k : Nat) : Int := balFault (g.shards.getD k default)
def ledFault (g : Ledg) : Int := if g.shards.length < 1 ∨ 3 < g.shards.length then 2 else scanI (ledAt g) g.shards.length
theorem inBi {n lo hi : Int} : inB n lo hi = true ↔ lo ≤ n ∧ n ≤ hi := by simp [inB]
theorem keyOk_iff {a s : Int} : keyOk a s = true ↔ (0 ≤ a ∧ a ≤ 5) ∧ (0 ≤ s ∧ s ≤ 2) := by simp [keyOk, inBi]
theorem balOk_iff {x : Bal} : balOk x = true ↔ ((0 ≤ x.ac ∧ x.ac ≤ 5) ∧ (0 ≤ x.ast ∧ x.ast ≤ 2)) ∧ (1 ≤ x.am ∧ x.am ≤ 1000000000000) := by simp [balOk, keyOk_iff, inBi]
theorem behind_iff {b a : Bal} (hb : keyOk b.ac b.ast = true) (ha : keyOk a.ac a.ast = true) : behind b a = false ↔ b.ac * 3 + b.ast ≤ a.ac * 3 + a.ast := by
  obtain ⟨⟨_, _⟩, _, _⟩ := keyOk_iff.1 hb
  obtain ⟨⟨_, _⟩, _, _⟩ := keyOk_iff.1 ha
  unfold behind
  split <;> simp <;> omega
theorem balOk_key {x : Bal} (h : balOk x = true) : keyOk x.ac x.ast = true := by
  rw [balOk, Bool.and_eq_true] at h; exact h.1
structure BalsOk (xs : List Bal) : Prop where
  len : xs.length ≤ 18
  ok : ∀ k, k < xs.length → balOk (xs.getD k default) = true
  ord : ∀ k, k + 1 < xs.length → behind (xs.getD (k + 1) default) (xs.getD k default) = true
theorem balsOk_of {xs : List Bal} (h : balFault xs = 0) : BalsOk xs := by
  unfold balFault at h
  split at h
  · omega
  · have hz := scanI_zero h
    refine ⟨by omega, fun k hk => ?_, fun k hk => ?_⟩
    · have := hz k hk
      unfold balAt at this
      split at this
      · assumption
      · omega
    · have := hz (k + 1) hk
      unfold balAt at this
      split at this
      · split at this
        · omega
        · rename_i h1 h2
          simp at h2
          simpa using h2
      · omega
theorem ledOk_of {g : Ledg} (h : ledFault g = 0) : 1 ≤ g.shards.length ∧ g.shards.length ≤ 3 ∧ ∀ k, k < g.shards.length → BalsOk (g.shards.getD k default) := by
  unfold ledFault at h
  split at h
  · omega
  · exact ⟨by omega, by omega, fun k hk => balsOk_of (scanI_zero h k hk)⟩
def hasB (a s : Int) : List Bal → Int
  | [] => 0
  | x :: r => if x.ac = a ∧ x.ast = s then x.am else hasB a s r
theorem drop_get (xs : List Bal) (k : Nat) (h : k < xs.length) : xs.drop k = xs.getD k default :: xs.drop (k + 1) := by
  rw [List.drop_eq_getElem_cons h]; simp [List.getD, h]
theorem hasB_drop {a s : Int} {xs : List Bal} {k : Nat} (h : k < xs.length) : hasB a s (xs.drop k) = if (xs.getD k default).ac = a ∧ (xs.getD k default).ast = s then (xs.getD k default).am else hasB a s (xs.drop (k + 1)) := by
  rw [drop_get xs k h]; rfl
def balCode (g : Ledg) (s a t : Int) : Int := if ledFault g = 0 then (if inB s 0 (g.shards.length - 1) && keyOk a t then 0 else 3) else ledFault g
def balVal (g : Ledg) (s a t : Int) : Int := if ledFault g = 0 ∧ (inB s 0 (g.shards.length - 1) && keyOk a t) = true then hasB a t (g.shards.getD s.toNat default) else 0
def sumB (t : Int) : List Bal → Int
  | [] => 0
  | x :: r => (if x.ast = t then x.am else 0) + sumB t r
def sumG (t : Int) : List (List Bal) → Int
  | [] => 0
  | x :: r => sumB t x + sumG t r
def totCode (g : Ledg) (t : Int) : Int := if ledFault g = 0 then (if inB t 0 2 then 0 else 3) else ledFault g
def totVal (g : Ledg) (t : Int) : Int := if ledFault g = 0 ∧ inB t 0 2 = true then sumG t g.shards else 0
end Go.Proofs.Ytgjpafalompecaa

/-
  compareKeys: keys of the ledger's book, compared place by place.
-/
namespace Go.Proofs.Ytgjpafalompecaa
open Go.RowKit
set_option linter.unusedSectionVars false
variable [DecidableEq Rw] [Inhabited Rw] [DecidableEq Bal] [Inhabited Bal] [DecidableEq Ledg] [Inhabited Ledg] [DecidableEq Leg] [Inhabited Leg]
set_option linter.unusedVariables false
set_option linter.unusedSimpArgs false
attribute [local go_sem ↓] Go.wp_at_zero Go.wp_at_succ

def cmpTo (x y : Nat → Int) : Nat → Int
  | 0 => 0
  | k + 1 => if cmpTo x y k = 0 then cmpI (x k) (y k) else cmpTo x y k
set_option maxRecDepth 20000 in
set_option maxHeartbeats 4000000 in
theorem slicesCompare_any (W : World) (b1 b2 : Nat) (x y : Nat → Int) (hx : ∀ i, i < 3 → W.cell? ⟨b1, i, none⟩ = some (.int .i64 (x i))) (hy : ∀ i, i < 3 → W.cell? ⟨b2, i, none⟩ = some (.int .i64 (y i))) :
    Calls Try.prog 67 #[.slice (some ⟨b1, 0, none⟩) 3 3, .slice (some ⟨b2, 0, none⟩) 3 3] W fun e w' => e = .returned (.int .i64 (cmpTo x y 3)) ∧ w' = W := by
  have HX : Hid (∀ i, i < 3 → W.cell? ⟨b1, i, none⟩ = some (.int .i64 (x i))) := hx
  have HY : Hid (∀ i, i < 3 → W.cell? ⟨b2, i, none⟩ = some (.int .i64 (y i))) := hy
  clear hx hy
  go_enter Try.func67, Try.ntmps67
  go_wp2
  go_loopw [11] (fun i w' => ∃ k : Nat, k ≤ 3 ∧ i = .int .i64 k ∧ Hid (cmpTo x y k = 0) ∧ w' = W) (fun i _ => 3 - (intOf i).toNat)
  case atStart => exact ⟨0, by omega, rfl, rfl, rfl⟩
  case round =>
    obtain ⟨k, hk, rfl, HC, rfl⟩ := hrel
    by_cases hk3 : k < 3
    · have hk' : (k : Int) < 3 := by omega
      have hk0 : (0 : Int) ≤ k := by omega
      have hk1 : ¬ ((3 : Int) ≤ k) := by omega
      have hwk : IntKind.i64.wrap ((k : Int) + 1) = (k : Int) + 1 := wrapId (by omega) (by omega)
      have g1 := HX.out k hk3
      have g2 := HY.out k hk3
      have HS : Hid (cmpTo x y (k + 1) = cmpI (x k) (y k)) := by unfold Hid; rw [cmpTo, if_pos HC.out]
      generalize x k = xk at *
      generalize y k = yk at *
      by_cases hz : cmpI xk yk = 0
      · have HC' : Hid (cmpTo x y (k + 1) = 0) := by rw [Hid, HS.out]; exact hz
        go_wp2_with fail
        refine (cmpCompare_any xk yk _).mono ?_
        rintro e w' ⟨rfl, hw⟩
        obtain rfl := hw.symm
        rw [hz]
        go_wp2
        exact ⟨⟨k + 1, by omega, by go_num, HC', by trivial⟩, by simp [intOf]; omega⟩
      · have HE : Hid (cmpTo x y 3 = cmpI xk yk) := by
          have key : ∀ d, k + 1 + d ≤ 3 → cmpTo x y (k + 1 + d) = cmpI xk yk := by
            intro d
            induction d with
            | zero => intro _; exact HS.out
            | succ d ih =>
              intro h
              have := ih (by omega)
              rw [show k + 1 + (d + 1) = (k + 1 + d) + 1 by omega, cmpTo, if_neg (by rw [this]; exact hz), this]
          have := key (2 - k) (by omega)
          rw [show k + 1 + (2 - k) = 3 by omega] at this
          exact this
        go_wp2_with fail
        refine (cmpCompare_any xk yk _).mono ?_
        rintro e w' ⟨rfl, hw⟩
        obtain rfl := hw.symm
        generalize cmpI xk yk = r at *
        go_wp2
        go_ret
        exact ⟨by rw [HE.out]; rfl, by trivial⟩
    · have hk3' : k = 3 := by omega
      subst hk3'
      go_wp2
      go_ret
      exact ⟨by rw [HC.out]; rfl, by trivial⟩
def k3 (s a t : Int) (i : Nat) : Int := if i = 0 then s else if i = 1 then a else t
set_option maxRecDepth 20000 in
set_option maxHeartbeats 4000000 in
theorem compareKeys_any (s a t s' a' t' : Int) (W : World) :
    Calls Try.prog 47 #[kv s a t, kv s' a' t'] W fun e w' => e = .returned (.int .i64 (cmpTo (k3 s a t) (k3 s' a' t') 3)) ∧ w' = ((W.alloc (.cells #[.int .i64 s, .int .i64 a, .int .i64 t] 64)).alloc (.cells #[.int .i64 s', .int .i64 a', .int .i64 t'] 64)).drew := by
  unfold kv
  go_enter Try.func47, Try.ntmps47
  go_wp2
  refine wp_region_noPanic ?_
  refine region_upto (fun W' => W' = ((W.alloc (.cells #[.int .i64 s, .int .i64 a, .int .i64 t] 64)).alloc (.cells #[.int .i64 s', .int .i64 a', .int .i64 t'] 64)).drew) 4 (by kernel_rfl) rfl (fun hS => ?_)
  refine upto_takeN (i := 0) (v := ?_) rfl (by kernel_rfl) (by kernel_rfl) (by kernel_rfl) (by kernel_rfl) (fun _ _ _ h => h) (by rfl) hS ?_ ?_
  rotate_left
  · intro wS hSw
    try dsimp only at hSw
    first | (go_simp; done) | (go_simp; with_reducible rfl)
  try simp only [Act.put, List.getElem_toArray, List.getElem_cons_zero, List.getElem_cons_succ, List.setIfInBounds_toArray, List.set_cons_zero, List.set_cons_succ]
  refine upto_takeN (i := 1) (v := ?_) rfl (by kernel_rfl) (by kernel_rfl) (by kernel_rfl) (by kernel_rfl) (fun _ _ _ h => h) (by rfl) hS ?_ ?_
  rotate_left
  · intro wS hSw
    try dsimp only at hSw
    first | (go_simp; done) | (go_simp; with_reducible rfl)
  try simp only [Act.put, List.getElem_toArray, List.getElem_cons_zero, List.getElem_cons_succ, List.setIfInBounds_toArray, List.set_cons_zero, List.set_cons_succ]
  refine upto_step (i := 2) (by kernel_rfl) rfl ?_
  intro K hK
  go_simp
  refine (slicesCompare_any _ W.heap.size (W.heap.size + 1) (k3 s a t) (k3 s' a' t') ?_ ?_).mono ?_
  · intro i hi
    match i, hi with
    | 0, _ => simp [go_sem, k3]
    | 1, _ => simp [go_sem, k3]
    | 2, _ => simp [go_sem, k3]
  · intro i hi
    match i, hi with
    | 0, _ => simp [go_sem, k3]
    | 1, _ => simp [go_sem, k3]
    | 2, _ => simp [go_sem, k3]
  rintro e w' ⟨rfl, hw⟩
  refine hK _ _ (fun _ => hw) ?_
  clear hK K
  obtain ⟨r, hr⟩ : ∃ r, cmpTo (k3 s a t) (k3 s' a' t') 3 = r := ⟨_, rfl⟩
  have HR : Hid (cmpTo (k3 s a t) (k3 s' a' t') 3 = r) := hr
  rw [hr]
  clear hr
  try simp only [Act.put, List.getElem_toArray, List.getElem_cons_zero, List.getElem_cons_succ, List.setIfInBounds_toArray, List.set_cons_zero, List.set_cons_succ]
  refine upto_step (i := 3) (by kernel_rfl) rfl ?_
  intro K hK
  go_simp
  refine hK _ _ (fun _ => by first | rfl | exact hw) ?_
  clear hK K
  refine upto_done (by kernel_rfl) ?_
  refine NoPanic.normal ?_
  go_wp2
  go_ret
  exact ⟨by rw [HR.out]; rfl, by first | rfl | exact hw⟩
end Go.Proofs.Ytgjpafalompecaa


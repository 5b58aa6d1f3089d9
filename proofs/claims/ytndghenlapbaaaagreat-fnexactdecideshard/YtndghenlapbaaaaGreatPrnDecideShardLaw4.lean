import Derived.Test.YtndghenlapbaaaaGreatPrnDecideShardLaw1
import Derived.BigQuiet
import Derived.Deep.QuietTactic
import Derived.Test.YtndghenlapbaaaaGreatPrnDecideShardLaw3
import Derived.Test.YtndghenlapbaaaaGreatPrnDecideShardLaw2
set_option linter.unusedSectionVars false
set_option linter.unusedVariables false
set_option linter.unusedSimpArgs false

/-
 A leg as a value: the law's own copy and comparison of one leg.
-/
namespace Go.Proofs.YtndghenlapbaaaaGreat
open Go.RowKit

structure Leg where
 sh : Int
 ac : Int
 ast : Int
 am : Int
variable [DecidableEq Leg] [Inhabited Leg]

def legV (l : Leg) : Value := .agg #[.int .i64 l.sh, .int .i64 l.ac, .int .i64 l.ast, .int .i64 l.am]
set_option maxHeartbeats 400000 in
theorem toLeg_any (l : Leg) (w : World) :
  Calls Tryz.prog 71 #[legV l] w fun e w' => e = .returned (legV l) ∧ Below w.heap.size w w' := by
 obtain ⟨a, b, c, d⟩ := l
 unfold legV
 go_enter Tryz.func71, Tryz.ntmps71
 go_wp2
 exact bodyPost_ret (v := .agg #[.int .i64 a, .int .i64 b, .int .i64 c, .int .i64 d]) (by simp [results, Tryz.results71, go_sem]) rfl ⟨rfl, (by repeat (first | exact Below.refl _ _ | (refine Below.drew ?_) | (refine Below.alloc ?_ (by first | (simp; done) | (simp; omega)) _)))⟩
set_option maxHeartbeats 400000 in
theorem eqLeg_any (x y : Leg) (w : World) :
  Calls Tryz.prog 86 #[legV x, legV y] w fun e w' => e = .returned (.bool (decide (x = y))) ∧ Below w.heap.size w w' := by
 obtain ⟨a, b, c, d⟩ := x
 obtain ⟨a', b', c', d'⟩ := y
 unfold legV
 go_enter Tryz.func86, Tryz.ntmps86
 go_wp2
 all_goals
  go_ret
  exact ⟨by simp_all, (by repeat (first | exact Below.refl _ _ | (refine Below.drew ?_) | (refine Below.alloc ?_ (by first | (simp; done) | (simp; omega)) _)))⟩
end Go.Proofs.YtndghenlapbaaaaGreat

/-
 Contracts of the small functions of chapter 1: a number within bounds, what is asked of one leg, on both sides (specification and program).
-/
namespace Go.Proofs.YtndghenlapbaaaaGreat
open Go.RowKit
variable [DecidableEq Leg] [Inhabited Leg]

def inB (n lo hi : Int) : Bool := decide (lo ≤ n) && decide (n ≤ hi)
set_option maxHeartbeats 400000 in
theorem l1In_any (n lo hi : Int) (w : World) :
  Calls Tryz.prog 53 #[.int .i64 n, .int .i64 lo, .int .i64 hi] w fun e w' => e = .returned (.bool (inB n lo hi)) ∧ w' = w := by
 by_cases h1 : lo ≤ n
 all_goals
  go_enter Tryz.func53, Tryz.ntmps53
  go_wp2
  go_ret
  exact ⟨by first | (simp [inB, h1]; done) | (simp [inB]; omega), rfl⟩
set_option maxHeartbeats 400000 in
theorem within_any (n lo hi : Int) (w : World) :
  Calls Tryz.prog 95 #[.int .i64 n, .int .i64 lo, .int .i64 hi] w fun e w' => e = .returned (.bool (inB n lo hi)) ∧ w' = w := by
 by_cases h1 : lo ≤ n
 all_goals
  go_enter Tryz.func95, Tryz.ntmps95
  go_wp2
  go_ret
  exact ⟨by first | (simp [inB, h1]; done) | (simp [inB]; omega), rfl⟩
set_option maxHeartbeats 400000 in
theorem l1Id_any (n : Int) (w : World) :
  Calls Tryz.prog 52 #[.int .i64 n] w fun e w' => e = .returned (.bool (inB n 1 1000000000)) ∧ w' = w := by
 go_enter Tryz.func52, Tryz.ntmps52
 go_wp2_with (go_at_call 53; refine (l1In_any _ _ _ _).mono ?_; rintro e w' ⟨rfl, rfl⟩)
 go_ret
 exact ⟨rfl, rfl⟩
set_option maxHeartbeats 400000 in
theorem isId_any (n : Int) (w : World) :
  Calls Tryz.prog 56 #[.int .i64 n] w fun e w' => e = .returned (.bool (inB n 1 1000000000)) ∧ w' = w := by
 go_enter Tryz.func56, Tryz.ntmps56
 go_wp2_with (go_at_call 95; refine (within_any _ _ _ _).mono ?_; rintro e w' ⟨rfl, rfl⟩)
 go_ret
 exact ⟨rfl, rfl⟩
set_option maxHeartbeats 400000 in
theorem isShard_any (n : Int) (w : World) :
  Calls Tryz.prog 143 #[.int .i64 n] w fun e w' => e = .returned (.bool (inB n 0 2)) ∧ w' = w := by
 go_enter Tryz.func143, Tryz.ntmps143
 go_wp2_with (go_at_call 95; refine (within_any _ _ _ _).mono ?_; rintro e w' ⟨rfl, rfl⟩)
 go_ret
 exact ⟨rfl, rfl⟩
set_option maxHeartbeats 400000 in
theorem isAccount_any (n : Int) (w : World) :
  Calls Tryz.prog 155 #[.int .i64 n] w fun e w' => e = .returned (.bool (inB n 0 5)) ∧ w' = w := by
 go_enter Tryz.func155, Tryz.ntmps155
 go_wp2_with (go_at_call 95; refine (within_any _ _ _ _).mono ?_; rintro e w' ⟨rfl, rfl⟩)
 go_ret
 exact ⟨rfl, rfl⟩
set_option maxHeartbeats 400000 in
theorem isAsset_any (n : Int) (w : World) :
  Calls Tryz.prog 156 #[.int .i64 n] w fun e w' => e = .returned (.bool (inB n 0 2)) ∧ w' = w := by
 go_enter Tryz.func156, Tryz.ntmps156
 go_wp2_with (go_at_call 95; refine (within_any _ _ _ _).mono ?_; rintro e w' ⟨rfl, rfl⟩)
 go_ret
 exact ⟨rfl, rfl⟩
def placeB (l : Leg) : Bool := inB l.sh 0 2 && inB l.ac 0 5 && inB l.ast 0 2
def legFault (l : Leg) : Int := if placeB l && inB l.am (-1000000000000) 1000000000000 then (if l.am = 0 then 1 else 0) else 3
set_option maxHeartbeats 400000 in
theorem isPlace_any (l : Leg) (w : World) :
  Calls Tryz.prog 135 #[legV l] w fun e w' => e = .returned (.bool (placeB l)) ∧ Below w.heap.size w w' := by
 obtain ⟨a, b, c, d⟩ := l
 unfold legV placeB
 go_enter Tryz.func135, Tryz.ntmps135
 go_wp2_with (first | (go_at_call 143; refine (isShard_any _ _).mono ?_; rintro e w' ⟨rfl, rfl⟩) | (go_at_call 155; refine (isAccount_any _ _).mono ?_; rintro e w' ⟨rfl, rfl⟩) | (go_at_call 156; refine (isAsset_any _ _).mono ?_; rintro e w' ⟨rfl, rfl⟩))
 all_goals
  go_ret
  exact ⟨by simp [*], (by repeat (first | exact Below.refl _ _ | (refine Below.drew ?_) | (refine Below.alloc ?_ (by first | (simp; done) | (simp; omega)) _)))⟩
set_option maxHeartbeats 400000 in
theorem specLegFault_any (l : Leg) (w : World) :
  Calls Tryz.prog 63 #[legV l] w fun e w' => e = .returned (.int .i64 (legFault l)) ∧ Below w.heap.size w w' := by
 obtain ⟨a, b, c, d⟩ := l
 unfold legV
 go_enter Tryz.func63, Tryz.ntmps63
 go_wp2_with (go_at_call 53; refine (l1In_any _ _ _ _).mono ?_; rintro e w' ⟨rfl, rfl⟩)
 all_goals
  go_ret
  exact ⟨by simp_all [legFault, placeB], (by repeat (first | exact Below.refl _ _ | (refine Below.drew ?_) | (refine Below.alloc ?_ (by first | (simp; done) | (simp; omega)) _)))⟩
set_option maxHeartbeats 400000 in
theorem implLegFault_any (l : Leg) (w : World) :
  Calls Tryz.prog 104 #[legV l] w fun e w' => e = .returned (.int .i64 (legFault l)) ∧ Below w.heap.size w w' := by
 obtain ⟨a, b, c, d⟩ := l
 unfold legV
 go_enter Tryz.func104, Tryz.ntmps104
 go_wp2_with (first | (go_at_call 135; refine (isPlace_any ⟨a, b, c, d⟩ _).mono ?_; rintro e w' ⟨rfl, hb⟩; obtain ⟨hc, hf⟩ := bcell hb) | (go_at_call 95; refine (within_any _ _ _ _).mono ?_; rintro e w' ⟨rfl, rfl⟩))
 all_goals
  go_ret
  exact ⟨by simp_all [legFault], ((Below.refl _ _).alloc (Nat.le_refl _) _).trans (hb.mono (by simp))⟩
set_option maxHeartbeats 400000 in
theorem placeOf_any (l : Leg) (w : World) :
  Calls Tryz.prog 136 #[legV l] w fun e w' => e = .returned (legV ⟨l.sh, l.ac, l.ast, 0⟩) ∧ Below w.heap.size w w' := by
 obtain ⟨a, b, c, d⟩ := l
 unfold legV
 go_enter Tryz.func136, Tryz.ntmps136
 go_wp2
 exact bodyPost_ret (v := .agg #[.int .i64 a, .int .i64 b, .int .i64 c, .int .i64 0]) (by simp [results, Tryz.results136, go_sem]) rfl ⟨rfl, (by repeat (first | exact Below.refl _ _ | (refine Below.drew ?_) | (refine Below.alloc ?_ (by first | (simp; done) | (simp; omega)) _)))⟩
end Go.Proofs.YtndghenlapbaaaaGreat

/-
 Chapter 2 in plain mathematics: faults of balances and ledgers, what is had, totals, what can be settled.
-/
namespace Go.Proofs.YtndghenlapbaaaaGreat
open Go.RowKit
variable [DecidableEq Bal] [Inhabited Bal] [DecidableEq Ledg] [Inhabited Ledg] [DecidableEq Leg] [Inhabited Leg]

theorem wrapId {n : Int} (h0 : -9223372036854775808 ≤ n) (h1 : n ≤ 9223372036854775807) : IntKind.i64.wrap n = n := by
 rw [IntKind.wrap_i64]; omega
theorem bdrewN {B : Nat} {w Y : World} (h : Below B w Y) (n : Nat) : Below B w (Y.drewN n) := h.trans ⟨rfl, rfl, rfl, Nat.le_refl _, fun _ _ => rfl⟩
def scanI (f : Nat → Int) : Nat → Int
 | 0 => 0
 | n + 1 => if scanI f n = 0 then f n else scanI f n
theorem scanI_succ {f : Nat → Int} {k : Nat} (h : scanI f k = 0) (h' : f k = 0) : scanI f (k + 1) = 0 := by simp [scanI, h, h']
theorem scanI_hit {f : Nat → Int} {k : Nat} (h : scanI f k = 0) (h' : f k ≠ 0) : ∀ n, k < n → scanI f n = f k
 | 0, hn => by omega
 | n + 1, hn => by
  by_cases e : k = n
  ·
   subst e; simp [scanI, h]
  ·
   have := scanI_hit h h' n (by omega)
   simp [scanI, this, h']
theorem scanI_zero {f : Nat → Int} : ∀ {n : Nat}, scanI f n = 0 → ∀ k, k < n → f k = 0
 | 0, _, k, hk => by omega
 | n + 1, h, k, hk => by
  unfold scanI at h
  split at h
  ·
   rename_i h1
   by_cases e : k = n
   ·
    subst e; exact h
   ·
    exact scanI_zero h1 k (by omega)
  ·
   exact absurd h (by assumption)
theorem scanI_of {f : Nat → Int} : ∀ {n : Nat}, (∀ k, k < n → f k = 0) → scanI f n = 0
 | 0, _ => rfl
 | n + 1, h => scanI_succ (scanI_of (fun k hk => h k (by omega))) (h n (by omega))
def keyOk (ac ast : Int) : Bool := inB ac 0 5 && inB ast 0 2
def balOk (x : Bal) : Bool := keyOk x.ac x.ast && inB x.am 1 1000000000000
def behind (b a : Bal) : Bool := if b.ac = a.ac then decide (a.ast < b.ast) else decide (a.ac < b.ac)
def balAt (xs : List Bal) (k : Nat) : Int := if balOk (xs.getD k default) then (if 0 < k ∧ behind (xs.getD k default) (xs.getD (k - 1) default) = false then 1 else 0) else 3
def balFault (xs : List Bal) : Int := if 18 < xs.length then 2 else scanI (balAt xs) xs.length
def ledAt (g : Ledg) (k : Nat) : Int := balFault (g.shards.getD k default)
def ledFault (g : Ledg) : Int := if g.shards.length < 1 ∨ 3 < g.shards.length then 2 else scanI (ledAt g) g.shards.length
theorem inBi {n lo hi : Int} : inB n lo hi = true ↔ lo ≤ n ∧ n ≤ hi := by simp [inB]
theorem keyOk_iff {a s : Int} : keyOk a s = true ↔ (0 ≤ a ∧ a ≤ 5) ∧ (0 ≤ s ∧ s ≤ 2) := by simp [keyOk, inBi]
theorem balOk_iff {x : Bal} : balOk x = true ↔ ((0 ≤ x.ac ∧ x.ac ≤ 5) ∧ (0 ≤ x.ast ∧ x.ast ≤ 2)) ∧ (1 ≤ x.am ∧ x.am ≤ 1000000000000) := by simp [balOk, keyOk_iff, inBi]
theorem behind_iff {b a : Bal} (hb : keyOk b.ac b.ast = true) (ha : keyOk a.ac a.ast = true) : behind b a = false ↔ b.ac * 3 + b.ast ≤ a.ac * 3 + a.ast := by
 obtain ⟨⟨_, _⟩, _, _⟩ := keyOk_iff.1 hb
 obtain ⟨⟨_, _⟩, _, _⟩ := keyOk_iff.1 ha
 unfold behind
 split <;> simp <;> omega
theorem balOk_key {x : Bal} (h : balOk x = true) : keyOk x.ac x.ast = true := by
 rw [balOk, Bool.and_eq_true] at h; exact h.1
structure BalsOk (xs : List Bal) : Prop where
 len : xs.length ≤ 18
 ok : ∀ k, k < xs.length → balOk (xs.getD k default) = true
 ord : ∀ k, k + 1 < xs.length → behind (xs.getD (k + 1) default) (xs.getD k default) = true
theorem balsOk_of {xs : List Bal} (h : balFault xs = 0) : BalsOk xs := by
 unfold balFault at h
 split at h
 ·
  omega
 ·
  have hz := scanI_zero h
  refine ⟨by omega, fun k hk => ?_, fun k hk => ?_⟩
  ·
   have := hz k hk
   unfold balAt at this
   split at this
   ·
    assumption
   ·
    omega
  ·
   have := hz (k + 1) hk
   unfold balAt at this
   split at this
   ·
    split at this
    ·
     omega
    ·
     rename_i h1 h2
     simp at h2
     simpa using h2
   ·
    omega
theorem ledOk_of {g : Ledg} (h : ledFault g = 0) : 1 ≤ g.shards.length ∧ g.shards.length ≤ 3 ∧ ∀ k, k < g.shards.length → BalsOk (g.shards.getD k default) := by
 unfold ledFault at h
 split at h
 ·
  omega
 ·
  exact ⟨by omega, by omega, fun k hk => balsOk_of (scanI_zero h k hk)⟩
def hasB (a s : Int) : List Bal → Int
 | [] => 0
 | x :: r => if x.ac = a ∧ x.ast = s then x.am else hasB a s r
theorem drop_get (xs : List Bal) (k : Nat) (h : k < xs.length) : xs.drop k = xs.getD k default :: xs.drop (k + 1) := by
 rw [List.drop_eq_getElem_cons h]; simp [List.getD, h]
theorem hasB_drop {a s : Int} {xs : List Bal} {k : Nat} (h : k < xs.length) : hasB a s (xs.drop k) = if (xs.getD k default).ac = a ∧ (xs.getD k default).ast = s then (xs.getD k default).am else hasB a s (xs.drop (k + 1)) := by
 rw [drop_get xs k h]; rfl
end Go.Proofs.YtndghenlapbaaaaGreat

/-
 compareKeys: keys of the ledger's book, compared place by place.
-/
namespace Go.Proofs.YtndghenlapbaaaaGreat
open Go.RowKit
variable [DecidableEq Rw] [Inhabited Rw] [DecidableEq Bal] [Inhabited Bal] [DecidableEq Ledg] [Inhabited Ledg] [DecidableEq Leg] [Inhabited Leg]
attribute [local go_sem ↓] Go.wp_at_zero Go.wp_at_succ

def cmpTo (x y : Nat → Int) : Nat → Int
 | 0 => 0
 | k + 1 => if cmpTo x y k = 0 then cmpI (x k) (y k) else cmpTo x y k
set_option maxRecDepth 20000 in
set_option maxHeartbeats 4000000 in
theorem slicesCompare_any (W : World) (b1 b2 : Nat) (x y : Nat → Int) (hx : ∀ i, i < 3 → W.cell? ⟨b1, i, none⟩ = some (.int .i64 (x i))) (hy : ∀ i, i < 3 → W.cell? ⟨b2, i, none⟩ = some (.int .i64 (y i))) :
  Calls Tryz.prog 154 #[.slice (some ⟨b1, 0, none⟩) 3 3, .slice (some ⟨b2, 0, none⟩) 3 3] W fun e w' => e = .returned (.int .i64 (cmpTo x y 3)) ∧ w' = W := by
 have HX : Hid (∀ i, i < 3 → W.cell? ⟨b1, i, none⟩ = some (.int .i64 (x i))) := hx
 have HY : Hid (∀ i, i < 3 → W.cell? ⟨b2, i, none⟩ = some (.int .i64 (y i))) := hy
 clear hx hy
 go_enter Tryz.func154, Tryz.ntmps154
 go_wp2
 go_loopw [11] (fun i w' => ∃ k : Nat, k ≤ 3 ∧ i = .int .i64 k ∧ Hid (cmpTo x y k = 0) ∧ w' = W) (fun i _ => 3 - (intOf i).toNat)
 case atStart => exact ⟨0, by omega, rfl, rfl, rfl⟩
 case round =>
  obtain ⟨k, hk, rfl, HC, rfl⟩ := hrel
  by_cases hk3 : k < 3
  ·
   have hk' : (k : Int) < 3 := by omega
   have hk0 : (0 : Int) ≤ k := by omega
   have hk1 : ¬ ((3 : Int) ≤ k) := by omega
   have hwk : IntKind.i64.wrap ((k : Int) + 1) = (k : Int) + 1 := wrapId (by omega) (by omega)
   have g1 := HX.out k hk3
   have g2 := HY.out k hk3
   have HS : Hid (cmpTo x y (k + 1) = cmpI (x k) (y k)) := by unfold Hid; rw [cmpTo, if_pos HC.out]
   generalize x k = xk at *
   generalize y k = yk at *
   by_cases hz : cmpI xk yk = 0
   ·
    have HC' : Hid (cmpTo x y (k + 1) = 0) := by rw [Hid, HS.out]; exact hz
    go_wp2_with fail
    refine (cmpCompare_any xk yk _).mono ?_
    rintro e w' ⟨rfl, hw⟩
    obtain rfl := hw.symm
    rw [hz]
    go_wp2
    exact ⟨⟨k + 1, by omega, by go_num, HC', by trivial⟩, by simp [intOf]; omega⟩
   ·
    have HE : Hid (cmpTo x y 3 = cmpI xk yk) := by
     have key : ∀ d, k + 1 + d ≤ 3 → cmpTo x y (k + 1 + d) = cmpI xk yk := by
      intro d
      induction d with
      | zero => intro _; exact HS.out
      | succ d ih =>
       intro h
       have := ih (by omega)
       rw [show k + 1 + (d + 1) = (k + 1 + d) + 1 by omega, cmpTo, if_neg (by rw [this]; exact hz), this]
     have := key (2 - k) (by omega)
     rw [show k + 1 + (2 - k) = 3 by omega] at this
     exact this
    go_wp2_with fail
    refine (cmpCompare_any xk yk _).mono ?_
    rintro e w' ⟨rfl, hw⟩
    obtain rfl := hw.symm
    generalize cmpI xk yk = r at *
    go_wp2
    go_ret
    exact ⟨by rw [HE.out]; rfl, by trivial⟩
  ·
   have hk3' : k = 3 := by omega
   subst hk3'
   go_wp2
   go_ret
   exact ⟨by rw [HC.out]; rfl, by trivial⟩
def k3 (s a t : Int) (i : Nat) : Int := if i = 0 then s else if i = 1 then a else t
set_option maxRecDepth 20000 in
set_option maxHeartbeats 4000000 in
theorem compareKeys_any (s a t s' a' t' : Int) (W : World) :
  Calls Tryz.prog 132 #[kv s a t, kv s' a' t'] W fun e w' => e = .returned (.int .i64 (cmpTo (k3 s a t) (k3 s' a' t') 3)) ∧ w' = ((W.alloc (.cells #[.int .i64 s, .int .i64 a, .int .i64 t] 152)).alloc (.cells #[.int .i64 s', .int .i64 a', .int .i64 t'] 152)).drew := by
 unfold kv
 go_enter Tryz.func132, Tryz.ntmps132
 go_wp2
 refine wp_region_noPanic ?_
 refine region_upto (fun W' => W' = ((W.alloc (.cells #[.int .i64 s, .int .i64 a, .int .i64 t] 152)).alloc (.cells #[.int .i64 s', .int .i64 a', .int .i64 t'] 152)).drew) 4 (by kernel_rfl) rfl (fun hS => ?_)
 refine tN (i := 0) (v := ?_) rfl (by kernel_rfl) hS ?_ ?_
 rotate_left
 ·
  intro wS hSw; (try dsimp only at hSw); go_simp; try with_reducible rfl
 try simp only [Act.put, jA, jB, jC, jD, jE, jF]
 refine tN (i := 1) (v := ?_) rfl (by kernel_rfl) hS ?_ ?_
 rotate_left
 ·
  intro wS hSw; (try dsimp only at hSw); go_simp; try with_reducible rfl
 try simp only [Act.put, jA, jB, jC, jD, jE, jF]
 refine upto_step (i := 2) (by kernel_rfl) rfl ?_
 intro K hK
 go_simp
 refine (slicesCompare_any _ W.heap.size (W.heap.size + 1) (k3 s a t) (k3 s' a' t') ?_ ?_).mono ?_
 ·
  intro i hi
  match i, hi with
  | 0, _ => simp [go_sem, k3]
  | 1, _ => simp [go_sem, k3]
  | 2, _ => simp [go_sem, k3]
 ·
  intro i hi
  match i, hi with
  | 0, _ => simp [go_sem, k3]
  | 1, _ => simp [go_sem, k3]
  | 2, _ => simp [go_sem, k3]
 rintro e w' ⟨rfl, hw⟩
 refine hK _ _ (fun _ => hw) ?_
 clear hK K
 obtain ⟨r, hr⟩ : ∃ r, cmpTo (k3 s a t) (k3 s' a' t') 3 = r := ⟨_, rfl⟩
 have HR : Hid (cmpTo (k3 s a t) (k3 s' a' t') 3 = r) := hr
 rw [hr]
 clear hr
 try simp only [Act.put, jA, jB, jC, jD, jE, jF]
 refine upto_step (i := 3) (by kernel_rfl) rfl ?_
 intro K hK
 go_simp
 refine hK _ _ (fun _ => by first | rfl | exact hw) ?_
 clear hK K
 refine upto_done (by kernel_rfl) ?_
 refine NoPanic.normal ?_
 go_wp2
 go_ret
 exact ⟨by rw [HR.out]; rfl, by first | rfl | exact hw⟩
end Go.Proofs.YtndghenlapbaaaaGreat


import Derived.Deep.RegionHeld3
import Derived.Deep.DrawnRows
import Derived.BigQuiet
import Derived.Deep.QuietTactic
import Derived.Test.YtackhljepbhpgaaGreatPrnSettledAtLaw3
import Derived.Deep.AppendLies
set_option maxHeartbeats 1000000
set_option linter.unusedSectionVars false

namespace Go.Proofs.YtackhljepbhpgaaGreat
open Go.RowKit
variable [DecidableEq Bal] [Inhabited Bal]
attribute [local go_sem ↓] Go.wp_at_zero Go.wp_at_succ

def balssR : Rep (List (List Bal)) := nRep balsR 93 1 one
structure Ledg where
 shards : List (List Bal)
variable [DecidableEq Ledg] [Inhabited Ledg]

def ledgR : Rep Ledg where
 V := fun w v x => ∃ u1, v = .agg #[u1] ∧ balssR.V w u1 x.shards
 O := fun w base F v x => ∃ u1 F1, v = .agg #[u1] ∧ balssR.O w base F1 u1 x.shards ∧ (∀ b, F b ↔ (F1 b))
 below := fun h hb => by
  obtain ⟨u1, rfl, h1⟩ := h
  exact ⟨u1, rfl, balssR.below h1 hb⟩
 ofO := fun h => by
  obtain ⟨u1, F1, rfl, h1, _⟩ := h
  exact ⟨u1, rfl, balssR.ofO h1⟩
 mod := fun h hm hd => by
  obtain ⟨u1, F1, rfl, h1, hF⟩ := h
  exact ⟨u1, F1, rfl, balssR.mod h1 hm (fun b hb => hd b ((hF b).2 hb)), hF⟩
 rng := fun h b hb => by
  obtain ⟨u1, F1, rfl, h1, hF⟩ := h
  rcases (hF b).1 hb with hb
  ·
   exact balssR.rng h1 b hb
 base := fun h hb => by
  obtain ⟨u1, F1, rfl, h1, hF⟩ := h
  exact ⟨u1, F1, rfl, balssR.base h1 hb, hF⟩
end Go.Proofs.YtackhljepbhpgaaGreat

namespace Go.Proofs.YtackhljepbhpgaaGreat
open Go.RowKit
variable [DecidableEq Leg] [Inhabited Leg]

def inB (n lo hi : Int) : Bool := decide (lo ≤ n) && decide (n ≤ hi)
theorem l1In_any (n lo hi : Int) (w : World) :
  Calls Tryz.prog 75 #[.int .i64 n, .int .i64 lo, .int .i64 hi] w fun e w' => e = .returned (.bool (inB n lo hi)) ∧ w' = w := by
 by_cases h1 : lo ≤ n
 all_goals
  go_enter Tryz.func75, Tryz.ntmps75
  go_wp2; go_ret
  exact ⟨by first | (simp [inB, h1]; done) | (simp [inB]; omega), rfl⟩
theorem within_any (n lo hi : Int) (w : World) :
  Calls Tryz.prog 101 #[.int .i64 n, .int .i64 lo, .int .i64 hi] w fun e w' => e = .returned (.bool (inB n lo hi)) ∧ w' = w := by
 by_cases h1 : lo ≤ n
 all_goals
  go_enter Tryz.func101, Tryz.ntmps101
  go_wp2; go_ret
  exact ⟨by first | (simp [inB, h1]; done) | (simp [inB]; omega), rfl⟩
theorem l1Id_any (n : Int) (w : World) :
  Calls Tryz.prog 120 #[.int .i64 n] w fun e w' => e = .returned (.bool (inB n 1 1000000000)) ∧ w' = w := by
 go_enter Tryz.func120, Tryz.ntmps120
 go_wp2_with (go_at_call 75; refine (l1In_any _ _ _ _).mono ?_; rintro e w' ⟨rfl, rfl⟩)
 go_ret
 exact ⟨rfl, rfl⟩
theorem isId_any (n : Int) (w : World) :
  Calls Tryz.prog 165 #[.int .i64 n] w fun e w' => e = .returned (.bool (inB n 1 1000000000)) ∧ w' = w := by
 go_enter Tryz.func165, Tryz.ntmps165
 go_wp2_with (go_at_call 101; refine (within_any _ _ _ _).mono ?_; rintro e w' ⟨rfl, rfl⟩)
 go_ret
 exact ⟨rfl, rfl⟩
theorem isShard_any (n : Int) (w : World) :
  Calls Tryz.prog 199 #[.int .i64 n] w fun e w' => e = .returned (.bool (inB n 0 2)) ∧ w' = w := by
 go_enter Tryz.func199, Tryz.ntmps199
 go_wp2_with (go_at_call 101; refine (within_any _ _ _ _).mono ?_; rintro e w' ⟨rfl, rfl⟩)
 go_ret
 exact ⟨rfl, rfl⟩
theorem isAccount_any (n : Int) (w : World) :
  Calls Tryz.prog 229 #[.int .i64 n] w fun e w' => e = .returned (.bool (inB n 0 5)) ∧ w' = w := by
 go_enter Tryz.func229, Tryz.ntmps229
 go_wp2_with (go_at_call 101; refine (within_any _ _ _ _).mono ?_; rintro e w' ⟨rfl, rfl⟩)
 go_ret
 exact ⟨rfl, rfl⟩
theorem isAsset_any (n : Int) (w : World) :
  Calls Tryz.prog 230 #[.int .i64 n] w fun e w' => e = .returned (.bool (inB n 0 2)) ∧ w' = w := by
 go_enter Tryz.func230, Tryz.ntmps230
 go_wp2_with (go_at_call 101; refine (within_any _ _ _ _).mono ?_; rintro e w' ⟨rfl, rfl⟩)
 go_ret
 exact ⟨rfl, rfl⟩
def placeB (l : Leg) : Bool := inB l.sh 0 2 && inB l.ac 0 5 && inB l.ast 0 2
def legFault (l : Leg) : Int := if placeB l && inB l.am (-1000000000000) 1000000000000 then (if l.am = 0 then 1 else 0) else 3
theorem isPlace_any (l : Leg) (w : World) :
  Calls Tryz.prog 210 #[legV l] w fun e w' => e = .returned (.bool (placeB l)) ∧ Below w.heap.size w w' := by
 obtain ⟨a, b, c, d⟩ := l
 unfold legV placeB
 go_enter Tryz.func210, Tryz.ntmps210
 go_wp2_with (first | (go_at_call 199; refine (isShard_any _ _).mono ?_; rintro e w' ⟨rfl, rfl⟩) | (go_at_call 229; refine (isAccount_any _ _).mono ?_; rintro e w' ⟨rfl, rfl⟩) | (go_at_call 230; refine (isAsset_any _ _).mono ?_; rintro e w' ⟨rfl, rfl⟩))
 all_goals
  go_ret
  exact ⟨by simp [*], (by repeat (first | exact Below.refl _ _ | (refine Below.drew ?_) | (refine Below.alloc ?_ (by first | (simp; done) | (simp; omega)) _)))⟩
theorem specLegFault_any (l : Leg) (w : World) :
  Calls Tryz.prog 121 #[legV l] w fun e w' => e = .returned (.int .i64 (legFault l)) ∧ Below w.heap.size w w' := by
 obtain ⟨a, b, c, d⟩ := l
 unfold legV
 go_enter Tryz.func121, Tryz.ntmps121
 go_wp2_with (go_at_call 75; refine (l1In_any _ _ _ _).mono ?_; rintro e w' ⟨rfl, rfl⟩)
 all_goals
  go_ret
  exact ⟨by simp_all [legFault, placeB], (by repeat (first | exact Below.refl _ _ | (refine Below.drew ?_) | (refine Below.alloc ?_ (by first | (simp; done) | (simp; omega)) _)))⟩
theorem implLegFault_any (l : Leg) (w : World) :
  Calls Tryz.prog 166 #[legV l] w fun e w' => e = .returned (.int .i64 (legFault l)) ∧ Below w.heap.size w w' := by
 obtain ⟨a, b, c, d⟩ := l
 unfold legV
 go_enter Tryz.func166, Tryz.ntmps166
 go_wp2_with (first | (go_at_call 210; refine (isPlace_any ⟨a, b, c, d⟩ _).mono ?_; rintro e w' ⟨rfl, hb⟩; obtain ⟨hc, hf⟩ := bcell hb) | (go_at_call 101; refine (within_any _ _ _ _).mono ?_; rintro e w' ⟨rfl, rfl⟩))
 all_goals
  go_ret
  exact ⟨by simp_all [legFault], ((Below.refl _ _).alloc (Nat.le_refl _) _).trans (hb.mono (by simp))⟩
theorem placeOf_any (l : Leg) (w : World) :
  Calls Tryz.prog 211 #[legV l] w fun e w' => e = .returned (legV ⟨l.sh, l.ac, l.ast, 0⟩) ∧ Below w.heap.size w w' := by
 obtain ⟨a, b, c, d⟩ := l
 unfold legV
 go_enter Tryz.func211, Tryz.ntmps211
 go_wp2
 exact bodyPost_ret (v := .agg #[.int .i64 a, .int .i64 b, .int .i64 c, .int .i64 0]) (by simp [results, Tryz.results211, go_sem]) rfl ⟨rfl, (by repeat (first | exact Below.refl _ _ | (refine Below.drew ?_) | (refine Below.alloc ?_ (by first | (simp; done) | (simp; omega)) _)))⟩
variable [DecidableEq Bal] [Inhabited Bal] [DecidableEq Ledg] [Inhabited Ledg]
theorem wrapId {n : Int} (h0 : -9223372036854775808 ≤ n) (h1 : n ≤ 9223372036854775807) : IntKind.i64.wrap n = n := by
 rw [IntKind.wrap_i64]; omega
theorem bdrewN {B : Nat} {w Y : World} (h : Below B w Y) (n : Nat) : Below B w (Y.drewN n) := h.trans ⟨rfl, rfl, rfl, Nat.le_refl _, fun _ _ => rfl⟩
def scanI (f : Nat → Int) : Nat → Int
 | 0 => 0
 | n + 1 => if scanI f n = 0 then f n else scanI f n
theorem scanI_succ {f : Nat → Int} {k : Nat} (h : scanI f k = 0) (h' : f k = 0) : scanI f (k + 1) = 0 := by simp [scanI, h, h']
theorem scanI_hit {f : Nat → Int} {k : Nat} (h : scanI f k = 0) (h' : f k ≠ 0) : ∀ n, k < n → scanI f n = f k
 | 0, hn => by omega
 | n + 1, hn => by
  by_cases e : k = n
  ·
   subst e; simp [scanI, h]
  ·
   have := scanI_hit h h' n (by omega)
   simp [scanI, this, h']
theorem scanI_zero {f : Nat → Int} : ∀ {n : Nat}, scanI f n = 0 → ∀ k, k < n → f k = 0
 | 0, _, k, hk => by omega
 | n + 1, h, k, hk => by
  unfold scanI at h
  split at h
  ·
   rename_i h1
   by_cases e : k = n
   ·
    subst e; exact h
   ·
    exact scanI_zero h1 k (by omega)
  ·
   exact absurd h (by assumption)
theorem scanI_of {f : Nat → Int} : ∀ {n : Nat}, (∀ k, k < n → f k = 0) → scanI f n = 0
 | 0, _ => rfl
 | n + 1, h => scanI_succ (scanI_of (fun k hk => h k (by omega))) (h n (by omega))
def keyOk (ac ast : Int) : Bool := inB ac 0 5 && inB ast 0 2
def balOk (x : Bal) : Bool := keyOk x.ac x.ast && inB x.am 1 1000000000000
def behind (b a : Bal) : Bool := if b.ac = a.ac then decide (a.ast < b.ast) else decide (a.ac < b.ac)
def balAt (xs : List Bal) (k : Nat) : Int := if balOk (xs.getD k default) then (if 0 < k ∧ behind (xs.getD k default) (xs.getD (k - 1) default) = false then 1 else 0) else 3
def balFault (xs : List Bal) : Int := if 18 < xs.length then 2 else scanI (balAt xs) xs.length
def ledAt (g : Ledg) (k : Nat) : Int := balFault (g.shards.getD k default)
def ledFault (g : Ledg) : Int := if g.shards.length < 1 ∨ 3 < g.shards.length then 2 else scanI (ledAt g) g.shards.length
theorem inBi {n lo hi : Int} : inB n lo hi = true ↔ lo ≤ n ∧ n ≤ hi := by simp [inB]
theorem keyOk_iff {a s : Int} : keyOk a s = true ↔ (0 ≤ a ∧ a ≤ 5) ∧ (0 ≤ s ∧ s ≤ 2) := by simp [keyOk, inBi]
theorem balOk_iff {x : Bal} : balOk x = true ↔ ((0 ≤ x.ac ∧ x.ac ≤ 5) ∧ (0 ≤ x.ast ∧ x.ast ≤ 2)) ∧ (1 ≤ x.am ∧ x.am ≤ 1000000000000) := by simp [balOk, keyOk_iff, inBi]
theorem behind_iff {b a : Bal} (hb : keyOk b.ac b.ast = true) (ha : keyOk a.ac a.ast = true) : behind b a = false ↔ b.ac * 3 + b.ast ≤ a.ac * 3 + a.ast := by
 obtain ⟨⟨_, _⟩, _, _⟩ := keyOk_iff.1 hb
 obtain ⟨⟨_, _⟩, _, _⟩ := keyOk_iff.1 ha
 unfold behind
 split <;> simp <;> omega
theorem balOk_key {x : Bal} (h : balOk x = true) : keyOk x.ac x.ast = true := by
 rw [balOk, Bool.and_eq_true] at h; exact h.1
structure BalsOk (xs : List Bal) : Prop where
 len : xs.length ≤ 18
 ok : ∀ k, k < xs.length → balOk (xs.getD k default) = true
 ord : ∀ k, k + 1 < xs.length → behind (xs.getD (k + 1) default) (xs.getD k default) = true
theorem balsOk_of {xs : List Bal} (h : balFault xs = 0) : BalsOk xs := by
 unfold balFault at h
 split at h
 ·
  omega
 ·
  have hz := scanI_zero h
  refine ⟨by omega, fun k hk => ?_, fun k hk => ?_⟩
  ·
   have := hz k hk
   unfold balAt at this
   split at this
   ·
    assumption
   ·
    omega
  ·
   have := hz (k + 1) hk
   unfold balAt at this
   split at this
   ·
    split at this
    ·
     omega
    ·
     rename_i h1 h2
     simp at h2
     simpa using h2
   ·
    omega
theorem ledOk_of {g : Ledg} (h : ledFault g = 0) : 1 ≤ g.shards.length ∧ g.shards.length ≤ 3 ∧ ∀ k, k < g.shards.length → BalsOk (g.shards.getD k default) := by
 unfold ledFault at h
 split at h
 ·
  omega
 ·
  exact ⟨by omega, by omega, fun k hk => balsOk_of (scanI_zero h k hk)⟩
def hasB (a s : Int) : List Bal → Int
 | [] => 0
 | x :: r => if x.ac = a ∧ x.ast = s then x.am else hasB a s r
theorem drop_get (xs : List Bal) (k : Nat) (h : k < xs.length) : xs.drop k = xs.getD k default :: xs.drop (k + 1) := by
 rw [List.drop_eq_getElem_cons h]; simp [List.getD, h]
theorem hasB_drop {a s : Int} {xs : List Bal} {k : Nat} (h : k < xs.length) : hasB a s (xs.drop k) = if (xs.getD k default).ac = a ∧ (xs.getD k default).ast = s then (xs.getD k default).am else hasB a s (xs.drop (k + 1)) := by
 rw [drop_get xs k h]; rfl
variable [DecidableEq Vot] [Inhabited Vot] [DecidableEq Slt] [Inhabited Slt]
def votB (x : Vot) : Bool := inB x.bal 0 1000 && inB x.val 1 2
def noV : Vot := ⟨-1, 0⟩
def other (v p : Vot) : Bool := decide (v.bal < p.bal) || (decide (v.bal = p.bal) && !decide (v.val = p.val))
def lastV (xs : List Vot) (n : Nat) : Vot := if n = 0 then noV else xs.getD (n - 1) default
def votAt (xs : List Vot) (k : Nat) : Int := if votB (xs.getD k default) then (if other (xs.getD k default) (lastV xs k) = true then 1 else 0) else 3
def sltRange (s : Slt) : Bool := inB s.con 1 1000000000 && inB s.sh 0 2 && inB s.pr (-1) 1000
def sltFault (s : Slt) : Int :=
 if sltRange s then (if 60 < s.cast.length then 2 else if scanI (votAt s.cast) s.cast.length = 0 then (if (s.lb = (lastV s.cast s.cast.length).bal ∧ s.lv = (lastV s.cast s.cast.length).val) ∧ s.lb ≤ s.pr then 0 else 1) else scanI (votAt s.cast) s.cast.length) else 3
theorem votB_iff {x : Vot} : votB x = true ↔ (0 ≤ x.bal ∧ x.bal ≤ 1000) ∧ (1 ≤ x.val ∧ x.val ≤ 2) := by simp [votB, inBi]
theorem other_none {x : Vot} (h : votB x = true) : other x noV = false := by
 have h' := votB_iff.1 h
 unfold other noV
 dsimp only
 rw [decide_eq_false (by omega), decide_eq_false (by omega)]
 rfl
theorem lastV_zero (xs : List Vot) : lastV xs 0 = noV := rfl
theorem lastV_succ (xs : List Vot) (k : Nat) : lastV xs (k + 1) = xs.getD k default := by simp [lastV]
theorem votAt_bad {xs : List Vot} {k : Nat} (h : votB (xs.getD k default) = false) : votAt xs k = 3 := by unfold votAt; rw [h]; rfl
theorem votAt_ok {xs : List Vot} {k : Nat} (h : votB (xs.getD k default) = true) (h' : other (xs.getD k default) (lastV xs k) = false) : votAt xs k = 0 := by simp only [votAt, h, h']; simp
theorem votAt_other {xs : List Vot} {k : Nat} (h : votB (xs.getD k default) = true) (h' : other (xs.getD k default) (lastV xs k) = true) : votAt xs k = 1 := by simp only [votAt, h, h']; simp
theorem sltF_range {s : Slt} (h : sltRange s = false) : sltFault s = 3 := by unfold sltFault; rw [h]; rfl
theorem sltF_many {s : Slt} (h : sltRange s = true) (h' : 60 < s.cast.length) : sltFault s = 2 := by unfold sltFault; rw [h, if_pos rfl, if_pos h']
theorem sltF_hit {s : Slt} {k : Nat} {c : Int} (h : sltRange s = true) (h' : s.cast.length ≤ 60) (hk : k < s.cast.length) (hs : scanI (votAt s.cast) k = 0) (hc : votAt s.cast k = c) (h0 : c ≠ 0) : sltFault s = c := by
 have e := scanI_hit hs (by rw [hc]; exact h0) _ hk
 unfold sltFault
 rw [h, if_pos rfl, if_neg (by omega), e, hc, if_neg h0]
theorem sltF_end {s : Slt} (h : sltRange s = true) (h' : s.cast.length ≤ 60) (hs : scanI (votAt s.cast) s.cast.length = 0) :
  sltFault s = if (s.lb = (lastV s.cast s.cast.length).bal ∧ s.lv = (lastV s.cast s.cast.length).val) ∧ s.lb ≤ s.pr then 0 else 1 := by
 unfold sltFault
 rw [h, if_pos rfl, if_neg (by omega), if_pos hs]
structure SltOk (s : Slt) : Prop where
 range : sltRange s = true
 len : s.cast.length ≤ 60
 at_ : ∀ k, k < s.cast.length → votB (s.cast.getD k default) = true ∧ other (s.cast.getD k default) (lastV s.cast k) = false
 last : s.lb = (lastV s.cast s.cast.length).bal ∧ s.lv = (lastV s.cast s.cast.length).val
 pr : s.lb ≤ s.pr
theorem SltOk.bal {s : Slt} (h : SltOk s) : -1 ≤ s.lb ∧ s.lb ≤ 1000 := by
 obtain ⟨h1, _⟩ := h.last
 have hl := h.len
 cases e : s.cast.length with
 | zero => rw [e, lastV_zero] at h1; rw [h1]; simp [noV]
 | succ n =>
  rw [e, lastV_succ] at h1
  have := votB_iff.1 (h.at_ n (by omega)).1
  rw [h1]
  omega
end Go.Proofs.YtackhljepbhpgaaGreat

namespace Go.Proofs.YtackhljepbhpgaaGreat
open Go.RowKit
variable [DecidableEq Vot] [Inhabited Vot] [DecidableEq Slt] [Inhabited Slt] [DecidableEq Bal] [Inhabited Bal] [DecidableEq Ledg] [Inhabited Ledg] [DecidableEq Leg] [Inhabited Leg]
attribute [local go_sem ↓] Go.wp_at_zero Go.wp_at_succ

theorem eqInVot (a b c d : Int) (w : World) : (Op.equalIn 10000 87 (.agg #[.int .i64 a, .int .i64 b]) (.agg #[.int .i64 c, .int .i64 d])).run Tryz.prog w = .ok (decide (a = c) && decide (b = d)) w := by
 rw [run_equalIn_struct w 9999 87 _ _ (by kernel_rfl) (by kernel_rfl)]
 have hf : (Tryz.prog.fieldsOf 87).toList = [{ name := "Ballot", type := 2, offset := 0, embedded := false, tag := "", pkgPath := "", byteOffset := 0 }, { name := "Value", type := 2, offset := 1, embedded := false, tag := "", pkgPath := "", byteOffset := 8 }] := by kernel_rfl
 rw [hf]
 simp [Op.eqFields, go_sem]
 by_cases e1 : a = c <;> by_cases e2 : b = d <;> simp [e1, e2]
theorem eqlVot (a b c d : Int) (w : World) : (binOp .eql 87 (.agg #[.int .i64 a, .int .i64 b]) (.agg #[.int .i64 c, .int .i64 d])).run Tryz.prog w = .ok (.bool (decide (a = c) && decide (b = d))) w := by
 rw [run_eql_struct, eqInVot]
 rfl
theorem neqVot (a b c d : Int) (w : World) : (binOp .neq 87 (.agg #[.int .i64 a, .int .i64 b]) (.agg #[.int .i64 c, .int .i64 d])).run Tryz.prog w = .ok (.bool (!(decide (a = c) && decide (b = d)))) w := by
 rw [run_neq_struct, eqInVot]
 rfl
theorem l8None_any (w : World) : Calls Tryz.prog 81 #[] w fun e w' => e = .returned (.agg #[.int .i64 (-1), .int .i64 0]) ∧ Below w.heap.size w w' := by
 go_enter Tryz.func81, Tryz.ntmps81
 go_wp2
 refine bodyPost_ret (v := .agg #[.int .i64 (-1), .int .i64 0]) ?_ rfl ⟨rfl, qBq⟩
 simp [results, Tryz.results81, go_sem]
theorem noVote_any (w : World) : Calls Tryz.prog 200 #[] w fun e w' => e = .returned (.agg #[.int .i64 (-1), .int .i64 0]) ∧ Below w.heap.size w w' := by
 go_enter Tryz.func200, Tryz.ntmps200
 go_wp2
 refine bodyPost_ret (v := .agg #[.int .i64 (-1), .int .i64 0]) ?_ rfl ⟨rfl, qBq⟩
 simp [results, Tryz.results200, go_sem]
theorem l8Ballot_any (n : Int) (w : World) : Calls Tryz.prog 77 #[.int .i64 n] w fun e w' => e = .returned (.bool (inB n 0 1000)) ∧ w' = w := by
 go_enter Tryz.func77, Tryz.ntmps77
 go_wp2_with (go_at_call 75; refine (l1In_any _ _ _ _).mono ?_; rintro e w' ⟨rfl, rfl⟩)
 go_ret
 exact ⟨rfl, rfl⟩
theorem l8Value_any (n : Int) (w : World) : Calls Tryz.prog 78 #[.int .i64 n] w fun e w' => e = .returned (.bool (inB n 1 2)) ∧ w' = w := by
 have e : inB n 1 2 = (decide (n = 1) || decide (n = 2)) := by rw [Bool.eq_iff_iff, inBi]; simp; omega
 rw [e]
 clear e
 by_cases h1 : n = 1
 ·
  subst h1
  go_enter Tryz.func78, Tryz.ntmps78
  go_wp2; go_ret
  exact ⟨rfl, rfl⟩
 ·
  go_enter Tryz.func78, Tryz.ntmps78
  go_wp2
  all_goals
   go_ret
   exact ⟨by first | (simp_all; done) | (simp_all; rw [Bool.eq_iff_iff]; simp; done) | (simp_all; rw [Bool.eq_iff_iff]; simp; omega), rfl⟩
theorem isBallot_any (n : Int) (w : World) : Calls Tryz.prog 208 #[.int .i64 n] w fun e w' => e = .returned (.bool (inB n 0 1000)) ∧ w' = w := by
 go_enter Tryz.func208, Tryz.ntmps208
 go_wp2_with (go_at_call 101; refine (within_any _ _ _ _).mono ?_; rintro e w' ⟨rfl, rfl⟩)
 go_ret
 exact ⟨rfl, rfl⟩
theorem isValue_any (n : Int) (w : World) : Calls Tryz.prog 189 #[.int .i64 n] w fun e w' => e = .returned (.bool (inB n 1 2)) ∧ w' = w := by
 go_enter Tryz.func189, Tryz.ntmps189
 go_wp2_with (go_at_call 101; refine (within_any _ _ _ _).mono ?_; rintro e w' ⟨rfl, rfl⟩)
 go_ret
 exact ⟨rfl, rfl⟩
theorem isVote_any (x : Vot) (w : World) : Calls Tryz.prog 159 #[.agg #[.int .i64 x.bal, .int .i64 x.val]] w fun e w' => e = .returned (.bool (votB x)) ∧ Below w.heap.size w w' := by
 unfold votB
 cases h1 : inB x.bal 0 1000
 all_goals
  go_enter Tryz.func159, Tryz.ntmps159
  go_wp2_with (first | (go_at_call 208; refine (isBallot_any _ _).mono ?_; rintro e w' ⟨rfl, rfl⟩) | (go_at_call 189; refine (isValue_any _ _).mono ?_; rintro e w' ⟨rfl, rfl⟩))
  go_ret
  exact ⟨by simp, qBq⟩
def otherB (x y : Vot) : Bool := decide (x.bal = y.bal) && !decide (x.val = y.val)
theorem isOtherwise_any (x y : Vot) (w : World) : Calls Tryz.prog 201 #[.agg #[.int .i64 x.bal, .int .i64 x.val], .agg #[.int .i64 y.bal, .int .i64 y.val]] w fun e w' => e = .returned (.bool (otherB x y)) ∧ Below w.heap.size w w' := by
 unfold otherB
 by_cases h1 : x.bal = y.bal
 all_goals
  go_enter Tryz.func201, Tryz.ntmps201
  go_wp2
  all_goals
   go_ret
   exact ⟨by first | (simp_all; done) | (simp_all; rw [Bool.eq_iff_iff]; simp; done) | (simp_all; rw [Bool.eq_iff_iff]; simp; omega), qBq⟩
end Go.Proofs.YtackhljepbhpgaaGreat

namespace Go.Proofs.YtackhljepbhpgaaGreat
open Go.RowKit
variable [DecidableEq Leg] [Inhabited Leg]
attribute [local go_sem ↓] Go.wp_at_zero Go.wp_at_succ

def aheadI (ys : List Int) (v : Int) : Nat := (ys.takeWhile (· < v)).length
def putI (ys : List Int) (v : Int) : List Int := if ys.getD (aheadI ys v) (v + 1) = v then ys else ys.take (aheadI ys v) ++ [v] ++ ys.drop (aheadI ys v)
theorem aheadI_le (ys : List Int) (v : Int) : aheadI ys v ≤ ys.length := List.Sublist.length_le (List.takeWhile_sublist _)
theorem aheadI_lt : ∀ (ys : List Int) (v : Int) (j : Nat), j < aheadI ys v → ys.getD j 0 < v
 | [], v, j, h => by simp [aheadI] at h
 | y :: r, v, j, h => by
  unfold aheadI at h
  rw [List.takeWhile_cons] at h
  split at h
  ·
   rename_i hy
   cases j with
   | zero => simpa using hy
   | succ j => simpa using aheadI_lt r v j (by simpa [aheadI] using h)
  ·
   simp at h
theorem aheadI_stop : ∀ (ys : List Int) (v : Int), aheadI ys v < ys.length → ¬ ys.getD (aheadI ys v) 0 < v
 | [], v, h => by simp at h
 | y :: r, v, h => by
  unfold aheadI at h ⊢
  rw [List.takeWhile_cons] at h ⊢
  split
  ·
   rename_i hy
   rw [if_pos hy] at h
   simpa [aheadI] using aheadI_stop r v (by simpa [aheadI] using h)
  ·
   rename_i hy
   simpa using hy
theorem aheadI_eq (ys : List Int) (v : Int) (k : Nat) (hk : k ≤ ys.length) (h1 : ∀ j, j < k → ys.getD j 0 < v) (h2 : k < ys.length → ¬ ys.getD k 0 < v) : aheadI ys v = k := by
 rcases Nat.lt_trichotomy (aheadI ys v) k with h | h | h
 ·
  exact absurd (h1 _ h) (aheadI_stop ys v (by omega))
 ·
  exact h
 ·
  exact absurd (aheadI_lt ys v k h) (h2 (by have := aheadI_le ys v; omega))
section
variable {P : Program} (w : World)
theorem step_app {ops : Array Oper} {o : Oper} {a : Act} {K : Act → World → Prop} {Q : Exit → Act → World → Prop} {E : Prop} (hgd : o.guard = none) (s x : Operand) (t : TypeId)
  (ho : o.op = .call { callee := .builtin .append, args := #[s, x], argTypes := #[t, t] })
  (base : Nat) (e : TypeId) (i : TypeInfo) (z : Value) (size bytes : Nat) (ht : P.underlying t = some (.slice e)) (hi : P.info? e = some i) (hz : i.zero = some z)
  (hsize : i.size = size) (hby : i.bytes = bytes) (hzs : z.cells.size = size) (hsz : 0 < size)
  (v : Value) (n : Nat) (xs : List Value) (hs : a.eval s = v) (ad : Addr) (m c : Nat) (news : List Value) (hx : a.eval x = .slice (some ad) m c)
  (hown : w.ownsRow base e size v n xs) (hnews : ∀ j u, news[j]? = some u → w.cell? (ad.add j) = some u) (hl : news.length = m * size) (h1 : ∀ u ∈ news, u.oneCell' = true)
  (h63 : n + m ≤ maxLen) (hbytes : (n + m) * bytes ≤ 140737488355328) (hbase : base ≤ w.heap.size)
  (h : ∀ v' w', w'.ownsRow base e size v' (n + m) (xs ++ news) → w.grownBy w' v.ownBlock → (v' = .slice none 0 0 ↔ v = .slice none 0 0 ∧ m = 0) → (∀ W : World, Below base W w → Below base W w') → K (a.put o.dst v') w') :
  if Region.wanted o (yielded ops a.tmps) = true then Oper.wp P o a w K Q else E := by
 have hw : Region.wanted o (yielded ops a.tmps) = true := by simp [Region.wanted, hgd]
 rw [if_pos hw]
 exact wp_append_own w s x t ho base e i z size bytes ht hi hz hsize hby hzs hsz v n xs hs hown ad m c news hx hl hnews h1 h63 hbytes hbase (fun v' w' q1 q2 q3 => h v' w' q1 q2 q3 (fun W hW => hW.grown q2 hbase (fun k hk => (hown.lt k hk).1)))
end

theorem intsC_one (ys : List Int) : ∀ u ∈ intsC ys, u.oneCell' = true := by
 intro u hu
 simp only [intsC, List.mem_map] at hu
 obtain ⟨y, _, rfl⟩ := hu
 rfl
theorem ints_src {w : World} {b o k m : Nat} {ys : List Int} (h : ∀ i, i < ys.length → w.cell? ⟨b, o + i, none⟩ = some (.int .i64 (ys.getD i 0))) (hkm : k + m ≤ ys.length) {zs : List Int} (hz : zs = (ys.drop k).take m) :
  ∀ j u, (intsC zs)[j]? = some u → w.cell? ((⟨b, o + k, none⟩ : Addr).add j) = some u := by
 intro j u hj
 subst hz
 simp only [intsC, List.getElem?_map, List.getElem?_take, List.getElem?_drop] at hj
 split at hj
 ·
  rename_i hjm
  have := h (k + j) (by omega)
  have e : ys[k + j]? = some (ys.getD (k + j) 0) := by simp [List.getD, show k + j < ys.length by omega]
  rw [e] at hj
  simp at hj
  subst hj
  have ea : ((⟨b, o + k, none⟩ : Addr).add j) = ⟨b, o + (k + j), none⟩ := by
   unfold Addr.add
   split
   ·
    rename_i h0; subst h0; simp
   ·
    simp [Nat.add_assoc]
  rw [ea, this]
  simp [List.getD]
 ·
  simp at hj
theorem heap_two (w : World) (A B : Obj) : ((w.alloc A).alloc B).heap[w.heap.size]? = some A := by
 have h : ((w.alloc A).alloc B).heap[w.heap.size]? = (w.alloc A).heap[w.heap.size]? := Below.heap_alloc _ _ _ (by simp)
 rw [h]
 exact Go.heap_alloc_new w A
theorem heap_two' (w : World) (A B : Obj) : ((w.alloc B).alloc A).heap[w.heap.size + 1]? = some A := by
 have h := Go.heap_alloc_new (w.alloc B) A
 rwa [World.size_alloc] at h
theorem own_lit0 {w' : World} {base g : Nat} (hg : w'.heap[g]? = some (.cells #[] 2 (0, 0))) (hb : base ≤ g) : w'.ownsRow base 2 1 (.slice (some ⟨g, 0, none⟩) 0 0) 0 [] :=
 ⟨rfl, .inr ⟨g, 0, #[], rfl, hb, hg, Nat.le_refl _, by unfold maxLen; omega, rfl, rfl⟩⟩
theorem len_take {ys : List Int} {n k : Nat} (h : ys.length = n) (hk : k ≤ n) : (intsC (ys.take k)).length = k * 1 := by simp [intsC]; omega
theorem len_drop {ys : List Int} {n k : Nat} (h : ys.length = n) : (intsC (ys.drop k)).length = (n - k) * 1 := by simp [intsC]; omega
theorem len_end {ys : List Int} {n k : Nat} (h : ys.length = n) (hk : n ≤ k) : (intsC (ys.drop k)).length = 0 * 1 := by simp [intsC]; omega
theorem len_one (v : Int) : (intsC [v]).length = 1 * 1 := rfl
theorem src_end {w' : World} {ad : Addr} {k n : Nat} {ys : List Int} (hn : ys.length = n) (hk : n ≤ k) : ∀ j u, (intsC (ys.drop k))[j]? = some u → w'.cell? (ad.add j) = some u := by
 intro j u hj
 rw [List.drop_eq_nil_of_le (by omega)] at hj
 simp [intsC] at hj
theorem src_one {w' : World} {g : Nat} {v : Int} (h : w'.cell? ⟨g, 0, none⟩ = some (.int .i64 v)) : ∀ j u, (intsC [v])[j]? = some u → w'.cell? ((⟨g, 0, none⟩ : Addr).add j) = some u := by
 intro j u hj
 match j, hj with
 | 0, hj => simp [intsC] at hj; subst hj; simpa [Addr.add] using h
 | j + 1, hj => simp [intsC] at hj
theorem src_lo {w w' : World} {b o k n : Nat} {ys : List Int} (h : ys.length = n ∧ ∀ i, i < n → w.cell? ⟨b, o + i, none⟩ = some (.int .i64 (ys.getD i 0))) (hk : k ≤ n) (hb : Below w.heap.size w w') :
  ∀ j u, (intsC (ys.take k))[j]? = some u → w'.cell? ((⟨b, o, none⟩ : Addr).add j) = some u := by
 obtain ⟨hn, h⟩ := h
 have := ints_src (w := w) (b := b) (o := o) (k := 0) (m := k) (ys := ys) (by rw [hn]; exact h) (by omega) (zs := ys.take k) (by simp)
 intro j u hj
 exact cK hb (this j u hj)
theorem src_hi {w w' : World} {b o k n : Nat} {ys : List Int} (h : ys.length = n ∧ ∀ i, i < n → w.cell? ⟨b, o + i, none⟩ = some (.int .i64 (ys.getD i 0))) (hk : k ≤ n) (hb : Below w.heap.size w w') :
  ∀ j u, (intsC (ys.drop k))[j]? = some u → w'.cell? ((⟨b, o + k, none⟩ : Addr).add j) = some u := by
 obtain ⟨hn, h⟩ := h
 have := ints_src (w := w) (b := b) (o := o) (k := k) (m := n - k) (ys := ys) (by rw [hn]; exact h) (by omega) (zs := ys.drop k) (by rw [List.take_of_length_le (by simp; omega)])
 intro j u hj
 exact cK hb (this j u hj)
theorem l1Put_any (b o cap base : Nat) (ys : List Int) (v : Int) (w : World) (hn : ys.length ≤ 1048576) (hbase : base ≤ w.heap.size) (ho : w.ownsRow base 2 1 (.slice (some ⟨b, o, none⟩) ys.length cap) ys.length (intsC ys)) :
  Calls Tryz.prog 84 #[.slice (some ⟨b, o, none⟩) ys.length cap, .int .i64 v] w fun r w' => ∃ u, r = .returned u ∧ w'.ownsRow base 2 1 u (putI ys v).length (intsC (putI ys v)) ∧ ¬ u = .slice none 0 0 ∧ Below w.heap.size w w' := by
 have hv := IntsV_of_owns ho
 obtain ⟨a', cap', he, hcc, hmm, hcell⟩ := hv
 simp only [Value.slice.injEq, true_and] at he
 obtain ⟨rfl, rfl⟩ := he
 unfold maxLen at hmm
 obtain ⟨i0, hi, hz0, hz1, hz2⟩ := info_parts infoInt
 have HC : Hid (ys.length = ys.length ∧ ∀ i, i < ys.length → w.cell? ⟨b, o + i, none⟩ = some (.int .i64 (ys.getD i 0))) := ⟨rfl, fun i hi => by
  obtain ⟨b', o', hh, hc⟩ := hcell i hi
  simp only [Option.some.injEq, Addr.mk.injEq, and_true] at hh
  obtain ⟨rfl, rfl⟩ := hh
  exact hc⟩
 clear hcell
 obtain ⟨n, hn'⟩ : ∃ n, n = ys.length := ⟨_, rfl⟩
 rw [← hn'] at hn hcc ho ⊢
 replace HC : Hid (ys.length = n ∧ ∀ i, i < n → w.cell? ⟨b, o + i, none⟩ = some (.int .i64 (ys.getD i 0))) := by rw [hn']; exact HC.out
 have HN : Hid (ys.length = n) := hn'.symm
 clear hn'
 have HOW : Hid (w.ownsRow base 2 1 (.slice (some ⟨b, o, none⟩) n cap) n (intsC ys)) := ho
 clear ho
 go_enter Tryz.func84, Tryz.ntmps84
 go_wp2
 go_loopw [5] (fun i w' => ∃ k : Nat, k ≤ n ∧ i = .int .i64 k ∧ (∀ j, j < k → ys.getD j 0 < v) ∧ w' = w) (fun i _ => n - (intOf i).toNat)
 case atStart => exact ⟨0, Nat.zero_le _, rfl, fun j h => by omega, rfl⟩
 case round =>
  obtain ⟨k, hkn, rfl, hp, hwr⟩ := hrel
  replace hwr := hwr.symm
  subst hwr
  have HP : Hid (∀ j, j < k → ys.getD j 0 < v) := hp
  clear hp
  have hk0 : (0 : Int) ≤ (k : Int) := by omega
  have hk1 : (k : Int) ≤ (cap : Int) := by omega
  have hk2 : (k : Int) ≤ (n : Int) := by omega
  by_cases hlt : k < n
  ·
   have h1 := HC.out.2 k hlt
   obtain ⟨y, hy⟩ : ∃ y, y = ys.getD k 0 := ⟨_, rfl⟩
   rw [← hy] at h1
   have HY : Hid (y = ys.getD k 0) := hy
   clear hy
   have hlt' : (k : Int) < (n : Int) := by omega
   by_cases hyv : y < v
   ·
    go_wp2
    refine ⟨⟨k + 1, by omega, by go_num, fun j hj => ?_, trivial⟩, by simp [intOf]; omega⟩
    by_cases hjk : j < k
    ·
     exact HP.out j hjk
    ·
     have : j = k := by omega
     subst this
     rw [← HY.out]; exact hyv
   ·
    by_cases hye : y = v
    ·
     have hd : (y == v) = true := by simpa using hye
     have HE : Hid (y = v) := hye
     clear hye
     go_wp2; go_ret
     have e : putI ys v = ys := by
      unfold putI
      rw [aheadI_eq ys v k (by have := HN.out; omega) HP.out (fun _ => by rw [← HY.out]; omega), if_pos]
      have e : k < ys.length := by have := HN.out; omega
      rw [← HE.out, HY.out]
      simp [List.getD, e]
     refine ⟨_, rfl, ?_, by simp, Below.refl _ _⟩
     rw [e, HN.out]
     exact HOW.out
    ·
     have hd : (y == v) = false := by simpa using hye
     have hck : ¬ cap = k := by omega
     have HSTOP : Hid (k < ys.length → ¬ ys.getD k 0 < v) := fun _ => by rw [← HY.out]; omega
     have HNE : Hid (¬ ys.getD k (v + 1) = v) := fun h => hye (by rw [HY.out]; have e : k < ys.length := (by have := HN.out; omega); simpa [List.getD, e] using h)
     go_wp2
     go_region_held3 (fun w' => Below w.heap.size w w') (repeat (first | exact bR _ _ | assumption | refine bD ?_ | refine bA ?_ _ | refine bS ?_ (by assumption))) ((apply step_app (t := 72) (base := w.heap.size) (e := 2) (i := i0) (size := 1) (bytes := 8) (ht := Tryz.underlying72) (hi := hi) (hz := hz0) (hsize := hz1) (hby := hz2) (hzs := rfl) (hsz := Nat.one_pos); rfl; rfl; rfl; rfl; (first | exact hown | exact hown.alloc _ | (focus (refine own_lit0 ?_ ?_; (focus (first | exact heap_alloc_new _ _ | exact heap_two _ _ _ | exact heap_two' _ _ _)); (focus (first | exact Nat.le_refl _ | exact Nat.le_add_right _ _))))); (first | (exact src_lo HC.out hkn (by repeat (first | exact bR _ _ | assumption | refine bD ?_ | refine bA ?_ _ | refine bS ?_ (by assumption))); (first | exact len_take HC.out.1 hkn | exact len_drop HC.out.1 | exact len_one _ | exact len_end HC.out.1 hkm)) | (exact src_hi HC.out hkn (by repeat (first | exact bR _ _ | assumption | refine bD ?_ | refine bA ?_ _ | refine bS ?_ (by assumption))); (first | exact len_take HC.out.1 hkn | exact len_drop HC.out.1 | exact len_one _ | exact len_end HC.out.1 hkm)) | ((focus (refine src_one (v := v) ?_; simp [go_sem]; done)); (first | exact len_take HC.out.1 hkn | exact len_drop HC.out.1 | exact len_one _ | exact len_end HC.out.1 hkm)) | ((focus (refine src_one (v := v) ?_; refine hgrow.cell (v := .int .i64 v) ?_ ?_; (focus (simp [go_sem]; done)); (first | (focus (show some (w.heap.size + 1) ≠ some w.heap.size; simp; done)) | (focus (show some w.heap.size ≠ some (w.heap.size + 1); simp; done))))); (first | exact len_take HC.out.1 hkn | exact len_drop HC.out.1 | exact len_one _ | exact len_end HC.out.1 hkm)) | (exact src_end HC.out.1 hkm; (first | exact len_take HC.out.1 hkn | exact len_drop HC.out.1 | exact len_one _ | exact len_end HC.out.1 hkm))); (exact intsC_one _); (focus (unfold maxLen; omega)); (focus omega); (exact Below.size (by repeat (first | exact bR _ _ | assumption | refine bD ?_ | refine bA ?_ _ | refine bS ?_ (by assumption)))); intro va wa hown hgrow hnil hbel; have hba := hbel w (by repeat (first | exact bR _ _ | assumption | refine bD ?_ | refine bA ?_ _ | refine bS ?_ (by assumption)))))
     all_goals
      go_wp2; go_ret
      refine ⟨va, rfl, ?_, ?_, hba⟩
      ·
       have e : putI ys v = ys.take k ++ [v] ++ ys.drop k := by
        unfold putI
        rw [aheadI_eq ys v k (by have := HN.out; omega) HP.out (fun h => by have := HSTOP.out h; omega), if_neg HNE.out]
       have l : (putI ys v).length = 0 + k + 1 + (n - k) := by
        rw [e]; have := HN.out; simp only [List.length_append, List.length_take, List.length_drop, List.length_cons, List.length_nil]; omega
       rw [l, e]
       refine owns_base (base := w.heap.size) ?_ hbase
       simpa [intsC] using hown
      ·
       intro h
       have q := hown.2
       rw [h] at q
       rcases q with ⟨_, q⟩ | ⟨g, c, cu, q, _⟩
       ·
        omega
       ·
        simp at q
  ·
   have hlt' : ¬ (k : Int) < (n : Int) := by omega
   have hkm : n ≤ k := by omega
   have HSTOP : Hid (k < ys.length → ¬ ys.getD k 0 < v) := fun h => by have := HN.out; omega
   have HNE : Hid (¬ ys.getD k (v + 1) = v) := fun h => by
    have e : ys[k]? = none := List.getElem?_eq_none (by have := HN.out; omega)
    simp [List.getD, e] at h
    omega
   by_cases hck : cap = k
   ·
    go_wp2
    go_region_held3 (fun w' => Below w.heap.size w w') (repeat (first | exact bR _ _ | assumption | refine bD ?_ | refine bA ?_ _ | refine bS ?_ (by assumption))) ((apply step_app (t := 72) (base := w.heap.size) (e := 2) (i := i0) (size := 1) (bytes := 8) (ht := Tryz.underlying72) (hi := hi) (hz := hz0) (hsize := hz1) (hby := hz2) (hzs := rfl) (hsz := Nat.one_pos); rfl; rfl; rfl; rfl; (first | exact hown | exact hown.alloc _ | (focus (refine own_lit0 ?_ ?_; (focus (first | exact heap_alloc_new _ _ | exact heap_two _ _ _ | exact heap_two' _ _ _)); (focus (first | exact Nat.le_refl _ | exact Nat.le_add_right _ _))))); (first | (exact src_lo HC.out hkn (by repeat (first | exact bR _ _ | assumption | refine bD ?_ | refine bA ?_ _ | refine bS ?_ (by assumption))); (first | exact len_take HC.out.1 hkn | exact len_drop HC.out.1 | exact len_one _ | exact len_end HC.out.1 hkm)) | (exact src_hi HC.out hkn (by repeat (first | exact bR _ _ | assumption | refine bD ?_ | refine bA ?_ _ | refine bS ?_ (by assumption))); (first | exact len_take HC.out.1 hkn | exact len_drop HC.out.1 | exact len_one _ | exact len_end HC.out.1 hkm)) | ((focus (refine src_one (v := v) ?_; simp [go_sem]; done)); (first | exact len_take HC.out.1 hkn | exact len_drop HC.out.1 | exact len_one _ | exact len_end HC.out.1 hkm)) | ((focus (refine src_one (v := v) ?_; refine hgrow.cell (v := .int .i64 v) ?_ ?_; (focus (simp [go_sem]; done)); (first | (focus (show some (w.heap.size + 1) ≠ some w.heap.size; simp; done)) | (focus (show some w.heap.size ≠ some (w.heap.size + 1); simp; done))))); (first | exact len_take HC.out.1 hkn | exact len_drop HC.out.1 | exact len_one _ | exact len_end HC.out.1 hkm)) | (exact src_end HC.out.1 hkm; (first | exact len_take HC.out.1 hkn | exact len_drop HC.out.1 | exact len_one _ | exact len_end HC.out.1 hkm))); (exact intsC_one _); (focus (unfold maxLen; omega)); (focus omega); (exact Below.size (by repeat (first | exact bR _ _ | assumption | refine bD ?_ | refine bA ?_ _ | refine bS ?_ (by assumption)))); intro va wa hown hgrow hnil hbel; have hba := hbel w (by repeat (first | exact bR _ _ | assumption | refine bD ?_ | refine bA ?_ _ | refine bS ?_ (by assumption)))))
    all_goals
      go_wp2; go_ret
      refine ⟨va, rfl, ?_, ?_, hba⟩
      ·
       have e : putI ys v = ys.take k ++ [v] ++ ys.drop k := by
        unfold putI
        rw [aheadI_eq ys v k (by have := HN.out; omega) HP.out (fun h => by have := HSTOP.out h; omega), if_neg HNE.out]
       have l : (putI ys v).length = 0 + k + 1 := by
        rw [e]; have := HN.out; simp only [List.length_append, List.length_take, List.length_drop, List.length_cons, List.length_nil]; omega
       rw [l, e]
       refine owns_base (base := w.heap.size) ?_ hbase
       simpa [intsC] using hown
      ·
       intro h
       have q := hown.2
       rw [h] at q
       rcases q with ⟨_, q⟩ | ⟨g, c, cu, q, _⟩
       ·
        omega
       ·
        simp at q
   ·
    go_wp2
    go_region_held3 (fun w' => Below w.heap.size w w') (repeat (first | exact bR _ _ | assumption | refine bD ?_ | refine bA ?_ _ | refine bS ?_ (by assumption))) ((apply step_app (t := 72) (base := w.heap.size) (e := 2) (i := i0) (size := 1) (bytes := 8) (ht := Tryz.underlying72) (hi := hi) (hz := hz0) (hsize := hz1) (hby := hz2) (hzs := rfl) (hsz := Nat.one_pos); rfl; rfl; rfl; rfl; (first | exact hown | exact hown.alloc _ | (focus (refine own_lit0 ?_ ?_; (focus (first | exact heap_alloc_new _ _ | exact heap_two _ _ _ | exact heap_two' _ _ _)); (focus (first | exact Nat.le_refl _ | exact Nat.le_add_right _ _))))); (first | (exact src_lo HC.out hkn (by repeat (first | exact bR _ _ | assumption | refine bD ?_ | refine bA ?_ _ | refine bS ?_ (by assumption))); (first | exact len_take HC.out.1 hkn | exact len_drop HC.out.1 | exact len_one _ | exact len_end HC.out.1 hkm)) | (exact src_hi HC.out hkn (by repeat (first | exact bR _ _ | assumption | refine bD ?_ | refine bA ?_ _ | refine bS ?_ (by assumption))); (first | exact len_take HC.out.1 hkn | exact len_drop HC.out.1 | exact len_one _ | exact len_end HC.out.1 hkm)) | ((focus (refine src_one (v := v) ?_; simp [go_sem]; done)); (first | exact len_take HC.out.1 hkn | exact len_drop HC.out.1 | exact len_one _ | exact len_end HC.out.1 hkm)) | ((focus (refine src_one (v := v) ?_; refine hgrow.cell (v := .int .i64 v) ?_ ?_; (focus (simp [go_sem]; done)); (first | (focus (show some (w.heap.size + 1) ≠ some w.heap.size; simp; done)) | (focus (show some w.heap.size ≠ some (w.heap.size + 1); simp; done))))); (first | exact len_take HC.out.1 hkn | exact len_drop HC.out.1 | exact len_one _ | exact len_end HC.out.1 hkm)) | (exact src_end HC.out.1 hkm; (first | exact len_take HC.out.1 hkn | exact len_drop HC.out.1 | exact len_one _ | exact len_end HC.out.1 hkm))); (exact intsC_one _); (focus (unfold maxLen; omega)); (focus omega); (exact Below.size (by repeat (first | exact bR _ _ | assumption | refine bD ?_ | refine bA ?_ _ | refine bS ?_ (by assumption)))); intro va wa hown hgrow hnil hbel; have hba := hbel w (by repeat (first | exact bR _ _ | assumption | refine bD ?_ | refine bA ?_ _ | refine bS ?_ (by assumption)))))
    all_goals
      go_wp2; go_ret
      refine ⟨va, rfl, ?_, ?_, hba⟩
      ·
       have e : putI ys v = ys.take k ++ [v] ++ ys.drop k := by
        unfold putI
        rw [aheadI_eq ys v k (by have := HN.out; omega) HP.out (fun h => by have := HSTOP.out h; omega), if_neg HNE.out]
       have l : (putI ys v).length = 0 + k + 1 := by
        rw [e]; have := HN.out; simp only [List.length_append, List.length_take, List.length_drop, List.length_cons, List.length_nil]; omega
       rw [l, e]
       refine owns_base (base := w.heap.size) ?_ hbase
       simpa [intsC] using hown
      ·
       intro h
       have q := hown.2
       rw [h] at q
       rcases q with ⟨_, q⟩ | ⟨g, c, cu, q, _⟩
       ·
        omega
       ·
        simp at q
end Go.Proofs.YtackhljepbhpgaaGreat

namespace Go.Proofs.YtackhljepbhpgaaGreat
open Go.RowKit
variable [DecidableEq Leg] [Inhabited Leg]

def samePlace (a b : Leg) : Bool := a.sh == b.sh && (a.ac == b.ac && a.ast == b.ast)
def hasPlace (pre : List Leg) (l : Leg) : Bool := pre.any (fun o => samePlace o l)
def scan (pre : List Leg) : List Leg → Int
 | [] => 0
 | l :: r => if legFault l = 0 then (if hasPlace pre l then 7 else scan (pre ++ [l]) r) else legFault l
def sumA (a : Int) : List Leg → Int
 | [] => 0
 | l :: r => (if l.ast = a then l.am else 0) + sumA a r
def contractFault (id : Int) (xs : List Leg) : Int :=
 if inB id 1 1000000000 then
  (if xs.length < 2 ∨ 8 < xs.length then 2
  else if scan [] xs = 0 then (if sumA 0 xs = 0 ∧ sumA 1 xs = 0 ∧ sumA 2 xs = 0 then 0 else 1) else scan [] xs)
 else 3
def okTo (xs : List Leg) (k : Nat) : Prop := ∀ j, j < k → legFault (xs.getD j default) = 0 ∧ hasPlace (xs.take j) (xs.getD j default) = false
theorem drop_cons (xs : List Leg) (k : Nat) (h : k < xs.length) : xs.drop k = xs.getD k default :: xs.drop (k + 1) := by
 rw [List.drop_eq_getElem_cons h]
 simp [List.getD, h]
theorem take_snoc (xs : List Leg) (k : Nat) (h : k < xs.length) : xs.take (k + 1) = xs.take k ++ [xs.getD k default] := by
 rw [List.take_succ_eq_append_getElem h]
 simp [List.getD, h]
theorem scan_at (xs : List Leg) : ∀ k, k ≤ xs.length → okTo xs k → scan [] xs = scan (xs.take k) (xs.drop k)
 | 0, _, _ => by simp
 | k + 1, hk, h => by
  have ih := scan_at xs k (by omega) (fun j hj => h j (by omega))
  obtain ⟨h1, h2⟩ := h k (by omega)
  rw [ih, drop_cons xs k (by omega), scan, if_pos h1, if_neg (by rw [h2]; decide), take_snoc xs k (by omega)]
theorem scan_bad {xs : List Leg} {k : Nat} (hk : k < xs.length) (h : okTo xs k) (hb : ¬ legFault (xs.getD k default) = 0) : scan [] xs = legFault (xs.getD k default) := by
 rw [scan_at xs k (by omega) h, drop_cons xs k hk, scan, if_neg hb]
theorem scan_taken {xs : List Leg} {k : Nat} (hk : k < xs.length) (h : okTo xs k) (h0 : legFault (xs.getD k default) = 0) (hb : hasPlace (xs.take k) (xs.getD k default) = true) : scan [] xs = 7 := by
 rw [scan_at xs k (by omega) h, drop_cons xs k hk, scan, if_pos h0, if_pos hb]
theorem scan_ok {xs : List Leg} (h : okTo xs xs.length) : scan [] xs = 0 := by
 rw [scan_at xs xs.length (Nat.le_refl _) h]; simp [scan]
theorem okTo_succ {xs : List Leg} {k : Nat} (h : okTo xs k) (h0 : legFault (xs.getD k default) = 0) (h1 : hasPlace (xs.take k) (xs.getD k default) = false) : okTo xs (k + 1) := by
 intro j hj
 by_cases e : j < k
 ·
  exact h j e
 ·
  have : j = k := by omega
  subst this
  exact ⟨h0, h1⟩
theorem inB_iff (n lo hi : Int) : inB n lo hi = true ↔ lo ≤ n ∧ n ≤ hi := by simp [inB]
theorem legFault_zero {l : Leg} (h : legFault l = 0) : (0 ≤ l.sh ∧ l.sh ≤ 2) ∧ (0 ≤ l.ac ∧ l.ac ≤ 5) ∧ (0 ≤ l.ast ∧ l.ast ≤ 2) ∧ (-1000000000000 ≤ l.am ∧ l.am ≤ 1000000000000) ∧ l.am ≠ 0 := by
 unfold legFault at h
 split at h
 ·
  rename_i hp
  simp [placeB, inB_iff] at hp
  split at h
  ·
   omega
  ·
   exact ⟨by omega, by omega, by omega, by omega, by assumption⟩
 ·
  omega
theorem sumA_append (a : Int) (l r : List Leg) : sumA a (l ++ r) = sumA a l + sumA a r := by
 induction l with
 | nil => simp [sumA]
 | cons x l ih => simp only [List.cons_append, sumA, ih]; omega
theorem sumA_snoc (a : Int) (xs : List Leg) (k : Nat) (h : k < xs.length) : sumA a (xs.take (k + 1)) = sumA a (xs.take k) + if (xs.getD k default).ast = a then (xs.getD k default).am else 0 := by
 rw [take_snoc xs k h, sumA_append]; simp [sumA]
theorem sumA_bound (a : Int) (xs : List Leg) : ∀ k, k ≤ xs.length → okTo xs k → -(k * 1000000000000 : Int) ≤ sumA a (xs.take k) ∧ sumA a (xs.take k) ≤ k * 1000000000000
 | 0, _, _ => by simp [sumA]
 | k + 1, hk, h => by
  have ih := sumA_bound a xs k (by omega) (fun j hj => h j (by omega))
  have hb := (legFault_zero (h k (by omega)).1).2.2.2.1
  rw [sumA_snoc a xs k (by omega)]
  split <;> omega
theorem hasPlace_snoc (xs : List Leg) (k : Nat) (h : k < xs.length) (l : Leg) : hasPlace (xs.take (k + 1)) l = (hasPlace (xs.take k) l || samePlace (xs.getD k default) l) := by
 rw [take_snoc xs k h]; simp [hasPlace]
theorem hasPlace_mono {xs : List Leg} {k m : Nat} {l : Leg} (hkm : k ≤ m) (h : hasPlace (xs.take k) l = true) : hasPlace (xs.take m) l = true := by
 simp only [hasPlace, List.any_eq_true] at h ⊢
 obtain ⟨o, ho, hs⟩ := h
 exact ⟨o, (List.take_subset_take_left xs hkm) ho, hs⟩
theorem cf_val {id : Int} {xs : List Leg} (hid : inB id 1 1000000000 = true) (h2 : 2 ≤ xs.length) (h8 : xs.length ≤ 8) : contractFault id xs = if scan [] xs = 0 then (if sumA 0 xs = 0 ∧ sumA 1 xs = 0 ∧ sumA 2 xs = 0 then 0 else 1) else scan [] xs := by
 rw [contractFault, if_pos hid, if_neg (by omega)]
theorem cf_bad {id : Int} {xs : List Leg} (hid : inB id 1 1000000000 = true) (h2 : 2 ≤ xs.length) (h8 : xs.length ≤ 8) {k : Nat} (hk : k < xs.length) (h : okTo xs k) (hb : ¬ legFault (xs.getD k default) = 0) : contractFault id xs = legFault (xs.getD k default) := by
 rw [cf_val hid h2 h8, scan_bad hk h hb, if_neg hb]
theorem cf_taken {id : Int} {xs : List Leg} (hid : inB id 1 1000000000 = true) (h2 : 2 ≤ xs.length) (h8 : xs.length ≤ 8) {k : Nat} (hk : k < xs.length) (h : okTo xs k) (h0 : legFault (xs.getD k default) = 0) (hb : hasPlace (xs.take k) (xs.getD k default) = true) : contractFault id xs = 7 := by
 rw [cf_val hid h2 h8, scan_taken hk h h0 hb, if_neg (by decide)]
theorem cf_sum {id : Int} {xs : List Leg} (hid : inB id 1 1000000000 = true) (h2 : 2 ≤ xs.length) (h8 : xs.length ≤ 8) (h : okTo xs xs.length) (hs : ¬ (sumA 0 xs = 0 ∧ sumA 1 xs = 0 ∧ sumA 2 xs = 0)) : contractFault id xs = 1 := by
 rw [cf_val hid h2 h8, scan_ok h, if_pos rfl, if_neg hs]
theorem cf_zero {id : Int} {xs : List Leg} (hid : inB id 1 1000000000 = true) (h2 : 2 ≤ xs.length) (h8 : xs.length ≤ 8) (h : okTo xs xs.length) (hs : sumA 0 xs = 0 ∧ sumA 1 xs = 0 ∧ sumA 2 xs = 0) : contractFault id xs = 0 := by
 rw [cf_val hid h2 h8, scan_ok h, if_pos rfl, if_pos hs]
end Go.Proofs.YtackhljepbhpgaaGreat


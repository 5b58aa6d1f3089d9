import Derived.Test.YteebglgbeijolaaPrnContractsLaw1
import Derived.BigQuiet
import Derived.Deep.QuietTactic
import Derived.Test.YteebglgbeijolaaPrnContractsLaw3
import Derived.Test.YteebglgbeijolaaPrnContractsLaw2
import Derived.PlainAid
import Derived.Laws.BitsAllLaws
import Derived.Deep.RegionHeld3
import Derived.Deep.DrawnRows
import Derived.Lib.ConvBytes
import Derived.Deep.RegionLawGrows

/-
  A leg as a value: the law's own copy and comparison of one leg.
-/
namespace Go.Proofs.Yteebglgbeijolaa
open Go.RowKit
set_option linter.unusedSectionVars false

structure Leg where
  sh : Int
  ac : Int
  ast : Int
  am : Int
variable [DecidableEq Leg] [Inhabited Leg]

def legV (l : Leg) : Value := .agg #[.int .i64 l.sh, .int .i64 l.ac, .int .i64 l.ast, .int .i64 l.am]
end Go.Proofs.Yteebglgbeijolaa

/-
  Contracts of the small functions of chapter 1: a number within bounds, what is asked of one leg, on both sides (specification and program).
-/
namespace Go.Proofs.Yteebglgbeijolaa
open Go.RowKit
set_option linter.unusedSectionVars false
variable [DecidableEq Leg] [Inhabited Leg]

def inB (n lo hi : Int) : Bool := decide (lo ≤ n) && decide (n ≤ hi)
set_option maxHeartbeats 400000 in
theorem l1In_any (n lo hi : Int) (w : World) :
    Calls Try.prog 103 #[.int .i64 n, .int .i64 lo, .int .i64 hi] w fun e w' => e = .returned (.bool (inB n lo hi)) ∧ w' = w := by
  by_cases h1 : lo ≤ n
  all_goals
    go_enter Try.func103, Try.ntmps103
    go_wp2
    go_ret
    exact ⟨by first | (simp [inB, h1]; done) | (simp [inB]; omega), rfl⟩
set_option maxHeartbeats 400000 in
theorem within_any (n lo hi : Int) (w : World) :
    Calls Try.prog 102 #[.int .i64 n, .int .i64 lo, .int .i64 hi] w fun e w' => e = .returned (.bool (inB n lo hi)) ∧ w' = w := by
  by_cases h1 : lo ≤ n
  all_goals
    go_enter Try.func102, Try.ntmps102
    go_wp2
    go_ret
    exact ⟨by first | (simp [inB, h1]; done) | (simp [inB]; omega), rfl⟩
set_option maxHeartbeats 400000 in
theorem l1Id_any (n : Int) (w : World) :
    Calls Try.prog 52 #[.int .i64 n] w fun e w' => e = .returned (.bool (inB n 1 1000000000)) ∧ w' = w := by
  go_enter Try.func52, Try.ntmps52
  go_wp2_with (go_at_call 103; refine (l1In_any _ _ _ _).mono ?_; rintro e w' ⟨rfl, rfl⟩)
  go_ret
  exact ⟨rfl, rfl⟩
set_option maxHeartbeats 400000 in
theorem isId_any (n : Int) (w : World) :
    Calls Try.prog 50 #[.int .i64 n] w fun e w' => e = .returned (.bool (inB n 1 1000000000)) ∧ w' = w := by
  go_enter Try.func50, Try.ntmps50
  go_wp2_with (go_at_call 102; refine (within_any _ _ _ _).mono ?_; rintro e w' ⟨rfl, rfl⟩)
  go_ret
  exact ⟨rfl, rfl⟩
set_option maxHeartbeats 400000 in
theorem isShard_any (n : Int) (w : World) :
    Calls Try.prog 54 #[.int .i64 n] w fun e w' => e = .returned (.bool (inB n 0 2)) ∧ w' = w := by
  go_enter Try.func54, Try.ntmps54
  go_wp2_with (go_at_call 102; refine (within_any _ _ _ _).mono ?_; rintro e w' ⟨rfl, rfl⟩)
  go_ret
  exact ⟨rfl, rfl⟩
set_option maxHeartbeats 400000 in
theorem isAccount_any (n : Int) (w : World) :
    Calls Try.prog 141 #[.int .i64 n] w fun e w' => e = .returned (.bool (inB n 0 5)) ∧ w' = w := by
  go_enter Try.func141, Try.ntmps141
  go_wp2_with (go_at_call 102; refine (within_any _ _ _ _).mono ?_; rintro e w' ⟨rfl, rfl⟩)
  go_ret
  exact ⟨rfl, rfl⟩
set_option maxHeartbeats 400000 in
theorem isAsset_any (n : Int) (w : World) :
    Calls Try.prog 55 #[.int .i64 n] w fun e w' => e = .returned (.bool (inB n 0 2)) ∧ w' = w := by
  go_enter Try.func55, Try.ntmps55
  go_wp2_with (go_at_call 102; refine (within_any _ _ _ _).mono ?_; rintro e w' ⟨rfl, rfl⟩)
  go_ret
  exact ⟨rfl, rfl⟩
def placeB (l : Leg) : Bool := inB l.sh 0 2 && inB l.ac 0 5 && inB l.ast 0 2
def legFault (l : Leg) : Int := if placeB l && inB l.am (-1000000000000) 1000000000000 then (if l.am = 0 then 1 else 0) else 3
set_option maxHeartbeats 400000 in
theorem isPlace_any (l : Leg) (w : World) :
    Calls Try.prog 104 #[legV l] w fun e w' => e = .returned (.bool (placeB l)) ∧ Below w.heap.size w w' := by
  obtain ⟨a, b, c, d⟩ := l
  unfold legV placeB
  go_enter Try.func104, Try.ntmps104
  go_wp2_with (first | (go_at_call 54; refine (isShard_any _ _).mono ?_; rintro e w' ⟨rfl, rfl⟩) | (go_at_call 141; refine (isAccount_any _ _).mono ?_; rintro e w' ⟨rfl, rfl⟩) | (go_at_call 55; refine (isAsset_any _ _).mono ?_; rintro e w' ⟨rfl, rfl⟩))
  all_goals
    go_ret
    exact ⟨by simp [*], (by repeat (first | exact Below.refl _ _ | (refine Below.drew ?_) | (refine Below.alloc ?_ (by first | (simp; done) | (simp; omega)) _)))⟩
set_option maxHeartbeats 400000 in
theorem specLegFault_any (l : Leg) (w : World) :
    Calls Try.prog 72 #[legV l] w fun e w' => e = .returned (.int .i64 (legFault l)) ∧ Below w.heap.size w w' := by
  obtain ⟨a, b, c, d⟩ := l
  unfold legV
  go_enter Try.func72, Try.ntmps72
  go_wp2_with (go_at_call 103; refine (l1In_any _ _ _ _).mono ?_; rintro e w' ⟨rfl, rfl⟩)
  all_goals
    go_ret
    exact ⟨by simp_all [legFault, placeB], (by repeat (first | exact Below.refl _ _ | (refine Below.drew ?_) | (refine Below.alloc ?_ (by first | (simp; done) | (simp; omega)) _)))⟩
set_option maxHeartbeats 400000 in
theorem implLegFault_any (l : Leg) (w : World) :
    Calls Try.prog 57 #[legV l] w fun e w' => e = .returned (.int .i64 (legFault l)) ∧ Below w.heap.size w w' := by
  obtain ⟨a, b, c, d⟩ := l
  unfold legV
  go_enter Try.func57, Try.ntmps57
  go_wp2_with (first | (go_at_call 104; refine (isPlace_any ⟨a, b, c, d⟩ _).mono ?_; rintro e w' ⟨rfl, hb⟩; obtain ⟨hc, hf⟩ := bcell hb) | (go_at_call 102; refine (within_any _ _ _ _).mono ?_; rintro e w' ⟨rfl, rfl⟩))
  all_goals
    go_ret
    exact ⟨by simp_all [legFault], ((Below.refl _ _).alloc (Nat.le_refl _) _).trans (hb.mono (by simp))⟩
set_option maxHeartbeats 400000 in
theorem placeOf_any (l : Leg) (w : World) :
    Calls Try.prog 105 #[legV l] w fun e w' => e = .returned (legV ⟨l.sh, l.ac, l.ast, 0⟩) ∧ Below w.heap.size w w' := by
  obtain ⟨a, b, c, d⟩ := l
  unfold legV
  go_enter Try.func105, Try.ntmps105
  go_wp2
  exact bodyPost_ret (v := .agg #[.int .i64 a, .int .i64 b, .int .i64 c, .int .i64 0]) (by simp [results, Try.results105, go_sem]) rfl ⟨rfl, (by repeat (first | exact Below.refl _ _ | (refine Below.drew ?_) | (refine Below.alloc ?_ (by first | (simp; done) | (simp; omega)) _)))⟩
end Go.Proofs.Yteebglgbeijolaa

/-
  A region that draws its order, whose operations only make memory (and one last, number t, that may write): whatever the order, what each of them yields stays as it is, and lies in blocks of its own.
-/
namespace Go.Proofs.Yteebglgbeijolaa
open Go.RowKit

def over (a : Act) (ds : List Nat) (y : Nat → Value) : Act := { a with tmps := ds.foldl (fun t s => t.setIfInBounds s (y s)) a.tmps }
theorem fold_put : ∀ (ds : List Nat) (T : Array Value) (y : Nat → Value) (d : Nat) (v : Value), d ∉ ds →
    (ds.foldl (fun t s => t.setIfInBounds s (y s)) T).setIfInBounds d v = ds.foldl (fun t s => t.setIfInBounds s (y s)) (T.setIfInBounds d v)
  | [], _, _, _, _, _ => rfl
  | e :: ds, T, y, d, v, h => by
    have h1 : d ≠ e := fun c => h (by rw [c]; exact List.mem_cons_self)
    have h2 : d ∉ ds := fun c => h (List.mem_cons_of_mem _ c)
    simp only [List.foldl_cons]
    rw [fold_put ds _ y d v h2, Array.setIfInBounds_comm _ _ (Ne.symm h1)]
theorem fold_congr : ∀ (ds : List Nat) (T : Array Value) (y y' : Nat → Value), (∀ s ∈ ds, y s = y' s) →
    ds.foldl (fun t s => t.setIfInBounds s (y s)) T = ds.foldl (fun t s => t.setIfInBounds s (y' s)) T
  | [], _, _, _, _ => rfl
  | e :: ds, T, y, y', h => by
    simp only [List.foldl_cons]
    rw [h e List.mem_cons_self]
    exact fold_congr ds _ y y' (fun s hs => h s (List.mem_cons_of_mem _ hs))
def updV (y : Nat → Value) (d : Nat) (v : Value) : Nat → Value := fun s => if s = d then v else y s
theorem fold_upd : ∀ (ds : List Nat) (T : Array Value) (y : Nat → Value) (d : Nat) (v : Value), d ∈ ds → ds.Nodup →
    (ds.foldl (fun t s => t.setIfInBounds s (y s)) T).setIfInBounds d v = ds.foldl (fun t s => t.setIfInBounds s (updV y d v s)) T
  | [], _, _, _, _, h, _ => absurd h List.not_mem_nil
  | e :: ds, T, y, d, v, h, hn => by
    obtain ⟨h1, h2⟩ := List.nodup_cons.1 hn
    simp only [List.foldl_cons]
    by_cases hd : d = e
    · subst hd
      rw [fold_put ds _ y d v h1, Array.setIfInBounds_setIfInBounds]
      have e1 : updV y d v d = v := if_pos rfl
      rw [e1]
      exact fold_congr ds _ _ _ (fun s hs => (if_neg (fun c : s = d => h1 (c ▸ hs))).symm)
    · have hm : d ∈ ds := (List.mem_cons.1 h).resolve_left hd
      have e1 : updV y d v e = y e := if_neg (fun c => hd c.symm)
      rw [e1]
      exact fold_upd ds _ y d v hm h2
theorem over_put {a : Act} {ds : List Nat} {y : Nat → Value} {d : Nat} {v : Value} (h : d ∈ ds) (hn : ds.Nodup) : (over a ds y).put (some d) v = over a ds (updV y d v) := by
  simp only [over, Act.put]
  rw [fold_upd ds _ y d v h hn]
theorem over_self (a : Act) : ∀ ds : List Nat, over a ds (fun s => a.tmps.getD s undef) = a := by
  intro ds
  have H : ∀ ds : List Nat, ds.foldl (fun t s => t.setIfInBounds s (a.tmps.getD s undef)) a.tmps = a.tmps := by
    intro ds
    induction ds with
    | nil => rfl
    | cons d ds ih =>
      simp only [List.foldl_cons]
      have e : a.tmps.setIfInBounds d (a.tmps.getD d undef) = a.tmps := by
        apply Array.ext_getElem?
        intro i
        rw [Array.getElem?_setIfInBounds]
        split
        · rename_i h
          subst h
          split
          · rename_i h; simp [h]
          · rename_i h; simp [Array.getElem?_eq_none (Nat.le_of_not_lt h)]
        · rfl
      rw [e]
      exact ih
  simp only [over]
  rw [H ds]
theorem inj_fst : ∀ (L : List (Nat × Nat)), (L.map Prod.fst).Nodup → ∀ p ∈ L, ∀ q ∈ L, p.1 = q.1 → p = q
  | [], _, p, hp, _, _, _ => absurd hp List.not_mem_nil
  | a :: L, hn, p, hp, q, hq, h => by
    obtain ⟨h1, h2⟩ := List.nodup_cons.1 hn
    rcases List.mem_cons.1 hp with hp1 | hp1
    · rcases List.mem_cons.1 hq with hq1 | hq1
      · rw [hp1, hq1]
      · exact absurd (by rw [← hp1, h]; exact List.mem_map_of_mem hq1) h1
    · rcases List.mem_cons.1 hq with hq1 | hq1
      · exact absurd (by rw [← hq1, ← h]; exact List.mem_map_of_mem hp1) h1
      · exact inj_fst L h2 p hp1 q hq1 h
theorem inj_snd : ∀ (L : List (Nat × Nat)), (L.map Prod.snd).Nodup → ∀ p ∈ L, ∀ q ∈ L, p.2 = q.2 → p = q
  | [], _, p, hp, _, _, _ => absurd hp List.not_mem_nil
  | a :: L, hn, p, hp, q, hq, h => by
    obtain ⟨h1, h2⟩ := List.nodup_cons.1 hn
    rcases List.mem_cons.1 hp with hp1 | hp1
    · rcases List.mem_cons.1 hq with hq1 | hq1
      · rw [hp1, hq1]
      · exact absurd (by rw [← hp1, h]; exact List.mem_map_of_mem hq1) h1
    · rcases List.mem_cons.1 hq with hq1 | hq1
      · exact absurd (by rw [← hq1, ← h]; exact List.mem_map_of_mem hp1) h1
      · exact inj_snd L h2 p hp1 q hq1 h
theorem filter_less {F F' : Nat × Nat → Bool} : ∀ {L : List (Nat × Nat)}, (L.map Prod.fst).Nodup → ∀ {p : Nat × Nat}, p ∈ L → F p = true → F' p = false → (∀ q ∈ L, q ≠ p → F' q = F q) → (L.filter F).length = (L.filter F').length + 1
  | [], _, _, hp, _, _, _ => absurd hp List.not_mem_nil
  | a :: L, hn, p, hp, h1, h2, h3 => by
    obtain ⟨g1, g2⟩ := List.nodup_cons.1 hn
    by_cases e : a = p
    · subst e
      rw [List.filter_cons_of_pos h1, List.filter_cons_of_neg (by rw [h2]; exact Bool.false_ne_true)]
      have h4 : L.filter F = L.filter F' := List.filter_congr (fun q hq => (h3 q (List.mem_cons_of_mem _ hq) (fun c => g1 (c ▸ List.mem_map_of_mem hq))).symm)
      rw [h4, List.length_cons]
    · have hm : p ∈ L := (List.mem_cons.1 hp).resolve_left (fun c => e c.symm)
      have ih := filter_less g2 hm h1 h2 (fun q hq hne => h3 q (List.mem_cons_of_mem _ hq) hne)
      have ha := h3 a List.mem_cons_self e
      cases hF : F a with
      | true => rw [List.filter_cons_of_pos hF, List.filter_cons_of_pos (by rw [ha, hF]), List.length_cons, List.length_cons, ih]
      | false => rw [List.filter_cons_of_neg (by rw [hF]; exact Bool.false_ne_true), List.filter_cons_of_neg (by rw [ha, hF]; exact Bool.false_ne_true), ih]
section
variable {P : Program} {ops : Array Oper} {Q : Exit → Act → World → Prop} {md : Region.Mode} {S : World → Prop} {t : Nat}

def risesB (md : Region.Mode) (ops : Array Oper) : Bool := (List.range ops.size).all fun i => match ops[i]? with | some o => o.after.all fun e => !Region.binds md e || decide (e.on < i) | none => true
theorem ready_some {listed : Array Bool} (hr : risesB md ops = true) (hs : listed.size = ops.size) : ∀ n i, i < n → i < ops.size → listed.getD i true = false → ∃ j, j ∈ Region.ready md ops listed := by
  intro n
  induction n with
  | zero => intro i h; omega
  | succ n ih =>
    intro i hi hlt hun
    by_cases hex : ∃ k, k < i ∧ listed.getD k true = false
    · obtain ⟨k, hk, hku⟩ := hex
      exact ih k (by omega) (by omega) hku
    · refine ⟨i, mem_ready.2 ⟨hun, ops[i], by simp [hlt], fun e he hb => ?_⟩⟩
      have h1 := List.all_eq_true.1 hr i (List.mem_range.2 hlt)
      simp only [Array.getElem?_eq_getElem hlt] at h1
      have h2 := Array.all_eq_true'.1 h1 e he
      simp only [hb, Bool.not_true, Bool.false_or, decide_eq_true_eq] at h2
      have h3 : ¬ listed.getD e.on true = false := fun c => hex ⟨e.on, h2, c⟩
      have h4 : e.on < listed.size := by omega
      simp [h4] at h3 ⊢
      exact h3
structure Shut (p : Prop) : Prop where
  out : p
def checkS (md : Region.Mode) (ops : Array Oper) (listed : Array Bool) (t f : Nat) (L : List (Nat × Nat)) : Bool :=
  risesB md ops && decide (listed.size = ops.size) && (ops[t]?).isSome && ((List.range ops.size).all fun i => listed.getD i true || decide (i = t) || L.any fun p => decide (p.1 = i)) &&
    !listed.getD t true && (L.all fun p => !listed.getD p.1 true) && decide (L.map Prod.fst).Nodup && decide (L.map Prod.snd).Nodup && (L.all fun p => decide (p.1 ≠ t) && waitsFor md ops t p.1) && decide (f = L.length + 1)
end

end Go.Proofs.Yteebglgbeijolaa

/-
  One more record in a log: the specification's side, and what is told.
-/
namespace Go.Proofs.Yteebglgbeijolaa
open Go.RowKit
set_option linter.unusedSectionVars false
variable [DecidableEq Logg] [Inhabited Logg] [DecidableEq LoggR] [Inhabited LoggR] [DecidableEq BytesR] [Inhabited BytesR] [DecidableEq RecsR] [Inhabited RecsR] [DecidableEq Leg] [Inhabited Leg]
set_option linter.unusedSimpArgs false
attribute [local go_sem ↓] Go.wp_at_zero Go.wp_at_succ

theorem Mod.frozenAt {F : Nat → Prop} {w w' : World} (h : Mod F w w') {a : Addr} (hl : a.block < w.heap.size) (hn : ¬ F a.block) : w'.frozen? a = w.frozen? a := World.frozen?_of_block (h.block a.block hl hn)
end Go.Proofs.Yteebglgbeijolaa


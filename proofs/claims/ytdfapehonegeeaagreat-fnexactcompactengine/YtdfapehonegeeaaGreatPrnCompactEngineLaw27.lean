import Derived.Test.YtdfapehonegeeaaGreatPrnCompactEngineLaw26
import Derived.Test.YtdfapehonegeeaaGreatPrnCompactEngineLaw9
import Derived.Test.YtdfapehonegeeaaGreatPrnCompactEngineLaw10
import Derived.Test.YtdfapehonegeeaaGreatPrnCompactEngineLaw24
import Derived.Test.YtdfapehonegeeaaGreatPrnCompactEngineLaw11

/-
  How great engines can be.
-/
namespace Go.Proofs.YtdfapehonegeeaaGreat
open Go.RowKit
set_option linter.unusedSectionVars false
variable [DecidableEq Wri] [Inhabited Wri] [DecidableEq BytesR] [Inhabited BytesR] [DecidableEq Rw] [Inhabited Rw] [DecidableEq TabR] [Inhabited TabR] [DecidableEq Logg] [Inhabited Logg] [DecidableEq Engn] [Inhabited Engn] [DecidableEq LoggR] [Inhabited LoggR] [DecidableEq RecsR] [Inhabited RecsR] [DecidableEq Leg] [Inhabited Leg] [DecidableEq EngR] [Inhabited EngR]
set_option linter.unusedVariables false
set_option linter.unusedSimpArgs false

theorem wt_tab {xs : List Rw} (h : tabF xs = 0) : wtRows xs ≤ 24200 := by
  have h1 := wt_small (tab_small h)
  have h2 := (tabF_all h).1
  omega
theorem wt_log {d : Logg} (h : logF d = 0) : wtLogg d ≤ 6000 := by
  have := logF_small h
  unfold wtLogg wtBytes
  omega
theorem codeE_le (c : Int) : wtEngR (codeE c) = 0 := rfl
end Go.Proofs.YtdfapehonegeeaaGreat

/-
  FlushEngine: the program's side.
-/
namespace Go.Proofs.YtdfapehonegeeaaGreat
open Go.RowKit
set_option linter.unusedSectionVars false
variable [DecidableEq Wri] [Inhabited Wri] [DecidableEq BytesR] [Inhabited BytesR] [DecidableEq Rw] [Inhabited Rw] [DecidableEq TabR] [Inhabited TabR] [DecidableEq Logg] [Inhabited Logg] [DecidableEq Engn] [Inhabited Engn] [DecidableEq LoggR] [Inhabited LoggR] [DecidableEq RecsR] [Inhabited RecsR] [DecidableEq Leg] [Inhabited Leg] [DecidableEq EngR] [Inhabited EngR]
set_option linter.unusedVariables false
set_option linter.unusedSimpArgs false
attribute [local go_sem ↓] Go.wp_at_zero Go.wp_at_succ

theorem engR_of {w : World} {base : Nat} {F : Nat → Prop} {u1 u2 u3 u4 : Value} {e : Engn} (c v : Int) (h : engnR.O w base F (.agg #[u1, u2, u3, u4, .int .i64 e.next]) e) : engRR.O w base F (.agg #[.int .i64 c, .int .i64 v, u1, u2, u3, u4, .int .i64 e.next]) ⟨c, v, e⟩ :=
  ⟨_, _, _, _, F, rfl, h, fun _ => Iff.rfl⟩
end Go.Proofs.YtdfapehonegeeaaGreat

/-
  What is made compact, in mathematics.
-/
namespace Go.Proofs.YtdfapehonegeeaaGreat
open Go.RowKit
set_option linter.unusedSectionVars false
variable [DecidableEq Rw] [Inhabited Rw] [DecidableEq TabR] [Inhabited TabR]
set_option linter.unusedVariables false
set_option linter.unusedSimpArgs false

theorem ahead_same {a b : Rw} (h : a.key = b.key) : ahead a b = true ↔ b.ver < a.ver := by rw [ahead_ver h]; simp
theorem lastG_len {v : Int} : ∀ (xs : List Rw) (t : ByteArray), (lastG v t xs).length ≤ xs.length
  | [], _ => by simp [lastG]
  | x :: r, t => by
    unfold lastG
    split
    · have := lastG_len (v := v) r t
      simp only [List.length_cons]
      omega
    · have := lastG_len (v := v) r x.key
      simp only [List.length_cons]
      omega
theorem lastG_mem_iff {v : Int} : ∀ {xs : List Rw} {t : ByteArray}, Rises xs → (∀ x ∈ xs, kle t x.key) → ∀ y, y ∈ lastG v t xs ↔ y ∈ xs ∧ y.key ≠ t ∧ y.ver ≤ v ∧ ∀ z ∈ xs, z.key = y.key → y.ver < z.ver → v < z.ver
  | [], _, _, _, y => by simp [lastG]
  | x :: r, t, hp, ht, y => by
    unfold Rises at hp
    rw [List.pairwise_cons] at hp
    have hkr : ∀ z ∈ r, kle x.key z.key := fun z hz => kle_ahead (hp.1 z hz)
    have htr : ∀ z ∈ r, kle t z.key := fun z hz => ht z (List.mem_cons_of_mem _ hz)
    unfold lastG
    by_cases h1 : v < x.ver ∨ x.key = t
    · rw [if_pos h1, lastG_mem_iff hp.2 htr y]
      constructor
      · rintro ⟨a, b, c, d⟩
        refine ⟨List.mem_cons_of_mem _ a, b, c, fun z hz hk hv => ?_⟩
        rcases List.mem_cons.1 hz with rfl | hz
        · rcases h1 with h1 | h1
          · exact h1
          · exact absurd (hk.symm.trans h1) b
        · exact d z hz hk hv
      · rintro ⟨a, b, c, d⟩
        rcases List.mem_cons.1 a with rfl | a
        · rcases h1 with h1 | h1
          · omega
          · exact absurd h1 b
        · exact ⟨a, b, c, fun z hz => d z (List.mem_cons_of_mem _ hz)⟩
    · rw [if_neg h1, List.mem_cons, lastG_mem_iff (t := x.key) hp.2 hkr y]
      constructor
      · rintro (rfl | ⟨a, b, c, d⟩)
        · refine ⟨List.mem_cons_self .., fun e => h1 (.inr e), by omega, fun z hz hk hv => ?_⟩
          rcases List.mem_cons.1 hz with rfl | hz
          · omega
          · have := (ahead_same hk.symm).1 (hp.1 z hz)
            omega
        · refine ⟨List.mem_cons_of_mem _ a, fun e => ?_, c, fun z hz hk hv => ?_⟩
          · have h2 := hkr y a
            rw [e] at h2
            exact b (e.trans (kle_anti (ht x (List.mem_cons_self ..)) h2))
          · rcases List.mem_cons.1 hz with rfl | hz
            · exact absurd hk.symm b
            · exact d z hz hk hv
      · rintro ⟨a, b, c, d⟩
        rcases List.mem_cons.1 a with rfl | a
        · exact .inl rfl
        · refine .inr ⟨a, fun e => ?_, c, fun z hz => d z (List.mem_cons_of_mem _ hz)⟩
          have h2 := (ahead_same (a := x) (b := y) e.symm).1 (hp.1 y a)
          have h3 := d x (List.mem_cons_self ..) e.symm h2
          omega
theorem lastL_mem {v : Int} {xs : List Rw} (hr : Rises xs) (hs : Sorted xs) (y : Rw) : y ∈ lastL v xs ↔ y ∈ xs ∧ y.ver ≤ v ∧ ∀ z ∈ xs, z.key = y.key → y.ver < z.ver → v < z.ver := by
  rw [lastL_eq, lastG_mem_iff hr (fun x hx => kle_nil _)]
  constructor
  · rintro ⟨a, _, c, d⟩
    exact ⟨a, c, d⟩
  · rintro ⟨a, c, d⟩
    exact ⟨a, hs.full y a, c, d⟩
def shad (xs : List Rw) (v : Int) (x : Rw) : Bool := xs.any (fun y => decide (y.key = x.key) && decide (x.ver < y.ver) && decide (y.ver ≤ v))
theorem shad_iff (xs : List Rw) (v : Int) (x : Rw) : shad xs v x = true ↔ ∃ y ∈ xs, y.key = x.key ∧ x.ver < y.ver ∧ y.ver ≤ v := by
  unfold shad
  simp only [List.any_eq_true, Bool.and_eq_true, decide_eq_true_eq]
  constructor
  · rintro ⟨y, h, ⟨a, b⟩, c⟩
    exact ⟨y, h, a, b, c⟩
  · rintro ⟨y, h, a, b, c⟩
    exact ⟨y, h, ⟨a, b⟩, c⟩
def compL (xs : List Rw) (v : Int) : List Rw := (xs.filter (fun x => !shad xs v x)).filter (fun x => !(x.gone && decide (x.ver ≤ v)))
theorem compL_puts {xs : List Rw} (hr : Rises xs) (hs : Sorted xs) (v : Int) : putsL [] (overV v xs ++ living (lastL v xs)) = compL xs v := by
  have hmem : ∀ r ∈ overV v xs ++ living (lastL v xs), r ∈ xs := by
    intro r h
    rcases List.mem_append.1 h with h | h
    · exact (List.mem_filter.1 h).1
    · exact ((lastL_mem hr hs r).1 (List.mem_filter.1 h).1).1
  rw [putsL_of hr _ hmem]
  unfold compL
  rw [List.filter_filter]
  refine List.filter_congr (fun x hx => ?_)
  rw [Bool.eq_iff_iff]
  simp only [decide_eq_true_eq, List.mem_append, Bool.and_eq_true, Bool.not_eq_true', Bool.and_eq_false_iff, decide_eq_false_iff_not]
  unfold overV living
  rw [List.mem_filter, List.mem_filter, lastL_mem hr hs]
  have hsh : shad xs v x = false ↔ ∀ z ∈ xs, z.key = x.key → x.ver < z.ver → v < z.ver := by
    rw [← Bool.not_eq_true, shad_iff]
    constructor
    · intro h z hz hk hv
      apply Classical.byContradiction
      intro hc
      exact h ⟨z, hz, hk, hv, by omega⟩
    · rintro h ⟨z, hz, hk, hv, hl⟩
      have := h z hz hk hv
      omega
  constructor
  · rintro (⟨_, h⟩ | ⟨⟨_, h1, h2⟩, h3⟩)
    · have h' : v < x.ver := by simpa using h
      refine ⟨.inr (by omega), hsh.2 (fun z hz hk hv => by omega)⟩
    · refine ⟨.inl (by simpa using h3), hsh.2 h2⟩
  · rintro ⟨h1, h2⟩
    by_cases hv : v < x.ver
    · exact .inl ⟨hx, by simpa using hv⟩
    · refine .inr ⟨⟨hx, by omega, hsh.1 h2⟩, ?_⟩
      rcases h1 with h1 | h1
      · simpa using h1
      · omega
theorem compL_sub (xs : List Rw) (v : Int) : List.Sublist (compL xs v) xs := List.Sublist.trans List.filter_sublist List.filter_sublist
end Go.Proofs.YtdfapehonegeeaaGreat

/-
  CompactTable: what is answered.
-/
namespace Go.Proofs.YtdfapehonegeeaaGreat
open Go.RowKit
set_option linter.unusedSectionVars false
variable [DecidableEq Rw] [Inhabited Rw] [DecidableEq TabR] [Inhabited TabR]
set_option linter.unusedVariables false

def compD (xs : List Rw) (v : Int) : TabR := if tabF xs = 0 then ⟨0, compL xs v⟩ else ⟨tabF xs, []⟩
end Go.Proofs.YtdfapehonegeeaaGreat


import Derived.Test.YteebglgbeijolaaPrnCompactsLaw7
import Derived.Test.YteebglgbeijolaaPrnCompactsLaw9
import Derived.Test.YteebglgbeijolaaPrnCompactsLaw10
import Derived.Test.YteebglgbeijolaaPrnCompactsLaw3

/-
  What lies above a version: above, as an iterator.
-/
namespace Go.Proofs.Yteebglgbeijolaa
open Go.RowKit Go.Shelf
set_option linter.unusedSectionVars false
variable [DecidableEq Rw] [Inhabited Rw]
set_option linter.unusedVariables false
attribute [local go_sem] Oper.semAt_some
attribute [local go_sem] run_store_func

def overV (v : Int) (ys : List Rw) : List Rw := ys.filter (fun r => decide (v < r.ver))
theorem overV_pre {v : Int} {xs ys : List Rw} (h : xs <+: ys) : overV v xs <+: overV v ys := by
  obtain ⟨t, rfl⟩ := h
  unfold overV
  rw [List.filter_append]
  exact List.prefix_append _ _
theorem overV_skip {v : Int} (xs : List Rw) (x : Rw) (h : ¬ v < x.ver) : overV v (xs ++ [x]) = overV v xs := by simp [overV, List.filter_append, h]
theorem overV_take {v : Int} (xs : List Rw) (x : Rw) (h : v < x.ver) : overV v (xs ++ [x]) = overV v xs ++ [x] := by simp [overV, List.filter_append, h]
set_option maxHeartbeats 1000000 in
theorem above_any (a : Option Addr) (n c : Nat) (v : Int) (w : World) :
    Calls Try.prog 83 #[.agg #[.slice a n c, cmpF], .int .i64 v] w fun e w' => e = .returned (.func (.func 120) #[] #[.pointer (some ⟨w.heap.size, 0, none⟩), .pointer (some ⟨w.heap.size + 1, 0, none⟩)]) ∧
      w' = (w.alloc (.cells #[.slice a n c, cmpF] 124)).alloc (.cells #[.int .i64 v] 2) := by
  unfold cmpF
  go_enter Try.func83, Try.ntmps83
  go_wp2
  go_ret
  exact ⟨rfl, rfl⟩
set_option maxRecDepth 100000 in
set_option maxHeartbeats 4000000 in
theorem above_seq (B1 B2 : Nat) (sv : Value) (xs : List Rw) (v : Int) (R : Nat → Prop) (w : World) (hRa : ∀ b, R b → b < w.heap.size) (h1 : w.cell? ⟨B1, 0, none⟩ = some sv) (h1' : w.cell? ⟨B1, 1, none⟩ = some cmpF) (h2 : w.cell? ⟨B2, 0, none⟩ = some (.int .i64 v))
    (hR1 : R B1) (hR2 : R B2) (hT : TabAt R w sv xs) (hn : xs.length ≤ 200) :
    Seqx Try.prog 120 #[.pointer (some ⟨B1, 0, none⟩), .pointer (some ⟨B2, 0, none⟩)] rowV (overV v xs) R w := by
  intro l J Jx W X hm hXa hJ hJx hY h0
  have hT2 := hT.mod hm (fun b hb h => h hb)
  obtain ⟨a, cap, rfl, hc1, hc2, hrow⟩ := hT
  have k1 := hm.cell h1 (fun h => h hR1)
  have k1' := hm.cell h1' (fun h => h hR1)
  have k2 := hm.cell h2 (fun h => h hR2)
  have z1 := World.block_lt_of_cell? _ _ k1
  have z2 := World.block_lt_of_cell? _ _ k2
  dsimp only at z1 z2
  unfold cmpF at k1'
  generalize hN : xs.length = n at *
  have HN : Hid (xs.length = n) := hN
  clear hN hrow
  refine callsIn_of_wp_marks Try.func120 rfl trivial ?_ rfl
  simp only [Try.ntmps120, List.size_toArray, List.length_cons, List.length_nil, Nat.reduceAdd, Nat.reduceSub, Array.replicate_succ, Array.replicate_zero, List.push_toArray, List.append_toArray, List.nil_append, List.cons_append]
  gi_wp2
  refine ⟨trivial, rfl, (callsIn_wide.2 (all_any _ _ _ _)).mono ?_⟩
  rintro e w' ⟨rfl, hw'⟩
  have hM2 : ∀ F, Mod F W w' := fun F => by rw [hw']; exact ((mod_alloc F W _).alloc _).alloc _
  have s2 : w'.heap.size = W.heap.size + 3 := by rw [hw']; simp
  have c1 : w'.cell? ⟨W.heap.size, 0, none⟩ = some (.func (.yield l) #[] #[]) := by rw [hw']; simp [go_sem]
  have c3 : w'.cell? ⟨W.heap.size + 2, 0, none⟩ = some (.slice a n cap) := by rw [hw']; simp [go_sem]
  simp only [World.size_alloc]
  clear hw'
  gi_wp2
  have s0 := hm.size
  have hlen : xs.length ≤ 200 := by rw [HN.out]; exact hn
  obtain ⟨N, hN⟩ : ∃ N, W.heap.size = N := ⟨_, rfl⟩
  rw [hN] at c1 c3 s2 z1 z2 s0 hXa ⊢
  have hRb : ∀ b, (R b ∨ b = N + 1 ∨ b = N + 2) → b < w'.heap.size := fun b h => by
    rcases h with h | h
    · have := hRa b h
      omega
    · omega
  have hseq := values_seq (N + 2) (.slice a n cap) xs (fun b => R b ∨ b = N + 1 ∨ b = N + 2) w' c3 (.inr (.inr rfl)) ((hT2.mod (hM2 (fun _ => False)) (fun _ _ h => h)).wide (fun b h => .inl h)) hlen
  refine wp_rangeX (gf := 144) rfl (enters_of Try.func144 (by kernel_rfl) rfl) hseq hRb
    (ItI J (overV v) (fun b => b = N ∨ b = N + 1 ∨ b = N + 2) X R w (fun _ A => A.cell? ⟨N, 0, none⟩ = some (.func (.yield l) #[] #[]))) (ItX Jx (overV v) X)
    (ItI_stb hJ hRa (fun pre A B F h hm hF => hm.cell h (hF _ (.inl rfl)))) (ItX_stb hJx) (fun _ => False) (fun _ h => h.elim) ?start
    (fun x => RowBox (N + 3) (fun B => { tmps := #[.func (.yield l) #[] #[], .pointer (some ⟨B1, 0, none⟩), .pointer (some ⟨B2, 0, none⟩), .pointer (some ⟨N, 0, none⟩), .pointer (some ⟨B, 0, none⟩), .pointer (some ⟨B1, 0, none⟩), .agg #[.slice a n cap, .func (.func 77) #[] #[]], .func (.func 144) #[] #[.pointer (some ⟨N + 1 + 1, 0, none⟩)], .agg #[.string x.key, .int .i64 x.ver, .string x.val, .bool x.gone], undef, undef, undef, undef, undef, undef, undef, undef, undef, undef], defers := [] }) x)
    (fun x a' => RowBox_stb _ _ x a') ?assign ?body ?done ?stop
  case start =>
    refine ⟨fun b => X b ∨ b = N ∨ b = N + 1 ∨ b = N + 2, hJ _ _ _ X _ h0 (hM2 X) (fun b h => .inl h) (fun b h => ?_), fun _ h => h.elim, fun b h => ?_, fun b h => .inl h, fun b h => .inr h, fun b h h2 => h2, fun b h => h.elim, c1, hm.trans (hM2 _)⟩
    · rw [hN]
      rcases h with h | h
      · exact ⟨.inl h, by have := hXa b h; omega⟩
      · exact ⟨.inr (by omega), by omega⟩
    · rcases h with h | h
      · have := hXa b h
        omega
      · omega
  case assign =>
    intro l2 pre x W3 Y K hi hYl hYa hK
    unfold rowV
    gi_wp2
    have hlo : N + 2 < W3.heap.size := by
      obtain ⟨Z, _, _, hZa, _, hSZ, _⟩ := hi
      exact hZa _ (hSZ _ (.inr (.inr rfl)))
    refine hK _ _ (mod_alloc _ _ _) ⟨W3.heap.size, hlo, by simp, by unfold rowCells; simp [go_sem], fun h => ?_, rfl⟩
    have := hYa _ h
    omega
  case body =>
    rintro l2 pre x a' W3 Y hYl hYa ⟨Z, hj, hYZ, hZa, hXZ, hSZ, hSY, hYR, t3, hmw⟩ ⟨B, hlo, hB, hr, hYB, rfl⟩ hpre
    obtain ⟨r0, r1, r2, r3⟩ := hr
    simp only [Nat.zero_add] at r1 r2 r3
    have kv := hmw.cell h2 (fun h => h hR2)
    have zv := World.block_lt_of_cell? _ _ kv
    dsimp only at zv
    by_cases hg : v < x.ver
    · have hd1 : decide (v < x.ver) = true := decide_eq_true hg
      have HE : Hid (overV v (pre ++ [x]) = overV v pre ++ [x]) := overV_take pre x hg
      obtain ⟨fn, tmps, assign, body, hy, hR3⟩ := hY _ x _ Z hj hXZ hZa (by have h := overV_pre (v := v) hpre; rw [HE.out] at h; exact h)
      unfold rowV at hy
      gi_wp2
      refine ⟨rfl, RoundIn.mono (show RoundIn (Fence.wide.inRound l2) 0 Try.prog l fn tmps assign body _ _ from hR3) ?_⟩
      have kp : ∀ W5, Kp R Z W3 W5 → Kp (fun b => R b ∨ b = N + 1 ∨ b = N + 2) Y W3 W5 := fun W5 hk5 => hk5.mono (fun b h => by
            rintro ((h2 | h2) | h2)
            · exact h (.inl h2)
            · exact h (.inr (hSZ _ (.inr h2)))
            · exact h (.inr (hYZ _ h2)))
      rintro e W5 (⟨rfl, hJ5, hk5⟩ | ⟨rfl, hJx5, hk5⟩)
      · have q5 := hk5.size
        have c3' := hk5.cell t3 (fun h => h (.inr (hSZ _ (.inl rfl))))
        gi_wp2
        refine ⟨kp _ hk5, Z, ?_, hYZ, fun b h => by have := hZa b h; omega, hXZ, hSZ, hSY, hYR, c3', hmw.trans (hk5.mono (fun b h hr => h (.inl hr)))⟩
        rw [HE.out]
        exact hJ5
      · have q5 := hk5.size
        gi_wp2
        refine ⟨kp _ hk5, rfl, Z, ?_, hYZ, fun b h => by have := hZa b h; omega, hXZ⟩
        rw [HE.out]
        exact hJx5
    · have hd1 : decide (v < x.ver) = false := decide_eq_false hg
      have HE : Hid (overV v (pre ++ [x]) = overV v pre) := overV_skip pre x hg
      gi_wp2
      refine ⟨fun _ h => (by cases h), ?_⟩
      gi_wp2
      refine ⟨Mod.refl _ _, Z, ?_, hYZ, hZa, hXZ, hSZ, hSY, hYR, t3, hmw⟩
      rw [HE.out]
      exact hj
  case done =>
    rintro D W3 Y hD hYD hi hdef
    obtain ⟨Z, hj, hYZ, hZa, hXZ, hSZ, hSY, hYR, _, hmw⟩ := hi
    gi_wp2
    refine ⟨by simp, .inl ⟨_, _, rfl, run_takeDeferred hdef, ?_⟩⟩
    refine ⟨_, results_none rfl _ _ _, ⟨_, rfl⟩, Z, hXZ, .inl ?_⟩
    exact hJ _ _ _ Z Z hj ((mod_put _ _ _).mono (fun b h => by rw [h]; exact hYZ _ hYD)) (fun _ h => h) (fun b h => ⟨.inl h, by have := hZa b h; simpa [World.putObj] using this⟩)
  case stop =>
    rintro D c pre W3 Y hD hYD hpre ⟨rfl, Z, hj, hYZ, hZa, hXZ⟩ hdef
    gi_wp2
    refine ⟨by simp, .inl ⟨_, _, rfl, run_takeDeferred hdef, ?_⟩⟩
    refine ⟨_, results_none rfl _ _ _, ⟨_, rfl⟩, Z, hXZ, .inr ⟨_, overV_pre hpre, ?_⟩⟩
    exact hJx _ _ _ Z Z hj ((mod_put _ _ _).mono (fun b h => by rw [h]; exact hYZ _ hYD)) (fun _ h => h) (fun b h => ⟨.inl h, by have := hZa b h; simpa [World.putObj] using this⟩)
end Go.Proofs.Yteebglgbeijolaa

/-
  What is made compact, in mathematics.
-/
namespace Go.Proofs.Yteebglgbeijolaa
open Go.RowKit
set_option linter.unusedSectionVars false
variable [DecidableEq Rw] [Inhabited Rw] [DecidableEq TabR] [Inhabited TabR]
set_option linter.unusedVariables false
set_option linter.unusedSimpArgs false

theorem ahead_same {a b : Rw} (h : a.key = b.key) : ahead a b = true ↔ b.ver < a.ver := by rw [ahead_ver h]; simp
theorem rises_mem {xs : List Rw} (h : Rises xs) {a b : Rw} (ha : a ∈ xs) (hb : b ∈ xs) (hk : a.key = b.key) (hv : a.ver = b.ver) : a = b := by
  induction xs with
  | nil => cases ha
  | cons x xs ih =>
    unfold Rises at h
    rw [List.pairwise_cons] at h
    rcases List.mem_cons.1 ha with ea | ha' <;> rcases List.mem_cons.1 hb with eb | hb'
    · rw [ea, eb]
    · have := (ahead_same (a := x) (b := b) (by rw [← ea]; exact hk)).1 (h.1 b hb')
      rw [ea] at hv
      omega
    · have := (ahead_same (a := x) (b := a) (by rw [← eb]; exact hk.symm)).1 (h.1 a ha')
      rw [eb] at hv
      omega
    · exact ih h.2 ha' hb'
theorem lastG_len {v : Int} : ∀ (xs : List Rw) (t : ByteArray), (lastG v t xs).length ≤ xs.length
  | [], _ => by simp [lastG]
  | x :: r, t => by
    unfold lastG
    split
    · have := lastG_len (v := v) r t
      simp only [List.length_cons]
      omega
    · have := lastG_len (v := v) r x.key
      simp only [List.length_cons]
      omega
theorem lastG_mem_iff {v : Int} : ∀ {xs : List Rw} {t : ByteArray}, Rises xs → (∀ x ∈ xs, kle t x.key) → ∀ y, y ∈ lastG v t xs ↔ y ∈ xs ∧ y.key ≠ t ∧ y.ver ≤ v ∧ ∀ z ∈ xs, z.key = y.key → y.ver < z.ver → v < z.ver
  | [], _, _, _, y => by simp [lastG]
  | x :: r, t, hp, ht, y => by
    unfold Rises at hp
    rw [List.pairwise_cons] at hp
    have hkr : ∀ z ∈ r, kle x.key z.key := fun z hz => kle_ahead (hp.1 z hz)
    have htr : ∀ z ∈ r, kle t z.key := fun z hz => ht z (List.mem_cons_of_mem _ hz)
    unfold lastG
    by_cases h1 : v < x.ver ∨ x.key = t
    · rw [if_pos h1, lastG_mem_iff hp.2 htr y]
      constructor
      · rintro ⟨a, b, c, d⟩
        refine ⟨List.mem_cons_of_mem _ a, b, c, fun z hz hk hv => ?_⟩
        rcases List.mem_cons.1 hz with rfl | hz
        · rcases h1 with h1 | h1
          · exact h1
          · exact absurd (hk.symm.trans h1) b
        · exact d z hz hk hv
      · rintro ⟨a, b, c, d⟩
        rcases List.mem_cons.1 a with rfl | a
        · rcases h1 with h1 | h1
          · omega
          · exact absurd h1 b
        · exact ⟨a, b, c, fun z hz => d z (List.mem_cons_of_mem _ hz)⟩
    · rw [if_neg h1, List.mem_cons, lastG_mem_iff (t := x.key) hp.2 hkr y]
      constructor
      · rintro (rfl | ⟨a, b, c, d⟩)
        · refine ⟨List.mem_cons_self .., fun e => h1 (.inr e), by omega, fun z hz hk hv => ?_⟩
          rcases List.mem_cons.1 hz with rfl | hz
          · omega
          · have := (ahead_same hk.symm).1 (hp.1 z hz)
            omega
        · refine ⟨List.mem_cons_of_mem _ a, fun e => ?_, c, fun z hz hk hv => ?_⟩
          · have h2 := hkr y a
            rw [e] at h2
            exact b (e.trans (kle_anti (ht x (List.mem_cons_self ..)) h2))
          · rcases List.mem_cons.1 hz with rfl | hz
            · exact absurd hk.symm b
            · exact d z hz hk hv
      · rintro ⟨a, b, c, d⟩
        rcases List.mem_cons.1 a with rfl | a
        · exact .inl rfl
        · refine .inr ⟨a, fun e => ?_, c, fun z hz => d z (List.mem_cons_of_mem _ hz)⟩
          have h2 := (ahead_same (a := x) (b := y) e.symm).1 (hp.1 y a)
          have h3 := d x (List.mem_cons_self ..) e.symm h2
          omega
theorem lastL_mem {v : Int} {xs : List Rw} (hr : Rises xs) (hs : Sorted xs) (y : Rw) : y ∈ lastL v xs ↔ y ∈ xs ∧ y.ver ≤ v ∧ ∀ z ∈ xs, z.key = y.key → y.ver < z.ver → v < z.ver := by
  rw [lastL_eq, lastG_mem_iff hr (fun x hx => kle_nil _)]
  constructor
  · rintro ⟨a, _, c, d⟩
    exact ⟨a, c, d⟩
  · rintro ⟨a, c, d⟩
    exact ⟨a, hs.full y a, c, d⟩
def shad (xs : List Rw) (v : Int) (x : Rw) : Bool := xs.any (fun y => decide (y.key = x.key) && decide (x.ver < y.ver) && decide (y.ver ≤ v))
theorem shad_iff (xs : List Rw) (v : Int) (x : Rw) : shad xs v x = true ↔ ∃ y ∈ xs, y.key = x.key ∧ x.ver < y.ver ∧ y.ver ≤ v := by
  unfold shad
  simp only [List.any_eq_true, Bool.and_eq_true, decide_eq_true_eq]
  constructor
  · rintro ⟨y, h, ⟨a, b⟩, c⟩
    exact ⟨y, h, a, b, c⟩
  · rintro ⟨y, h, a, b, c⟩
    exact ⟨y, h, ⟨a, b⟩, c⟩
def compL (xs : List Rw) (v : Int) : List Rw := (xs.filter (fun x => !shad xs v x)).filter (fun x => !(x.gone && decide (x.ver ≤ v)))
theorem compL_puts {xs : List Rw} (hr : Rises xs) (hs : Sorted xs) (v : Int) : putsL [] (overV v xs ++ living (lastL v xs)) = compL xs v := by
  have hmem : ∀ r ∈ overV v xs ++ living (lastL v xs), r ∈ xs := by
    intro r h
    rcases List.mem_append.1 h with h | h
    · exact (List.mem_filter.1 h).1
    · exact ((lastL_mem hr hs r).1 (List.mem_filter.1 h).1).1
  rw [putsL_of hr _ hmem]
  unfold compL
  rw [List.filter_filter]
  refine List.filter_congr (fun x hx => ?_)
  rw [Bool.eq_iff_iff]
  simp only [decide_eq_true_eq, List.mem_append, Bool.and_eq_true, Bool.not_eq_true', Bool.and_eq_false_iff, decide_eq_false_iff_not]
  unfold overV living
  rw [List.mem_filter, List.mem_filter, lastL_mem hr hs]
  have hsh : shad xs v x = false ↔ ∀ z ∈ xs, z.key = x.key → x.ver < z.ver → v < z.ver := by
    rw [← Bool.not_eq_true, shad_iff]
    constructor
    · intro h z hz hk hv
      apply Classical.byContradiction
      intro hc
      exact h ⟨z, hz, hk, hv, by omega⟩
    · rintro h ⟨z, hz, hk, hv, hl⟩
      have := h z hz hk hv
      omega
  constructor
  · rintro (⟨_, h⟩ | ⟨⟨_, h1, h2⟩, h3⟩)
    · have h' : v < x.ver := by simpa using h
      refine ⟨.inr (by omega), hsh.2 (fun z hz hk hv => by omega)⟩
    · refine ⟨.inl (by simpa using h3), hsh.2 h2⟩
  · rintro ⟨h1, h2⟩
    by_cases hv : v < x.ver
    · exact .inl ⟨hx, by simpa using hv⟩
    · refine .inr ⟨⟨hx, by omega, hsh.1 h2⟩, ?_⟩
      rcases h1 with h1 | h1
      · simpa using h1
      · omega
theorem compL_sub (xs : List Rw) (v : Int) : List.Sublist (compL xs v) xs := List.Sublist.trans List.filter_sublist List.filter_sublist
end Go.Proofs.Yteebglgbeijolaa

/-
  CompactTable: what is answered.
-/
namespace Go.Proofs.Yteebglgbeijolaa
open Go.RowKit
set_option linter.unusedSectionVars false
variable [DecidableEq Rw] [Inhabited Rw] [DecidableEq TabR] [Inhabited TabR]
set_option linter.unusedVariables false

def compD (xs : List Rw) (v : Int) : TabR := if tabF xs = 0 then ⟨0, compL xs v⟩ else ⟨tabF xs, []⟩
end Go.Proofs.Yteebglgbeijolaa

/-
  GetRow, on both sides.
-/
namespace Go.Proofs.Yteebglgbeijolaa
open Go.RowKit Go.Shelf
set_option linter.unusedSectionVars false
variable [DecidableEq Rw] [Inhabited Rw]
set_option linter.unusedVariables false
set_option linter.unusedSimpArgs false

def getRow (xs : List Rw) (k : ByteArray) (v : Int) : Option Rw := (getAt xs k v).filter (fun r => !r.gone)
def getCode (xs : List Rw) (k : ByteArray) (v : Int) : Int := if tabF xs = 0 then ((getRow xs k v).map (fun _ => (0 : Int))).getD 4 else tabF xs
def getText (xs : List Rw) (k : ByteArray) (v : Int) : ByteArray := if tabF xs = 0 then ((getRow xs k v).map (fun r => r.val)).getD ⟨#[]⟩ else ⟨#[]⟩
section
attribute [local go_sem ↓] Go.wp_at_zero Go.wp_at_succ

end

end Go.Proofs.Yteebglgbeijolaa


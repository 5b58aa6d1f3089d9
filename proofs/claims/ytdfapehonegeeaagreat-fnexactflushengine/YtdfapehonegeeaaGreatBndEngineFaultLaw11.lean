import Derived.Test.YtdfapehonegeeaaGreatBndEngineFaultLaw10
import Derived.Test.YtdfapehonegeeaaGreatBndEngineFaultLaw1
import Derived.Deep.RegionHeld3

/-
  What lives at a version: livingAt, as an iterator.
-/
namespace Go.Proofs.YtdfapehonegeeaaGreat
open Go.RowKit Go.Shelf
set_option linter.unusedSectionVars false
variable [DecidableEq Rw] [Inhabited Rw]
set_option linter.unusedVariables false
attribute [local go_sem] Oper.semAt_some
attribute [local go_sem] run_store_func

def living (ys : List Rw) : List Rw := ys.filter (fun r => !r.gone)
theorem living_pre {xs ys : List Rw} (h : xs <+: ys) : living xs <+: living ys := by
  obtain ⟨t, rfl⟩ := h
  unfold living
  rw [List.filter_append]
  exact List.prefix_append _ _
theorem living_gone (xs : List Rw) (x : Rw) (h : x.gone = true) : living (xs ++ [x]) = living xs := by simp [living, List.filter_append, h]
theorem living_take (xs : List Rw) (x : Rw) (h : x.gone = false) : living (xs ++ [x]) = living xs ++ [x] := by simp [living, List.filter_append, h]

set_option maxRecDepth 100000 in
set_option maxHeartbeats 4000000 in
theorem livingAt_seq (B1 B2 : Nat) (sv : Value) (xs : List Rw) (v : Int) (R : Nat → Prop) (w : World) (hRa : ∀ b, R b → b < w.heap.size) (h1 : w.cell? ⟨B1, 0, none⟩ = some sv) (h1' : w.cell? ⟨B1, 1, none⟩ = some cmpF) (h2 : w.cell? ⟨B2, 0, none⟩ = some (.int .i64 v))
    (hR1 : R B1) (hR2 : R B2) (hT : TabAt R w sv xs) (hn : xs.length ≤ 200) :
    Seqx Tryz.prog 163 #[.pointer (some ⟨B1, 0, none⟩), .pointer (some ⟨B2, 0, none⟩)] rowV (living (lastL v xs)) R w := by
  intro l J Jx W X hm hXa hJ hJx hY h0
  have hT2 := hT.mod hm (fun b hb h => h hb)
  obtain ⟨a, cap, rfl, hc1, hc2, hrow⟩ := hT
  have k1 := hm.cell h1 (fun h => h hR1)
  have k1' := hm.cell h1' (fun h => h hR1)
  have k2 := hm.cell h2 (fun h => h hR2)
  have z1 := World.block_lt_of_cell? _ _ k1
  have z2 := World.block_lt_of_cell? _ _ k2
  dsimp only at z1 z2
  unfold cmpF at k1'
  generalize hN : xs.length = n at *
  have HN : Hid (xs.length = n) := hN
  clear hN hrow
  refine callsIn_of_wp_marks Tryz.func163 rfl trivial ?_ rfl
  simp only [Tryz.ntmps163, List.size_toArray, List.length_cons, List.length_nil, Nat.reduceAdd, Nat.reduceSub, Array.replicate_succ, Array.replicate_zero, List.push_toArray, List.append_toArray, List.nil_append, List.cons_append]
  gi_wp2
  refine ⟨trivial, rfl, (callsIn_wide.2 (lastAt_any _ _ _ _ _)).mono ?_⟩
  rintro e w' ⟨rfl, hw'⟩
  have hM2 : ∀ F, Mod F W w' := fun F => by rw [hw']; exact ((mod_alloc F W _).alloc _).alloc _
  have s2 : w'.heap.size = W.heap.size + 3 := by rw [hw']; simp
  have c1 : w'.cell? ⟨W.heap.size, 0, none⟩ = some (.func (.yield l) #[] #[]) := by rw [hw']; simp [go_sem]
  have c2 : w'.cell? ⟨W.heap.size + 1, 0, none⟩ = some (.slice a n cap) := by rw [hw']; simp [go_sem]
  have c2' : w'.cell? ⟨W.heap.size + 1, 1, none⟩ = some cmpF := by rw [hw']; simp [go_sem]
  have c3 : w'.cell? ⟨W.heap.size + 2, 0, none⟩ = some (.int .i64 v) := by rw [hw']; simp [go_sem]
  simp only [World.size_alloc]
  clear hw'
  gi_wp2
  have s0 := hm.size
  have hlen : xs.length ≤ 200 := by rw [HN.out]; exact hn
  obtain ⟨N, hN⟩ : ∃ N, W.heap.size = N := ⟨_, rfl⟩
  rw [hN] at c1 c2 c2' c3 s2 z1 z2 s0 hXa ⊢
  have hRb : ∀ b, (R b ∨ b = N + 1 ∨ b = N + 2) → b < w'.heap.size := fun b h => by
    rcases h with h | h
    · have := hRa b h
      omega
    · omega
  have hseq := lastAt_seq (N + 1) (N + 2) (.slice a n cap) xs v (fun b => R b ∨ b = N + 1 ∨ b = N + 2) w' hRb c2 c2' c3 (.inr (.inl rfl)) (.inr (.inr rfl)) ((hT2.mod (hM2 (fun _ => False)) (fun _ _ h => h)).wide (fun b h => .inl h)) hlen
  refine wp_rangeX (gf := 175) rfl (enters_of Tryz.func175 (by kernel_rfl) rfl) hseq hRb
    (ItI J living (fun b => b = N ∨ b = N + 1 ∨ b = N + 2) X R w (fun _ A => A.cell? ⟨N, 0, none⟩ = some (.func (.yield l) #[] #[]))) (ItX Jx living X)
    (ItI_stb hJ hRa (fun pre A B F h hm hF => hm.cell h (hF _ (.inl rfl)))) (ItX_stb hJx) (fun _ => False) (fun _ h => h.elim) ?start
    (fun x => RowBox (N + 3) (fun B => { tmps := #[.func (.yield l) #[] #[], .pointer (some ⟨B1, 0, none⟩), .pointer (some ⟨B2, 0, none⟩), .pointer (some ⟨N, 0, none⟩), .pointer (some ⟨B, 0, none⟩), .agg #[.slice a n cap, .func (.func 75) #[] #[]], .int .i64 v, .func (.func 175) #[] #[.pointer (some ⟨N + 1, 0, none⟩), .pointer (some ⟨N + 1 + 1, 0, none⟩)], .agg #[.string x.key, .int .i64 x.ver, .string x.val, .bool x.gone], undef, undef, undef, undef, undef, undef, undef, undef, undef], defers := [] }) x)
    (fun x a' => RowBox_stb _ _ x a') ?assign ?body ?done ?stop
  case start =>
    refine ⟨fun b => X b ∨ b = N ∨ b = N + 1 ∨ b = N + 2, hJ _ _ _ X _ h0 (hM2 X) (fun b h => .inl h) (fun b h => ?_), fun _ h => h.elim, fun b h => ?_, fun b h => .inl h, fun b h => .inr h, fun b h h2 => h2, fun b h => h.elim, c1, hm.trans (hM2 _)⟩
    · rw [hN]
      rcases h with h | h
      · exact ⟨.inl h, by have := hXa b h; omega⟩
      · exact ⟨.inr (by omega), by omega⟩
    · rcases h with h | h
      · have := hXa b h
        omega
      · omega
  case assign =>
    intro l2 pre x W3 Y K hi hYl hYa hK
    unfold rowV
    gi_wp2
    have hlo : N + 2 < W3.heap.size := by
      obtain ⟨Z, _, _, hZa, _, hSZ, _⟩ := hi
      exact hZa _ (hSZ _ (.inr (.inr rfl)))
    refine hK _ _ (mod_alloc _ _ _) ⟨W3.heap.size, hlo, by simp, by unfold rowCells; simp [go_sem], fun h => ?_, rfl⟩
    have := hYa _ h
    omega
  case body =>
    rintro l2 pre x a' W3 Y hYl hYa ⟨Z, hj, hYZ, hZa, hXZ, hSZ, hSY, hYR, t3, hmw⟩ ⟨B, hlo, hB, hr, hYB, rfl⟩ hpre
    obtain ⟨r0, r1, r2, r3⟩ := hr
    simp only [Nat.zero_add] at r1 r2 r3
    cases hg : x.gone
    · have HE : Hid (living (pre ++ [x]) = living pre ++ [x]) := living_take pre x hg
      obtain ⟨fn, tmps, assign, body, hy, hR3⟩ := hY _ x _ Z hj hXZ hZa (by have h := living_pre hpre; rw [HE.out] at h; exact h)
      unfold rowV at hy
      rw [hg] at hy r3
      gi_wp2
      refine ⟨rfl, RoundIn.mono (show RoundIn (Fence.wide.inRound l2) 0 Tryz.prog l fn tmps assign body _ _ from hR3) ?_⟩
      have kp : ∀ W5, Kp R Z W3 W5 → Kp (fun b => R b ∨ b = N + 1 ∨ b = N + 2) Y W3 W5 := fun W5 hk5 => hk5.mono (fun b h => by
            rintro ((h2 | h2) | h2)
            · exact h (.inl h2)
            · exact h (.inr (hSZ _ (.inr h2)))
            · exact h (.inr (hYZ _ h2)))
      rintro e W5 (⟨rfl, hJ5, hk5⟩ | ⟨rfl, hJx5, hk5⟩)
      · have q5 := hk5.size
        have c3' := hk5.cell t3 (fun h => h (.inr (hSZ _ (.inl rfl))))
        gi_wp2
        refine ⟨kp _ hk5, Z, ?_, hYZ, fun b h => by have := hZa b h; omega, hXZ, hSZ, hSY, hYR, c3', hmw.trans (hk5.mono (fun b h hr => h (.inl hr)))⟩
        rw [HE.out]
        exact hJ5
      · have q5 := hk5.size
        gi_wp2
        refine ⟨kp _ hk5, rfl, Z, ?_, hYZ, fun b h => by have := hZa b h; omega, hXZ⟩
        rw [HE.out]
        exact hJx5
    · have HE : Hid (living (pre ++ [x]) = living pre) := living_gone pre x hg
      rw [hg] at r3
      gi_wp2
      refine ⟨fun _ h => (by cases h), ?_⟩
      gi_wp2
      refine ⟨Mod.refl _ _, Z, ?_, hYZ, hZa, hXZ, hSZ, hSY, hYR, t3, hmw⟩
      rw [HE.out]
      exact hj
  case done =>
    rintro D W3 Y hD hYD hi hdef
    obtain ⟨Z, hj, hYZ, hZa, hXZ, hSZ, hSY, hYR, _, hmw⟩ := hi
    gi_wp2
    refine ⟨by simp, .inl ⟨_, _, rfl, run_takeDeferred hdef, ?_⟩⟩
    refine ⟨_, results_none rfl _ _ _, ⟨_, rfl⟩, Z, hXZ, .inl ?_⟩
    exact hJ _ _ _ Z Z hj ((mod_put _ _ _).mono (fun b h => by rw [h]; exact hYZ _ hYD)) (fun _ h => h) (fun b h => ⟨.inl h, by have := hZa b h; simpa [World.putObj] using this⟩)
  case stop =>
    rintro D c pre W3 Y hD hYD hpre ⟨rfl, Z, hj, hYZ, hZa, hXZ⟩ hdef
    gi_wp2
    refine ⟨by simp, .inl ⟨_, _, rfl, run_takeDeferred hdef, ?_⟩⟩
    refine ⟨_, results_none rfl _ _ _, ⟨_, rfl⟩, Z, hXZ, .inr ⟨_, living_pre hpre, ?_⟩⟩
    exact hJx _ _ _ Z Z hj ((mod_put _ _ _).mono (fun b h => by rw [h]; exact hYZ _ hYD)) (fun _ h => h) (fun b h => ⟨.inl h, by have := hZa b h; simpa [World.putObj] using this⟩)

end Go.Proofs.YtdfapehonegeeaaGreat

/-
  Tables, in mathematics: keys rise; what counts at a version; what is read.
-/
namespace Go.Proofs.YtdfapehonegeeaaGreat
open Go.RowKit
set_option linter.unusedSectionVars false
variable [DecidableEq Rw] [Inhabited Rw]
set_option linter.unusedVariables false

theorem u8_cases (x y : UInt8) : x < y ∨ x = y ∨ y < x := by
  rcases Nat.lt_trichotomy x.toNat y.toNat with h | h | h
  · exact .inl (UInt8.lt_iff_toNat_lt.2 h)
  · exact .inr (.inl (UInt8.toNat_inj.1 h))
  · exact .inr (.inr (UInt8.lt_iff_toNat_lt.2 h))
theorem u8_asymm {x y : UInt8} (h : x < y) : ¬ y < x := fun k => by
  rw [UInt8.lt_iff_toNat_lt] at h k
  omega
theorem u8_trans {x y z : UInt8} (h : x < y) (k : y < z) : x < z := by
  rw [UInt8.lt_iff_toNat_lt] at h k ⊢
  omega
theorem cb_lt {x y : UInt8} {a b : List UInt8} (h : x < y) : Lib.compareBytes (x :: a) (y :: b) = -1 := by
  unfold Lib.compareBytes
  rw [if_pos h]
theorem cb_gt {x y : UInt8} {a b : List UInt8} (h : y < x) : Lib.compareBytes (x :: a) (y :: b) = 1 := by
  unfold Lib.compareBytes
  rw [if_neg (u8_asymm h), if_pos h]
theorem cb_eq {x : UInt8} {a b : List UInt8} : Lib.compareBytes (x :: a) (x :: b) = Lib.compareBytes a b := by
  conv => lhs; unfold Lib.compareBytes
  rw [if_neg (UInt8.lt_irrefl x), if_neg (UInt8.lt_irrefl x)]
theorem cb_trans : ∀ a b c : List UInt8, Lib.compareBytes a b ≤ 0 → Lib.compareBytes b c ≤ 0 → Lib.compareBytes a c ≤ 0
  | [], _, [] => fun _ _ => by simp [Lib.compareBytes]
  | [], _, _ :: _ => fun _ _ => by simp [Lib.compareBytes]
  | _ :: _, [], _ => fun h _ => by simp [Lib.compareBytes] at h
  | _ :: _, _ :: _, [] => fun _ h => by simp [Lib.compareBytes] at h
  | x :: a, y :: b, z :: c => fun h k => by
    rcases u8_cases x y with h1 | rfl | h1
    · rcases u8_cases y z with k1 | rfl | k1
      · rw [cb_lt (u8_trans h1 k1)]
        omega
      · rw [cb_lt h1]
        omega
      · rw [cb_gt k1] at k
        omega
    · rcases u8_cases x z with k1 | rfl | k1
      · rw [cb_lt k1]
        omega
      · rw [cb_eq] at h k ⊢
        exact cb_trans a b c h k
      · rw [cb_gt k1] at k
        omega
    · rw [cb_gt h1] at h
      omega
theorem cb_anti : ∀ a b : List UInt8, Lib.compareBytes a b ≤ 0 → Lib.compareBytes b a ≤ 0 → a = b
  | [], [] => fun _ _ => rfl
  | [], _ :: _ => fun _ h => by simp [Lib.compareBytes] at h
  | _ :: _, [] => fun h _ => by simp [Lib.compareBytes] at h
  | x :: a, y :: b => fun h k => by
    rcases u8_cases x y with h1 | rfl | h1
    · rw [cb_gt h1] at k
      omega
    · rw [cb_eq] at h k
      rw [cb_anti a b h k]
    · rw [cb_gt h1] at h
      omega
theorem cb_refl (a : List UInt8) : Lib.compareBytes a a = 0 := (compareBytes_zero a a).2 rfl

/-- not behind -/
def kle (a b : ByteArray) : Prop := cmpB a b ≤ 0
theorem kle_trans {a b c : ByteArray} (h : kle a b) (k : kle b c) : kle a c := cb_trans _ _ _ h k
theorem kle_anti {a b : ByteArray} (h : kle a b) (k : kle b a) : a = b := by
  have e := cb_anti _ _ h k
  exact (cmpB_zero a b).1 ((compareBytes_zero _ _).2 e)
theorem kle_refl (a : ByteArray) : kle a a := by unfold kle; rw [(cmpB_zero a a).2 rfl]; omega
theorem kle_nil (b : ByteArray) : kle ⟨#[]⟩ b := by
  unfold kle cmpB
  obtain ⟨⟨l⟩⟩ := b
  cases l <;> simp [Lib.compareBytes]
theorem kle_ahead {a b : Rw} (h : ahead a b = true) : kle a.key b.key := by
  unfold ahead cmpR orI at h
  unfold kle
  simp only [decide_eq_true_eq] at h
  split at h <;> omega

/-- what a table without a fault is -/
structure Sorted (xs : List Rw) : Prop where
  rise : xs.Pairwise (fun a b => kle a.key b.key)
  full : ∀ x ∈ xs, x.key ≠ ⟨#[]⟩
  vers : ∀ x ∈ xs, 1 ≤ x.ver ∧ x.ver ≤ 1000000

theorem tabAt_zero {xs : List Rw} {j : Nat} (h : tabAt xs j = 0) : rowFault (xs.getD j default) = 0 ∧ (0 < j → ahead (xs.getD (j - 1) default) (xs.getD j default) = true) := by
  unfold tabAt at h
  split at h
  · rename_i h1
    exact absurd h h1
  · rename_i h1
    refine ⟨by simpa using h1, fun hj => ?_⟩
    split at h
    · omega
    · rename_i h2
      cases ha : ahead (xs.getD (j - 1) default) (xs.getD j default)
      · exact absurd ⟨hj, ha⟩ h2
      · rfl
theorem rowFault_zero {x : Rw} (h : rowFault x = 0) : 1 ≤ x.key.size ∧ 1 ≤ x.ver ∧ x.ver ≤ 1000000 := by
  unfold rowFault at h
  split at h
  · omega
  · rename_i h1
    split at h
    · omega
    · split at h
      · rename_i h3
        unfold inR at h3
        simp at h3
        omega
      · omega
theorem sorted_of {xs : List Rw} (h : tabF xs = 0) : Sorted xs := by
  obtain ⟨hn, hat⟩ := tabF_all h
  have hmem : ∀ x ∈ xs, rowFault x = 0 := by
    intro x hx
    obtain ⟨i, hi, rfl⟩ := List.mem_iff_getElem.1 hx
    have := (tabAt_zero (hat i hi)).1
    simpa [List.getD, hi] using this
  refine ⟨?_, fun x hx e => ?_, fun x hx => (rowFault_zero (hmem x hx)).2⟩
  · rw [List.pairwise_iff_getElem]
    have key : ∀ d i, (hd : i + d + 1 < xs.length) → kle (xs.getD i default).key (xs.getD (i + d + 1) default).key := by
      intro d
      induction d with
      | zero =>
        intro i hd
        have := (tabAt_zero (hat (i + 1) (by omega))).2 (by omega)
        exact kle_ahead this
      | succ d ih =>
        intro i hd
        have h1 := ih i (by omega)
        have h2 := (tabAt_zero (hat (i + (d + 1) + 1) (by omega))).2 (by omega)
        exact kle_trans h1 (kle_ahead h2)
    intro i j hi hj hij
    have := key (j - i - 1) i (by omega)
    rw [show i + (j - i - 1) + 1 = j by omega] at this
    simpa [List.getD, hi, hj] using this
  · have := (rowFault_zero (hmem x hx)).1
    rw [e] at this
    simp [ByteArray.size] at this

/-- what counts, from the front on -/
def lastG (v : Int) : ByteArray → List Rw → List Rw
  | _, [] => []
  | t, x :: r => if v < x.ver ∨ x.key = t then lastG v t r else x :: lastG v x.key r
theorem foldl_lastG (v : Int) : ∀ (xs : List Rw) (t : ByteArray) (out : List Rw), (xs.foldl (stepL v) (t, out)).2 = out ++ lastG v t xs
  | [], t, out => by simp [lastG]
  | x :: r, t, out => by
    rw [List.foldl_cons]
    by_cases h : v < x.ver ∨ x.key = t
    · have e : stepL v (t, out) x = (t, out) := by unfold stepL; rw [if_pos h]
      rw [e, foldl_lastG v r t out]
      conv => rhs; unfold lastG
      rw [if_pos h]
    · have e : stepL v (t, out) x = (x.key, out ++ [x]) := by unfold stepL; rw [if_neg h]
      rw [e, foldl_lastG v r x.key (out ++ [x])]
      conv => rhs; unfold lastG
      rw [if_neg h]
      simp
theorem lastL_eq (v : Int) (xs : List Rw) : lastL v xs = lastG v ⟨#[]⟩ xs := by
  unfold lastL lastS
  rw [foldl_lastG]
  rfl
theorem lastG_mem {v : Int} : ∀ {xs : List Rw} {t : ByteArray} {y : Rw}, y ∈ lastG v t xs → y ∈ xs ∧ y.ver ≤ v
  | [], _, _, h => by simp [lastG] at h
  | x :: r, t, y, h => by
    unfold lastG at h
    split at h
    · have := lastG_mem h
      exact ⟨List.mem_cons_of_mem _ this.1, this.2⟩
    · rename_i h1
      rcases List.mem_cons.1 h with rfl | h
      · exact ⟨List.mem_cons_self .., by omega⟩
      · have := lastG_mem h
        exact ⟨List.mem_cons_of_mem _ this.1, this.2⟩
theorem lastG_ne {v : Int} : ∀ {xs : List Rw} {t : ByteArray}, xs.Pairwise (fun a b => kle a.key b.key) → (∀ x ∈ xs, kle t x.key) → ∀ y ∈ lastG v t xs, y.key ≠ t
  | [], _, _, _, _, h => by simp [lastG] at h
  | x :: r, t, hp, ht, y, h => by
    rw [List.pairwise_cons] at hp
    unfold lastG at h
    split at h
    · exact lastG_ne hp.2 (fun z hz => ht z (List.mem_cons_of_mem _ hz)) y h
    · rename_i h1
      rcases List.mem_cons.1 h with rfl | h
      · exact fun e => h1 (.inr e)
      · have h2 := lastG_ne hp.2 (fun z hz => hp.1 z hz) y h
        intro e
        have h3 := hp.1 y (lastG_mem h).1
        rw [e] at h3
        exact h1 (.inr (kle_anti h3 (ht x (List.mem_cons_self ..))))
theorem lastG_apart {v : Int} : ∀ {xs : List Rw} {t : ByteArray}, xs.Pairwise (fun a b => kle a.key b.key) → (lastG v t xs).Pairwise (fun a b => a.key ≠ b.key)
  | [], _, _ => by simp [lastG]
  | x :: r, t, hp => by
    rw [List.pairwise_cons] at hp
    unfold lastG
    split
    · exact lastG_apart hp.2
    · rw [List.pairwise_cons]
      exact ⟨fun y hy e => lastG_ne hp.2 (fun z hz => hp.1 z hz) y hy e.symm, lastG_apart hp.2⟩

/-- the row that is read -/
def getAt (xs : List Rw) (k : ByteArray) (v : Int) : Option Rw := xs.find? (fun r => decide (r.key = k ∧ r.ver ≤ v))
theorem lastG_find {v : Int} {k : ByteArray} : ∀ {xs : List Rw} {t : ByteArray}, t ≠ k → (lastG v t xs).find? (fun r => decide (r.key = k)) = getAt xs k v
  | [], _, _ => by simp [lastG, getAt]
  | x :: r, t, ht => by
    unfold lastG getAt
    by_cases h1 : v < x.ver ∨ x.key = t
    · rw [if_pos h1, List.find?_cons_of_neg, lastG_find ht]
      · rfl
      · simp only [decide_eq_true_eq]
        rintro ⟨h2, h3⟩
        rcases h1 with h1 | h1
        · omega
        · exact ht (h1.symm.trans h2)
    · rw [if_neg h1]
      by_cases h2 : x.key = k
      · rw [List.find?_cons_of_pos (by simp [h2]), List.find?_cons_of_pos (by simp [h2]; omega)]
      · rw [List.find?_cons_of_neg (by simp [h2]), List.find?_cons_of_neg (by simp [h2]), lastG_find h2]
        rfl
theorem living_find {k : ByteArray} : ∀ {L : List Rw}, L.Pairwise (fun a b => a.key ≠ b.key) → (living L).find? (fun r => decide (r.key = k)) = (L.find? (fun r => decide (r.key = k))).filter (fun r => !r.gone)
  | [], _ => rfl
  | x :: L, hp => by
    rw [List.pairwise_cons] at hp
    unfold living
    by_cases h : x.key = k
    · rw [List.find?_cons_of_pos (by simp [h])]
      cases hg : x.gone
      · rw [List.filter_cons_of_pos (by simp [hg]), List.find?_cons_of_pos (by simp [h])]
        simp [Option.filter, hg]
      · rw [List.filter_cons_of_neg (by simp [hg])]
        simp only [Option.filter, hg]
        rw [List.find?_eq_none.2]
        · rfl
        · intro y hy
          have := hp.1 y (List.mem_filter.1 hy).1
          simp only [decide_eq_true_eq]
          exact fun e => this (h.trans e.symm)
    · rw [List.find?_cons_of_neg (by simp [h])]
      rw [← living_find hp.2]
      cases hg : x.gone
      · rw [List.filter_cons_of_pos (by simp [hg]), List.find?_cons_of_neg (by simp [h])]
        rfl
      · rw [List.filter_cons_of_neg (by simp [hg])]
        rfl
theorem living_last {xs : List Rw} (hs : Sorted xs) (v : Int) (k : ByteArray) : (living (lastL v xs)).find? (fun r => decide (r.key = k)) = (getAt xs k v).filter (fun r => !r.gone) := by
  rw [lastL_eq, living_find (lastG_apart hs.rise)]
  by_cases hk : (⟨#[]⟩ : ByteArray) = k
  · have e1 : (lastG v ⟨#[]⟩ xs).find? (fun r => decide (r.key = k)) = none := by
      rw [List.find?_eq_none]
      intro y hy
      have := hs.full y (lastG_mem hy).1
      simp only [decide_eq_true_eq]
      exact fun e => this (e.trans hk.symm)
    have e2 : getAt xs k v = none := by
      unfold getAt
      rw [List.find?_eq_none]
      intro y hy
      have := hs.full y hy
      simp only [decide_eq_true_eq]
      exact fun e => this (e.1.trans hk.symm)
    rw [e1, e2]
  · rw [lastG_find hk]

end Go.Proofs.YtdfapehonegeeaaGreat

/-
  A region that draws its order and ends in one store (number t): what is asked of the world (S) need not hold behind that store.
-/
namespace Go.Proofs.YtdfapehonegeeaaGreat
open Go.RowKit

section
variable {P : Program} {ops : Array Oper} {Q : Exit → Act → World → Prop} {md : Region.Mode} {S : World → Prop} {t : Nat}

/-- whatever order is picked, S holds behind every operation but number t -/
def wpUpto (P : Program) (md : Region.Mode) (ops : Array Oper) (Q : Exit → Act → World → Prop) (S : World → Prop) (t : Nat) : Nat → Array Bool → Act → World → Prop
  | 0, listed, a, w => Region.ready md ops listed = [] ∧ Q .normal a w
  | f + 1, listed, a, w => (Region.ready md ops listed = [] → Q .normal a w) ∧ ∀ i ∈ Region.ready md ops listed, wpOp P ops Q i (fun a' w' => (i ≠ t → S w') ∧ wpUpto P md ops Q S t f (listed.setIfInBounds i true) a' w') a w

theorem upto_any : ∀ (f : Nat) (listed : Array Bool) (a : Act) (w : World), wpUpto P md ops Q S t f listed a w → wpAny P md ops Q f listed a w
  | 0, _, _, _, h => h
  | f + 1, _, _, _, h => ⟨h.1, fun i hi => wpOp_mono (fun _ _ h' => upto_any f _ _ _ h'.2) (h.2 i hi)⟩

/-- does number t wait for number i? -/
def waitsFor (md : Region.Mode) (ops : Array Oper) (t i : Nat) : Bool :=
  match ops[t]? with
  | some o => o.after.any (fun e => Region.binds md e && e.on == i)
  | none => false

theorem upto_first {i : Nat} {oi : Oper} {v : Value} (hi : ops[i]? = some oi) (hsel : Region.noSelect ops = true) (hw : waitsFor md ops t i = true)
    (hQ : ∀ c a w, Q (.panic c) (a.put oi.dst v) w → Q (.panic c) a w) :
    ∀ (f : Nat) (listed : Array Bool) (a : Act) (w : World),
      (∀ j oj, ops[j]? = some oj → j ≠ i → listed.getD j true = false → (∀ e ∈ oj.after, Region.binds md e = true → e.on ≠ i) → oi.apart ops oj = true) →
      i ∈ Region.ready md ops listed → YieldsIf P ops S oi v a → S w →
      wpUpto P md ops Q S t f (listed.setIfInBounds i true) (a.put oi.dst v) w → wpUpto P md ops Q S t (f + 1) listed a w := by
  intro f
  induction f with
  | zero =>
    intro listed a w _ hr hy hS H
    refine ⟨fun h => (by rw [h] at hr; cases hr), fun j hj => ?_⟩
    by_cases hji : j = i
    · subst hji
      exact hy.wpOp hi hS ⟨fun _ => hS, H⟩
    · have hm := ready_mono hj hji
      rw [H.1] at hm
      cases hm
  | succ f ih =>
    intro listed a w hfree hr hy hS H
    refine ⟨fun h => (by rw [h] at hr; cases hr), fun j hj => ?_⟩
    by_cases hji : j = i
    · subst hji
      exact hy.wpOp hi hS ⟨fun _ => hS, H⟩
    · obtain ⟨hjun, oj, hoj, hall⟩ := mem_ready.1 hj
      have hun := (mem_ready.1 hr).1
      have hnl : ¬ listed.getD i false = true := by
        intro h1
        rcases Nat.lt_or_ge i listed.size with h' | h'
        · simp [h'] at hun h1
          rw [hun] at h1
          cases h1
        · simp [Array.getElem?_eq_none h'] at h1
      have hnot : ∀ e ∈ oj.after, Region.binds md e = true → e.on ≠ i := fun e he hb heq => hnl (by rw [← heq]; exact hall e he hb)
      have hjt : j ≠ t := by
        rintro rfl
        unfold waitsFor at hw
        rw [hoj] at hw
        obtain ⟨e, he, hb⟩ := Array.any_eq_true'.1 hw
        simp only [Bool.and_eq_true, beq_iff_eq] at hb
        exact hnot e he hb.1 hb.2
      have h1 := H.2 j (ready_mono hj hji)
      have h2 := wpOp_putIf hoj (hfree j oj hoj hji hjun hnot) (fun cs b => Region.noSelect_spec hsel i oi cs b hi) (fun cs b => Region.noSelect_spec hsel j oj cs b hoj) hQ hy h1
      refine wpOp_mono (fun a' w' h3 => ⟨h3.2.1, ih (listed.setIfInBounds j true) a' w' ?_ (ready_mono hr (Ne.symm hji)) h3.1 (h3.2.1 hjt) ?_⟩) h2
      · intro k ok hk hki hunk hno
        refine hfree k ok hk hki ?_ hno
        by_cases hjk : j = k
        · subst hjk; exact hjun
        · rw [getD_set_ne true hjk] at hunk; exact hunk
      · rw [Array.setIfInBounds_comm _ _ hji]
        exact h3.2.2

/-- number i is taken first -/
theorem upto_take {i : Nat} {oi : Oper} {v : Value} {f : Nat} {listed : Array Bool} {a : Act} {w : World} (hi : ops[i]? = some oi) (hsel : Region.noSelect ops = true) (hw : waitsFor md ops t i = true)
    (hf : Region.free md ops listed i = true) (hr : (Region.ready md ops listed).contains i = true) (hQ : ∀ c a w, Q (.panic c) (a.put oi.dst v) w → Q (.panic c) a w)
    (hwd : Region.wanted oi (yielded ops a.tmps) = true) (hS : S w) (hy : ∀ w, S w → (execOp a.eval oi).run P w = .ok (.value v) w)
    (h : wpUpto P md ops Q S t f (listed.setIfInBounds i true) (a.put oi.dst v) w) : wpUpto P md ops Q S t (f + 1) listed a w :=
  upto_first hi hsel hw hQ f listed a w (Region.free_spec hi hf) (by simpa using hr) (Or.inl ⟨hwd, hy⟩) hS h

/-- one alone may come up -/
theorem upto_step {i : Nat} {o : Oper} {f : Nat} {listed : Array Bool} {a : Act} {w : World} (hr : Region.ready md ops listed = [i]) (hi : ops[i]? = some o)
    (h : ∀ K : Act → World → Prop, (∀ a' w', (i ≠ t → S w') → wpUpto P md ops Q S t f (listed.setIfInBounds i true) a' w' → K a' w') → if Region.wanted o (yielded ops a.tmps) = true then Oper.wp P o a w K Q else K (a.put o.dst undef) w) :
    wpUpto P md ops Q S t (f + 1) listed a w := by
  refine ⟨fun h0 => (by rw [hr] at h0; cases h0), fun j hj => ?_⟩
  rw [hr] at hj
  have e : j = i := by simpa using hj
  subst e
  have h1 := h (fun a' w' => (j ≠ t → S w') ∧ wpUpto P md ops Q S t f (listed.setIfInBounds j true) a' w') (fun _ _ p q => ⟨p, q⟩)
  unfold wpOp
  simp only [hi]
  split
  · rename_i hw
    rw [if_pos hw] at h1
    exact .inl h1
  · rename_i hw
    rw [if_neg hw] at h1
    exact h1

theorem upto_done {listed : Array Bool} {a : Act} {w : World} {f : Nat} (hr : Region.ready md ops listed = []) (h : Q .normal a w) : wpUpto P md ops Q S t f listed a w := by
  cases f with
  | zero => exact ⟨hr, h⟩
  | succ f => exact ⟨fun _ => h, by rw [hr]; simp⟩

theorem region_upto {id : Nat} {a : Act} {w : World} (S : World → Prop) (t : Nat) (hm : P.follows .mixedOrders = true) (hS : S w.drew) (h : S w.drew → wpUpto P .any ops Q S t ops.size (Array.replicate ops.size false) a w.drew) : (Code.region id ops true).wp P Q a w :=
  wp_region_any hm (upto_any _ _ _ _ (h hS))
end

end Go.Proofs.YtdfapehonegeeaaGreat


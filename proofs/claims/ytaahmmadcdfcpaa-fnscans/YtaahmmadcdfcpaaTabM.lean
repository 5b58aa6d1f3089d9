/-
  Tables, in mathematics: keys rise; what counts at a version; what is read.
-/
import Derived.Test.YtaahmmadcdfcpaaItrM
namespace Go.Proofs.Ytaahmmadcdfcpaa
open Go.RowKit
set_option linter.unusedSectionVars false
variable [DecidableEq Rw] [Inhabited Rw]
set_option linter.unusedVariables false

theorem u8_cases (x y : UInt8) : x < y ∨ x = y ∨ y < x := by
  rcases Nat.lt_trichotomy x.toNat y.toNat with h | h | h
  · exact .inl (UInt8.lt_iff_toNat_lt.2 h)
  · exact .inr (.inl (UInt8.toNat_inj.1 h))
  · exact .inr (.inr (UInt8.lt_iff_toNat_lt.2 h))
theorem u8_asymm {x y : UInt8} (h : x < y) : ¬ y < x := fun k => by
  rw [UInt8.lt_iff_toNat_lt] at h k
  omega
theorem u8_trans {x y z : UInt8} (h : x < y) (k : y < z) : x < z := by
  rw [UInt8.lt_iff_toNat_lt] at h k ⊢
  omega
theorem cb_lt {x y : UInt8} {a b : List UInt8} (h : x < y) : Lib.compareBytes (x :: a) (y :: b) = -1 := by
  unfold Lib.compareBytes
  rw [if_pos h]
theorem cb_gt {x y : UInt8} {a b : List UInt8} (h : y < x) : Lib.compareBytes (x :: a) (y :: b) = 1 := by
  unfold Lib.compareBytes
  rw [if_neg (u8_asymm h), if_pos h]
theorem cb_eq {x : UInt8} {a b : List UInt8} : Lib.compareBytes (x :: a) (x :: b) = Lib.compareBytes a b := by
  conv => lhs; unfold Lib.compareBytes
  rw [if_neg (UInt8.lt_irrefl x), if_neg (UInt8.lt_irrefl x)]
theorem cb_trans : ∀ a b c : List UInt8, Lib.compareBytes a b ≤ 0 → Lib.compareBytes b c ≤ 0 → Lib.compareBytes a c ≤ 0
  | [], _, [] => fun _ _ => by simp [Lib.compareBytes]
  | [], _, _ :: _ => fun _ _ => by simp [Lib.compareBytes]
  | _ :: _, [], _ => fun h _ => by simp [Lib.compareBytes] at h
  | _ :: _, _ :: _, [] => fun _ h => by simp [Lib.compareBytes] at h
  | x :: a, y :: b, z :: c => fun h k => by
    rcases u8_cases x y with h1 | rfl | h1
    · rcases u8_cases y z with k1 | rfl | k1
      · rw [cb_lt (u8_trans h1 k1)]
        omega
      · rw [cb_lt h1]
        omega
      · rw [cb_gt k1] at k
        omega
    · rcases u8_cases x z with k1 | rfl | k1
      · rw [cb_lt k1]
        omega
      · rw [cb_eq] at h k ⊢
        exact cb_trans a b c h k
      · rw [cb_gt k1] at k
        omega
    · rw [cb_gt h1] at h
      omega
theorem cb_anti : ∀ a b : List UInt8, Lib.compareBytes a b ≤ 0 → Lib.compareBytes b a ≤ 0 → a = b
  | [], [] => fun _ _ => rfl
  | [], _ :: _ => fun _ h => by simp [Lib.compareBytes] at h
  | _ :: _, [] => fun h _ => by simp [Lib.compareBytes] at h
  | x :: a, y :: b => fun h k => by
    rcases u8_cases x y with h1 | rfl | h1
    · rw [cb_gt h1] at k
      omega
    · rw [cb_eq] at h k
      rw [cb_anti a b h k]
    · rw [cb_gt h1] at h
      omega
theorem cb_refl (a : List UInt8) : Lib.compareBytes a a = 0 := (compareBytes_zero a a).2 rfl

/-- not behind -/
def kle (a b : ByteArray) : Prop := cmpB a b ≤ 0
theorem kle_trans {a b c : ByteArray} (h : kle a b) (k : kle b c) : kle a c := cb_trans _ _ _ h k
theorem kle_anti {a b : ByteArray} (h : kle a b) (k : kle b a) : a = b := by
  have e := cb_anti _ _ h k
  exact (cmpB_zero a b).1 ((compareBytes_zero _ _).2 e)
theorem kle_refl (a : ByteArray) : kle a a := by unfold kle; rw [(cmpB_zero a a).2 rfl]; omega
theorem kle_nil (b : ByteArray) : kle ⟨#[]⟩ b := by
  unfold kle cmpB
  obtain ⟨⟨l⟩⟩ := b
  cases l <;> simp [Lib.compareBytes]
theorem kle_ahead {a b : Rw} (h : ahead a b = true) : kle a.key b.key := by
  unfold ahead cmpR orI at h
  unfold kle
  simp only [decide_eq_true_eq] at h
  split at h <;> omega

/-- what a table without a fault is -/
structure Sorted (xs : List Rw) : Prop where
  rise : xs.Pairwise (fun a b => kle a.key b.key)
  full : ∀ x ∈ xs, x.key ≠ ⟨#[]⟩
  vers : ∀ x ∈ xs, 1 ≤ x.ver ∧ x.ver ≤ 1000000

theorem tabAt_zero {xs : List Rw} {j : Nat} (h : tabAt xs j = 0) : rowFault (xs.getD j default) = 0 ∧ (0 < j → ahead (xs.getD (j - 1) default) (xs.getD j default) = true) := by
  unfold tabAt at h
  split at h
  · rename_i h1
    exact absurd h h1
  · rename_i h1
    refine ⟨by simpa using h1, fun hj => ?_⟩
    split at h
    · omega
    · rename_i h2
      cases ha : ahead (xs.getD (j - 1) default) (xs.getD j default)
      · exact absurd ⟨hj, ha⟩ h2
      · rfl
theorem rowFault_zero {x : Rw} (h : rowFault x = 0) : 1 ≤ x.key.size ∧ 1 ≤ x.ver ∧ x.ver ≤ 1000000 := by
  unfold rowFault at h
  split at h
  · omega
  · rename_i h1
    split at h
    · omega
    · split at h
      · rename_i h3
        unfold inR at h3
        simp at h3
        omega
      · omega
theorem sorted_of {xs : List Rw} (h : tabF xs = 0) : Sorted xs := by
  obtain ⟨hn, hat⟩ := tabF_all h
  have hmem : ∀ x ∈ xs, rowFault x = 0 := by
    intro x hx
    obtain ⟨i, hi, rfl⟩ := List.mem_iff_getElem.1 hx
    have := (tabAt_zero (hat i hi)).1
    simpa [List.getD, hi] using this
  refine ⟨?_, fun x hx e => ?_, fun x hx => (rowFault_zero (hmem x hx)).2⟩
  · rw [List.pairwise_iff_getElem]
    have key : ∀ d i, (hd : i + d + 1 < xs.length) → kle (xs.getD i default).key (xs.getD (i + d + 1) default).key := by
      intro d
      induction d with
      | zero =>
        intro i hd
        have := (tabAt_zero (hat (i + 1) (by omega))).2 (by omega)
        exact kle_ahead this
      | succ d ih =>
        intro i hd
        have h1 := ih i (by omega)
        have h2 := (tabAt_zero (hat (i + (d + 1) + 1) (by omega))).2 (by omega)
        exact kle_trans h1 (kle_ahead h2)
    intro i j hi hj hij
    have := key (j - i - 1) i (by omega)
    rw [show i + (j - i - 1) + 1 = j by omega] at this
    simpa [List.getD, hi, hj] using this
  · have := (rowFault_zero (hmem x hx)).1
    rw [e] at this
    simp [ByteArray.size] at this

/-- what counts, from the front on -/
def lastG (v : Int) : ByteArray → List Rw → List Rw
  | _, [] => []
  | t, x :: r => if v < x.ver ∨ x.key = t then lastG v t r else x :: lastG v x.key r
theorem foldl_lastG (v : Int) : ∀ (xs : List Rw) (t : ByteArray) (out : List Rw), (xs.foldl (stepL v) (t, out)).2 = out ++ lastG v t xs
  | [], t, out => by simp [lastG]
  | x :: r, t, out => by
    rw [List.foldl_cons]
    by_cases h : v < x.ver ∨ x.key = t
    · have e : stepL v (t, out) x = (t, out) := by unfold stepL; rw [if_pos h]
      rw [e, foldl_lastG v r t out]
      conv => rhs; unfold lastG
      rw [if_pos h]
    · have e : stepL v (t, out) x = (x.key, out ++ [x]) := by unfold stepL; rw [if_neg h]
      rw [e, foldl_lastG v r x.key (out ++ [x])]
      conv => rhs; unfold lastG
      rw [if_neg h]
      simp
theorem lastL_eq (v : Int) (xs : List Rw) : lastL v xs = lastG v ⟨#[]⟩ xs := by
  unfold lastL lastS
  rw [foldl_lastG]
  rfl
theorem lastG_mem {v : Int} : ∀ {xs : List Rw} {t : ByteArray} {y : Rw}, y ∈ lastG v t xs → y ∈ xs ∧ y.ver ≤ v
  | [], _, _, h => by simp [lastG] at h
  | x :: r, t, y, h => by
    unfold lastG at h
    split at h
    · have := lastG_mem h
      exact ⟨List.mem_cons_of_mem _ this.1, this.2⟩
    · rename_i h1
      rcases List.mem_cons.1 h with rfl | h
      · exact ⟨List.mem_cons_self .., by omega⟩
      · have := lastG_mem h
        exact ⟨List.mem_cons_of_mem _ this.1, this.2⟩
theorem lastG_ne {v : Int} : ∀ {xs : List Rw} {t : ByteArray}, xs.Pairwise (fun a b => kle a.key b.key) → (∀ x ∈ xs, kle t x.key) → ∀ y ∈ lastG v t xs, y.key ≠ t
  | [], _, _, _, _, h => by simp [lastG] at h
  | x :: r, t, hp, ht, y, h => by
    rw [List.pairwise_cons] at hp
    unfold lastG at h
    split at h
    · exact lastG_ne hp.2 (fun z hz => ht z (List.mem_cons_of_mem _ hz)) y h
    · rename_i h1
      rcases List.mem_cons.1 h with rfl | h
      · exact fun e => h1 (.inr e)
      · have h2 := lastG_ne hp.2 (fun z hz => hp.1 z hz) y h
        intro e
        have h3 := hp.1 y (lastG_mem h).1
        rw [e] at h3
        exact h1 (.inr (kle_anti h3 (ht x (List.mem_cons_self ..))))
theorem lastG_apart {v : Int} : ∀ {xs : List Rw} {t : ByteArray}, xs.Pairwise (fun a b => kle a.key b.key) → (lastG v t xs).Pairwise (fun a b => a.key ≠ b.key)
  | [], _, _ => by simp [lastG]
  | x :: r, t, hp => by
    rw [List.pairwise_cons] at hp
    unfold lastG
    split
    · exact lastG_apart hp.2
    · rw [List.pairwise_cons]
      exact ⟨fun y hy e => lastG_ne hp.2 (fun z hz => hp.1 z hz) y hy e.symm, lastG_apart hp.2⟩

/-- the row that is read -/
def getAt (xs : List Rw) (k : ByteArray) (v : Int) : Option Rw := xs.find? (fun r => decide (r.key = k ∧ r.ver ≤ v))
theorem lastG_find {v : Int} {k : ByteArray} : ∀ {xs : List Rw} {t : ByteArray}, t ≠ k → (lastG v t xs).find? (fun r => decide (r.key = k)) = getAt xs k v
  | [], _, _ => by simp [lastG, getAt]
  | x :: r, t, ht => by
    unfold lastG getAt
    by_cases h1 : v < x.ver ∨ x.key = t
    · rw [if_pos h1, List.find?_cons_of_neg, lastG_find ht]
      · rfl
      · simp only [decide_eq_true_eq]
        rintro ⟨h2, h3⟩
        rcases h1 with h1 | h1
        · omega
        · exact ht (h1.symm.trans h2)
    · rw [if_neg h1]
      by_cases h2 : x.key = k
      · rw [List.find?_cons_of_pos (by simp [h2]), List.find?_cons_of_pos (by simp [h2]; omega)]
      · rw [List.find?_cons_of_neg (by simp [h2]), List.find?_cons_of_neg (by simp [h2]), lastG_find h2]
        rfl
theorem living_find {k : ByteArray} : ∀ {L : List Rw}, L.Pairwise (fun a b => a.key ≠ b.key) → (living L).find? (fun r => decide (r.key = k)) = (L.find? (fun r => decide (r.key = k))).filter (fun r => !r.gone)
  | [], _ => rfl
  | x :: L, hp => by
    rw [List.pairwise_cons] at hp
    unfold living
    by_cases h : x.key = k
    · rw [List.find?_cons_of_pos (by simp [h])]
      cases hg : x.gone
      · rw [List.filter_cons_of_pos (by simp [hg]), List.find?_cons_of_pos (by simp [h])]
        simp [Option.filter, hg]
      · rw [List.filter_cons_of_neg (by simp [hg])]
        simp only [Option.filter, hg]
        rw [List.find?_eq_none.2]
        · rfl
        · intro y hy
          have := hp.1 y (List.mem_filter.1 hy).1
          simp only [decide_eq_true_eq]
          exact fun e => this (h.trans e.symm)
    · rw [List.find?_cons_of_neg (by simp [h])]
      rw [← living_find hp.2]
      cases hg : x.gone
      · rw [List.filter_cons_of_pos (by simp [hg]), List.find?_cons_of_neg (by simp [h])]
        rfl
      · rw [List.filter_cons_of_neg (by simp [hg])]
        rfl
theorem living_last {xs : List Rw} (hs : Sorted xs) (v : Int) (k : ByteArray) : (living (lastL v xs)).find? (fun r => decide (r.key = k)) = (getAt xs k v).filter (fun r => !r.gone) := by
  rw [lastL_eq, living_find (lastG_apart hs.rise)]
  by_cases hk : (⟨#[]⟩ : ByteArray) = k
  · have e1 : (lastG v ⟨#[]⟩ xs).find? (fun r => decide (r.key = k)) = none := by
      rw [List.find?_eq_none]
      intro y hy
      have := hs.full y (lastG_mem hy).1
      simp only [decide_eq_true_eq]
      exact fun e => this (e.trans hk.symm)
    have e2 : getAt xs k v = none := by
      unfold getAt
      rw [List.find?_eq_none]
      intro y hy
      have := hs.full y hy
      simp only [decide_eq_true_eq]
      exact fun e => this (e.1.trans hk.symm)
    rw [e1, e2]
  · rw [lastG_find hk]

end Go.Proofs.Ytaahmmadcdfcpaa

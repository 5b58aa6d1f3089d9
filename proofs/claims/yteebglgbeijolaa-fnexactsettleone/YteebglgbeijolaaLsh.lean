/-
  The keys of a book, sorted and laid shard by shard: what lies there rises and tells the book.
-/
import Derived.Test.YteebglgbeijolaaKfn
import Derived.Test.YteebglgbeijolaaRsn
namespace Go.Proofs.Yteebglgbeijolaa
open Go.RowKit Go.Sort Go.Shelf
set_option linter.unusedSectionVars false
variable [DecidableEq Rw] [Inhabited Rw] [DecidableEq Bal] [Inhabited Bal] [DecidableEq Ledg] [Inhabited Ledg] [DecidableEq Leg] [Inhabited Leg] [DecidableEq Cont] [Inhabited Cont] [DecidableEq LedgR] [Inhabited LedgR]
set_option linter.unusedVariables false
set_option linter.unusedSimpArgs false

theorem nodup_lt : ∀ (N : Nat) (l : List Nat), l.Nodup → (∀ x ∈ l, x < N) → l.length ≤ N
  | 0, l, _, h => by
    cases l with
    | nil => simp
    | cons x r => exact absurd (h x (by simp)) (Nat.not_lt_zero _)
  | N + 1, l, hn, h => by
    have h1 := nodup_lt N (l.erase N) (hn.erase N) (fun x hx => by
      obtain ⟨h2, h3⟩ := (hn.mem_erase_iff).1 hx
      have := h x h3
      omega)
    rw [List.length_erase] at h1
    split at h1 <;> omega

/-- the keys of a book: of shards below n, of right accounts and assets -/
def KDom (n : Nat) (f : Int → Int → Int → Option Int) : Prop := ∀ s a t, (f s a t).isSome = true → (0 ≤ s ∧ s < (n : Int)) ∧ keyOk a t = true
theorem KDom.len {n : Nat} {f : Int → Int → Int → Option Int} (h : KDom n f) {ys : List K3} (hy : KOk f ys) : ys.length ≤ n * 18 := by
  have h1 := nodup_lt (n * 18) (ys.map (fun k : K3 => k.1.toNat * 18 + k.2.1.toNat * 3 + k.2.2.toNat)) ?_ ?_
  · simpa using h1
  · rw [List.Nodup, List.pairwise_map]
    refine List.Pairwise.imp_of_mem ?_ hy.1
    rintro ⟨s, a, t⟩ ⟨s', a', t'⟩ hx hx' hne e
    obtain ⟨⟨_, _⟩, hk⟩ := h s a t (hy.2 _ hx)
    obtain ⟨⟨_, _⟩, hk'⟩ := h s' a' t' (hy.2 _ hx')
    obtain ⟨⟨_, _⟩, _, _⟩ := keyOk_iff.1 hk
    obtain ⟨⟨_, _⟩, _, _⟩ := keyOk_iff.1 hk'
    apply hne
    dsimp only at e
    have e1 : s = s' := by omega
    have e2 : a = a' := by omega
    have e3 : t = t' := by omega
    rw [e1, e2, e3]
  · intro x hx
    obtain ⟨⟨s, a, t⟩, hm, rfl⟩ := List.mem_map.1 hx
    obtain ⟨⟨_, _⟩, hk⟩ := h s a t (hy.2 _ hm)
    obtain ⟨⟨_, _⟩, _, _⟩ := keyOk_iff.1 hk
    dsimp only
    omega

def balK (f : Int → Int → Int → Option Int) (k : K3) : Bal := ⟨k.2.1, k.2.2, (f k.1 k.2.1 k.2.2).getD 0⟩
/-- shard i, of the keys so far -/
def shK (f : Int → Int → Int → Option Int) (ys : List K3) (i : Nat) : List Bal := (ys.filter (fun k => decide (k.1 = (i : Int)))).map (balK f)
theorem shK_snoc (f : Int → Int → Int → Option Int) (ys : List K3) (k : K3) (i : Nat) : shK f (ys ++ [k]) i = if k.1 = (i : Int) then shK f ys i ++ [balK f k] else shK f ys i := by
  unfold shK
  rw [List.filter_append, List.map_append]
  by_cases h : k.1 = (i : Int)
  · simp [h]
  · simp [h]
theorem shK_mem {f : Int → Int → Int → Option Int} {ys : List K3} {i : Nat} {x : Bal} : x ∈ shK f ys i ↔ ∃ k ∈ ys, k.1 = (i : Int) ∧ balK f k = x := by
  unfold shK
  simp only [List.mem_map, List.mem_filter, decide_eq_true_eq]
  constructor
  · rintro ⟨k, ⟨h1, h2⟩, h3⟩
    exact ⟨k, h1, h2, h3⟩
  · rintro ⟨k, h1, h2, h3⟩
    exact ⟨k, ⟨h1, h2⟩, h3⟩
theorem shK_rise {n : Nat} {f : Int → Int → Int → Option Int} (hd : KDom n f) {ys : List K3} (hy : KOk f ys) (hs : ys.Pairwise (fun p q => ltOf cfK q p = false)) (i : Nat) : RiseB (shK f ys i) := by
  refine ⟨?_, fun x hx => ?_⟩
  · unfold shK
    rw [List.pairwise_map]
    have h1 : ys.Pairwise (fun p q => ltOf cfK q p = false ∧ p ≠ q) := hs.and hy.1
    have h2 := h1.filter (fun k => decide (k.1 = (i : Int)))
    refine List.Pairwise.imp_of_mem ?_ h2
    rintro ⟨s, a, t⟩ ⟨s', a', t'⟩ hx hx' ⟨hl, hne⟩
    obtain ⟨hx1, hx2⟩ := List.mem_filter.1 hx
    obtain ⟨hx1', hx2'⟩ := List.mem_filter.1 hx'
    simp only [decide_eq_true_eq] at hx2 hx2'
    obtain ⟨_, hk⟩ := hd s a t (hy.2 _ hx1)
    obtain ⟨_, hk'⟩ := hd s' a' t' (hy.2 _ hx1')
    obtain ⟨⟨_, _⟩, _, _⟩ := keyOk_iff.1 hk
    obtain ⟨⟨_, _⟩, _, _⟩ := keyOk_iff.1 hk'
    rw [← Bool.not_eq_true, ltK_iff] at hl
    dsimp only at hl
    unfold plB balK
    dsimp only
    have hne' : ¬ (a = a' ∧ t = t') := fun e => hne (by rw [hx2, hx2', e.1, e.2])
    omega
  · obtain ⟨k, hk, _, rfl⟩ := shK_mem.1 hx
    exact (hd _ _ _ (hy.2 k hk)).2
theorem shK_get {n : Nat} {f : Int → Int → Int → Option Int} (hn : n ≤ 200) (hd : KDom n f) {ys : List K3} (hy : KDn f ys) (i : Nat) (a t : Int) : getB a t (shK f ys i) = f i a t := by
  cases hf : f i a t with
  | none =>
    refine getB_not (fun x hx e => ?_)
    obtain ⟨k, hk, hi, rfl⟩ := shK_mem.1 hx
    have h1 := hy.1.2 k hk
    unfold balK at e
    dsimp only at e
    rw [hi, e.1, e.2, hf] at h1
    cases h1
  | some v =>
    have hs : (f i a t).isSome = true := by rw [hf]; rfl
    obtain ⟨⟨_, _⟩, hk⟩ := hd i a t hs
    obtain ⟨⟨_, _⟩, _, _⟩ := keyOk_iff.1 hk
    have hm := hy.2 i a t ⟨wf_of (by omega) (by omega), wf_of (by omega) (by omega), wf_of (by omega) (by omega)⟩ hs
    cases hg : getB a t (shK f ys i) with
    | none =>
      have h3 : ∀ (xs : List Bal), getB a t xs = none → ∀ x ∈ xs, ¬ (x.ac = a ∧ x.ast = t) := by
        intro xs
        induction xs with
        | nil => intro _ x hx; cases hx
        | cons y r ih =>
          intro h x hx e
          by_cases hy' : y.ac = a ∧ y.ast = t
          · simp only [getB] at h
            rw [if_pos hy'] at h
            cases h
          · rw [getB_tail hy'] at h
            rcases List.mem_cons.1 hx with rfl | hx
            · exact hy' e
            · exact ih h x hx e
      exact absurd ⟨rfl, rfl⟩ (h3 _ hg (balK f (i, a, t)) (shK_mem.2 ⟨_, hm, rfl, rfl⟩))
    | some u =>
      obtain ⟨x, hx, h1, h2, h3⟩ := getB_mem hg
      obtain ⟨k, hk', hi, rfl⟩ := shK_mem.1 hx
      unfold balK at h1 h2 h3
      dsimp only at h1 h2 h3
      rw [hi, h1, h2, hf] at h3
      rw [← h3]
      rfl

/-- the sorted keys, laid shard by shard, are the settled ledger -/
theorem lay_settled {gs : List (List Bal)} {ls : List Leg} (hg : ∀ i, i < gs.length → RiseB (gs.getD i default)) (hk : ∀ l ∈ ls, keyOk l.ac l.ast = true) (hN : gs.length ≤ 200) (hd : KDom gs.length (addLs (bookF gs) ls))
    {ys : List K3} (hy : KDn (addLs (bookF gs) ls) ys) (hs : ys.Pairwise (fun p q => ltOf cfK q p = false)) {hs' : List (List Bal)} (hl : hs'.length = gs.length) (he : ∀ i, i < gs.length → hs'.getD i default = shK (addLs (bookF gs) ls) ys i) : hs' = settleL gs ls :=
  settle_unique hg hk hl (fun i hi => by rw [he i hi]; exact ⟨shK_rise hd hy.1 hs i, fun a t => shK_get hN hd hy i a t⟩)

theorem kdom_settle {gs : List (List Bal)} {ls : List Leg} (hg : ∀ i, i < gs.length → RiseB (gs.getD i default)) (hk : ∀ l ∈ ls, keyOk l.ac l.ast = true) (hl : ∀ l ∈ ls, 0 ≤ l.sh ∧ l.sh < (gs.length : Int)) : KDom gs.length (addLs (bookF gs) ls) := by
  intro s a t h
  by_cases hr : 0 ≤ s ∧ s < (gs.length : Int)
  · refine ⟨hr, ?_⟩
    obtain ⟨i, rfl⟩ : ∃ i : Nat, s = (i : Int) := ⟨s.toNat, by omega⟩
    have hi : i < gs.length := by omega
    obtain ⟨h1, h2⟩ := settle_book hi (hg i hi) ls hk
    rw [← h2] at h
    obtain ⟨v, hv⟩ := Option.isSome_iff_exists.1 h
    obtain ⟨x, hx, rfl, rfl, _⟩ := getB_mem hv
    exact h1.key x hx
  · rw [book_dom ls hl s a t hr] at h
    cases h

end Go.Proofs.Yteebglgbeijolaa

/-
  A scan, in mathematics.
-/
import Derived.Test.YtaahmmadcdfcpaaKeyI
import Derived.Test.YtaahmmadcdfcpaaGetR
namespace Go.Proofs.Ytaahmmadcdfcpaa
open Go.RowKit
set_option linter.unusedSectionVars false
variable [DecidableEq Rw] [Inhabited Rw] [DecidableEq KeysR] [Inhabited KeysR] [DecidableEq TabR] [Inhabited TabR]
set_option linter.unusedVariables false
set_option linter.unusedSimpArgs false

theorem getAt_cons_ne {x : Rw} {r : List Rw} {k : ByteArray} {v : Int} (h : x.key ≠ k) : getAt (x :: r) k v = getAt r k v := by
  unfold getAt
  rw [List.find?_cons_of_neg]
  simp [h]
theorem getAt_cons_old {x : Rw} {r : List Rw} {k : ByteArray} {v : Int} (h : v < x.ver) : getAt (x :: r) k v = getAt r k v := by
  unfold getAt
  rw [List.find?_cons_of_neg]
  simp only [decide_eq_true_eq]
  omega
theorem getAt_cons_hit {x : Rw} {r : List Rw} {k : ByteArray} {v : Int} (h : x.key = k) (hv : x.ver ≤ v) : getAt (x :: r) k v = some x := by
  unfold getAt
  rw [List.find?_cons_of_pos]
  simp [h, hv]
theorem getAt_miss {r : List Rw} {k : ByteArray} {v : Int} (h : ∀ y ∈ r, y.key ≠ k) : getAt r k v = none := by
  unfold getAt
  rw [List.find?_eq_none]
  intro y hy
  simp [h y hy]
theorem getAt_key {xs : List Rw} {k : ByteArray} {v : Int} {r : Rw} (h : getAt xs k v = some r) : r.key = k ∧ r ∈ xs := by
  unfold getAt at h
  have h1 := List.find?_some h
  have h2 := List.mem_of_find?_eq_some h
  simp only [decide_eq_true_eq] at h1
  exact ⟨h1.1, h2⟩

/-- a key that stands ahead of all: its row first, then what counts of the others -/
theorem lastG_split {v : Int} {c t : ByteArray} (hct : c ≠ t) (htc : kle t c) : ∀ {r : List Rw}, r.Pairwise (fun a b => kle a.key b.key) → (∀ y ∈ r, kle c y.key) → lastG v t r = (getAt r c v).toList ++ lastG v c r
  | [], _, _ => by simp [lastG, getAt]
  | y :: s, hp, hc => by
    rw [List.pairwise_cons] at hp
    have hcs : ∀ z ∈ s, kle c z.key := fun z hz => hc z (List.mem_cons_of_mem _ hz)
    have ih := lastG_split (v := v) hct htc hp.2 hcs
    by_cases h1 : v < y.ver
    · rw [getAt_cons_old h1]
      have e1 : lastG v t (y :: s) = lastG v t s := by unfold lastG; rw [if_pos (.inl h1)]; cases s <;> rfl
      have e2 : lastG v c (y :: s) = lastG v c s := by unfold lastG; rw [if_pos (.inl h1)]; cases s <;> rfl
      rw [e1, e2, ih]
    · by_cases h2 : y.key = c
      · rw [getAt_cons_hit h2 (by omega)]
        have e1 : lastG v t (y :: s) = y :: lastG v y.key s := by
          conv => lhs; unfold lastG
          rw [if_neg (by rintro (h | h); exact h1 h; exact hct (h2.symm.trans h))]
        have e2 : lastG v c (y :: s) = lastG v c s := by
          conv => lhs; unfold lastG
          rw [if_pos (.inr h2)]
        rw [e1, e2, h2]
        rfl
      · have hno : ∀ z ∈ y :: s, z.key ≠ c := by
          intro z hz e
          rcases List.mem_cons.1 hz with rfl | hz
          · exact h2 e
          · have h3 := hp.1 z hz
            rw [e] at h3
            exact h2 (kle_anti h3 (hc y (List.mem_cons_self ..)))
        rw [getAt_miss hno]
        have hyt : y.key ≠ t := fun e => by
          have h3 := hc y (List.mem_cons_self ..)
          rw [e] at h3
          exact hct (kle_anti h3 htc)
        have e1 : lastG v t (y :: s) = y :: lastG v y.key s := by
          conv => lhs; unfold lastG
          rw [if_neg (by rintro (h | h); exact h1 h; exact hyt h)]
        have e2 : lastG v c (y :: s) = y :: lastG v y.key s := by
          conv => lhs; unfold lastG
          rw [if_neg (by rintro (h | h); exact h1 h; exact h2 h)]
        rw [e1, e2]
        rfl
theorem filterMap_congr' {α β : Type} {f g : α → Option β} : ∀ {l : List α}, (∀ x ∈ l, f x = g x) → l.filterMap f = l.filterMap g
  | [], _ => rfl
  | a :: l, h => by
    have e := h a (List.mem_cons_self ..)
    have ih := filterMap_congr' (l := l) (fun x hx => h x (List.mem_cons_of_mem _ hx))
    rw [List.filterMap_cons, List.filterMap_cons, e, ih]
theorem lastG_keys {v : Int} : ∀ {xs : List Rw} {t : ByteArray}, xs.Pairwise (fun a b => kle a.key b.key) → (∀ x ∈ xs, kle t x.key) → (∀ x ∈ xs, x.ver ≤ 1000000) →
    lastG v t xs = ((lastG 1000000 t xs).map (fun r => r.key)).filterMap (fun k => getAt xs k v)
  | [], _, _, _, _ => by simp [lastG]
  | x :: r, t, hp, ht, hv => by
    rw [List.pairwise_cons] at hp
    have hvr : ∀ y ∈ r, y.ver ≤ 1000000 := fun y hy => hv y (List.mem_cons_of_mem _ hy)
    have htr : ∀ y ∈ r, kle t y.key := fun y hy => ht y (List.mem_cons_of_mem _ hy)
    have hx := hv x (List.mem_cons_self ..)
    by_cases h2 : x.key = t
    · have e1 : lastG v t (x :: r) = lastG v t r := by
        conv => lhs; unfold lastG
        rw [if_pos (.inr h2)]
      have e2 : lastG 1000000 t (x :: r) = lastG 1000000 t r := by
        conv => lhs; unfold lastG
        rw [if_pos (.inr h2)]
      rw [e1, e2, lastG_keys hp.2 htr hvr]
      refine filterMap_congr' (fun k hk => ?_)
      obtain ⟨y, hy, rfl⟩ := List.mem_map.1 hk
      have := lastG_ne hp.2 htr y hy
      exact (getAt_cons_ne (fun e => this (e.symm.trans h2))).symm
    · have e2 : lastG 1000000 t (x :: r) = x :: lastG 1000000 x.key r := by
        conv => lhs; unfold lastG
        rw [if_neg (by rintro (h | h); omega; exact h2 h)]
      have ih := lastG_keys (v := v) (t := x.key) hp.2 hp.1 hvr
      have e3 : ((lastG 1000000 x.key r).map (fun r => r.key)).filterMap (fun k => getAt (x :: r) k v) = lastG v x.key r := by
        rw [ih]
        refine filterMap_congr' (fun k hk => ?_)
        obtain ⟨y, hy, rfl⟩ := List.mem_map.1 hk
        have := lastG_ne hp.2 hp.1 y hy
        exact getAt_cons_ne (fun e => this e.symm)
      rw [e2, List.map_cons, List.filterMap_cons, e3]
      by_cases h1 : v < x.ver
      · have e1 : lastG v t (x :: r) = lastG v t r := by
          conv => lhs; unfold lastG
          rw [if_pos (.inl h1)]
        rw [e1, getAt_cons_old h1, lastG_split h2 (ht x (List.mem_cons_self ..)) hp.2 hp.1]
        cases getAt r x.key v <;> rfl
      · have e1 : lastG v t (x :: r) = x :: lastG v x.key r := by
          conv => lhs; unfold lastG
          rw [if_neg (by rintro (h | h); exact h1 h; exact h2 h)]
        rw [e1, getAt_cons_hit rfl (by omega)]

theorem lastG_len {v : Int} : ∀ {xs : List Rw} {t : ByteArray}, (lastG v t xs).length ≤ xs.length
  | [], _ => by simp [lastG]
  | x :: r, t => by
    unfold lastG
    split
    · have := lastG_len (v := v) (xs := r) (t := t)
      rw [List.length_cons]
      omega
    · have := lastG_len (v := v) (xs := r) (t := x.key)
      rw [List.length_cons, List.length_cons]
      omega

/-- does a text begin so? -/
def hasP (k p : ByteArray) : Bool := decide (p.size ≤ k.size) && (k.extract 0 p.size).toList == p.toList
def scanTo (xs : List Rw) (p : ByteArray) (v : Int) (ks : List ByteArray) : List Rw := (ks.filter (fun k => hasP k p)).filterMap (fun k => getRow xs k v)
theorem scanTo_miss {xs : List Rw} {p k : ByteArray} {v : Int} {ks : List ByteArray} (h : hasP k p = false) : scanTo xs p v (ks ++ [k]) = scanTo xs p v ks := by
  unfold scanTo
  simp [List.filter_append, h]
theorem scanTo_none {xs : List Rw} {p k : ByteArray} {v : Int} {ks : List ByteArray} (h : getRow xs k v = none) : scanTo xs p v (ks ++ [k]) = scanTo xs p v ks := by
  unfold scanTo
  cases hh : hasP k p <;> simp [List.filter_append, hh, List.filterMap_append, h]
theorem scanTo_hit {xs : List Rw} {p k : ByteArray} {v : Int} {ks : List ByteArray} {r : Rw} (h : hasP k p = true) (hr : getRow xs k v = some r) : scanTo xs p v (ks ++ [k]) = scanTo xs p v ks ++ [r] := by
  unfold scanTo
  simp [List.filter_append, h, List.filterMap_append, hr]
theorem scanTo_le (xs : List Rw) (p : ByteArray) (v : Int) (ks : List ByteArray) : (scanTo xs p v ks).length ≤ ks.length := by
  unfold scanTo
  have h1 := List.length_filterMap_le (fun k => getRow xs k v) (ks.filter (fun k => hasP k p))
  have h2 := List.length_filter_le (fun k => hasP k p) ks
  omega
theorem filter_key {p : ByteArray → Bool} {f : ByteArray → Option Rw} (hf : ∀ k r, f k = some r → r.key = k) : ∀ ks : List ByteArray, (ks.filter p).filterMap f = (ks.filterMap f).filter (fun r => p r.key)
  | [] => rfl
  | k :: ks => by
    have ih := filter_key (p := p) hf ks
    cases hk : f k with
    | none =>
      cases hp : p k <;> simp [List.filter_cons, List.filterMap_cons, hk, hp, ih]
    | some r =>
      have := hf k r hk
      cases hp : p k <;> simp [List.filter_cons, List.filterMap_cons, hk, hp, ih, this]
/-- what the scan tells is what lives, of the keys that begin so -/
theorem scan_all {xs : List Rw} (hs : Sorted xs) (p : ByteArray) (v : Int) : scanTo xs p v (keysL xs) = (living (lastL v xs)).filter (fun r => hasP r.key p) := by
  have e : living (lastL v xs) = (keysL xs).filterMap (fun k => getRow xs k v) := by
    rw [← keys_all hs, lastL_eq v, lastL_eq 1000000, lastG_keys hs.rise (fun x _ => kle_nil _) (fun x hx => (hs.vers x hx).2)]
    unfold living
    rw [List.filter_filterMap]
    rfl
  rw [e]
  unfold scanTo
  refine filter_key (fun k r h => ?_) _
  unfold getRow at h
  rw [Option.filter_eq_some_iff] at h
  exact (getAt_key h.1).1
theorem scan_mem {xs : List Rw} {p : ByteArray} {v : Int} {ks : List ByteArray} {y : Rw} (h : y ∈ scanTo xs p v ks) : y ∈ xs := by
  unfold scanTo at h
  obtain ⟨k, _, hk⟩ := List.mem_filterMap.1 h
  unfold getRow at hk
  rw [Option.filter_eq_some_iff] at hk
  exact (getAt_key hk.1).2
def scanD (xs : List Rw) (p : ByteArray) (v : Int) : TabR := if tabF xs = 0 then ⟨0, scanTo xs p v (keysL xs)⟩ else ⟨tabF xs, []⟩

end Go.Proofs.Ytaahmmadcdfcpaa

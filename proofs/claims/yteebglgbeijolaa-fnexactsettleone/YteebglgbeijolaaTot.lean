/-
  TotalOf: in plain mathematics, and the program's walk over the book.
-/
import Derived.Test.YteebglgbeijolaaCan2
import Derived.Maps.RangeWalk
import Derived.WalkKit
namespace Go.Proofs.Yteebglgbeijolaa
open Go.RowKit Go.Maps
set_option linter.unusedSectionVars false
variable [DecidableEq Bal] [Inhabited Bal] [DecidableEq Ledg] [Inhabited Ledg] [DecidableEq Leg] [Inhabited Leg] [DecidableEq Cont] [Inhabited Cont]
attribute [local go_sem ↓] Go.wp_at_zero Go.wp_at_succ

def sum6 (q : Int → Int) : Int := q 0 + q 1 + q 2 + q 3 + q 4 + q 5
def sumD (q : Int → Int → Int) : Int := sum6 (q 0) + sum6 (q 1) + sum6 (q 2)
theorem sum6_congr {q q' : Int → Int} (h : ∀ a, 0 ≤ a → a ≤ 5 → q' a = q a) : sum6 q' = sum6 q := by
  unfold sum6
  rw [h 0 (by omega) (by omega), h 1 (by omega) (by omega), h 2 (by omega) (by omega), h 3 (by omega) (by omega), h 4 (by omega) (by omega), h 5 (by omega) (by omega)]
theorem sumD_congr {q q' : Int → Int → Int} (h : ∀ s a, 0 ≤ s → s ≤ 2 → 0 ≤ a → a ≤ 5 → q' s a = q s a) : sumD q' = sumD q := by
  unfold sumD
  rw [sum6_congr (fun a => h 0 a (by omega) (by omega)), sum6_congr (fun a => h 1 a (by omega) (by omega)), sum6_congr (fun a => h 2 a (by omega) (by omega))]
theorem sum6_upd {q q' : Int → Int} {a : Int} (h0 : 0 ≤ a) (h5 : a ≤ 5) (h : ∀ b, b ≠ a → q' b = q b) : sum6 q' = sum6 q - q a + q' a := by
  unfold sum6
  have ha : a = 0 ∨ a = 1 ∨ a = 2 ∨ a = 3 ∨ a = 4 ∨ a = 5 := by omega
  rcases ha with rfl | rfl | rfl | rfl | rfl | rfl
  · rw [h 1 (by omega), h 2 (by omega), h 3 (by omega), h 4 (by omega), h 5 (by omega)]; omega
  · rw [h 0 (by omega), h 2 (by omega), h 3 (by omega), h 4 (by omega), h 5 (by omega)]; omega
  · rw [h 0 (by omega), h 1 (by omega), h 3 (by omega), h 4 (by omega), h 5 (by omega)]; omega
  · rw [h 0 (by omega), h 1 (by omega), h 2 (by omega), h 4 (by omega), h 5 (by omega)]; omega
  · rw [h 0 (by omega), h 1 (by omega), h 2 (by omega), h 3 (by omega), h 5 (by omega)]; omega
  · rw [h 0 (by omega), h 1 (by omega), h 2 (by omega), h 3 (by omega), h 4 (by omega)]; omega
theorem sumD_upd {q q' : Int → Int → Int} {s a : Int} (h0 : 0 ≤ s) (h2 : s ≤ 2) (h0' : 0 ≤ a) (h5 : a ≤ 5) (h : ∀ s' a', ¬ (s' = s ∧ a' = a) → q' s' a' = q s' a') : sumD q' = sumD q - q s a + q' s a := by
  have hs : s = 0 ∨ s = 1 ∨ s = 2 := by omega
  have e : sum6 (q' s) = sum6 (q s) - q s a + q' s a := sum6_upd h0' h5 (fun b hb => h s b (fun x => hb x.2))
  unfold sumD
  rcases hs with rfl | rfl | rfl
  · rw [e, sum6_congr (q := q 1) (q' := q' 1) (fun b _ _ => h 1 b (by omega)), sum6_congr (q := q 2) (q' := q' 2) (fun b _ _ => h 2 b (by omega))]; omega
  · rw [e, sum6_congr (q := q 0) (q' := q' 0) (fun b _ _ => h 0 b (by omega)), sum6_congr (q := q 2) (q' := q' 2) (fun b _ _ => h 2 b (by omega))]; omega
  · rw [e, sum6_congr (q := q 0) (q' := q' 0) (fun b _ _ => h 0 b (by omega)), sum6_congr (q := q 1) (q' := q' 1) (fun b _ _ => h 1 b (by omega))]; omega
theorem sumD_le {q : Int → Int → Int} (h : ∀ s a, 0 ≤ q s a ∧ q s a ≤ 1000000000000) : 0 ≤ sumD q ∧ sumD q ≤ 18000000000000 := by
  unfold sumD sum6
  have := h 0 0; have := h 0 1; have := h 0 2; have := h 0 3; have := h 0 4; have := h 0 5
  have := h 1 0; have := h 1 1; have := h 1 2; have := h 1 3; have := h 1 4; have := h 1 5
  have := h 2 0; have := h 2 1; have := h 2 2; have := h 2 3; have := h 2 4; have := h 2 5
  omega

/-- in one shard: what each account has, together -/
theorem sum_shard (t : Int) : ∀ (xs : List Bal), (∀ x ∈ xs, 0 ≤ x.ac ∧ x.ac ≤ 5) → xs.Pairwise (fun x y => ¬ (x.ac = y.ac ∧ x.ast = y.ast)) → sum6 (fun a => hasB a t xs) = sumB t xs
  | [], _, _ => by simp [sum6, hasB, sumB]
  | x :: r, h1, h2 => by
    obtain ⟨h3, h4⟩ := List.pairwise_cons.1 h2
    have ih := sum_shard t r (fun y hy => h1 y (by simp [hy])) h4
    obtain ⟨b0, b5⟩ := h1 x (by simp)
    simp only [sumB]
    by_cases ht : x.ast = t
    · rw [if_pos ht]
      have hz : hasB x.ac t r = 0 := by
        have : ∀ (l : List Bal), (∀ y ∈ l, ¬ (x.ac = y.ac ∧ x.ast = y.ast)) → hasB x.ac t l = 0 := by
          intro l
          induction l with
          | nil => intro _; rfl
          | cons y l ihl =>
            intro h
            simp only [hasB]
            rw [if_neg (fun e => h y (by simp) ⟨e.1.symm, by rw [ht, e.2]⟩)]
            exact ihl (fun z hz => h z (by simp [hz]))
        exact this r h3
      have e : sum6 (fun a => hasB a t (x :: r)) = sum6 (fun a => hasB a t r) - hasB x.ac t r + hasB x.ac t (x :: r) := by
        refine sum6_upd (q := fun a => hasB a t r) (q' := fun a => hasB a t (x :: r)) b0 b5 (fun b hb => ?_)
        simp only [hasB]
        rw [if_neg (fun e => hb e.1.symm)]
      rw [e, hz, ih]
      simp [hasB, ht]
      omega
    · rw [if_neg ht, ← ih]
      have e : (fun a => hasB a t (x :: r)) = fun a => hasB a t r := by
        funext a
        simp only [hasB]
        rw [if_neg (fun e => ht e.2)]
      rw [e]
      omega
theorem shard_ok {xs : List Bal} (h : BalsOk xs) : (∀ x ∈ xs, 0 ≤ x.ac ∧ x.ac ≤ 5) ∧ xs.Pairwise (fun x y => ¬ (x.ac = y.ac ∧ x.ast = y.ast)) := by
  refine ⟨fun x hx => ?_, ?_⟩
  · obtain ⟨i, hi, rfl⟩ := List.getElem_of_mem hx
    have := (balOk_iff.1 (h.ok i hi)).1.1
    simpa [List.getD, hi] using this
  · rw [List.pairwise_iff_getElem]
    intro i j hi hj hij
    have := rising h hij hj
    simp only [List.getD, List.getElem?_eq_getElem hi, List.getElem?_eq_getElem hj, Option.getD_some] at this
    rintro ⟨e1, e2⟩
    rw [e1, e2] at this
    omega

theorem sum_in {sh : List (List Bal)} (t : Int) {k : Nat} (hk : k < sh.length) (h : BalsOk (sh.getD k default)) : sum6 (fun a => (bookF sh k a t).getD 0) = sumB t (sh.getD k default) := by
  rw [← sum_shard t _ (shard_ok h).1 (shard_ok h).2]
  refine sum6_congr (fun a _ _ => ?_)
  rw [bookF, if_pos (by omega), hasB_get]
  simp
theorem sum_out {sh : List (List Bal)} (t s : Int) (hs : (sh.length : Int) ≤ s) : sum6 (fun a => (bookF sh s a t).getD 0) = 0 := by
  have e : ∀ a, (bookF sh s a t).getD 0 = 0 := fun a => by rw [bookF, if_neg (by omega)]; rfl
  simp [sum6, e]
theorem sumD_book {g : Ledg} (h : ledFault g = 0) (t : Int) : sumD (fun s a => (bookF g.shards s a t).getD 0) = sumG t g.shards := by
  obtain ⟨h1, h3, hok⟩ := ledOk_of h
  obtain ⟨sh⟩ := g
  dsimp only at *
  unfold sumD
  match sh, h1, h3, hok with
  | [x], _, _, hok =>
    have e0 := sum_in (sh := [x]) t (k := 0) (by simp) (hok 0 (by simp))
    have e1 := sum_out (sh := [x]) t 1 (by simp)
    have e2 := sum_out (sh := [x]) t 2 (by simp)
    simp only [e1, e2, sumG]
    have : sum6 (fun a => (bookF [x] 0 a t).getD 0) = sumB t x := e0
    omega
  | [x, y], _, _, hok =>
    have e0 : sum6 (fun a => (bookF [x, y] 0 a t).getD 0) = sumB t x := sum_in (sh := [x, y]) t (k := 0) (by simp) (hok 0 (by simp))
    have e1 : sum6 (fun a => (bookF [x, y] 1 a t).getD 0) = sumB t y := sum_in (sh := [x, y]) t (k := 1) (by simp) (hok 1 (by simp))
    have e2 := sum_out (sh := [x, y]) t 2 (by simp)
    simp only [e2, sumG]
    omega
  | [x, y, z], _, _, hok =>
    have e0 : sum6 (fun a => (bookF [x, y, z] 0 a t).getD 0) = sumB t x := sum_in (sh := [x, y, z]) t (k := 0) (by simp) (hok 0 (by simp))
    have e1 : sum6 (fun a => (bookF [x, y, z] 1 a t).getD 0) = sumB t y := sum_in (sh := [x, y, z]) t (k := 1) (by simp) (hok 1 (by simp))
    have e2 : sum6 (fun a => (bookF [x, y, z] 2 a t).getD 0) = sumB t z := sum_in (sh := [x, y, z]) t (k := 2) (by simp) (hok 2 (by simp))
    simp only [sumG]
    omega

/-- is the entry at this key still to come? -/
def leftOf (ko : Value → Option Lit) (left : Lit → Bool) (s a t : Int) : Bool := match ko (kv s a t) with | some kl => left kl | none => false
theorem leftOf_some {left : Lit → Bool} {s a t : Int} {kl : Lit} (hk : keyOf Try.prog 180 (kv s a t) = some kl) : leftOf (keyOf Try.prog 180) left s a t = left kl := by
  unfold leftOf
  rw [hk]
/-- what has come already, of one asset -/
def came (ko : Value → Option Lit) (f : Int → Int → Int → Option Int) (left : Lit → Bool) (t : Int) : Int := sumD (fun s a => if leftOf ko left s a t then 0 else (f s a t).getD 0)
def domF (f : Int → Int → Int → Option Int) : Prop := ∀ s a t, (f s a t).isSome = true → (0 ≤ s ∧ s ≤ 2) ∧ (0 ≤ a ∧ a ≤ 5) ∧ (0 ≤ t ∧ t ≤ 2)

theorem came_start {f : Int → Int → Int → Option Int} {D : DataW Unit} (h : ∀ s a t kl, keyOf Try.prog 180 (kv s a t) = some kl → Maps.has D kl = (f s a t).isSome ∧ D.atKey kl (.lit (.int .i64 0)) = .lit (.int .i64 ((f s a t).getD 0))) {t : Int} (ht : 0 ≤ t ∧ t ≤ 2) : came (keyOf Try.prog 180) f (Maps.has D) t = 0 := by
  have e : ∀ s a, 0 ≤ s → s ≤ 2 → 0 ≤ a → a ≤ 5 → (if leftOf (keyOf Try.prog 180) (Maps.has D) s a t then 0 else (f s a t).getD 0) = (fun _ _ => (0 : Int)) s a := by
    intro s a h0 h1 h2 h3
    obtain ⟨kl, hk⟩ := keyOf_kv (s := s) (a := a) (t := t) ⟨wf_of (by omega) (by omega), wf_of (by omega) (by omega), wf_of (by omega) (by omega)⟩
    rw [leftOf_some hk, (h s a t kl hk).1]
    cases hf : f s a t <;> simp
  unfold came
  rw [sumD_congr e]
  simp [sumD, sum6]
theorem came_end {f : Int → Int → Int → Option Int} {left : Lit → Bool} (h : ∀ kl, left kl = false) (t : Int) : came (keyOf Try.prog 180) f left t = sumD (fun s a => (f s a t).getD 0) := by
  unfold came
  refine sumD_congr (fun s a _ _ _ _ => ?_)
  have : leftOf (keyOf Try.prog 180) left s a t = false := by
    unfold leftOf
    split
    · exact h _
    · rfl
  rw [this]
  simp
theorem leftOf_strike {left : Lit → Bool} {s a t s' a' t' : Int} {kl : Lit} (hk : keyOf Try.prog 180 (kv s a t) = some kl) :
    leftOf (keyOf Try.prog 180) (fun z => left z && !z.sameKey kl) s' a' t' = (leftOf (keyOf Try.prog 180) left s' a' t' && !decide (s' = s ∧ a' = a ∧ t' = t)) := by
  unfold leftOf
  split
  · rename_i kl' hk'
    by_cases e : kl' = kl
    · subst e
      obtain ⟨rfl, rfl, rfl⟩ := kv_inj (holdLaw.inj hk' hk)
      simp [WideAt.sameKey_self (holdLaw.key hk)]
    · have : ¬ (s' = s ∧ a' = a ∧ t' = t) := by
        rintro ⟨rfl, rfl, rfl⟩
        rw [hk] at hk'
        exact e (by simpa using hk'.symm)
      show (left kl' && !kl'.sameKey kl) = _
      rw [sameKey_ne e]
      simp [this]
  · rfl
theorem came_step {f : Int → Int → Int → Option Int} {left : Lit → Bool} {s a t' : Int} {kl : Lit} (hk : keyOf Try.prog 180 (kv s a t') = some kl) (hl : left kl = true) (hd : (0 ≤ s ∧ s ≤ 2) ∧ (0 ≤ a ∧ a ≤ 5)) (t : Int) :
    came (keyOf Try.prog 180) f (fun z => left z && !z.sameKey kl) t = came (keyOf Try.prog 180) f left t + if t' = t then (f s a t').getD 0 else 0 := by
  unfold came
  by_cases e : t' = t
  · subst e
    rw [if_pos rfl]
    have h1 : leftOf (keyOf Try.prog 180) left s a t' = true := by rw [leftOf_some hk, hl]
    rw [sumD_upd (q := fun s a => if leftOf (keyOf Try.prog 180) left s a t' then 0 else (f s a t').getD 0) (s := s) (a := a) hd.1.1 hd.1.2 hd.2.1 hd.2.2 (fun s' a' hne => by
      rw [leftOf_strike hk]
      have : decide (s' = s ∧ a' = a ∧ t' = t') = false := by simp; intro e1 e2; exact hne ⟨e1, e2⟩
      rw [this]
      simp)]
    rw [leftOf_strike hk, h1]
    simp
  · rw [if_neg e]
    rw [sumD_congr (q := fun s a => if leftOf (keyOf Try.prog 180) left s a t then 0 else (f s a t).getD 0) (fun s' a' _ _ _ _ => by
      rw [leftOf_strike hk]
      have : decide (s' = s ∧ a' = a ∧ t = t') = false := by simp; intro _ _ e3; exact e e3.symm
      rw [this]
      simp)]
    omega
theorem came_le {f : Int → Int → Int → Option Int} (h : smallF f) (left : Lit → Bool) (t : Int) : 0 ≤ came (keyOf Try.prog 180) f left t ∧ came (keyOf Try.prog 180) f left t ≤ 18000000000000 :=
  sumD_le (fun s a => by
    have := h s a t
    split <;> omega)

end Go.Proofs.Yteebglgbeijolaa

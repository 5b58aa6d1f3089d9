/-
  Rows put into rows that rise, in mathematics.
-/
import Derived.Test.YtaahmmadcdfcpaaTabM
import Derived.Test.YtaahmmadcdfcpaaPutS
namespace Go.Proofs.Ytaahmmadcdfcpaa
open Go.RowKit
set_option linter.unusedSectionVars false
variable [DecidableEq Rw] [Inhabited Rw] [DecidableEq TabR] [Inhabited TabR]
set_option linter.unusedVariables false
set_option linter.unusedSimpArgs false

theorem cb_flip : ∀ a b : List UInt8, Lib.compareBytes b a = - Lib.compareBytes a b
  | [], [] => by simp [Lib.compareBytes]
  | [], _ :: _ => by simp [Lib.compareBytes]
  | _ :: _, [] => by simp [Lib.compareBytes]
  | x :: a, y :: b => by
    rcases u8_cases x y with h | rfl | h
    · rw [cb_lt h, cb_gt h]
      rfl
    · rw [cb_eq, cb_eq, cb_flip a b]
    · rw [cb_gt h, cb_lt h]
theorem cmpR_flip (a b : Rw) : cmpR b a = - cmpR a b := by
  unfold cmpR orI
  have h1 : cmpB b.key a.key = - cmpB a.key b.key := cb_flip _ _
  have h2 : cmpI a.ver b.ver = - cmpI b.ver a.ver := by
    unfold cmpI
    split <;> split <;> (try split) <;> omega
  rw [h1, h2]
  by_cases h : cmpB a.key b.key = 0
  · rw [if_pos h, if_pos (by omega)]
  · rw [if_neg h, if_neg (by omega)]
theorem ahead_iff (a b : Rw) : ahead a b = true ↔ cmpR a b < 0 := by unfold ahead; simp
theorem ahead_not (a b : Rw) : ahead a b = false ↔ 0 ≤ cmpR a b := by unfold ahead; simp
theorem ahead_asymm {a b : Rw} (h : ahead a b = true) : ahead b a = false := by
  rw [ahead_iff] at h
  rw [ahead_not, cmpR_flip]
  omega
theorem ahead_irrefl (a : Rw) : ahead a a = false := by
  rw [ahead_not]
  have := cmpR_flip a a
  omega
theorem cmpR_ver {a b : Rw} (h : a.key = b.key) : cmpR a b = cmpI b.ver a.ver := by
  unfold cmpR orI
  rw [if_pos ((cmpB_zero _ _).2 h)]
theorem ahead_trans {a b c : Rw} (h : ahead a b = true) (k : ahead b c = true) : ahead a c = true := by
  have h1 := kle_ahead h
  have k1 := kle_ahead k
  by_cases e : a.key = c.key
  · have e1 : b.key = a.key := kle_anti (by rw [e]; exact k1) h1
    rw [ahead_ver e1.symm] at h
    rw [ahead_ver (e1.trans e)] at k
    rw [ahead_ver e]
    simp only [decide_eq_true_eq] at h k ⊢
    omega
  · have h2 := kle_trans h1 k1
    unfold kle at h2
    have h3 : cmpB a.key c.key ≠ 0 := fun h => e ((cmpB_zero _ _).1 h)
    rw [ahead_iff]
    unfold cmpR orI
    rw [if_neg h3]
    omega

/-- a row put where it belongs -/
def putL : List Rw → Rw → List Rw
  | [], r => [r]
  | y :: ys, r => if ahead y r = true then y :: putL ys r else if ahead r y = true then r :: y :: ys else y :: ys

theorem putK_putL : ∀ (ys : List Rw) (r : Rw) (k : Nat), PutAt ys r k → putK ys r k = putL ys r
  | [], r, k, h => by
    obtain ⟨h1, _, _⟩ := h
    have : k = 0 := by simpa using h1
    subst this
    simp [putK, putL]
  | y :: ys, r, 0, h => by
    obtain ⟨_, _, h3⟩ := h
    have h4 : ahead y r = false := by simpa using h3 (by simp)
    unfold putK putL
    simp only [h4, Bool.false_eq_true, if_false]
    cases h5 : ahead r y <;> simp [h5]
  | y :: ys, r, k + 1, h => by
    obtain ⟨h1, h2, h3⟩ := h
    have h4 : ahead y r = true := by simpa using h2 0 (by omega)
    have ih := putK_putL ys r k ⟨by simpa using h1, fun j hj => by simpa using h2 (j + 1) (by omega), fun hk => by simpa using h3 (by simpa using hk)⟩
    unfold putL
    rw [if_pos h4, ← ih]
    unfold putK
    by_cases hc : k < ys.length ∧ ahead r (ys.getD k default) = false
    · rw [if_pos hc, if_pos ⟨by simpa using hc.1, by simpa using hc.2⟩]
    · rw [if_neg hc, if_neg (fun h => hc ⟨by simpa using h.1, by simpa using h.2⟩)]
      simp

/-- rows that rise -/
def Rises (xs : List Rw) : Prop := xs.Pairwise (fun a b => ahead a b = true)
theorem mem_putL : ∀ {ys : List Rw} {r x : Rw}, x ∈ putL ys r → x ∈ ys ∨ x = r
  | [], r, x, h => by simpa [putL] using h
  | y :: ys, r, x, h => by
    unfold putL at h
    split at h
    · rcases List.mem_cons.1 h with rfl | h
      · exact .inl (List.mem_cons_self ..)
      · exact (mem_putL h).imp (fun h => List.mem_cons_of_mem _ h) id
    · split at h
      · rcases List.mem_cons.1 h with rfl | h
        · exact .inr rfl
        · exact .inl h
      · exact .inl h
theorem putL_rises : ∀ {ys : List Rw} (r : Rw), Rises ys → Rises (putL ys r)
  | [], r, _ => by unfold Rises; simp [putL]
  | y :: ys, r, h => by
    unfold Rises at h
    rw [List.pairwise_cons] at h
    unfold putL
    split
    · rename_i h1
      have ih : Rises (putL ys r) := putL_rises r h.2
      refine List.pairwise_cons.2 ⟨fun x hx => ?_, ih⟩
      rcases mem_putL hx with hx | rfl
      · exact h.1 x hx
      · exact h1
    · split
      · rename_i h1 h2
        refine List.pairwise_cons.2 ⟨fun x hx => ?_, List.pairwise_cons.2 h⟩
        rcases List.mem_cons.1 hx with rfl | hx
        · exact h2
        · exact ahead_trans h2 (h.1 x hx)
      · exact List.pairwise_cons.2 h
theorem length_putL : ∀ (ys : List Rw) (r : Rw), ys.length ≤ (putL ys r).length ∧ (putL ys r).length ≤ ys.length + 1
  | [], r => by simp [putL]
  | y :: ys, r => by
    have ih := length_putL ys r
    unfold putL
    split
    · simp only [List.length_cons]; omega
    · split <;> simp only [List.length_cons] <;> omega

/-- several rows put, one behind the other -/
def putsL (ys l : List Rw) : List Rw := l.foldl putL ys
theorem putsL_nil (ys : List Rw) : putsL ys [] = ys := rfl
theorem putsL_cons (ys : List Rw) (r : Rw) (l : List Rw) : putsL ys (r :: l) = putsL (putL ys r) l := rfl
theorem putsL_app (ys l m : List Rw) : putsL ys (l ++ m) = putsL (putsL ys l) m := List.foldl_append ..
theorem putsL_snoc (ys l : List Rw) (r : Rw) : putsL ys (l ++ [r]) = putL (putsL ys l) r := by rw [putsL_app]; rfl
theorem putsL_rises : ∀ {l ys : List Rw}, Rises ys → Rises (putsL ys l)
  | [], _, h => h
  | r :: l, ys, h => putsL_rises (l := l) (putL_rises r h)
theorem length_putsL : ∀ (l ys : List Rw), ys.length ≤ (putsL ys l).length ∧ (putsL ys l).length ≤ ys.length + l.length
  | [], ys => by simp [putsL]
  | r :: l, ys => by
    have h1 := length_putL ys r
    have h2 := length_putsL l (putL ys r)
    rw [putsL_cons, List.length_cons]
    omega
theorem length_putsL_pre {l m ys : List Rw} (h : l <+: m) : (putsL ys l).length ≤ (putsL ys m).length := by
  obtain ⟨t, rfl⟩ := h
  rw [putsL_app]
  exact (length_putsL t _).1
theorem mem_putsL : ∀ {l ys : List Rw} {x : Rw}, x ∈ putsL ys l → x ∈ ys ∨ x ∈ l
  | [], _, _, h => .inl h
  | r :: l, ys, x, h => by
    rcases mem_putsL (l := l) h with h | h
    · exact (mem_putL h).imp id (fun h => by rw [h]; exact List.mem_cons_self ..)
    · exact .inr (List.mem_cons_of_mem _ h)
theorem rises_nil : Rises [] := List.Pairwise.nil

theorem rises_of {xs : List Rw} (h : tabF xs = 0) : Rises xs := by
  obtain ⟨hn, hat⟩ := tabF_all h
  unfold Rises
  rw [List.pairwise_iff_getElem]
  have key : ∀ d i, (hd : i + d + 1 < xs.length) → ahead (xs.getD i default) (xs.getD (i + d + 1) default) = true := by
    intro d
    induction d with
    | zero =>
      intro i hd
      exact (tabAt_zero (hat (i + 1) (by omega))).2 (by omega)
    | succ d ih =>
      intro i hd
      exact ahead_trans (ih i (by omega)) ((tabAt_zero (hat (i + (d + 1) + 1) (by omega))).2 (by omega))
  intro i j hi hj hij
  have := key (j - i - 1) i (by omega)
  rw [show i + (j - i - 1) + 1 = j by omega] at this
  simpa [List.getD, hi, hj] using this

/-- rows of a rising list put into those of it that were there -/
theorem putL_filter : ∀ {xs : List Rw} (p : Rw → Bool) (r : Rw), Rises xs → r ∈ xs → putL (xs.filter p) r = xs.filter (fun x => p x || decide (x = r))
  | [], _, _, _, h => by simp at h
  | x :: xs, p, r, hx, hr => by
    unfold Rises at hx
    rw [List.pairwise_cons] at hx
    by_cases e : x = r
    · subst e
      have hno : ∀ y ∈ xs, y ≠ x := fun y hy e => by
        have := hx.1 y hy
        rw [e, ahead_irrefl] at this
        cases this
      have e2 : xs.filter (fun y => p y || decide (y = x)) = xs.filter p := List.filter_congr (fun y hy => by simp [hno y hy])
      by_cases hp : p x = true
      · rw [List.filter_cons_of_pos hp, List.filter_cons_of_pos (by simp), e2]
        unfold putL
        rw [if_neg (by simp [ahead_irrefl]), if_neg (by simp [ahead_irrefl])]
      · rw [List.filter_cons_of_neg hp, List.filter_cons_of_pos (by simp), e2]
        cases hf : xs.filter p with
        | nil => rfl
        | cons y ys =>
          have hy : y ∈ xs := (List.mem_filter.1 (by rw [hf]; exact List.mem_cons_self ..)).1
          unfold putL
          rw [if_neg (by simp [ahead_asymm (hx.1 y hy)]), if_pos (hx.1 y hy)]
    · have hr' : r ∈ xs := by
        rcases List.mem_cons.1 hr with h | h
        · exact absurd h.symm e
        · exact h
      have ih := putL_filter p r (show Rises xs from hx.2) hr'
      by_cases hp : p x = true
      · rw [List.filter_cons_of_pos hp, List.filter_cons_of_pos (by simp [hp]), ← ih]
        conv => lhs; unfold putL
        rw [if_pos (hx.1 r hr')]
      · rw [List.filter_cons_of_neg hp, List.filter_cons_of_neg (by simp [hp, e]), ← ih]
theorem putsL_filter {xs : List Rw} (hx : Rises xs) : ∀ (l : List Rw) (p : Rw → Bool), (∀ r ∈ l, r ∈ xs) → putsL (xs.filter p) l = xs.filter (fun x => p x || decide (x ∈ l))
  | [], p, _ => by simp [putsL]
  | r :: l, p, h => by
    rw [putsL_cons, putL_filter p r hx (h r (List.mem_cons_self ..)), putsL_filter hx l _ (fun q hq => h q (List.mem_cons_of_mem _ hq))]
    refine List.filter_congr (fun y _ => ?_)
    rw [Bool.eq_iff_iff]
    simp only [Bool.or_eq_true, decide_eq_true_eq, List.mem_cons]
    rw [or_assoc]
theorem putsL_of {xs : List Rw} (hx : Rises xs) (l : List Rw) (h : ∀ r ∈ l, r ∈ xs) : putsL [] l = xs.filter (fun x => decide (x ∈ l)) := by
  have h1 := putsL_filter hx l (fun _ => false) h
  have h2 : xs.filter (fun _ => false) = [] := List.filter_eq_nil_iff.2 (fun _ _ => by simp)
  rw [h2] at h1
  rw [h1]
  exact List.filter_congr (fun y _ => by simp)

/-- the place that the search tells -/
theorem putAt_of {ys : List Rw} {r : Rw} {i : Nat} (hi : i ≤ ys.length) (h1 : ∀ k, k < i → cmpR (ys.getD k default) r < 0) (h2 : ∀ k, i ≤ k → k < ys.length → 0 ≤ cmpR (ys.getD k default) r) : PutAt ys r i :=
  ⟨hi, fun j hj => (ahead_iff _ _).2 (h1 j hj), fun h => (ahead_not _ _).2 (h2 i (Nat.le_refl _) h)⟩
theorem put_found {ys : List Rw} {r : Rw} {i : Nat} (hp : PutAt ys r i) (hf : i < ys.length ∧ cmpR (ys.getD i default) r = 0) : putL ys r = ys := by
  rw [← putK_putL ys r i hp]
  unfold putK
  rw [if_pos ⟨hf.1, by rw [ahead_not, cmpR_flip, hf.2]; omega⟩]
theorem put_new {ys : List Rw} {r : Rw} {i : Nat} (hp : PutAt ys r i) (hf : ¬ (i < ys.length ∧ cmpR (ys.getD i default) r = 0)) : putL ys r = ys.take i ++ [r] ++ ys.drop i := by
  rw [← putK_putL ys r i hp]
  unfold putK
  refine if_neg (fun h => hf ⟨h.1, ?_⟩)
  have h1 := (ahead_not _ _).1 (hp.2.2 h.1)
  have h2 := (ahead_not _ _).1 h.2
  rw [cmpR_flip] at h2
  omega
theorem rises_mono {ys : List Rw} (h : Rises ys) (q : Rw) : ∀ a b, a ≤ b → b < ys.length → cmpR (ys.getD b default) q < 0 → cmpR (ys.getD a default) q < 0 := by
  intro a b hab hb hlt
  by_cases e : a = b
  · rw [e]; exact hlt
  · unfold Rises at h
    rw [List.pairwise_iff_getElem] at h
    have h1 := h a b (by omega) hb (by omega)
    have h2 : ahead (ys.getD a default) (ys.getD b default) = true := by simpa [List.getD, hb, show a < ys.length by omega] using h1
    exact (ahead_iff _ _).1 (ahead_trans h2 ((ahead_iff _ _).2 hlt))

end Go.Proofs.Ytaahmmadcdfcpaa

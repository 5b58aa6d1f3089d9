import Derived.Test.YteebglgbeijolaaPrnCompactsLaw7
import Derived.Test.YteebglgbeijolaaPrnCompactsLaw8
import Derived.Test.YteebglgbeijolaaPrnCompactsLaw6
import Derived.Test.YteebglgbeijolaaPrnCompactsLaw1
import Derived.Laws.BytesArg
import Derived.Deep.DrawnRows
import Derived.Deep.RegionHeld3
import Derived.Test.YteebglgbeijolaaPrnCompactsLaw5
import Derived.Test.YteebglgbeijolaaPrnCompactsLaw3

/-
  Rows put into rows that rise, in mathematics.
-/
namespace Go.Proofs.Yteebglgbeijolaa
open Go.RowKit
set_option linter.unusedSectionVars false
variable [DecidableEq Rw] [Inhabited Rw] [DecidableEq TabR] [Inhabited TabR]
set_option linter.unusedVariables false
set_option linter.unusedSimpArgs false

theorem cb_flip : ∀ a b : List UInt8, Lib.compareBytes b a = - Lib.compareBytes a b
  | [], [] => by simp [Lib.compareBytes]
  | [], _ :: _ => by simp [Lib.compareBytes]
  | _ :: _, [] => by simp [Lib.compareBytes]
  | x :: a, y :: b => by
    rcases u8_cases x y with h | rfl | h
    · rw [cb_lt h, cb_gt h]
      rfl
    · rw [cb_eq, cb_eq, cb_flip a b]
    · rw [cb_gt h, cb_lt h]
theorem cmpR_flip (a b : Rw) : cmpR b a = - cmpR a b := by
  unfold cmpR orI
  have h1 : cmpB b.key a.key = - cmpB a.key b.key := cb_flip _ _
  have h2 : cmpI a.ver b.ver = - cmpI b.ver a.ver := by
    unfold cmpI
    split <;> split <;> (try split) <;> omega
  rw [h1, h2]
  by_cases h : cmpB a.key b.key = 0
  · rw [if_pos h, if_pos (by omega)]
  · rw [if_neg h, if_neg (by omega)]
theorem ahead_iff (a b : Rw) : ahead a b = true ↔ cmpR a b < 0 := by unfold ahead; simp
theorem ahead_not (a b : Rw) : ahead a b = false ↔ 0 ≤ cmpR a b := by unfold ahead; simp
theorem ahead_asymm {a b : Rw} (h : ahead a b = true) : ahead b a = false := by
  rw [ahead_iff] at h
  rw [ahead_not, cmpR_flip]
  omega
theorem ahead_irrefl (a : Rw) : ahead a a = false := by
  rw [ahead_not]
  have := cmpR_flip a a
  omega
theorem ahead_trans {a b c : Rw} (h : ahead a b = true) (k : ahead b c = true) : ahead a c = true := by
  have h1 := kle_ahead h
  have k1 := kle_ahead k
  by_cases e : a.key = c.key
  · have e1 : b.key = a.key := kle_anti (by rw [e]; exact k1) h1
    rw [ahead_ver e1.symm] at h
    rw [ahead_ver (e1.trans e)] at k
    rw [ahead_ver e]
    simp only [decide_eq_true_eq] at h k ⊢
    omega
  · have h2 := kle_trans h1 k1
    unfold kle at h2
    have h3 : cmpB a.key c.key ≠ 0 := fun h => e ((cmpB_zero _ _).1 h)
    rw [ahead_iff]
    unfold cmpR orI
    rw [if_neg h3]
    omega
def putL : List Rw → Rw → List Rw
  | [], r => [r]
  | y :: ys, r => if ahead y r = true then y :: putL ys r else if ahead r y = true then r :: y :: ys else y :: ys
theorem putK_putL : ∀ (ys : List Rw) (r : Rw) (k : Nat), PutAt ys r k → putK ys r k = putL ys r
  | [], r, k, h => by
    obtain ⟨h1, _, _⟩ := h
    have : k = 0 := by simpa using h1
    subst this
    simp [putK, putL]
  | y :: ys, r, 0, h => by
    obtain ⟨_, _, h3⟩ := h
    have h4 : ahead y r = false := by simpa using h3 (by simp)
    unfold putK putL
    simp only [h4, Bool.false_eq_true, if_false]
    cases h5 : ahead r y <;> simp [h5]
  | y :: ys, r, k + 1, h => by
    obtain ⟨h1, h2, h3⟩ := h
    have h4 : ahead y r = true := by simpa using h2 0 (by omega)
    have ih := putK_putL ys r k ⟨by simpa using h1, fun j hj => by simpa using h2 (j + 1) (by omega), fun hk => by simpa using h3 (by simpa using hk)⟩
    unfold putL
    rw [if_pos h4, ← ih]
    unfold putK
    by_cases hc : k < ys.length ∧ ahead r (ys.getD k default) = false
    · rw [if_pos hc, if_pos ⟨by simpa using hc.1, by simpa using hc.2⟩]
    · rw [if_neg hc, if_neg (fun h => hc ⟨by simpa using h.1, by simpa using h.2⟩)]
      simp
def Rises (xs : List Rw) : Prop := xs.Pairwise (fun a b => ahead a b = true)
theorem mem_putL : ∀ {ys : List Rw} {r x : Rw}, x ∈ putL ys r → x ∈ ys ∨ x = r
  | [], r, x, h => by simpa [putL] using h
  | y :: ys, r, x, h => by
    unfold putL at h
    split at h
    · rcases List.mem_cons.1 h with rfl | h
      · exact .inl (List.mem_cons_self ..)
      · exact (mem_putL h).imp (fun h => List.mem_cons_of_mem _ h) id
    · split at h
      · rcases List.mem_cons.1 h with rfl | h
        · exact .inr rfl
        · exact .inl h
      · exact .inl h
theorem putL_rises : ∀ {ys : List Rw} (r : Rw), Rises ys → Rises (putL ys r)
  | [], r, _ => by unfold Rises; simp [putL]
  | y :: ys, r, h => by
    unfold Rises at h
    rw [List.pairwise_cons] at h
    unfold putL
    split
    · rename_i h1
      have ih : Rises (putL ys r) := putL_rises r h.2
      refine List.pairwise_cons.2 ⟨fun x hx => ?_, ih⟩
      rcases mem_putL hx with hx | rfl
      · exact h.1 x hx
      · exact h1
    · split
      · rename_i h1 h2
        refine List.pairwise_cons.2 ⟨fun x hx => ?_, List.pairwise_cons.2 h⟩
        rcases List.mem_cons.1 hx with rfl | hx
        · exact h2
        · exact ahead_trans h2 (h.1 x hx)
      · exact List.pairwise_cons.2 h
theorem length_putL : ∀ (ys : List Rw) (r : Rw), ys.length ≤ (putL ys r).length ∧ (putL ys r).length ≤ ys.length + 1
  | [], r => by simp [putL]
  | y :: ys, r => by
    have ih := length_putL ys r
    unfold putL
    split
    · simp only [List.length_cons]; omega
    · split <;> simp only [List.length_cons] <;> omega
def putsL (ys l : List Rw) : List Rw := l.foldl putL ys
theorem putsL_cons (ys : List Rw) (r : Rw) (l : List Rw) : putsL ys (r :: l) = putsL (putL ys r) l := rfl
theorem putsL_app (ys l m : List Rw) : putsL ys (l ++ m) = putsL (putsL ys l) m := List.foldl_append ..
theorem putsL_snoc (ys l : List Rw) (r : Rw) : putsL ys (l ++ [r]) = putL (putsL ys l) r := by rw [putsL_app]; rfl
theorem length_putsL : ∀ (l ys : List Rw), ys.length ≤ (putsL ys l).length ∧ (putsL ys l).length ≤ ys.length + l.length
  | [], ys => by simp [putsL]
  | r :: l, ys => by
    have h1 := length_putL ys r
    have h2 := length_putsL l (putL ys r)
    rw [putsL_cons, List.length_cons]
    omega
theorem length_putsL_pre {l m ys : List Rw} (h : l <+: m) : (putsL ys l).length ≤ (putsL ys m).length := by
  obtain ⟨t, rfl⟩ := h
  rw [putsL_app]
  exact (length_putsL t _).1
theorem rises_nil : Rises [] := List.Pairwise.nil
theorem rises_of {xs : List Rw} (h : tabF xs = 0) : Rises xs := by
  obtain ⟨hn, hat⟩ := tabF_all h
  unfold Rises
  rw [List.pairwise_iff_getElem]
  have key : ∀ d i, (hd : i + d + 1 < xs.length) → ahead (xs.getD i default) (xs.getD (i + d + 1) default) = true := by
    intro d
    induction d with
    | zero =>
      intro i hd
      exact (tabAt_zero (hat (i + 1) (by omega))).2 (by omega)
    | succ d ih =>
      intro i hd
      exact ahead_trans (ih i (by omega)) ((tabAt_zero (hat (i + (d + 1) + 1) (by omega))).2 (by omega))
  intro i j hi hj hij
  have := key (j - i - 1) i (by omega)
  rw [show i + (j - i - 1) + 1 = j by omega] at this
  simpa [List.getD, hi, hj] using this
theorem putL_filter : ∀ {xs : List Rw} (p : Rw → Bool) (r : Rw), Rises xs → r ∈ xs → putL (xs.filter p) r = xs.filter (fun x => p x || decide (x = r))
  | [], _, _, _, h => by simp at h
  | x :: xs, p, r, hx, hr => by
    unfold Rises at hx
    rw [List.pairwise_cons] at hx
    by_cases e : x = r
    · subst e
      have hno : ∀ y ∈ xs, y ≠ x := fun y hy e => by
        have := hx.1 y hy
        rw [e, ahead_irrefl] at this
        cases this
      have e2 : xs.filter (fun y => p y || decide (y = x)) = xs.filter p := List.filter_congr (fun y hy => by simp [hno y hy])
      by_cases hp : p x = true
      · rw [List.filter_cons_of_pos hp, List.filter_cons_of_pos (by simp), e2]
        unfold putL
        rw [if_neg (by simp [ahead_irrefl]), if_neg (by simp [ahead_irrefl])]
      · rw [List.filter_cons_of_neg hp, List.filter_cons_of_pos (by simp), e2]
        cases hf : xs.filter p with
        | nil => rfl
        | cons y ys =>
          have hy : y ∈ xs := (List.mem_filter.1 (by rw [hf]; exact List.mem_cons_self ..)).1
          unfold putL
          rw [if_neg (by simp [ahead_asymm (hx.1 y hy)]), if_pos (hx.1 y hy)]
    · have hr' : r ∈ xs := by
        rcases List.mem_cons.1 hr with h | h
        · exact absurd h.symm e
        · exact h
      have ih := putL_filter p r (show Rises xs from hx.2) hr'
      by_cases hp : p x = true
      · rw [List.filter_cons_of_pos hp, List.filter_cons_of_pos (by simp [hp]), ← ih]
        conv => lhs; unfold putL
        rw [if_pos (hx.1 r hr')]
      · rw [List.filter_cons_of_neg hp, List.filter_cons_of_neg (by simp [hp, e]), ← ih]
theorem putsL_filter {xs : List Rw} (hx : Rises xs) : ∀ (l : List Rw) (p : Rw → Bool), (∀ r ∈ l, r ∈ xs) → putsL (xs.filter p) l = xs.filter (fun x => p x || decide (x ∈ l))
  | [], p, _ => by simp [putsL]
  | r :: l, p, h => by
    rw [putsL_cons, putL_filter p r hx (h r (List.mem_cons_self ..)), putsL_filter hx l _ (fun q hq => h q (List.mem_cons_of_mem _ hq))]
    refine List.filter_congr (fun y _ => ?_)
    rw [Bool.eq_iff_iff]
    simp only [Bool.or_eq_true, decide_eq_true_eq, List.mem_cons]
    rw [or_assoc]
theorem putsL_of {xs : List Rw} (hx : Rises xs) (l : List Rw) (h : ∀ r ∈ l, r ∈ xs) : putsL [] l = xs.filter (fun x => decide (x ∈ l)) := by
  have h1 := putsL_filter hx l (fun _ => false) h
  have h2 : xs.filter (fun _ => false) = [] := List.filter_eq_nil_iff.2 (fun _ _ => by simp)
  rw [h2] at h1
  rw [h1]
  exact List.filter_congr (fun y _ => by simp)
theorem putAt_of {ys : List Rw} {r : Rw} {i : Nat} (hi : i ≤ ys.length) (h1 : ∀ k, k < i → cmpR (ys.getD k default) r < 0) (h2 : ∀ k, i ≤ k → k < ys.length → 0 ≤ cmpR (ys.getD k default) r) : PutAt ys r i :=
  ⟨hi, fun j hj => (ahead_iff _ _).2 (h1 j hj), fun h => (ahead_not _ _).2 (h2 i (Nat.le_refl _) h)⟩
theorem put_found {ys : List Rw} {r : Rw} {i : Nat} (hp : PutAt ys r i) (hf : i < ys.length ∧ cmpR (ys.getD i default) r = 0) : putL ys r = ys := by
  rw [← putK_putL ys r i hp]
  unfold putK
  rw [if_pos ⟨hf.1, by rw [ahead_not, cmpR_flip, hf.2]; omega⟩]
theorem put_new {ys : List Rw} {r : Rw} {i : Nat} (hp : PutAt ys r i) (hf : ¬ (i < ys.length ∧ cmpR (ys.getD i default) r = 0)) : putL ys r = ys.take i ++ [r] ++ ys.drop i := by
  rw [← putK_putL ys r i hp]
  unfold putK
  refine if_neg (fun h => hf ⟨h.1, ?_⟩)
  have h1 := (ahead_not _ _).1 (hp.2.2 h.1)
  have h2 := (ahead_not _ _).1 h.2
  rw [cmpR_flip] at h2
  omega
theorem rises_mono {ys : List Rw} (h : Rises ys) (q : Rw) : ∀ a b, a ≤ b → b < ys.length → cmpR (ys.getD b default) q < 0 → cmpR (ys.getD a default) q < 0 := by
  intro a b hab hb hlt
  by_cases e : a = b
  · rw [e]; exact hlt
  · unfold Rises at h
    rw [List.pairwise_iff_getElem] at h
    have h1 := h a b (by omega) hb (by omega)
    have h2 : ahead (ys.getD a default) (ys.getD b default) = true := by simpa [List.getD, hb, show a < ys.length by omega] using h1
    exact (ahead_iff _ _).1 (ahead_trans h2 ((ahead_iff _ _).2 hlt))
end Go.Proofs.Yteebglgbeijolaa

/-
  The specification's MergeTables.
-/
namespace Go.Proofs.Yteebglgbeijolaa
open Go.RowKit
set_option linter.unusedSectionVars false
variable [DecidableEq Rw] [Inhabited Rw] [DecidableEq TabR] [Inhabited TabR]
set_option linter.unusedVariables false
set_option linter.unusedSimpArgs false
attribute [local go_sem ↓] Go.wp_at_zero Go.wp_at_succ

def flatTo (xss : Nat → List Rw) : Nat → List Rw
  | 0 => []
  | k + 1 => flatTo xss k ++ xss k
theorem putL_pos (ys : List Rw) (r : Rw) : 1 ≤ (putL ys r).length := by
  cases ys with
  | nil => simp [putL]
  | cons y ys =>
    have := (length_putL (y :: ys) r).1
    simp only [List.length_cons] at this
    omega
def OutS (W : World) (base : Nat) (v : Value) (ys : List Rw) : Prop := (∃ g c, v = .slice (some ⟨g, 0, none⟩) ys.length c) ∧ W.ownsRow base 61 4 v ys.length (rwsC ys)
theorem OutS.below {W W' : World} {base : Nat} {v : Value} {ys : List Rw} (h : OutS W base v ys) (hb : Below W.heap.size W W') : OutS W' base v ys := ⟨h.1, owns_below h.2 hb⟩
theorem l5Put_L (x : Value) (ys : List Rw) (r : Rw) (base : Nat) (w : World) (hx : OutS w base x ys) (hbase : base ≤ w.heap.size) (hn : ys.length ≤ 1048000) :
    Calls Try.prog 110 #[x, rowV r] w fun e w' => ∃ v, e = .returned v ∧ OutS w' base v (putL ys r) ∧ Below w.heap.size w w' := by
  obtain ⟨⟨g, c, rfl⟩, ho⟩ := hx
  refine (l5Put_any _ ys r w (RowsV_of_owns ho) ⟨g, 0, c, rfl⟩ hn).mono ?_
  rintro e w' ⟨k, hk, hb, h⟩
  rw [putK_putL ys r k hk] at h
  rcases h with ⟨e1, rfl⟩ | ⟨v, rfl, h⟩
  · rw [e1]
    exact ⟨_, rfl, ⟨⟨g, c, rfl⟩, owns_below ho hb⟩, hb⟩
  · refine ⟨v, rfl, ⟨?_, owns_base h hbase⟩, hb⟩
    have hp := putL_pos ys r
    rcases h.2 with ⟨_, h0⟩ | ⟨g', cap, _, rfl, _⟩
    · omega
    · exact ⟨g', cap, rfl⟩
end Go.Proofs.Yteebglgbeijolaa

/-
  Tables drawn.
-/
namespace Go.Proofs.Yteebglgbeijolaa
open Go.RowKit
set_option linter.unusedSectionVars false
variable [DecidableEq Logg] [Inhabited Logg] [DecidableEq LoggR] [Inhabited LoggR] [DecidableEq BytesR] [Inhabited BytesR] [DecidableEq RecsR] [Inhabited RecsR] [DecidableEq Leg] [Inhabited Leg] [DecidableEq Rw] [Inhabited Rw] [DecidableEq TabR] [Inhabited TabR]
set_option linter.unusedVariables false
set_option linter.unusedSimpArgs false
attribute [local go_sem ↓] Go.wp_at_zero Go.wp_at_succ

set_option maxHeartbeats 1000000 in
theorem l5Key_any (B : Nat) (w : World) (bs : Nat) (a : Option Addr) (k cap t : Nat) (h : Src B w bs a k cap t) (ht : t ≤ 90000) :
    Calls Try.prog 143 #[.pointer (some ⟨bs, 0, none⟩)] w fun e w' => ∃ s : ByteArray, e = .returned (.string s) ∧ s.size ≤ 2 ∧ Src B w' bs a k cap (t + 1) ∧ Mod (fun b => b = bs) w w' := by
  have hlt := h.lt
  go_enter Try.func143, Try.ntmps143
  go_wp2_with fail
  refine (l1Next_any B _ bs a k cap t 5 (h.below (by (repeat (first | exact Below.refl _ _ | assumption | refine Below.drew ?_ | refine balloc ?_ _ | refine bset ?_ (by simp; omega) _ | refine bset ?_ (by simp) _ | refine bstep ?_ (by assumption))))) (by omega) (by omega) (by omega)).mono ?_
  rintro e w1 ⟨r, rfl, hr, hs, hm⟩
  have hne : w.heap.size ≠ bs := by omega
  have q0 : w1.cell? ⟨w.heap.size, 0, none⟩ = some (.string ⟨#[97]⟩) := hm.cell (by simp [go_sem]) hne
  have q1 : w1.cell? ⟨w.heap.size, 1, none⟩ = some (.string ⟨#[98]⟩) := hm.cell (by simp [go_sem]) hne
  have q2 : w1.cell? ⟨w.heap.size, 2, none⟩ = some (.string ⟨#[97, 98]⟩) := hm.cell (by simp [go_sem]) hne
  have q3 : w1.cell? ⟨w.heap.size, 3, none⟩ = some (.string ⟨#[107, 49]⟩) := hm.cell (by simp [go_sem]) hne
  have q4 : w1.cell? ⟨w.heap.size, 4, none⟩ = some (.string ⟨#[107, 50]⟩) := hm.cell (by simp [go_sem]) hne
  have hM : Mod (fun b => b = bs) w w1 := (Mod.of_below (balloc (Below.refl _ _) _)).trans hm
  clear hm h
  have hr5 : r < 5 := by omega
  obtain ⟨s, hsc, hss⟩ : ∃ s : ByteArray, w1.cell? ⟨w.heap.size, r, none⟩ = some (.string s) ∧ s.size ≤ 2 := by
    match r, hr5 with
    | 0, _ => exact ⟨_, q0, by decide⟩
    | 1, _ => exact ⟨_, q1, by decide⟩
    | 2, _ => exact ⟨_, q2, by decide⟩
    | 3, _ => exact ⟨_, q3, by decide⟩
    | 4, _ => exact ⟨_, q4, by decide⟩
  have hi1 : (0 : Int) ≤ (r : Int) := by omega
  clear q0 q1 q2 q3 q4
  go_wp2
  go_ret
  exact ⟨s, rfl, hss, hs, hM⟩
theorem msetT {F : Nat → Prop} {w w' : World} (h : Mod F w w') (a : Addr) (v : Value) (ha : F a.block) : Mod F w (w'.setCell a v) := h.trans ((Mod.of_set w' a v).mono (fun b e => by rw [e]; exact ha))
set_option maxHeartbeats 2000000 in
theorem l5Row_any (B : Nat) (w : World) (bs : Nat) (a : Option Addr) (k cap t : Nat) (h : Src B w bs a k cap t) (ht : t ≤ 90000) :
    Calls Try.prog 111 #[.pointer (some ⟨bs, 0, none⟩)] w fun e w' => ∃ r : Rw, e = .returned (rowV r) ∧ r.key.size ≤ 2 ∧ r.val.size ≤ 2 ∧ Src B w' bs a k cap (t + 4) ∧ Mod (fun b => b = bs) w w' := by
  have hlt := h.lt
  have hne : w.heap.size ≠ bs := by omega
  unfold rowV
  go_enter Try.func111, Try.ntmps111
  go_wp2_with fail
  refine (l5Key_any B _ bs a k cap t (h.below (by (repeat (first | exact Below.refl _ _ | assumption | refine Below.drew ?_ | refine balloc ?_ _ | refine bset ?_ (by simp; omega) _ | refine bset ?_ (by simp) _ | refine bstep ?_ (by assumption))))) ht).mono ?_
  rintro e w1 ⟨s1, rfl, hs1, h1, m1⟩
  have R0 : w1.cell? ⟨w.heap.size, 0, none⟩ = some (.string ⟨#[]⟩) := m1.cell (by simp [go_sem]) hne
  have R1 : w1.cell? ⟨w.heap.size, 1, none⟩ = some (.int .i64 0) := m1.cell (by simp [go_sem]) hne
  have R2 : w1.cell? ⟨w.heap.size, 2, none⟩ = some (.string ⟨#[]⟩) := m1.cell (by simp [go_sem]) hne
  have R3 : w1.cell? ⟨w.heap.size, 3, none⟩ = some (.bool false) := m1.cell (by simp [go_sem]) hne
  have Rf : ∀ o, w1.frozen? ⟨w.heap.size, o, none⟩ = false := fun o => (m1.frozen (a := ⟨w.heap.size, o, none⟩) (by simp) hne).trans (by simp [go_sem])
  have Rz : w.heap.size < w1.heap.size := by have := m1.size; simp at this; omega
  have M1 : Mod (fun b => b = bs) w w1 := (Mod.of_below (balloc (Below.refl _ _) _)).trans m1
  clear m1 h
  go_wp2_with fail
  refine (l1Next_any B _ bs a k cap (t + 1) 9 h1 (by omega) (by omega) (by omega)).mono ?_
  rintro e w2 ⟨r2, rfl, hr2, h2, m2⟩
  replace R0 := m2.cell R0 hne
  replace R1 := m2.cell R1 hne
  replace R2 := m2.cell R2 hne
  replace R3 := m2.cell R3 hne
  replace Rf : ∀ o, w2.frozen? ⟨w.heap.size, o, none⟩ = false := fun o => (m2.frozen (a := ⟨w.heap.size, o, none⟩) Rz hne).trans (Rf o)
  replace Rz : w.heap.size < w2.heap.size := by have := m2.size; omega
  have M2 := M1.trans m2
  clear m2 h1 M1
  have hwr : IntKind.i64.wrap (1 + (r2 : Int)) = 1 + (r2 : Int) := by rw [IntKind.wrap_i64]; omega
  have hl2 := h2.lt
  have hne2 : w2.heap.size ≠ bs := by omega
  go_wp2_with fail
  refine (l1Next_any B _ bs a k cap (t + 2) 4 (h2.below (by (repeat (first | exact Below.refl _ _ | assumption | refine Below.drew ?_ | refine balloc ?_ _ | refine bset ?_ (by simp; omega) _ | refine bset ?_ (by simp) _ | refine bstep ?_ (by assumption))))) (by omega) (by omega) (by omega)).mono ?_
  rintro e w3 ⟨r3, rfl, hr3, h3, m3⟩
  have q0 : w3.cell? ⟨w2.heap.size, 0, none⟩ = some (.string ⟨#[120]⟩) := m3.cell (by simp [go_sem]) hne2
  have q1 : w3.cell? ⟨w2.heap.size, 1, none⟩ = some (.string ⟨#[121]⟩) := m3.cell (by simp [go_sem]) hne2
  have q2 : w3.cell? ⟨w2.heap.size, 2, none⟩ = some (.string ⟨#[]⟩) := m3.cell (by simp [go_sem]) hne2
  have q3 : w3.cell? ⟨w2.heap.size, 3, none⟩ = some (.string ⟨#[122, 122]⟩) := m3.cell (by simp [go_sem]) hne2
  replace R0 := m3.cell (cell_keep (by (repeat (first | exact Below.refl _ _ | assumption | refine Below.drew ?_ | refine balloc ?_ _ | refine bset ?_ (by simp; omega) _ | refine bset ?_ (by simp) _ | refine bstep ?_ (by assumption)))) R0) hne
  replace R1 := m3.cell (cell_keep (by (repeat (first | exact Below.refl _ _ | assumption | refine Below.drew ?_ | refine balloc ?_ _ | refine bset ?_ (by simp; omega) _ | refine bset ?_ (by simp) _ | refine bstep ?_ (by assumption)))) R1) hne
  replace R2 := m3.cell (cell_keep (by (repeat (first | exact Below.refl _ _ | assumption | refine Below.drew ?_ | refine balloc ?_ _ | refine bset ?_ (by simp; omega) _ | refine bset ?_ (by simp) _ | refine bstep ?_ (by assumption)))) R2) hne
  replace R3 := m3.cell (cell_keep (by (repeat (first | exact Below.refl _ _ | assumption | refine Below.drew ?_ | refine balloc ?_ _ | refine bset ?_ (by simp; omega) _ | refine bset ?_ (by simp) _ | refine bstep ?_ (by assumption)))) R3) hne
  have hz3 := m3.size
  simp only [World.size_alloc] at hz3
  replace Rf : ∀ o, w3.frozen? ⟨w.heap.size, o, none⟩ = false := fun o => (m3.frozen (a := ⟨w.heap.size, o, none⟩) (by simp; omega) hne).trans (by rw [(bcell (balloc (Below.refl w2.heap.size w2) _)).2 _ _ Rz]; exact Rf o)
  replace Rz : w.heap.size < w3.heap.size := by omega
  have M3 : Mod (fun b => b = bs) w w3 := (M2.transB (balloc (Below.refl _ _) _)).trans m3
  clear m3 h2 M2
  have hr4 : r3 < 4 := by omega
  obtain ⟨s3, hsc, hss⟩ : ∃ s : ByteArray, w3.cell? ⟨w2.heap.size, r3, none⟩ = some (.string s) ∧ s.size ≤ 2 := by
    match r3, hr4 with
    | 0, _ => exact ⟨_, q0, by decide⟩
    | 1, _ => exact ⟨_, q1, by decide⟩
    | 2, _ => exact ⟨_, q2, by decide⟩
    | 3, _ => exact ⟨_, q3, by decide⟩
  have hi1 : (0 : Int) ≤ (r3 : Int) := by omega
  have hl3 := h3.lt
  have hne3 : w3.heap.size ≠ bs := by omega
  clear q0 q1 q2 q3
  go_wp2_with fail
  refine (l1Chance_any B _ bs a k cap (t + 3) 4 (h3.below (by (repeat (first | exact Below.refl _ _ | assumption | refine Below.drew ?_ | refine balloc ?_ _ | refine bset ?_ (by simp; omega) _ | refine bset ?_ (by simp) _ | refine bstep ?_ (by assumption))))) (by omega) (by omega) (by omega)).mono ?_
  rintro e w4 ⟨ch, rfl, h4, m4⟩
  have x0 : w4.cell? ⟨w3.heap.size, 0, none⟩ = some (.string s1) := m4.cell (by simp [go_sem]) hne3
  have x1 : w4.cell? ⟨w3.heap.size, 1, none⟩ = some (.int .i64 (1 + (r2 : Int))) := m4.cell (by simp [go_sem]) hne3
  have x2 : w4.cell? ⟨w3.heap.size, 2, none⟩ = some (.string s3) := m4.cell (by simp [go_sem]) hne3
  have x3 : w4.cell? ⟨w3.heap.size, 3, none⟩ = some (.bool false) := m4.cell (by simp [go_sem]) hne3
  have xf : ∀ o, w4.frozen? ⟨w3.heap.size, o, none⟩ = false := fun o => (m4.frozen (a := ⟨w3.heap.size, o, none⟩) (by simp) hne3).trans (by simp [go_sem])
  replace R0 := m4.cell (cell_keep (by (repeat (first | exact Below.refl _ _ | assumption | refine Below.drew ?_ | refine balloc ?_ _ | refine bset ?_ (by simp; omega) _ | refine bset ?_ (by simp) _ | refine bstep ?_ (by assumption)))) R0) hne
  replace R1 := m4.cell (cell_keep (by (repeat (first | exact Below.refl _ _ | assumption | refine Below.drew ?_ | refine balloc ?_ _ | refine bset ?_ (by simp; omega) _ | refine bset ?_ (by simp) _ | refine bstep ?_ (by assumption)))) R1) hne
  replace R2 := m4.cell (cell_keep (by (repeat (first | exact Below.refl _ _ | assumption | refine Below.drew ?_ | refine balloc ?_ _ | refine bset ?_ (by simp; omega) _ | refine bset ?_ (by simp) _ | refine bstep ?_ (by assumption)))) R2) hne
  replace R3 := m4.cell (cell_keep (by (repeat (first | exact Below.refl _ _ | assumption | refine Below.drew ?_ | refine balloc ?_ _ | refine bset ?_ (by simp; omega) _ | refine bset ?_ (by simp) _ | refine bstep ?_ (by assumption)))) R3) hne
  have hz4 := m4.size
  simp only [World.size_alloc] at hz4
  replace Rf : ∀ o, w4.frozen? ⟨w.heap.size, o, none⟩ = false := fun o => (m4.frozen (a := ⟨w.heap.size, o, none⟩) (by simp; omega) hne).trans (by rw [(bcell (balloc (Below.refl w3.heap.size w3) _)).2 _ _ Rz]; exact Rf o)
  have M4 : Mod (fun b => b = bs) w w4 := (M3.transB (balloc (Below.refl _ _) _)).trans m4
  have hnx : w.heap.size ≠ w3.heap.size := by omega
  clear m4 h3 M3 hsc
  cases ch with
  | false =>
    go_wp2
    refine bodyPost_ret (v := .agg #[.string s1, .int .i64 (1 + (r2 : Int)), .string s3, .bool false]) (by simp [results, Try.results111, go_sem, R0, R1, R2, R3, Rf]) rfl ⟨⟨s1, 1 + (r2 : Int), s3, false⟩, rfl, hs1, hss, ?_⟩
    have hK : Mod (fun b => b = w3.heap.size ∨ b = w.heap.size) w4 ((((w4.setCell ⟨w.heap.size, 0, none⟩ (.string s1)).setCell ⟨w.heap.size, 1, none⟩ (.int .i64 (1 + (r2 : Int)))).setCell ⟨w.heap.size, 2, none⟩ (.string s3)).setCell ⟨w.heap.size, 3, none⟩ (.bool false)) := msetT (msetT (msetT (msetT (Mod.refl _ _) _ _ (.inr rfl)) _ _ (.inr rfl)) _ _ (.inr rfl)) _ _ (.inr rfl)
    exact ⟨h4.mod hK (fun b e => by omega), M4.trans2 hK (fun b e hb => by omega)⟩
  | true =>
    go_wp2
    refine bodyPost_ret (v := .agg #[.string s1, .int .i64 (1 + (r2 : Int)), .string ⟨#[]⟩, .bool true]) (by simp [results, Try.results111, go_sem, R0, R1, R2, R3, Rf, x0, x1, x2, x3, xf, hnx, Ne.symm hnx]) rfl ⟨⟨s1, 1 + (r2 : Int), ⟨#[]⟩, true⟩, rfl, hs1, (by show ByteArray.size ⟨#[]⟩ ≤ 2; decide), ?_⟩
    have hK : Mod (fun b => b = w3.heap.size ∨ b = w.heap.size) w4 ((((((w4.setCell ⟨w3.heap.size, 3, none⟩ (.bool true)).setCell ⟨w3.heap.size, 2, none⟩ (.string ⟨#[]⟩)).setCell ⟨w.heap.size, 0, none⟩ (.string s1)).setCell ⟨w.heap.size, 1, none⟩ (.int .i64 (1 + (r2 : Int)))).setCell ⟨w.heap.size, 2, none⟩ (.string ⟨#[]⟩)).setCell ⟨w.heap.size, 3, none⟩ (.bool true)) := msetT (msetT (msetT (msetT (msetT (msetT (Mod.refl _ _) _ _ (.inl rfl)) _ _ (.inl rfl)) _ _ (.inr rfl)) _ _ (.inr rfl)) _ _ (.inr rfl)) _ _ (.inr rfl)
    exact ⟨h4.mod hK (fun b e => by omega), M4.trans2 hK (fun b e hb => by omega)⟩
end Go.Proofs.Yteebglgbeijolaa

/-
  A region that draws its order, none of whose operations breaks what is asked of the world.
-/
namespace Go.Proofs.Yteebglgbeijolaa
open Go.RowKit

section
variable {P : Program} {ops : Array Oper} {Q : Exit → Act → World → Prop} {md : Region.Mode} {S : World → Prop} {t : Nat}

theorem upto_firstN {i : Nat} {oi : Oper} {v : Value} (hi : ops[i]? = some oi) (hsel : Region.noSelect ops = true) (ht : ops[t]? = none)
    (hQ : ∀ c a w, Q (.panic c) (a.put oi.dst v) w → Q (.panic c) a w) :
    ∀ (f : Nat) (listed : Array Bool) (a : Act) (w : World),
      (∀ j oj, ops[j]? = some oj → j ≠ i → listed.getD j true = false → (∀ e ∈ oj.after, Region.binds md e = true → e.on ≠ i) → oi.apart ops oj = true) →
      i ∈ Region.ready md ops listed → YieldsIf P ops S oi v a → S w →
      wpUpto P md ops Q S t f (listed.setIfInBounds i true) (a.put oi.dst v) w → wpUpto P md ops Q S t (f + 1) listed a w := by
  intro f
  induction f with
  | zero =>
    intro listed a w _ hr hy hS H
    refine ⟨fun h => (by rw [h] at hr; cases hr), fun j hj => ?_⟩
    by_cases hji : j = i
    · subst hji
      exact hy.wpOp hi hS ⟨fun _ => hS, H⟩
    · have hm := ready_mono hj hji
      rw [H.1] at hm
      cases hm
  | succ f ih =>
    intro listed a w hfree hr hy hS H
    refine ⟨fun h => (by rw [h] at hr; cases hr), fun j hj => ?_⟩
    by_cases hji : j = i
    · subst hji
      exact hy.wpOp hi hS ⟨fun _ => hS, H⟩
    · obtain ⟨hjun, oj, hoj, hall⟩ := mem_ready.1 hj
      have hun := (mem_ready.1 hr).1
      have hnl : ¬ listed.getD i false = true := by
        intro h1
        rcases Nat.lt_or_ge i listed.size with h' | h'
        · simp [h'] at hun h1
          rw [hun] at h1
          cases h1
        · simp [Array.getElem?_eq_none h'] at h1
      have hnot : ∀ e ∈ oj.after, Region.binds md e = true → e.on ≠ i := fun e he hb heq => hnl (by rw [← heq]; exact hall e he hb)
      have hjt : j ≠ t := by
        rintro rfl
        rw [ht] at hoj
        cases hoj
      have h1 := H.2 j (ready_mono hj hji)
      have h2 := wpOp_putIf hoj (hfree j oj hoj hji hjun hnot) (fun cs b => Region.noSelect_spec hsel i oi cs b hi) (fun cs b => Region.noSelect_spec hsel j oj cs b hoj) hQ hy h1
      refine wpOp_mono (fun a' w' h3 => ⟨h3.2.1, ih (listed.setIfInBounds j true) a' w' ?_ (ready_mono hr (Ne.symm hji)) h3.1 (h3.2.1 hjt) ?_⟩) h2
      · intro k ok hk hki hunk hno
        refine hfree k ok hk hki ?_ hno
        by_cases hjk : j = k
        · subst hjk; exact hjun
        · rw [getD_set_ne true hjk] at hunk; exact hunk
      · rw [Array.setIfInBounds_comm _ _ hji]
        exact h3.2.2
theorem upto_takeN {i : Nat} {oi : Oper} {v : Value} {f : Nat} {listed : Array Bool} {a : Act} {w : World} (hi : ops[i]? = some oi) (hsel : Region.noSelect ops = true) (ht : ops[t]? = none)
    (hf : Region.free md ops listed i = true) (hr : (Region.ready md ops listed).contains i = true) (hQ : ∀ c a w, Q (.panic c) (a.put oi.dst v) w → Q (.panic c) a w)
    (hwd : Region.wanted oi (yielded ops a.tmps) = true) (hS : S w) (hy : ∀ w, S w → (execOp a.eval oi).run P w = .ok (.value v) w)
    (h : wpUpto P md ops Q S t f (listed.setIfInBounds i true) (a.put oi.dst v) w) : wpUpto P md ops Q S t (f + 1) listed a w :=
  upto_firstN hi hsel ht hQ f listed a w (Region.free_spec hi hf) (by simpa using hr) (Or.inl ⟨hwd, hy⟩) hS h
end

end Go.Proofs.Yteebglgbeijolaa


import Derived.Test.YtjemciikdijokaaPrnOpenSessionLaw9
import Derived.Test.YtjemciikdijokaaPrnOpenSessionLaw10
import Derived.Test.YtjemciikdijokaaPrnOpenSessionLaw1
import Derived.Deep.RegionHeld3
import Derived.BigQuiet
import Derived.Deep.QuietTactic

/-
  Sessions, in mathematics: their fault, where a client's session stands, one that is opened.
-/
set_option linter.unusedVariables false
namespace Go.Proofs.Ytjemciikdijokaa
open Go.RowKit
set_option linter.unusedSectionVars false
variable [DecidableEq Leg] [Inhabited Leg] [DecidableEq Ses] [Inhabited Ses] [DecidableEq Cont] [Inhabited Cont] [DecidableEq Bal] [Inhabited Bal] [DecidableEq Mrk] [Inhabited Mrk] [DecidableEq Shd] [Inhabited Shd] [DecidableEq Vot] [Inhabited Vot] [DecidableEq Slt] [Inhabited Slt] [DecidableEq Acc] [Inhabited Acc] [DecidableEq Trr] [Inhabited Trr] [DecidableEq Hrd] [Inhabited Hrd] [DecidableEq Ldr] [Inhabited Ldr] [DecidableEq Msg] [Inhabited Msg] [DecidableEq Clu] [Inhabited Clu] [DecidableEq SesR] [Inhabited SesR] [DecidableEq Ledg] [Inhabited Ledg]

def cmpSn (x y : Int) : Int := if x < y then -1 else if y < x then 1 else 0
theorem cmpSn_neg {x y : Int} : cmpSn x y < 0 ↔ x < y := by unfold cmpSn; split <;> (try split) <;> omega
theorem cmpSn_eq {x y : Int} : cmpSn x y = 0 ↔ x = y := by unfold cmpSn; split <;> (try split) <;> omega
def sentB (s : Ses) : Bool := decide ((s.sent.length : Int) = s.next - 1 ∧ ∀ j, j < s.sent.length → s.sent.getD j default = (j : Int) + 1)
def cliAt (l : List Ses) (k : Nat) : Int := (l.getD k default).client
def sesAt (l : List Ses) (k : Nat) : Int :=
  if inB (l.getD k default).client 1 999 = true ∧ inB (l.getD k default).next 1 1000 = true then (if (k = 0 ∨ cliAt l (k - 1) < cliAt l k) ∧ sentB (l.getD k default) = true then 0 else 1) else 3
def sesF (l : List Ses) : Int := if 10 < l.length then 2 else scanI (sesAt l) l.length
theorem sesF_many {l : List Ses} (h : 10 < l.length) : sesF l = 2 := by unfold sesF; rw [if_pos h]
theorem sesF_hit {l : List Ses} {k : Nat} {c : Int} (h : ¬ 10 < l.length) (hk : k < l.length) (hs : scanI (sesAt l) k = 0) (hc : sesAt l k = c) (h0 : ¬ c = 0) : sesF l = c := by
  have e := scanI_hit hs (by rw [hc]; exact h0) _ hk
  unfold sesF
  rw [if_neg h, e, hc]
theorem sesF_end {l : List Ses} (h : ¬ 10 < l.length) (hs : scanI (sesAt l) l.length = 0) : sesF l = 0 := by unfold sesF; rw [if_neg h, hs]
theorem sesAt_range {l : List Ses} {k : Nat} (h : ¬ (inB (l.getD k default).client 1 999 = true ∧ inB (l.getD k default).next 1 1000 = true)) : sesAt l k = 3 := by unfold sesAt; rw [if_neg h]
theorem sesAt_form {l : List Ses} {k : Nat} (h : inB (l.getD k default).client 1 999 = true ∧ inB (l.getD k default).next 1 1000 = true) (h1 : ¬ ((k = 0 ∨ cliAt l (k - 1) < cliAt l k) ∧ sentB (l.getD k default) = true)) : sesAt l k = 1 := by unfold sesAt; rw [if_pos h, if_neg h1]
theorem sesAt_ok {l : List Ses} {k : Nat} (h : inB (l.getD k default).client 1 999 = true ∧ inB (l.getD k default).next 1 1000 = true) (h1 : (k = 0 ∨ cliAt l (k - 1) < cliAt l k) ∧ sentB (l.getD k default) = true) : sesAt l k = 0 := by unfold sesAt; rw [if_pos h, if_pos h1]
structure SesOk (l : List Ses) : Prop where
  len : l.length ≤ 10
  ord : ∀ i j, i < j → j < l.length → cliAt l i < cliAt l j
  sent : ∀ k, k < l.length → (l.getD k default).sent.length ≤ 999
theorem sesOk_of {l : List Ses} (h : sesF l = 0) : SesOk l := by
  unfold sesF at h
  split at h
  · omega
  · rename_i hl
    have hk := scanI_zero h
    have hh : ∀ k, k < l.length → (k = 0 ∨ cliAt l (k - 1) < cliAt l k) ∧ (l.getD k default).sent.length ≤ 999 := fun k hkl => by
      have h1 := hk k hkl
      unfold sesAt at h1
      split at h1
      · rename_i h2
        split at h1
        · rename_i h3
          refine ⟨h3.1, ?_⟩
          have h4 := h3.2
          unfold sentB at h4
          rw [decide_eq_true_eq] at h4
          have h5 := h2.2
          unfold inB at h5
          simp only [Bool.and_eq_true, decide_eq_true_eq] at h5
          have := h4.1
          omega
        · omega
      · omega
    have hord : ∀ j i, i < j → j < l.length → cliAt l i < cliAt l j := by
      intro j
      induction j with
      | zero => intro i hi; omega
      | succ j ih =>
        intro i hi hj
        have h1 := (hh (j + 1) hj).1
        rw [Nat.add_sub_cancel] at h1
        have h2 : cliAt l j < cliAt l (j + 1) := h1.resolve_left (by omega)
        by_cases e : i = j
        · subst e; exact h2
        · have := ih i (by omega) (by omega); omega
    exact ⟨by omega, fun i j hi hj => hord j i hi hj, fun k hkl => (hh k hkl).2⟩
def posZ (c : Int) : List Ses → Nat
  | [] => 0
  | x :: xs => if x.client < c then posZ c xs + 1 else 0
theorem posZ_le (c : Int) : ∀ xs : List Ses, posZ c xs ≤ xs.length
  | [] => Nat.le_refl _
  | x :: xs => by
    have := posZ_le c xs
    unfold posZ
    split
    · simp only [List.length_cons]; omega
    · exact Nat.zero_le _
theorem cliAt_cons (x : Ses) (xs : List Ses) (k : Nat) : cliAt (x :: xs) (k + 1) = cliAt xs k := rfl
theorem posZ_eq (c : Int) : ∀ (xs : List Ses) (i : Nat), i ≤ xs.length → (∀ k, k < i → cliAt xs k < c) → (i < xs.length → ¬ cliAt xs i < c) → posZ c xs = i
  | [], i, h, _, _ => by simp only [List.length_nil] at h; unfold posZ; omega
  | x :: xs, 0, _, _, h2 => by
    have h0 : ¬ x.client < c := h2 (by simp)
    unfold posZ
    rw [if_neg h0]
  | x :: xs, i + 1, h, h1, h2 => by
    have h0 : x.client < c := h1 0 (by omega)
    have ih := posZ_eq c xs i (by simpa using h) (fun k hk => by have := h1 (k + 1) (by omega); rwa [cliAt_cons] at this) (fun hi => by have := h2 (by simpa using hi); rwa [cliAt_cons] at this)
    unfold posZ
    rw [if_pos h0, ih]
theorem posZ_lt (c : Int) : ∀ (xs : List Ses) (k : Nat), k < posZ c xs → cliAt xs k < c
  | [], k, h => by unfold posZ at h; omega
  | x :: xs, k, h => by
    unfold posZ at h
    split at h
    · rename_i h0
      cases k with
      | zero => exact h0
      | succ k => rw [cliAt_cons]; exact posZ_lt c xs k (by omega)
    · omega
theorem posZ_at (c : Int) : ∀ (xs : List Ses), posZ c xs < xs.length → ¬ cliAt xs (posZ c xs) < c
  | [], h => by simp at h
  | x :: xs, h => by
    unfold posZ at h ⊢
    split
    · rename_i h0
      rw [if_pos h0] at h
      rw [cliAt_cons]
      exact posZ_at c xs (by simpa using h)
    · rename_i h0
      exact h0
def hasZ (c : Int) (l : List Ses) : Bool := decide (posZ c l < l.length ∧ cliAt l (posZ c l) = c)
theorem hasZ_of {l : List Ses} {c : Int} (h : SesOk l) {k : Nat} (hk : k < l.length) (he : cliAt l k = c) : hasZ c l = true := by
  unfold hasZ
  rw [decide_eq_true_eq]
  have h1 : ¬ k < posZ c l := fun hlt => by have := posZ_lt c l k hlt; omega
  have h2 := posZ_at c l (by omega)
  refine ⟨by omega, ?_⟩
  by_cases e : k = posZ c l
  · rw [← e]; exact he
  · have := h.ord (posZ c l) k (by omega) hk
    omega
theorem hasZ_no {l : List Ses} {c : Int} (h : ∀ k, k < l.length → ¬ cliAt l k = c) : hasZ c l = false := by
  unfold hasZ
  rw [decide_eq_false_iff_not]
  rintro ⟨h1, h2⟩
  exact h _ h1 h2
def putZ (c : Int) (l : List Ses) : List Ses := l.take (posZ c l) ++ [⟨c, 1, []⟩] ++ l.drop (posZ c l)
def cluZ : Clu := ⟨[], [], [], [], []⟩
def errZ (c : Int) : SesR := ⟨c, 0, [], cluZ⟩
def openD (l : List Ses) (c : Int) : SesR :=
  if sesF l = 0 then (if inB c 1 999 = true then (if hasZ c l = true then ⟨0, 0, l, cluZ⟩ else if l.length = 10 then errZ 2 else ⟨0, 0, putZ c l, cluZ⟩) else errZ 3) else errZ (sesF l)
theorem cntZ_all {α : Type} {f : α → Nat} {M : Nat} : ∀ (k : Nat) (xs : List α), (∀ x ∈ xs, f x ≤ M) → cntTo f k xs ≤ k * M
  | 0, _, _ => by simp [cntTo]
  | k + 1, [], _ => by simp [cntTo]
  | k + 1, x :: xs, h => by
    have h1 := cntZ_all k xs (fun y hy => h y (by simp [hy]))
    have h2 := h x (by simp)
    simp only [cntTo]
    rw [Nat.succ_mul]
    omega
theorem wtZ_all {α : Type} {f : α → Nat} {M N : Nat} (xs : List α) (h : ∀ x ∈ xs, f x ≤ M) (hn : xs.length ≤ N) : wtL f xs ≤ N + N * M := by
  have h1 := cntZ_all xs.length xs h
  have h2 : xs.length * M ≤ N * M := Nat.mul_le_mul_right _ hn
  unfold wtL
  omega
theorem sesOk_mem {l : List Ses} (h : SesOk l) {x : Ses} (hx : x ∈ l) : wtSes x ≤ 999 := by
  obtain ⟨i, hi, rfl⟩ := List.getElem_of_mem hx
  have := h.sent i hi
  rw [List.getD_eq_getElem?_getD, List.getElem?_eq_getElem hi] at this
  exact this
theorem errZ_wt (c : Int) : wtSesR (errZ c) = 0 := rfl
theorem wtSesR_of (l : List Ses) (a b : Int) : wtSesR ⟨a, b, l, cluZ⟩ = wtL wtSes l := by
  show wtL wtSes l + 0 = _
  omega
theorem openD_wt (l : List Ses) (c : Int) : wtSesR (openD l c) ≤ 20000 := by
  unfold openD
  split
  · rename_i h
    have hok := sesOk_of h
    have hl := hok.len
    split
    · split
      · rw [wtSesR_of]
        have := wtZ_all (f := wtSes) (M := 999) (N := 10) l (fun x hx => sesOk_mem hok hx) hl
        omega
      · split
        · rw [errZ_wt]; omega
        · rw [wtSesR_of]
          have hp := posZ_le c l
          have := wtZ_all (f := wtSes) (M := 999) (N := 11) (putZ c l) (fun x hx => by
            unfold putZ at hx
            simp only [List.mem_append, List.mem_singleton] at hx
            rcases hx with (hx | hx) | hx
            · exact sesOk_mem hok (List.mem_of_mem_take hx)
            · rw [hx]; exact Nat.zero_le _
            · exact sesOk_mem hok (List.mem_of_mem_drop hx)) (by unfold putZ; simp only [List.length_append, List.length_take, List.length_drop, List.length_cons, List.length_nil]; omega)
          omega
    · rw [errZ_wt]; omega
  · rw [errZ_wt]; omega
end Go.Proofs.Ytjemciikdijokaa

/-
  A region that draws its order and ends in one store (number t): what is asked of the world (S) need not hold behind that store.
-/
namespace Go.Proofs.Ytjemciikdijokaa
open Go.RowKit

section
variable {P : Program} {ops : Array Oper} {Q : Exit → Act → World → Prop} {md : Region.Mode} {S : World → Prop} {t : Nat}

def wpUpto (P : Program) (md : Region.Mode) (ops : Array Oper) (Q : Exit → Act → World → Prop) (S : World → Prop) (t : Nat) : Nat → Array Bool → Act → World → Prop
  | 0, listed, a, w => Region.ready md ops listed = [] ∧ Q .normal a w
  | f + 1, listed, a, w => (Region.ready md ops listed = [] → Q .normal a w) ∧ ∀ i ∈ Region.ready md ops listed, wpOp P ops Q i (fun a' w' => (i ≠ t → S w') ∧ wpUpto P md ops Q S t f (listed.setIfInBounds i true) a' w') a w
theorem upto_any : ∀ (f : Nat) (listed : Array Bool) (a : Act) (w : World), wpUpto P md ops Q S t f listed a w → wpAny P md ops Q f listed a w
  | 0, _, _, _, h => h
  | f + 1, _, _, _, h => ⟨h.1, fun i hi => wpOp_mono (fun _ _ h' => upto_any f _ _ _ h'.2) (h.2 i hi)⟩
def waitsFor (md : Region.Mode) (ops : Array Oper) (t i : Nat) : Bool :=
  match ops[t]? with
  | some o => o.after.any (fun e => Region.binds md e && e.on == i)
  | none => false
theorem upto_first {i : Nat} {oi : Oper} {v : Value} (hi : ops[i]? = some oi) (hsel : Region.noSelect ops = true) (hw : waitsFor md ops t i = true)
    (hQ : ∀ c a w, Q (.panic c) (a.put oi.dst v) w → Q (.panic c) a w) :
    ∀ (f : Nat) (listed : Array Bool) (a : Act) (w : World),
      (∀ j oj, ops[j]? = some oj → j ≠ i → listed.getD j true = false → (∀ e ∈ oj.after, Region.binds md e = true → e.on ≠ i) → oi.apart ops oj = true) →
      i ∈ Region.ready md ops listed → YieldsIf P ops S oi v a → S w →
      wpUpto P md ops Q S t f (listed.setIfInBounds i true) (a.put oi.dst v) w → wpUpto P md ops Q S t (f + 1) listed a w := by
  intro f
  induction f with
  | zero =>
    intro listed a w _ hr hy hS H
    refine ⟨fun h => (by rw [h] at hr; cases hr), fun j hj => ?_⟩
    by_cases hji : j = i
    · subst hji
      exact hy.wpOp hi hS ⟨fun _ => hS, H⟩
    · have hm := ready_mono hj hji
      rw [H.1] at hm
      cases hm
  | succ f ih =>
    intro listed a w hfree hr hy hS H
    refine ⟨fun h => (by rw [h] at hr; cases hr), fun j hj => ?_⟩
    by_cases hji : j = i
    · subst hji
      exact hy.wpOp hi hS ⟨fun _ => hS, H⟩
    · obtain ⟨hjun, oj, hoj, hall⟩ := mem_ready.1 hj
      have hun := (mem_ready.1 hr).1
      have hnl : ¬ listed.getD i false = true := by
        intro h1
        rcases Nat.lt_or_ge i listed.size with h' | h'
        · simp [h'] at hun h1
          rw [hun] at h1
          cases h1
        · simp [Array.getElem?_eq_none h'] at h1
      have hnot : ∀ e ∈ oj.after, Region.binds md e = true → e.on ≠ i := fun e he hb heq => hnl (by rw [← heq]; exact hall e he hb)
      have hjt : j ≠ t := by
        rintro rfl
        unfold waitsFor at hw
        rw [hoj] at hw
        obtain ⟨e, he, hb⟩ := Array.any_eq_true'.1 hw
        simp only [Bool.and_eq_true, beq_iff_eq] at hb
        exact hnot e he hb.1 hb.2
      have h1 := H.2 j (ready_mono hj hji)
      have h2 := wpOp_putIf hoj (hfree j oj hoj hji hjun hnot) (fun cs b => Region.noSelect_spec hsel i oi cs b hi) (fun cs b => Region.noSelect_spec hsel j oj cs b hoj) hQ hy h1
      refine wpOp_mono (fun a' w' h3 => ⟨h3.2.1, ih (listed.setIfInBounds j true) a' w' ?_ (ready_mono hr (Ne.symm hji)) h3.1 (h3.2.1 hjt) ?_⟩) h2
      · intro k ok hk hki hunk hno
        refine hfree k ok hk hki ?_ hno
        by_cases hjk : j = k
        · subst hjk; exact hjun
        · rw [getD_set_ne true hjk] at hunk; exact hunk
      · rw [Array.setIfInBounds_comm _ _ hji]
        exact h3.2.2
theorem upto_take {i : Nat} {oi : Oper} {v : Value} {f : Nat} {listed : Array Bool} {a : Act} {w : World} (hi : ops[i]? = some oi) (hsel : Region.noSelect ops = true) (hw : waitsFor md ops t i = true)
    (hf : Region.free md ops listed i = true) (hr : (Region.ready md ops listed).contains i = true) (hQ : ∀ c a w, Q (.panic c) (a.put oi.dst v) w → Q (.panic c) a w)
    (hwd : Region.wanted oi (yielded ops a.tmps) = true) (hS : S w) (hy : ∀ w, S w → (execOp a.eval oi).run P w = .ok (.value v) w)
    (h : wpUpto P md ops Q S t f (listed.setIfInBounds i true) (a.put oi.dst v) w) : wpUpto P md ops Q S t (f + 1) listed a w :=
  upto_first hi hsel hw hQ f listed a w (Region.free_spec hi hf) (by simpa using hr) (Or.inl ⟨hwd, hy⟩) hS h
theorem upto_step {i : Nat} {o : Oper} {f : Nat} {listed : Array Bool} {a : Act} {w : World} (hr : Region.ready md ops listed = [i]) (hi : ops[i]? = some o)
    (h : ∀ K : Act → World → Prop, (∀ a' w', (i ≠ t → S w') → wpUpto P md ops Q S t f (listed.setIfInBounds i true) a' w' → K a' w') → if Region.wanted o (yielded ops a.tmps) = true then Oper.wp P o a w K Q else K (a.put o.dst undef) w) :
    wpUpto P md ops Q S t (f + 1) listed a w := by
  refine ⟨fun h0 => (by rw [hr] at h0; cases h0), fun j hj => ?_⟩
  rw [hr] at hj
  have e : j = i := by simpa using hj
  subst e
  have h1 := h (fun a' w' => (j ≠ t → S w') ∧ wpUpto P md ops Q S t f (listed.setIfInBounds j true) a' w') (fun _ _ p q => ⟨p, q⟩)
  unfold wpOp
  simp only [hi]
  split
  · rename_i hw
    rw [if_pos hw] at h1
    exact .inl h1
  · rename_i hw
    rw [if_neg hw] at h1
    exact h1
theorem upto_done {listed : Array Bool} {a : Act} {w : World} {f : Nat} (hr : Region.ready md ops listed = []) (h : Q .normal a w) : wpUpto P md ops Q S t f listed a w := by
  cases f with
  | zero => exact ⟨hr, h⟩
  | succ f => exact ⟨fun _ => h, by rw [hr]; simp⟩
theorem region_upto {id : Nat} {a : Act} {w : World} (S : World → Prop) (t : Nat) (hm : P.follows .mixedOrders = true) (hS : S w.drew) (h : S w.drew → wpUpto P .any ops Q S t ops.size (Array.replicate ops.size false) a w.drew) : (Code.region id ops true).wp P Q a w :=
  wp_region_any hm (upto_any _ _ _ _ (h hS))
end

end Go.Proofs.Ytjemciikdijokaa

/-
  A region that draws its order, none of whose operations breaks what is asked of the world.
-/
namespace Go.Proofs.Ytjemciikdijokaa
open Go.RowKit

section
variable {P : Program} {ops : Array Oper} {Q : Exit → Act → World → Prop} {md : Region.Mode} {S : World → Prop} {t : Nat}

theorem upto_firstN {i : Nat} {oi : Oper} {v : Value} (hi : ops[i]? = some oi) (hsel : Region.noSelect ops = true) (ht : ops[t]? = none)
    (hQ : ∀ c a w, Q (.panic c) (a.put oi.dst v) w → Q (.panic c) a w) :
    ∀ (f : Nat) (listed : Array Bool) (a : Act) (w : World),
      (∀ j oj, ops[j]? = some oj → j ≠ i → listed.getD j true = false → (∀ e ∈ oj.after, Region.binds md e = true → e.on ≠ i) → oi.apart ops oj = true) →
      i ∈ Region.ready md ops listed → YieldsIf P ops S oi v a → S w →
      wpUpto P md ops Q S t f (listed.setIfInBounds i true) (a.put oi.dst v) w → wpUpto P md ops Q S t (f + 1) listed a w := by
  intro f
  induction f with
  | zero =>
    intro listed a w _ hr hy hS H
    refine ⟨fun h => (by rw [h] at hr; cases hr), fun j hj => ?_⟩
    by_cases hji : j = i
    · subst hji
      exact hy.wpOp hi hS ⟨fun _ => hS, H⟩
    · have hm := ready_mono hj hji
      rw [H.1] at hm
      cases hm
  | succ f ih =>
    intro listed a w hfree hr hy hS H
    refine ⟨fun h => (by rw [h] at hr; cases hr), fun j hj => ?_⟩
    by_cases hji : j = i
    · subst hji
      exact hy.wpOp hi hS ⟨fun _ => hS, H⟩
    · obtain ⟨hjun, oj, hoj, hall⟩ := mem_ready.1 hj
      have hun := (mem_ready.1 hr).1
      have hnl : ¬ listed.getD i false = true := by
        intro h1
        rcases Nat.lt_or_ge i listed.size with h' | h'
        · simp [h'] at hun h1
          rw [hun] at h1
          cases h1
        · simp [Array.getElem?_eq_none h'] at h1
      have hnot : ∀ e ∈ oj.after, Region.binds md e = true → e.on ≠ i := fun e he hb heq => hnl (by rw [← heq]; exact hall e he hb)
      have hjt : j ≠ t := by
        rintro rfl
        rw [ht] at hoj
        cases hoj
      have h1 := H.2 j (ready_mono hj hji)
      have h2 := wpOp_putIf hoj (hfree j oj hoj hji hjun hnot) (fun cs b => Region.noSelect_spec hsel i oi cs b hi) (fun cs b => Region.noSelect_spec hsel j oj cs b hoj) hQ hy h1
      refine wpOp_mono (fun a' w' h3 => ⟨h3.2.1, ih (listed.setIfInBounds j true) a' w' ?_ (ready_mono hr (Ne.symm hji)) h3.1 (h3.2.1 hjt) ?_⟩) h2
      · intro k ok hk hki hunk hno
        refine hfree k ok hk hki ?_ hno
        by_cases hjk : j = k
        · subst hjk; exact hjun
        · rw [getD_set_ne true hjk] at hunk; exact hunk
      · rw [Array.setIfInBounds_comm _ _ hji]
        exact h3.2.2
theorem upto_takeN {i : Nat} {oi : Oper} {v : Value} {f : Nat} {listed : Array Bool} {a : Act} {w : World} (hi : ops[i]? = some oi) (hsel : Region.noSelect ops = true) (ht : ops[t]? = none)
    (hf : Region.free md ops listed i = true) (hr : (Region.ready md ops listed).contains i = true) (hQ : ∀ c a w, Q (.panic c) (a.put oi.dst v) w → Q (.panic c) a w)
    (hwd : Region.wanted oi (yielded ops a.tmps) = true) (hS : S w) (hy : ∀ w, S w → (execOp a.eval oi).run P w = .ok (.value v) w)
    (h : wpUpto P md ops Q S t f (listed.setIfInBounds i true) (a.put oi.dst v) w) : wpUpto P md ops Q S t (f + 1) listed a w :=
  upto_firstN hi hsel ht hQ f listed a w (Region.free_spec hi hf) (by simpa using hr) (Or.inl ⟨hwd, hy⟩) hS h
theorem upto_skipN {i : Nat} {oi : Oper} {f : Nat} {listed : Array Bool} {a : Act} {w : World} (hi : ops[i]? = some oi) (hsel : Region.noSelect ops = true) (ht : ops[t]? = none)
    (hf : Region.free md ops listed i = true) (hr : (Region.ready md ops listed).contains i = true) (hQ : ∀ c a w, Q (.panic c) (a.put oi.dst undef) w → Q (.panic c) a w)
    (hwd : Region.wanted oi (yielded ops a.tmps) = false) (hS : S w)
    (h : ∀ u : Value, wpUpto P md ops Q S t f (listed.setIfInBounds i true) (a.put oi.dst u) w) : wpUpto P md ops Q S t (f + 1) listed a w :=
  upto_firstN hi hsel ht hQ f listed a w (Region.free_spec hi hf) (by simpa using hr) (Or.inr ⟨hwd, rfl⟩) hS (h undef)
end

end Go.Proofs.Ytjemciikdijokaa

/-
  Sessions: what is read of them in a row, the small functions, two clients compared, the Id.
-/
set_option linter.unusedSimpArgs false
set_option linter.unusedVariables false
namespace Go.Proofs.Ytjemciikdijokaa
open Go.RowKit
set_option linter.unusedSectionVars false
variable [DecidableEq Leg] [Inhabited Leg] [DecidableEq Ses] [Inhabited Ses] [DecidableEq Cont] [Inhabited Cont] [DecidableEq Bal] [Inhabited Bal] [DecidableEq Mrk] [Inhabited Mrk] [DecidableEq Shd] [Inhabited Shd] [DecidableEq Vot] [Inhabited Vot] [DecidableEq Slt] [Inhabited Slt] [DecidableEq Acc] [Inhabited Acc] [DecidableEq Trr] [Inhabited Trr] [DecidableEq Hrd] [Inhabited Hrd] [DecidableEq Ldr] [Inhabited Ldr] [DecidableEq Msg] [Inhabited Msg] [DecidableEq Clu] [Inhabited Clu] [DecidableEq SesR] [Inhabited SesR] [DecidableEq Ledg] [Inhabited Ledg]
attribute [local go_sem ↓] Go.wp_at_zero Go.wp_at_succ

theorem sess_at {w : World} {v : Value} {l : List Ses} (hx : sessR.V w v l) : ∃ a c, v = .slice a l.length c ∧ l.length ≤ c ∧ c ≤ maxLen ∧ ∀ k, k < l.length → ∃ b o p q, a = some ⟨b, o, none⟩ ∧ w.cell? ⟨b, o + k * 3, none⟩ = some (.int .i64 (l.getD k default).client) ∧ w.cell? ⟨b, o + k * 3 + 1, none⟩ = some (.int .i64 (l.getD k default).next) ∧ w.cell? ⟨b, o + k * 3 + 2, none⟩ = some (.slice p (l.getD k default).sent.length q) ∧ sesR.V w (.agg #[.int .i64 (l.getD k default).client, .int .i64 (l.getD k default).next, .slice p (l.getD k default).sent.length q]) (l.getD k default) := by
  obtain ⟨a, c, rfl, h1, h2, h3⟩ := hx
  refine ⟨a, c, rfl, h1, h2, fun k hk => ?_⟩
  obtain ⟨b, o, u, e, _, hc, hv⟩ := h3 k hk
  have hV := hv
  obtain ⟨u1, rfl, hs⟩ := hv
  obtain ⟨p, q, rfl⟩ := ints_form hs
  exact ⟨b, o, p, q, e, hc 0 (by omega), hc 1 (by omega), hc 2 (by omega), hV⟩
theorem isNaNsn_any (x : Int) (w : World) : Calls Try.prog 63 #[.int .i64 x] w fun e w' => e = .returned (.bool false) ∧ w' = w := by
  go_enter Try.func63, Try.ntmps63
  go_wp2
  go_ret
  exact ⟨rfl, rfl⟩
set_option maxHeartbeats 1000000 in
theorem cmpSn_any (x y : Int) (w : World) : Calls Try.prog 42 #[.int .i64 x, .int .i64 y] w fun e w' => e = .returned (.int .i64 (cmpSn x y)) ∧ w' = w := by
  go_enter Try.func42, Try.ntmps42
  go_wp2_with (go_at_call 63; refine (isNaNsn_any _ _).mono ?_; rintro e w' ⟨rfl, rfl⟩)
  all_goals (go_ret; refine ⟨?_, rfl⟩; unfold cmpSn; (repeat' split) <;> first | rfl | (exfalso; omega))
set_option maxHeartbeats 1000000 in
theorem cmpCli_any (a b c d : Int) (u v : Value) (w : World) : Calls Try.prog 26 #[.agg #[.int .i64 a, .int .i64 c, u], .agg #[.int .i64 b, .int .i64 d, v]] w fun e w' => e = .returned (.int .i64 (cmpSn a b)) ∧ Below w.heap.size w w' := by
  go_enter Try.func26, Try.ntmps26
  go_wp2_with (go_at_call 42; refine (cmpSn_any _ _ _).mono ?_; rintro e w' ⟨rfl, rfl⟩)
  go_ret
  exact ⟨rfl, by (repeat (first | exact Below.refl _ _ | assumption | refine Below.drew ?_ | refine balloc ?_ _ | refine bset ?_ (by simp; omega) _ | refine bset ?_ (by simp) _ | refine bstep ?_ (by assumption)))⟩
theorem isClient_any (n : Int) (w : World) : Calls Try.prog 23 #[.int .i64 n] w fun e w' => e = .returned (.bool (inB n 1 999)) ∧ w' = w := by
  go_enter Try.func23, Try.ntmps23
  go_wp2_with (go_at_call 24; refine (within_any _ _ _ _).mono ?_; rintro e w' ⟨rfl, rfl⟩)
  go_ret
  exact ⟨rfl, rfl⟩
end Go.Proofs.Ytjemciikdijokaa


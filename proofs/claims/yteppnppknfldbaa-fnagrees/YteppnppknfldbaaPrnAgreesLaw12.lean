import Derived.Test.YteppnppknfldbaaPrnAgreesLaw11
import Derived.Test.YteppnppknfldbaaPrnAgreesLaw4
import Derived.BigQuiet
import Derived.Deep.QuietTactic
import Derived.Deep.RegionHeld3

/-
  A ballot that is run, in mathematics.
-/
set_option linter.unusedVariables false
namespace Go.Proofs.Yteppnppknfldbaa
open Go.RowKit
set_option linter.unusedSectionVars false
variable [DecidableEq Vot] [Inhabited Vot] [DecidableEq Slt] [Inhabited Slt] [DecidableEq SltR] [Inhabited SltR] [DecidableEq Bal] [Inhabited Bal] [DecidableEq Ledg] [Inhabited Ledg] [DecidableEq Leg] [Inhabited Leg] [DecidableEq Acc] [Inhabited Acc] [DecidableEq AccR] [Inhabited AccR] [DecidableEq AccsR] [Inhabited AccsR] [DecidableEq SltsR] [Inhabited SltsR]

def badAt (R : List Int) (n : Nat) (k : Nat) : Int := if inB (R.getD k 0) 0 ((n : Int) - 1) = true then 0 else 3
def riseAt (R : List Int) (k : Nat) : Int := if k = 0 then 0 else if R.getD (k - 1) 0 < R.getD k 0 then 0 else 7
def balF (R : List Int) (n : Nat) (b own : Int) : Int := if votB ⟨b, own⟩ = true then (if scanI (badAt R n) R.length = 0 then scanI (riseAt R) R.length else scanI (badAt R n) R.length) else 3
theorem balF_vote {R : List Int} {n : Nat} {b own : Int} (h : votB ⟨b, own⟩ = false) : balF R n b own = 3 := by unfold balF; rw [h]; rfl
theorem balF_bad {R : List Int} {n k : Nat} {b own : Int} (h : votB ⟨b, own⟩ = true) (hk : k < R.length) (hs : scanI (badAt R n) k = 0) (hb : inB (R.getD k 0) 0 ((n : Int) - 1) = false) : balF R n b own = 3 := by
  have e : badAt R n k = 3 := by unfold badAt; rw [hb]; rfl
  have e2 := scanI_hit hs (by rw [e]; omega) _ hk
  unfold balF
  rw [if_pos h, e2, e, if_neg (by omega)]
theorem balF_rise {R : List Int} {n k : Nat} {b own : Int} (h : votB ⟨b, own⟩ = true) (h0 : scanI (badAt R n) R.length = 0) (hk : k + 1 < R.length) (hs : scanI (riseAt R) (k + 1) = 0) (hb : ¬ R.getD k 0 < R.getD (k + 1) 0) : balF R n b own = 7 := by
  have e : riseAt R (k + 1) = 7 := by unfold riseAt; rw [if_neg (by omega), Nat.add_sub_cancel, if_neg hb]
  have e2 := scanI_hit hs (by rw [e]; omega) _ hk
  unfold balF
  rw [if_pos h, if_pos h0, e2, e]
theorem balF_ok {R : List Int} {n : Nat} {b own : Int} (h : votB ⟨b, own⟩ = true) (h0 : scanI (badAt R n) R.length = 0) (hs : scanI (riseAt R) R.length = 0) : balF R n b own = 0 := by unfold balF; rw [if_pos h, if_pos h0, hs]
theorem badAt_ok {R : List Int} {n k : Nat} (hb : inB (R.getD k 0) 0 ((n : Int) - 1) = true) : badAt R n k = 0 := by unfold badAt; rw [if_pos hb]
theorem riseAt_ok {R : List Int} {k : Nat} (hb : R.getD k 0 < R.getD (k + 1) 0) : riseAt R (k + 1) = 0 := by unfold riseAt; rw [if_neg (by omega), Nat.add_sub_cancel, if_pos hb]
theorem riseAt_zero (R : List Int) : riseAt R 0 = 0 := rfl
structure BalOk (R : List Int) (n : Nat) (b own : Int) : Prop where
  vote : votB ⟨b, own⟩ = true
  inn : ∀ k, k < R.length → 0 ≤ R.getD k 0 ∧ R.getD k 0 < n
  rise : ∀ k, k + 1 < R.length → R.getD k 0 < R.getD (k + 1) 0
  len : R.length ≤ n
theorem balOk_of {R : List Int} {n : Nat} {b own : Int} (h : balF R n b own = 0) : BalOk R n b own := by
  unfold balF at h
  by_cases hv : votB ⟨b, own⟩ = true
  · rw [if_pos hv] at h
    by_cases hb : scanI (badAt R n) R.length = 0
    · rw [if_pos hb] at h
      have hin : ∀ k, k < R.length → 0 ≤ R.getD k 0 ∧ R.getD k 0 < n := fun k hk => by
        have h1 := scanI_zero hb k hk
        unfold badAt at h1
        split at h1
        · rename_i h2; have := inBi.1 h2; omega
        · omega
      have hri : ∀ k, k + 1 < R.length → R.getD k 0 < R.getD (k + 1) 0 := fun k hk => by
        have h1 := scanI_zero h (k + 1) hk
        unfold riseAt at h1
        rw [if_neg (by omega), Nat.add_sub_cancel] at h1
        split at h1
        · assumption
        · omega
      have hge : ∀ k, k < R.length → (k : Int) ≤ R.getD k 0 := by
        intro k
        induction k with
        | zero => intro hk; exact (hin 0 hk).1
        | succ k ih => intro hk; have h1 := ih (by omega); have h2 := hri k hk; omega
      refine ⟨hv, hin, hri, ?_⟩
      by_cases h0 : R.length = 0
      · omega
      · have h1 := hge (R.length - 1) (by omega)
        have h2 := (hin (R.length - 1) (by omega)).2
        omega
    · rw [if_neg hb] at h; exact absurd h hb
  · rw [if_neg hv] at h; omega
structure Pst where
  accs : List Acc
  did : List Int
  old : List Vot
def prS (c s b : Int) (st : Pst) (at_ : Int) : Pst := if (promAtD (st.accs.getD at_.toNat default).slots c s b).code = 0 then ⟨st.accs.set at_.toNat (promAtD (st.accs.getD at_.toNat default).slots c s b).acc, st.did ++ [at_], st.old ++ [⟨(promAtD (st.accs.getD at_.toNat default).slots c s b).ob, (promAtD (st.accs.getD at_.toNat default).slots c s b).ov⟩]⟩ else st
def prN (l : List Acc) (R : List Int) (c s b : Int) : Nat → Pst
  | 0 => ⟨l, [], []⟩
  | k + 1 => prS c s b (prN l R c s b k) (R.getD k 0)
def acS (c s b v : Int) (l : List Acc) (at_ : Int) : List Acc := if (accAtD (l.getD at_.toNat default).slots c s b v).code = 0 then l.set at_.toNat (accAtD (l.getD at_.toNat default).slots c s b v).acc else l
def acN (l : List Acc) (Dd : List Int) (c s b v : Int) : Nat → List Acc
  | 0 => l
  | k + 1 => acS c s b v (acN l Dd c s b v k) (Dd.getD k 0)
def runD (l : List Acc) (R : List Int) (c s b own : Int) : AccsR :=
  if freC l c s = 0 then (if balF R l.length b own = 0 then
    (if ((prN l R c s b R.length).did.length : Int) < quoV l.length then ⟨4, 0, (prN l R c s b R.length).accs⟩
     else ⟨0, (best own (prN l R c s b R.length).old (prN l R c s b R.length).old.length).val, acN (prN l R c s b R.length).accs (prN l R c s b R.length).did c s b (best own (prN l R c s b R.length).old (prN l R c s b R.length).old.length).val (prN l R c s b R.length).did.length⟩)
    else ⟨balF R l.length b own, 0, []⟩) else ⟨freC l c s, 0, []⟩
theorem prN_len (l : List Acc) (R : List Int) (c s b : Int) : ∀ k, (prN l R c s b k).accs.length = l.length
  | 0 => rfl
  | k + 1 => by
    have ih := prN_len l R c s b k
    unfold prN prS
    split
    · simp [ih]
    · exact ih
theorem prN_did (l : List Acc) (R : List Int) (c s b : Int) : ∀ k, (prN l R c s b k).did.length ≤ k ∧ (prN l R c s b k).old.length = (prN l R c s b k).did.length
  | 0 => ⟨Nat.le_refl _, rfl⟩
  | k + 1 => by
    have ih := prN_did l R c s b k
    unfold prN prS
    split
    · simp; omega
    · omega
theorem acN_len (l : List Acc) (Dd : List Int) (c s b v : Int) : ∀ k, (acN l Dd c s b v k).length = l.length
  | 0 => rfl
  | k + 1 => by
    have ih := acN_len l Dd c s b v k
    unfold acN acS
    split
    · simp [ih]
    · exact ih
theorem prN_in (l : List Acc) (R : List Int) (c s b : Int) {n : Nat} (h : ∀ k, k < R.length → 0 ≤ R.getD k 0 ∧ R.getD k 0 < n) : ∀ k, k ≤ R.length → ∀ a ∈ (prN l R c s b k).did, 0 ≤ a ∧ a < n
  | 0, _, a, ha => by simp [prN] at ha
  | k + 1, hk, a, ha => by
    have ih := prN_in l R c s b h k (by omega)
    unfold prN prS at ha
    split at ha
    · simp only [List.mem_append, List.mem_singleton] at ha
      rcases ha with ha | ha
      · exact ih a ha
      · rw [ha]; exact h k (by omega)
    · exact ih a ha
theorem prom_old {xs : List Slt} {c s b : Int} (h : (promAtD xs c s b).code = 0) : isNo ⟨(promAtD xs c s b).ob, (promAtD xs c s b).ov⟩ = true ∨ votB ⟨(promAtD xs c s b).ob, (promAtD xs c s b).ov⟩ = true := by
  unfold promAtD at h ⊢
  by_cases h1 : accF xs = 0
  · rw [if_pos h1] at h ⊢
    by_cases h2 : idOk c s = true
    · rw [if_pos h2] at h ⊢
      have hf := slotO_ok (accOk_of h1) h2
      generalize slotO xs (freS c s) = d at *
      unfold toldD at h ⊢
      by_cases h3 : (promD d b).code = 0
      · rw [if_pos h3] at h ⊢
        by_cases h4 : 60 < (putS xs (promD d b).slot).length
        · rw [if_pos h4] at h; simp [errA] at h
        · rw [if_neg h4]
          dsimp only
          have hd := sltOk_of hf
          have e : (promD d b).ob = d.lb ∧ (promD d b).ov = d.lv := by
            cases h5 : inB b 0 1000 with
            | false => rw [promD_range hf h5] at h3; simp [errS] at h3
            | true =>
              by_cases h6 : b < d.pr
              · rw [promD_busy hf h5 h6] at h3; simp [errS] at h3
              · rw [promD_ok hf h5 h6]; exact ⟨rfl, rfl⟩
          rw [e.1, e.2, hd.last.1, hd.last.2]
          cases hc : d.cast.length with
          | zero => exact .inl (by rw [lastV_zero]; rfl)
          | succ m => exact .inr (by rw [lastV_succ]; exact (hd.at_ m (by omega)).1)
      · rw [if_neg h3] at h; exact absurd h (by simpa [errA] using h3)
    · rw [if_neg h2] at h; simp [errA] at h
  · rw [if_neg h1] at h; exact absurd h (by simpa [errA] using h1)
theorem prN_old (l : List Acc) (R : List Int) (c s b : Int) : ∀ k, ∀ v ∈ (prN l R c s b k).old, isNo v = true ∨ votB v = true
  | 0, v, hv => by simp [prN] at hv
  | k + 1, v, hv => by
    have ih := prN_old l R c s b k
    unfold prN prS at hv
    split at hv
    · rename_i h
      simp only [List.mem_append, List.mem_singleton] at hv
      rcases hv with hv | hv
      · exact ih v hv
      · rw [hv]; exact prom_old h
    · exact ih v hv
theorem pick_ok {xs : List Vot} {own : Int} (h9 : xs.length ≤ 9) (h : ∀ v ∈ xs, isNo v = true ∨ votB v = true) (ho : inB own 1 2 = true) : pickC xs own = 0 ∧ pickV xs own = (best own xs xs.length).val := by
  have hs : scanI (pickAt xs) xs.length = 0 := scanI_of (fun k hk => pickAt_ok (h _ (by simp [List.getD, hk])))
  have e : pickC xs own = 0 := by rw [pickC_own h9 hs, ho]; rfl
  exact ⟨e, by unfold pickV; rw [if_pos e]⟩
end Go.Proofs.Yteppnppknfldbaa

/-
  What a ballot leaves behind has no fault.
-/
namespace Go.Proofs.Yteppnppknfldbaa
open Go.RowKit
set_option linter.unusedSectionVars false
variable [DecidableEq Vot] [Inhabited Vot] [DecidableEq Slt] [Inhabited Slt] [DecidableEq SltR] [Inhabited SltR] [DecidableEq Bal] [Inhabited Bal] [DecidableEq Ledg] [Inhabited Ledg] [DecidableEq Leg] [Inhabited Leg] [DecidableEq Acc] [Inhabited Acc] [DecidableEq AccR] [Inhabited AccR] [DecidableEq AccsR] [Inhabited AccsR] [DecidableEq SltsR] [Inhabited SltsR]

theorem sltF_ok {s : Slt} (h : SltOk s) : sltFault s = 0 := by
  rw [sltF_end h.range h.len (scanI_of fun k hk => votAt_ok (h.at_ k hk).1 (h.at_ k hk).2), if_pos ⟨h.last, h.pr⟩]
theorem promD_fine {d : Slt} {b : Int} (h : (promD d b).code = 0) : sltFault (promD d b).slot = 0 ∧ (promD d b).slot.con = d.con ∧ (promD d b).slot.sh = d.sh ∧ (promD d b).slot.cast = d.cast ∧ (promD d b).slot.pr = b ∧ d.pr ≤ b ∧ sltFault d = 0 := by
  by_cases hf : sltFault d = 0
  · cases hb : inB b 0 1000 with
    | false => rw [promD_range hf hb] at h; simp [errS] at h
    | true =>
      by_cases hl : b < d.pr
      · rw [promD_busy hf hb hl] at h; simp [errS] at h
      · rw [promD_ok hf hb hl]
        have ok := sltOk_of hf
        have hr := sltRange_iff.1 ok.range
        have hb' := inBi.1 hb
        have hp := ok.pr
        refine ⟨sltF_ok ⟨sltRange_iff.2 ⟨hr.1, by dsimp only; omega⟩, ok.len, ok.at_, ok.last, by dsimp only; omega⟩, rfl, rfl, rfl, rfl, by omega, hf⟩
  · rw [promD_fault hf] at h
    exact absurd h hf
theorem accS_fine {d : Slt} {v : Vot} (hf : sltFault d = 0) (hv : votB v = true) (hc : accC d v = 0) : sltFault (accS d v) = 0 := by
  have ok := sltOk_of hf
  have hr := sltRange_iff.1 ok.range
  have hv' := votB_iff.1 hv
  by_cases h1 : v.bal < d.pr
  · rw [accC_busy h1] at hc; omega
  by_cases h2 : v.bal = d.lb
  · by_cases h3 : v.val = d.lv
    · rw [accS_same h2 h3]
      exact sltF_ok ⟨sltRange_iff.2 ⟨hr.1, by dsimp only; omega⟩, ok.len, ok.at_, ⟨h2.trans ok.last.1, h3.trans ok.last.2⟩, Int.le_refl _⟩
    · rw [accC_taken h1 h2 h3] at hc; omega
  · by_cases h4 : 60 ≤ d.cast.length
    · rw [accC_many h1 h2 h4] at hc; omega
    · rw [accS_new h2]
      have hp := ok.pr
      have hl : lastV (d.cast ++ [v]) (d.cast ++ [v]).length = v := by
        rw [List.length_append, List.length_singleton, lastV_succ]
        simp
      have hk' : ∀ k, k ≤ d.cast.length → lastV (d.cast ++ [v]) k = lastV d.cast k := fun k hk => by
        cases k with
        | zero => rfl
        | succ k => rw [lastV_succ, lastV_succ]; simp [List.getElem?_append_left (show k < d.cast.length by omega)]
      refine sltF_ok ⟨sltRange_iff.2 ⟨hr.1, by dsimp only; omega⟩, by simp; omega, fun k hk => ?_, by dsimp only; rw [hl]; exact ⟨rfl, rfl⟩, Int.le_refl _⟩
      dsimp only at hk ⊢
      rw [List.length_append, List.length_singleton] at hk
      rw [hk' k (by omega)]
      by_cases hkn : k < d.cast.length
      · have e : (d.cast ++ [v]).getD k default = d.cast.getD k default := by simp [List.getElem?_append_left hkn]
        rw [e]
        exact ok.at_ k hkn
      · obtain rfl : k = d.cast.length := by omega
        have e : (d.cast ++ [v]).getD d.cast.length default = v := by simp
        rw [e]
        refine ⟨hv, ?_⟩
        have h5 := ok.last.1
        unfold other
        rw [decide_eq_false (by omega), decide_eq_false (by omega)]
        rfl
theorem accD_fine {d : Slt} {b v : Int} (h : (accD d b v).code = 0) : sltFault (accD d b v).slot = 0 ∧ (accD d b v).slot = accS d ⟨b, v⟩ ∧ accC d ⟨b, v⟩ = 0 ∧ votB ⟨b, v⟩ = true ∧ sltFault d = 0 := by
  by_cases hf : sltFault d = 0
  · cases hb : (inB b 0 1000 && inB v 1 2) with
    | false => rw [accD_range hf hb] at h; simp [errS] at h
    | true =>
      by_cases hl : accC d ⟨b, v⟩ = 0
      · rw [accD_ok hf hb hl]
        exact ⟨accS_fine hf hb hl, rfl, hl, hb, hf⟩
      · rw [accD_code hf hb hl] at h
        exact absurd h hl
  · rw [accD_fault hf] at h
    exact absurd h hf
theorem accF_ok {xs : List Slt} (h : AccOk xs) : accF xs = 0 := by
  refine accF_end (by have := h.len; omega) (scanI_of fun k hk => ?_)
  cases k with
  | zero => exact accAt_first (h.ok 0 hk)
  | succ k => exact accAt_ok (h.ok _ hk) (h.ord k (k + 1) (by omega) hk)
theorem posS_lt {s : Slt} : ∀ {xs : List Slt} {k : Nat}, k < posS s xs → aheadS (xs.getD k default) s = true
  | [], k, h => by simp [posS] at h
  | x :: xs, k, h => by
    unfold posS at h
    split at h
    · cases k with
      | zero => simpa using ‹aheadS x s = true›
      | succ k => simpa using posS_lt (s := s) (xs := xs) (k := k) (by omega)
    · omega
theorem posS_at {s : Slt} : ∀ {xs : List Slt}, posS s xs < xs.length → aheadS (xs.getD (posS s xs) default) s = false
  | [], h => by simp [posS] at h
  | x :: xs, h => by
    unfold posS at h ⊢
    by_cases e : aheadS x s = true
    · rw [if_pos e] at h ⊢
      simpa using posS_at (s := s) (xs := xs) (by simpa using h)
    · rw [if_neg e]
      simpa using e
theorem putS_ok {xs : List Slt} {s : Slt} (h : AccOk xs) (hs : sltFault s = 0) (hl : (putS xs s).length ≤ 60) : AccOk (putS xs s) := by
  obtain ⟨i, hi⟩ : ∃ i, posS s xs = i := ⟨_, rfl⟩
  have hle := posS_le s xs
  have hlt := fun k => posS_lt (s := s) (xs := xs) (k := k)
  have hat := posS_at (s := s) (xs := xs)
  rw [hi] at hle hlt hat
  by_cases hc : i < xs.length ∧ aheadS s (xs.getD i default) = false
  · rw [putS_set hi hc.1 hc.2] at hl ⊢
    have h1 := hat hc.1
    have h2 := hc.2
    rw [aheadS_no] at h1 h2
    have hg : ∀ k, (xs.set i s).getD k default = if k = i then s else xs.getD k default := fun k => by
      by_cases e : k = i
      · subst e; rw [if_pos rfl]; simp [hc.1]
      · rw [if_neg e]; simp [List.getElem?_set_ne (Ne.symm e)]
    refine ⟨hl, fun k hk => ?_, fun p q hpq hq => ?_⟩
    · rw [hg]
      split
      · exact hs
      · exact h.ok k (by simpa using hk)
    · rw [List.length_set] at hq
      have h3 := h.ord p q hpq hq
      rw [hg, hg]
      by_cases e1 : p = i
      · subst e1
        rw [if_pos rfl, if_neg (by omega)]
        rw [aheadS_iff] at h3 ⊢
        omega
      · rw [if_neg e1]
        by_cases e2 : q = i
        · subst e2
          rw [if_pos rfl]
          exact hlt p hpq
        · rw [if_neg e2]; exact h3
  · rw [putS_ins hi hc] at hl ⊢
    have hg : ∀ k, (xs.take i ++ [s] ++ xs.drop i).getD k default = if k < i then xs.getD k default else if k = i then s else xs.getD (k - 1) default := fun k => by
      have ht : (xs.take i).length = i := by rw [List.length_take]; omega
      by_cases e : k < i
      · rw [if_pos e, List.append_assoc]
        simp only [List.getD_eq_getElem?_getD]
        rw [List.getElem?_append_left (by omega), List.getElem?_take_of_lt e]
      · rw [if_neg e]
        by_cases e2 : k = i
        · subst e2
          rw [if_pos rfl, List.append_assoc]
          simp only [List.getD_eq_getElem?_getD]
          rw [List.getElem?_append_right (by omega), ht]
          simp
        · rw [if_neg e2]
          simp only [List.getD_eq_getElem?_getD]
          rw [List.getElem?_append_right (by rw [List.length_append, ht, List.length_singleton]; omega), List.length_append, ht, List.length_singleton, List.getElem?_drop]
          rw [show i + (k - (i + 1)) = k - 1 by omega]
    have hah : ∀ q, i ≤ q → q < xs.length → aheadS s (xs.getD q default) = true := fun q hq hq' => by
      have h0 : aheadS s (xs.getD i default) = true := by
        cases e : aheadS s (xs.getD i default) with
        | true => rfl
        | false => exact absurd ⟨by omega, e⟩ hc
      by_cases e : q = i
      · subst e; exact h0
      · exact aheadS_trans h0 (h.ord i q (by omega) hq')
    rw [len_ins] at hl
    refine ⟨by rw [len_ins]; exact hl, fun k hk => ?_, fun p q hpq hq => ?_⟩
    · rw [len_ins] at hk
      rw [hg]
      split
      · exact h.ok k (by omega)
      · split
        · exact hs
        · exact h.ok _ (by omega)
    · rw [len_ins] at hq
      rw [hg, hg]
      by_cases e1 : q < i
      · rw [if_pos (by omega), if_pos e1]; exact h.ord p q hpq (by omega)
      · rw [if_neg e1]
        by_cases e2 : q = i
        · rw [if_pos e2, if_pos (by omega)]; exact hlt p (by omega)
        · rw [if_neg e2]
          by_cases e3 : p < i
          · rw [if_pos e3]; exact h.ord p (q - 1) (by omega) (by omega)
          · rw [if_neg e3]
            by_cases e4 : p = i
            · rw [if_pos e4]; exact hah (q - 1) (by omega) (by omega)
            · rw [if_neg e4]; exact h.ord (p - 1) (q - 1) (by omega) (by omega)
theorem toldD_fine {xs : List Slt} {r : SltR} (h : AccOk xs) (hr : r.code = 0 → sltFault r.slot = 0) (hc : (toldD xs r).code = 0) : r.code = 0 ∧ (toldD xs r).acc.slots = putS xs r.slot ∧ AccOk (putS xs r.slot) ∧ (toldD xs r).ob = r.ob ∧ (toldD xs r).ov = r.ov := by
  by_cases h0 : r.code = 0
  · by_cases h1 : 60 < (putS xs r.slot).length
    · rw [toldD_many h0 h1] at hc; simp [errA] at hc
    · rw [toldD_ok h0 h1]
      exact ⟨h0, rfl, putS_ok h (hr h0) (by omega), rfl, rfl⟩
  · rw [toldD_code h0] at hc
    exact absurd hc h0
theorem promAtD_told {xs : List Slt} {c s b : Int} (h : (promAtD xs c s b).code = 0) : accF xs = 0 ∧ idOk c s = true ∧ promAtD xs c s b = toldD xs (promD (slotO xs (freS c s)) b) := by
  unfold promAtD at h ⊢
  by_cases h0 : accF xs = 0
  · rw [if_pos h0] at h ⊢
    by_cases h1 : idOk c s = true
    · rw [if_pos h1]; exact ⟨h0, h1, rfl⟩
    · rw [if_neg h1] at h; simp [errA] at h
  · rw [if_neg h0] at h
    exact absurd h h0
theorem accAtD_told {xs : List Slt} {c s b v : Int} (h : (accAtD xs c s b v).code = 0) : accF xs = 0 ∧ idOk c s = true ∧ accAtD xs c s b v = toldD xs (accD (slotO xs (freS c s)) b v) := by
  unfold accAtD at h ⊢
  by_cases h0 : accF xs = 0
  · rw [if_pos h0] at h ⊢
    by_cases h1 : idOk c s = true
    · rw [if_pos h1]; exact ⟨h0, h1, rfl⟩
    · rw [if_neg h1] at h; simp [errA] at h
  · rw [if_neg h0] at h
    exact absurd h h0
theorem promAtD_fine {xs : List Slt} {c s b : Int} (h : (promAtD xs c s b).code = 0) : accF (promAtD xs c s b).acc.slots = 0 := by
  obtain ⟨h0, h1, e⟩ := promAtD_told h
  rw [e] at h ⊢
  obtain ⟨_, e2, ok, _⟩ := toldD_fine (accOk_of h0) (fun hc => (promD_fine hc).1) h
  rw [e2]
  exact accF_ok ok
theorem accAtD_fine {xs : List Slt} {c s b v : Int} (h : (accAtD xs c s b v).code = 0) : accF (accAtD xs c s b v).acc.slots = 0 := by
  obtain ⟨h0, h1, e⟩ := accAtD_told h
  rw [e] at h ⊢
  obtain ⟨_, e2, ok, _⟩ := toldD_fine (accOk_of h0) (fun hc => (accD_fine hc).1) h
  rw [e2]
  exact accF_ok ok
theorem listF_ok {l : List Acc} (h : ListOk l) : listF l = 0 := listF_end (by have := h.lo; have := h.hi; omega) (scanI_of h.ok)
theorem ListOk.put {l : List Acc} {i : Nat} {a : Acc} (h : ListOk l) (ha : accF a.slots = 0) : ListOk (l.set i a) := by
  refine ⟨by rw [List.length_set]; exact h.lo, by rw [List.length_set]; exact h.hi, fun k hk => ?_⟩
  rw [List.length_set] at hk
  by_cases e : i = k
  · subst e
    have e2 : (l.set i a).getD i default = a := by simp [hk]
    rw [e2]; exact ha
  · have e2 : (l.set i a).getD k default = l.getD k default := by simp [List.getElem?_set_ne e]
    rw [e2]; exact h.ok k hk
theorem prS_ok {c s b : Int} {st : Pst} {a : Int} (h : ListOk st.accs) : ListOk (prS c s b st a).accs := by
  unfold prS
  split
  · exact h.put (promAtD_fine ‹_›)
  · exact h
theorem prN_ok {l : List Acc} (R : List Int) (c s b : Int) (h : ListOk l) : ∀ k, ListOk (prN l R c s b k).accs
  | 0 => h
  | k + 1 => prS_ok (prN_ok R c s b h k)
theorem acS_ok {c s b v : Int} {l : List Acc} {a : Int} (h : ListOk l) : ListOk (acS c s b v l a) := by
  unfold acS
  split
  · exact h.put (accAtD_fine ‹_›)
  · exact h
theorem acN_ok {l : List Acc} (Dd : List Int) (c s b v : Int) (h : ListOk l) : ∀ k, ListOk (acN l Dd c s b v k)
  | 0 => h
  | k + 1 => acS_ok (acN_ok Dd c s b v h k)
end Go.Proofs.Yteppnppknfldbaa

/-
  What is chosen of acceptors.
-/
set_option linter.unusedSimpArgs false
set_option linter.unusedVariables false
namespace Go.Proofs.Yteppnppknfldbaa
open Go.RowKit
set_option linter.unusedSectionVars false
variable [DecidableEq Vot] [Inhabited Vot] [DecidableEq Slt] [Inhabited Slt] [DecidableEq SltR] [Inhabited SltR] [DecidableEq Bal] [Inhabited Bal] [DecidableEq Ledg] [Inhabited Ledg] [DecidableEq Leg] [Inhabited Leg] [DecidableEq Acc] [Inhabited Acc] [DecidableEq AccR] [Inhabited AccR] [DecidableEq AccsR] [Inhabited AccsR] [DecidableEq SltsR] [Inhabited SltsR]
attribute [local go_sem ↓] Go.wp_at_zero Go.wp_at_succ

def hdV (ys : List Vot) : Int := if ys.length = 0 then 0 else (ys.getD 0 default).val
theorem slotsL_at (l : List Acc) (c s : Int) {k : Nat} (hk : k < l.length) : (slotsL l c s).getD k default = slotO (l.getD k default).slots (freS c s) := by
  simp [slotsL, List.getD, hk]
theorem ask_slots {l : List Acc} {c s : Int} (hl : ListOk l) (hid : idOk c s = true) : askF (slotsL l c s) = 0 := by
  have hlen := slotsL_len l c s
  have h1 : scanI (askAt (slotsL l c s)) (slotsL l c s).length = 0 := scanI_of (fun k hk => by
    rw [hlen] at hk
    show sltFault ((slotsL l c s).getD k default) = 0
    rw [slotsL_at l c s hk]
    exact slotO_ok (accOk_of (hl.ok k hk)) hid)
  refine askF_same h1 (inBi.2 (by have := hl.lo; have := hl.hi; rw [hlen]; omega)) (scanI_of (fun k hk => ?_))
  rw [hlen] at hk
  unfold sameAt
  rw [slotsL_at l c s hk, slotsL_at l c s (show 0 < l.length by omega)]
  have e1 := slotO_same (l.getD k default).slots (freS c s)
  have e2 := slotO_same (l.getD 0 default).slots (freS c s)
  rw [if_pos ⟨e1.1.trans e2.1.symm, e1.2.trans e2.2.symm⟩]
def chC (l : List Acc) (c s : Int) (ys : List Vot) : Int := if freC l c s = 0 then (if hdV ys = 0 then 4 else 0) else freC l c s
def chR (l : List Acc) (c s : Int) (ys : List Vot) : Int := if freC l c s = 0 then hdV ys else 0
theorem freS_V {w : World} {c s : Int} {p : Option Addr} {q : Nat} (h : sltR.V w (.agg #[.int .i64 c, .int .i64 s, .int .i64 (-1), .int .i64 (-1), .int .i64 0, .slice p 0 q]) (freS c s)) (W : World) : sltR.V W (.agg #[.int .i64 c, .int .i64 s, .int .i64 (-1), .int .i64 (-1), .int .i64 0, .slice p 0 q]) (freS c s) := by
  obtain ⟨u, e, a, cap, hu, h1, h2, _⟩ := h
  simp only [freS, Value.agg.injEq, Array.mk.injEq, List.cons.injEq, and_true, true_and] at e
  rw [hu] at e
  simp only [freS, Value.slice.injEq] at e
  obtain ⟨rfl, _, rfl⟩ := e
  exact ⟨_, rfl, _, _, rfl, h1, h2, fun i hi => absurd hi (by simp [freS])⟩
theorem chs_slots {l : List Acc} {c s : Int} (hl : ListOk l) (hid : idOk c s = true) : AllOk (slotsL l c s) := (askF_ok (ask_slots hl hid)).1
theorem chs_exL (l : List Acc) (c s : Int) : ∃ ys, freC l c s = 0 → Chs (slotsL l c s) ys := by
  by_cases h : freC l c s = 0
  · obtain ⟨h1, h2⟩ := freC_ok h
    obtain ⟨ys, hy⟩ := chs_ex (chs_slots (listOk_of h1) h2)
    exact ⟨ys, fun _ => hy⟩
  · exact ⟨[], fun h' => absurd h' h⟩
end Go.Proofs.Yteppnppknfldbaa

/-
  Slots put among others, found again.
-/
namespace Go.Proofs.Yteppnppknfldbaa
open Go.RowKit
set_option linter.unusedSectionVars false
variable [DecidableEq Vot] [Inhabited Vot] [DecidableEq Slt] [Inhabited Slt] [DecidableEq SltR] [Inhabited SltR] [DecidableEq Bal] [Inhabited Bal] [DecidableEq Ledg] [Inhabited Ledg] [DecidableEq Leg] [Inhabited Leg] [DecidableEq Acc] [Inhabited Acc] [DecidableEq AccR] [Inhabited AccR] [DecidableEq AccsR] [Inhabited AccsR] [DecidableEq SltsR] [Inhabited SltsR]

theorem sameS_no {x f : Slt} (h : aheadS x f = true) : sameS x f = false := by
  rw [aheadS_iff] at h
  cases e : sameS x f with
  | false => rfl
  | true => have := sameS_iff.1 e; omega
theorem sameS_no' {x f : Slt} (h : aheadS f x = true) : sameS x f = false := by
  rw [aheadS_iff] at h
  cases e : sameS x f with
  | false => rfl
  | true => have := sameS_iff.1 e; omega
theorem slt_of_mem {xs : List Slt} {v : Slt} (h : v ∈ xs) : ∃ i, i < xs.length ∧ xs.getD i default = v := by
  obtain ⟨i, hi, e⟩ := List.getElem_of_mem h
  exact ⟨i, hi, by simp [List.getD, hi, e]⟩
theorem slt_mem {xs : List Slt} {i : Nat} (h : i < xs.length) : xs.getD i default ∈ xs := by simp [List.getD, h]
theorem AccOk.apart {xs : List Slt} (h : AccOk xs) {i j : Nat} (hi : i < xs.length) (hj : j < xs.length) {f : Slt} (h1 : sameS (xs.getD i default) f = true) (h2 : sameS (xs.getD j default) f = true) : i = j := by
  have e1 := sameS_iff.1 h1
  have e2 := sameS_iff.1 h2
  by_cases hlt : i < j
  · have := aheadS_iff.1 (h.ord i j hlt hj); omega
  · by_cases hgt : j < i
    · have := aheadS_iff.1 (h.ord j i hgt hi); omega
    · omega
theorem slotO_in {xs : List Slt} {f x : Slt} (h : AccOk xs) (hx : x ∈ xs) (hs : sameS x f = true) : slotO xs f = x := by
  obtain ⟨i, hi, rfl⟩ := slt_of_mem hx
  refine slotO_at hi (fun k hk => ?_) hs
  cases e : sameS (xs.getD k default) f with
  | false => rfl
  | true => have := h.apart (by omega) hi e hs; omega
theorem slotO_out {xs : List Slt} {f : Slt} (h : ∀ x ∈ xs, sameS x f = false) : slotO xs f = f := slotO_none fun _ hk => h _ (slt_mem hk)
theorem putS_mem {xs : List Slt} {s : Slt} (h : AccOk xs) (x : Slt) : x ∈ putS xs s ↔ x = s ∨ (x ∈ xs ∧ sameS x s = false) := by
  obtain ⟨i, hi⟩ : ∃ i, posS s xs = i := ⟨_, rfl⟩
  have hle := posS_le s xs
  have hlt := fun k => posS_lt (s := s) (xs := xs) (k := k)
  have hat := posS_at (s := s) (xs := xs)
  rw [hi] at hle hlt hat
  by_cases hc : i < xs.length ∧ aheadS s (xs.getD i default) = false
  · rw [putS_set hi hc.1 hc.2]
    have h1 := hat hc.1
    have h2 := hc.2
    rw [aheadS_no] at h1 h2
    have hsm : sameS (xs.getD i default) s = true := sameS_iff.2 (by omega)
    have hg : ∀ k, k < xs.length → (xs.set i s).getD k default = if k = i then s else xs.getD k default := fun k hk => by
      by_cases e : k = i
      · subst e; rw [if_pos rfl]; simp [hc.1]
      · rw [if_neg e]; simp [List.getElem?_set_ne (Ne.symm e)]
    constructor
    · intro hx
      obtain ⟨k, hk, rfl⟩ := slt_of_mem hx
      rw [List.length_set] at hk
      rw [hg k hk]
      by_cases e : k = i
      · rw [if_pos e]; exact .inl rfl
      · rw [if_neg e]
        refine .inr ⟨slt_mem hk, ?_⟩
        cases e2 : sameS (xs.getD k default) s with
        | false => rfl
        | true => exact absurd (h.apart hk hc.1 e2 hsm) e
    · rintro (e | ⟨hx, hs⟩)
      · have e1 := hg i hc.1
        rw [if_pos rfl] at e1
        have hm := slt_mem (xs := xs.set i s) (i := i) (by rw [List.length_set]; exact hc.1)
        rw [e1] at hm
        rw [e]
        exact hm
      · obtain ⟨k, hk, rfl⟩ := slt_of_mem hx
        have hki : ¬ k = i := fun e => by rw [e, hsm] at hs; exact absurd hs (by simp)
        have := hg k hk
        rw [if_neg hki] at this
        rw [← this]
        exact slt_mem (by rw [List.length_set]; exact hk)
  · rw [putS_ins hi hc]
    have hah : ∀ q, i ≤ q → q < xs.length → aheadS s (xs.getD q default) = true := fun q hq hq' => by
      have h0 : aheadS s (xs.getD i default) = true := by
        cases e : aheadS s (xs.getD i default) with
        | true => rfl
        | false => exact absurd ⟨by omega, e⟩ hc
      by_cases e : q = i
      · subst e; exact h0
      · exact aheadS_trans h0 (h.ord i q (by omega) hq')
    have hno : ∀ x ∈ xs, sameS x s = false := fun x hx => by
      obtain ⟨k, hk, rfl⟩ := slt_of_mem hx
      by_cases e : k < i
      · exact sameS_no (hlt k e)
      · exact sameS_no' (hah k (by omega) hk)
    have hm : x ∈ xs ↔ x ∈ xs.take i ∨ x ∈ xs.drop i := by
      conv => lhs; rw [← List.take_append_drop i xs]
      exact List.mem_append
    simp only [List.mem_append, List.mem_singleton]
    constructor
    · rintro ((hx | hx) | hx)
      · exact .inr ⟨hm.2 (.inl hx), hno x (hm.2 (.inl hx))⟩
      · exact .inl hx
      · exact .inr ⟨hm.2 (.inr hx), hno x (hm.2 (.inr hx))⟩
    · rintro (hx | ⟨hx, _⟩)
      · exact .inl (.inr hx)
      · rcases hm.1 hx with hx | hx
        · exact .inl (.inl hx)
        · exact .inr hx
theorem sameS_trans {x y z : Slt} (h : sameS x y = true) (h' : sameS y z = true) : sameS x z = true := by
  have h1 := sameS_iff.1 h
  have h2 := sameS_iff.1 h'
  exact sameS_iff.2 ⟨h1.1.trans h2.1, h1.2.trans h2.2⟩
theorem sameS_symm {x y : Slt} (h : sameS x y = true) : sameS y x = true := by
  have h1 := sameS_iff.1 h
  exact sameS_iff.2 ⟨h1.1.symm, h1.2.symm⟩
theorem slotO_put {xs : List Slt} {s f : Slt} (h : AccOk xs) (h' : AccOk (putS xs s)) (e : sameS s f = true) : slotO (putS xs s) f = s :=
  slotO_in h' ((putS_mem h s).2 (.inl rfl)) e
theorem slotO_rest {xs : List Slt} {s f : Slt} (h : AccOk xs) (h' : AccOk (putS xs s)) (e : sameS s f = false) : slotO (putS xs s) f = slotO xs f := by
  by_cases hx : ∃ x, x ∈ xs ∧ sameS x f = true
  · obtain ⟨x, hx, hs⟩ := hx
    have hn : sameS x s = false := by
      cases e2 : sameS x s with
      | false => rfl
      | true => rw [sameS_trans (sameS_symm e2) hs] at e; exact absurd e (by simp)
    rw [slotO_in h' ((putS_mem h x).2 (.inr ⟨hx, hn⟩)) hs, slotO_in h hx hs]
  · have hno : ∀ x ∈ xs, sameS x f = false := fun x hx' => by
      cases e2 : sameS x f with
      | false => rfl
      | true => exact absurd ⟨x, hx', e2⟩ hx
    rw [slotO_out hno, slotO_out fun x hx' => ?_]
    rcases (putS_mem h x).1 hx' with rfl | ⟨h1, _⟩
    · exact e
    · exact hno x h1
structure Gr (b v : Int) (d d' : Slt) : Prop where
  keep : ∀ u ∈ d.cast, u ∈ d'.cast
  new : ∀ u ∈ d'.cast, u ∈ d.cast ∨ u = ⟨b, v⟩
  pr : d'.pr = d.pr ∨ d'.pr = b
theorem Gr.rfl' {b v : Int} {d : Slt} : Gr b v d d := ⟨fun _ h => h, fun _ h => .inl h, .inl rfl⟩
theorem Gr.trans {b v : Int} {d d' d'' : Slt} (h : Gr b v d d') (h' : Gr b v d' d'') : Gr b v d d'' :=
  ⟨fun u hu => h'.keep u (h.keep u hu), fun u hu => (h'.new u hu).elim (h.new u) .inr, h'.pr.elim (fun e => h.pr.elim (fun e' => .inl (e.trans e')) (fun e' => .inr (e.trans e'))) .inr⟩
theorem promAt_old {xs : List Slt} {c s b : Int} (h : (promAtD xs c s b).code = 0) : (promAtD xs c s b).ob = (slotO xs (freS c s)).lb ∧ (promAtD xs c s b).ov = (slotO xs (freS c s)).lv := by
  obtain ⟨h0, h1, e⟩ := promAtD_told h
  rw [e] at h ⊢
  obtain ⟨hc, e2, ok, e3, e4⟩ := toldD_fine (accOk_of h0) (fun hc => (promD_fine hc).1) h
  rw [e3, e4]
  have hf := slotO_ok (accOk_of h0) h1
  generalize slotO xs (freS c s) = d at *
  cases h5 : inB b 0 1000 with
  | false => rw [promD_range hf h5] at hc; simp [errS] at hc
  | true =>
    by_cases h6 : b < d.pr
    · rw [promD_busy hf h5 h6] at hc; simp [errS] at hc
    · rw [promD_ok hf h5 h6]; exact ⟨rfl, rfl⟩
theorem accS_gr {d : Slt} {b v : Int} : Gr b v d (accS d ⟨b, v⟩) ∧ (accS d ⟨b, v⟩).con = d.con ∧ (accS d ⟨b, v⟩).sh = d.sh := by
  unfold accS
  split
  · exact ⟨⟨fun _ h => h, fun _ h => .inl h, .inr rfl⟩, rfl, rfl⟩
  · exact ⟨⟨fun u h => by simp [h], fun u h => by simpa using h, .inr rfl⟩, rfl, rfl⟩
end Go.Proofs.Yteppnppknfldbaa


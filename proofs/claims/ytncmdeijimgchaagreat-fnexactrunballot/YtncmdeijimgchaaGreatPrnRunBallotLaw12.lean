import Derived.Test.YtncmdeijimgchaaGreatPrnRunBallotLaw10
import Derived.Test.YtncmdeijimgchaaGreatPrnRunBallotLaw11
import Derived.BigQuiet
import Derived.Deep.QuietTactic
import Derived.Deep.RegionHeld3
import Derived.Test.YtncmdeijimgchaaGreatPrnRunBallotLaw4

/-
  The slots of a list of acceptors.
-/
set_option linter.unusedSimpArgs false
set_option linter.unusedVariables false
namespace Go.Proofs.YtncmdeijimgchaaGreat
open Go.RowKit
set_option linter.unusedSectionVars false
variable [DecidableEq Vot] [Inhabited Vot] [DecidableEq Slt] [Inhabited Slt] [DecidableEq SltR] [Inhabited SltR] [DecidableEq Bal] [Inhabited Bal] [DecidableEq Ledg] [Inhabited Ledg] [DecidableEq Leg] [Inhabited Leg] [DecidableEq Acc] [Inhabited Acc] [DecidableEq AccR] [Inhabited AccR] [DecidableEq AccsR] [Inhabited AccsR] [DecidableEq SltsR] [Inhabited SltsR]
attribute [local go_sem ↓] Go.wp_at_zero Go.wp_at_succ

theorem slotsL_len (l : List Acc) (c s : Int) : (slotsL l c s).length = l.length := by simp [slotsL]
theorem slotsL_take (l : List Acc) (c s : Int) {k : Nat} (hk : k < l.length) : (slotsL l c s).take (k + 1) = (slotsL l c s).take k ++ [slotO (l.getD k default).slots (freS c s)] := by
  rw [List.take_succ_eq_append_getElem (by rw [slotsL_len]; exact hk)]
  simp [slotsL, List.getD, hk]
theorem accs_cast {l : List Acc} (h : ListOk l) {k : Nat} (hk : k < l.length) : AccOk (l.getD k default).slots := accOk_of (h.ok k hk)
theorem slts_lit (w : World) : sltsR.O (w.alloc (.cells #[] 76)) w.heap.size (fun b => (Value.slice (some ⟨w.heap.size, 0, none⟩) 0 0).ownBlock = some b ∨ ∃ i, i < ([] : List Slt).length ∧ (fun _ _ => False : Nat → Nat → Prop) i b) (.slice (some ⟨w.heap.size, 0, none⟩) 0 0) [] :=
  ⟨[], fun _ => default, fun _ _ => False, ⟨World.ownsRow_lit (base := w.heap.size) (e := 76) (size := 6) w #[] 0 (Nat.le_refl _) (by unfold maxLen; omega) rfl, fun i hi => absurd hi (Nat.not_lt_zero _), fun i hi => absurd hi (Nat.not_lt_zero _), fun i hi => absurd hi (Nat.not_lt_zero _), fun i hi => absurd hi (Nat.not_lt_zero _), fun i j hi => absurd hi (Nat.not_lt_zero _)⟩, fun b => Iff.rfl⟩
def SfE (l : List Acc) (c s : Int) (w : World) (e : Ending) (w' : World) : Prop := ∃ v F, e = .returned v ∧ sltsRR.O w' w.heap.size F v (slotsD l c s) ∧ Below w.heap.size w w'
theorem sfE_err {l : List Acc} {c s k : Int} {w w' : World} (h : slotsD l c s = ⟨k, []⟩) (hb : Below w.heap.size w w') : SfE l c s w (.returned (.agg #[.int .i64 k, .slice none 0 0])) w' :=
  ⟨_, _, rfl, by rw [h]; exact ⟨_, _, rfl, slts_nil w' w.heap.size, fun _ => Iff.rfl⟩, hb⟩
theorem slotsD_code {l : List Acc} {c s : Int} (h : ¬ freC l c s = 0) : slotsD l c s = ⟨freC l c s, []⟩ := by
  unfold slotsD freC at *
  by_cases h1 : listF l = 0
  · rw [if_pos h1] at h ⊢
    rw [if_pos h1]
    cases h2 : idOk c s with
    | true => rw [h2] at h; simp at h
    | false => rfl
  · rw [if_neg h1, if_neg h1]
theorem slotsD_ok {l : List Acc} {c s : Int} (h : freC l c s = 0) : slotsD l c s = ⟨0, slotsL l c s⟩ := by
  obtain ⟨h1, h2⟩ := freC_ok h
  unfold slotsD
  rw [if_pos h1, if_pos h2]
end Go.Proofs.YtncmdeijimgchaaGreat

/-
  PickValue in plain mathematics.
-/
namespace Go.Proofs.YtncmdeijimgchaaGreat
open Go.RowKit
set_option linter.unusedSectionVars false
variable [DecidableEq Vot] [Inhabited Vot] [DecidableEq Slt] [Inhabited Slt] [DecidableEq Bal] [Inhabited Bal] [DecidableEq Ledg] [Inhabited Ledg] [DecidableEq Leg] [Inhabited Leg]

def isNo (x : Vot) : Bool := decide (x.bal = -1) && decide (x.val = 0)
def pickAt (xs : List Vot) (k : Nat) : Int := if isNo (xs.getD k default) || votB (xs.getD k default) then 0 else 3
def best (own : Int) (xs : List Vot) : Nat → Vot
  | 0 => ⟨-1, own⟩
  | k + 1 => if (best own xs k).bal < (xs.getD k default).bal then xs.getD k default else best own xs k
def pickC (xs : List Vot) (own : Int) : Int := if 9 < xs.length then 2 else if scanI (pickAt xs) xs.length = 0 then (if inB own 1 2 then 0 else 3) else scanI (pickAt xs) xs.length
def pickV (xs : List Vot) (own : Int) : Int := if pickC xs own = 0 then (best own xs xs.length).val else 0
theorem best_ge (own : Int) (xs : List Vot) : ∀ k, -1 ≤ (best own xs k).bal
  | 0 => by simp [best]
  | k + 1 => by
    have := best_ge own xs k
    unfold best
    split <;> omega
theorem best_no (own : Int) (xs : List Vot) : ∀ k, (best own xs k).bal < 0 → best own xs k = ⟨-1, own⟩
  | 0, _ => rfl
  | k + 1, h => by
    unfold best at h ⊢
    split at h
    · have := best_ge own xs k
      omega
    · rename_i h1
      rw [if_neg h1]
      exact best_no own xs k h
theorem best_two (a b : Int) (xs : List Vot) : ∀ k, (best a xs k).bal = (best b xs k).bal ∧ (0 ≤ (best a xs k).bal → best a xs k = best b xs k)
  | 0 => ⟨rfl, fun h => by simp [best] at h⟩
  | k + 1 => by
    obtain ⟨h1, h2⟩ := best_two a b xs k
    unfold best
    rw [← h1]
    by_cases h : (best a xs k).bal < (xs.getD k default).bal
    · rw [if_pos h, if_pos h]
      exact ⟨rfl, fun _ => rfl⟩
    · rw [if_neg h, if_neg h]
      exact ⟨h1, h2⟩
theorem best_pick (own : Int) (xs : List Vot) (k : Nat) : (best own xs k).val = if (best 0 xs k).bal < 0 then own else (best 0 xs k).val := by
  obtain ⟨h1, h2⟩ := best_two own 0 xs k
  split
  · rename_i h
    rw [best_no own xs k (by omega)]
  · rename_i h
    rw [h2 (by omega)]
theorem pickC_many {xs : List Vot} {own : Int} (h : 9 < xs.length) : pickC xs own = 2 := by unfold pickC; rw [if_pos h]
theorem pickC_hit {xs : List Vot} {own : Int} {k : Nat} (h9 : xs.length ≤ 9) (hk : k < xs.length) (hs : scanI (pickAt xs) k = 0) (h1 : isNo (xs.getD k default) = false) (h2 : votB (xs.getD k default) = false) : pickC xs own = 3 := by
  have hc : pickAt xs k = 3 := by unfold pickAt; rw [h1, h2]; rfl
  have e := scanI_hit hs (by rw [hc]; omega) _ hk
  unfold pickC
  rw [if_neg (by omega), e, hc, if_neg (by omega)]
theorem pickAt_ok {xs : List Vot} {k : Nat} (h : isNo (xs.getD k default) = true ∨ votB (xs.getD k default) = true) : pickAt xs k = 0 := by
  unfold pickAt
  rcases h with h | h <;> rw [h] <;> simp
theorem pickC_own {xs : List Vot} {own : Int} (h9 : xs.length ≤ 9) (hs : scanI (pickAt xs) xs.length = 0) : pickC xs own = if inB own 1 2 then 0 else 3 := by
  unfold pickC
  rw [if_neg (by omega), if_pos hs]
theorem pickV_of {xs : List Vot} {own c : Int} (h : pickC xs own = c) (hc : c ≠ 0) : pickV xs own = 0 := by unfold pickV; rw [h, if_neg hc]
end Go.Proofs.YtncmdeijimgchaaGreat

/-
  A ballot that is run, in mathematics.
-/
set_option linter.unusedVariables false
namespace Go.Proofs.YtncmdeijimgchaaGreat
open Go.RowKit
set_option linter.unusedSectionVars false
variable [DecidableEq Vot] [Inhabited Vot] [DecidableEq Slt] [Inhabited Slt] [DecidableEq SltR] [Inhabited SltR] [DecidableEq Bal] [Inhabited Bal] [DecidableEq Ledg] [Inhabited Ledg] [DecidableEq Leg] [Inhabited Leg] [DecidableEq Acc] [Inhabited Acc] [DecidableEq AccR] [Inhabited AccR] [DecidableEq AccsR] [Inhabited AccsR] [DecidableEq SltsR] [Inhabited SltsR]

def badAt (R : List Int) (n : Nat) (k : Nat) : Int := if inB (R.getD k 0) 0 ((n : Int) - 1) = true then 0 else 3
def riseAt (R : List Int) (k : Nat) : Int := if k = 0 then 0 else if R.getD (k - 1) 0 < R.getD k 0 then 0 else 7
def balF (R : List Int) (n : Nat) (b own : Int) : Int := if votB ⟨b, own⟩ = true then (if scanI (badAt R n) R.length = 0 then scanI (riseAt R) R.length else scanI (badAt R n) R.length) else 3
theorem balF_vote {R : List Int} {n : Nat} {b own : Int} (h : votB ⟨b, own⟩ = false) : balF R n b own = 3 := by unfold balF; rw [h]; rfl
theorem balF_bad {R : List Int} {n k : Nat} {b own : Int} (h : votB ⟨b, own⟩ = true) (hk : k < R.length) (hs : scanI (badAt R n) k = 0) (hb : inB (R.getD k 0) 0 ((n : Int) - 1) = false) : balF R n b own = 3 := by
  have e : badAt R n k = 3 := by unfold badAt; rw [hb]; rfl
  have e2 := scanI_hit hs (by rw [e]; omega) _ hk
  unfold balF
  rw [if_pos h, e2, e, if_neg (by omega)]
theorem balF_rise {R : List Int} {n k : Nat} {b own : Int} (h : votB ⟨b, own⟩ = true) (h0 : scanI (badAt R n) R.length = 0) (hk : k + 1 < R.length) (hs : scanI (riseAt R) (k + 1) = 0) (hb : ¬ R.getD k 0 < R.getD (k + 1) 0) : balF R n b own = 7 := by
  have e : riseAt R (k + 1) = 7 := by unfold riseAt; rw [if_neg (by omega), Nat.add_sub_cancel, if_neg hb]
  have e2 := scanI_hit hs (by rw [e]; omega) _ hk
  unfold balF
  rw [if_pos h, if_pos h0, e2, e]
theorem balF_ok {R : List Int} {n : Nat} {b own : Int} (h : votB ⟨b, own⟩ = true) (h0 : scanI (badAt R n) R.length = 0) (hs : scanI (riseAt R) R.length = 0) : balF R n b own = 0 := by unfold balF; rw [if_pos h, if_pos h0, hs]
theorem badAt_ok {R : List Int} {n k : Nat} (hb : inB (R.getD k 0) 0 ((n : Int) - 1) = true) : badAt R n k = 0 := by unfold badAt; rw [if_pos hb]
theorem riseAt_ok {R : List Int} {k : Nat} (hb : R.getD k 0 < R.getD (k + 1) 0) : riseAt R (k + 1) = 0 := by unfold riseAt; rw [if_neg (by omega), Nat.add_sub_cancel, if_pos hb]
theorem riseAt_zero (R : List Int) : riseAt R 0 = 0 := rfl
structure BalOk (R : List Int) (n : Nat) (b own : Int) : Prop where
  vote : votB ⟨b, own⟩ = true
  inn : ∀ k, k < R.length → 0 ≤ R.getD k 0 ∧ R.getD k 0 < n
  rise : ∀ k, k + 1 < R.length → R.getD k 0 < R.getD (k + 1) 0
  len : R.length ≤ n
theorem balOk_of {R : List Int} {n : Nat} {b own : Int} (h : balF R n b own = 0) : BalOk R n b own := by
  unfold balF at h
  by_cases hv : votB ⟨b, own⟩ = true
  · rw [if_pos hv] at h
    by_cases hb : scanI (badAt R n) R.length = 0
    · rw [if_pos hb] at h
      have hin : ∀ k, k < R.length → 0 ≤ R.getD k 0 ∧ R.getD k 0 < n := fun k hk => by
        have h1 := scanI_zero hb k hk
        unfold badAt at h1
        split at h1
        · rename_i h2; have := inBi.1 h2; omega
        · omega
      have hri : ∀ k, k + 1 < R.length → R.getD k 0 < R.getD (k + 1) 0 := fun k hk => by
        have h1 := scanI_zero h (k + 1) hk
        unfold riseAt at h1
        rw [if_neg (by omega), Nat.add_sub_cancel] at h1
        split at h1
        · assumption
        · omega
      have hge : ∀ k, k < R.length → (k : Int) ≤ R.getD k 0 := by
        intro k
        induction k with
        | zero => intro hk; exact (hin 0 hk).1
        | succ k ih => intro hk; have h1 := ih (by omega); have h2 := hri k hk; omega
      refine ⟨hv, hin, hri, ?_⟩
      by_cases h0 : R.length = 0
      · omega
      · have h1 := hge (R.length - 1) (by omega)
        have h2 := (hin (R.length - 1) (by omega)).2
        omega
    · rw [if_neg hb] at h; exact absurd h hb
  · rw [if_neg hv] at h; omega
structure Pst where
  accs : List Acc
  did : List Int
  old : List Vot
def prS (c s b : Int) (st : Pst) (at_ : Int) : Pst := if (promAtD (st.accs.getD at_.toNat default).slots c s b).code = 0 then ⟨st.accs.set at_.toNat (promAtD (st.accs.getD at_.toNat default).slots c s b).acc, st.did ++ [at_], st.old ++ [⟨(promAtD (st.accs.getD at_.toNat default).slots c s b).ob, (promAtD (st.accs.getD at_.toNat default).slots c s b).ov⟩]⟩ else st
def prN (l : List Acc) (R : List Int) (c s b : Int) : Nat → Pst
  | 0 => ⟨l, [], []⟩
  | k + 1 => prS c s b (prN l R c s b k) (R.getD k 0)
def acS (c s b v : Int) (l : List Acc) (at_ : Int) : List Acc := if (accAtD (l.getD at_.toNat default).slots c s b v).code = 0 then l.set at_.toNat (accAtD (l.getD at_.toNat default).slots c s b v).acc else l
def acN (l : List Acc) (Dd : List Int) (c s b v : Int) : Nat → List Acc
  | 0 => l
  | k + 1 => acS c s b v (acN l Dd c s b v k) (Dd.getD k 0)
def runD (l : List Acc) (R : List Int) (c s b own : Int) : AccsR :=
  if freC l c s = 0 then (if balF R l.length b own = 0 then
    (if ((prN l R c s b R.length).did.length : Int) < quoV l.length then ⟨4, 0, (prN l R c s b R.length).accs⟩
     else ⟨0, (best own (prN l R c s b R.length).old (prN l R c s b R.length).old.length).val, acN (prN l R c s b R.length).accs (prN l R c s b R.length).did c s b (best own (prN l R c s b R.length).old (prN l R c s b R.length).old.length).val (prN l R c s b R.length).did.length⟩)
    else ⟨balF R l.length b own, 0, []⟩) else ⟨freC l c s, 0, []⟩
theorem prN_len (l : List Acc) (R : List Int) (c s b : Int) : ∀ k, (prN l R c s b k).accs.length = l.length
  | 0 => rfl
  | k + 1 => by
    have ih := prN_len l R c s b k
    unfold prN prS
    split
    · simp [ih]
    · exact ih
theorem prN_did (l : List Acc) (R : List Int) (c s b : Int) : ∀ k, (prN l R c s b k).did.length ≤ k ∧ (prN l R c s b k).old.length = (prN l R c s b k).did.length
  | 0 => ⟨Nat.le_refl _, rfl⟩
  | k + 1 => by
    have ih := prN_did l R c s b k
    unfold prN prS
    split
    · simp; omega
    · omega
theorem acN_len (l : List Acc) (Dd : List Int) (c s b v : Int) : ∀ k, (acN l Dd c s b v k).length = l.length
  | 0 => rfl
  | k + 1 => by
    have ih := acN_len l Dd c s b v k
    unfold acN acS
    split
    · simp [ih]
    · exact ih
theorem prN_in (l : List Acc) (R : List Int) (c s b : Int) {n : Nat} (h : ∀ k, k < R.length → 0 ≤ R.getD k 0 ∧ R.getD k 0 < n) : ∀ k, k ≤ R.length → ∀ a ∈ (prN l R c s b k).did, 0 ≤ a ∧ a < n
  | 0, _, a, ha => by simp [prN] at ha
  | k + 1, hk, a, ha => by
    have ih := prN_in l R c s b h k (by omega)
    unfold prN prS at ha
    split at ha
    · simp only [List.mem_append, List.mem_singleton] at ha
      rcases ha with ha | ha
      · exact ih a ha
      · rw [ha]; exact h k (by omega)
    · exact ih a ha
theorem prom_old {xs : List Slt} {c s b : Int} (h : (promAtD xs c s b).code = 0) : isNo ⟨(promAtD xs c s b).ob, (promAtD xs c s b).ov⟩ = true ∨ votB ⟨(promAtD xs c s b).ob, (promAtD xs c s b).ov⟩ = true := by
  unfold promAtD at h ⊢
  by_cases h1 : accF xs = 0
  · rw [if_pos h1] at h ⊢
    by_cases h2 : idOk c s = true
    · rw [if_pos h2] at h ⊢
      have hf := slotO_ok (accOk_of h1) h2
      generalize slotO xs (freS c s) = d at *
      unfold toldD at h ⊢
      by_cases h3 : (promD d b).code = 0
      · rw [if_pos h3] at h ⊢
        by_cases h4 : 60 < (putS xs (promD d b).slot).length
        · rw [if_pos h4] at h; simp [errA] at h
        · rw [if_neg h4]
          dsimp only
          have hd := sltOk_of hf
          have e : (promD d b).ob = d.lb ∧ (promD d b).ov = d.lv := by
            cases h5 : inB b 0 1000 with
            | false => rw [promD_range hf h5] at h3; simp [errS] at h3
            | true =>
              by_cases h6 : b < d.pr
              · rw [promD_busy hf h5 h6] at h3; simp [errS] at h3
              · rw [promD_ok hf h5 h6]; exact ⟨rfl, rfl⟩
          rw [e.1, e.2, hd.last.1, hd.last.2]
          cases hc : d.cast.length with
          | zero => exact .inl (by rw [lastV_zero]; rfl)
          | succ m => exact .inr (by rw [lastV_succ]; exact (hd.at_ m (by omega)).1)
      · rw [if_neg h3] at h; exact absurd h (by simpa [errA] using h3)
    · rw [if_neg h2] at h; simp [errA] at h
  · rw [if_neg h1] at h; exact absurd h (by simpa [errA] using h1)
theorem prN_old (l : List Acc) (R : List Int) (c s b : Int) : ∀ k, ∀ v ∈ (prN l R c s b k).old, isNo v = true ∨ votB v = true
  | 0, v, hv => by simp [prN] at hv
  | k + 1, v, hv => by
    have ih := prN_old l R c s b k
    unfold prN prS at hv
    split at hv
    · rename_i h
      simp only [List.mem_append, List.mem_singleton] at hv
      rcases hv with hv | hv
      · exact ih v hv
      · rw [hv]; exact prom_old h
    · exact ih v hv
theorem pick_ok {xs : List Vot} {own : Int} (h9 : xs.length ≤ 9) (h : ∀ v ∈ xs, isNo v = true ∨ votB v = true) (ho : inB own 1 2 = true) : pickC xs own = 0 ∧ pickV xs own = (best own xs xs.length).val := by
  have hs : scanI (pickAt xs) xs.length = 0 := scanI_of (fun k hk => pickAt_ok (h _ (by simp [List.getD, hk])))
  have e : pickC xs own = 0 := by rw [pickC_own h9 hs, ho]; rfl
  exact ⟨e, by unfold pickV; rw [if_pos e]⟩
end Go.Proofs.YtncmdeijimgchaaGreat

/-
  Lists of acceptors copied.
-/
set_option linter.unusedSimpArgs false
set_option linter.unusedVariables false
namespace Go.Proofs.YtncmdeijimgchaaGreat
open Go.RowKit
set_option linter.unusedSectionVars false
variable [DecidableEq Vot] [Inhabited Vot] [DecidableEq Slt] [Inhabited Slt] [DecidableEq SltR] [Inhabited SltR] [DecidableEq Bal] [Inhabited Bal] [DecidableEq Ledg] [Inhabited Ledg] [DecidableEq Leg] [Inhabited Leg] [DecidableEq Acc] [Inhabited Acc] [DecidableEq AccR] [Inhabited AccR] [DecidableEq AccsR] [Inhabited AccsR] [DecidableEq SltsR] [Inhabited SltsR]
attribute [local go_sem ↓] Go.wp_at_zero Go.wp_at_succ

theorem accs_nil (w : World) (base : Nat) : accsR.O w base (fun _ => False) (.slice none 0 0) [] :=
  ⟨[], fun _ => default, fun _ _ => False, ⟨World.ownsRow_nil _ _ _ _, fun i hi => absurd hi (Nat.not_lt_zero _), fun i hi => absurd hi (Nat.not_lt_zero _), fun i hi => absurd hi (Nat.not_lt_zero _), fun i hi => absurd hi (Nat.not_lt_zero _), fun i j hi => absurd hi (Nat.not_lt_zero _)⟩, fun b => ⟨fun h => h.elim, fun h => h.elim (fun h => noOwn h) (fun ⟨i, hi, _⟩ => absurd hi (Nat.not_lt_zero _))⟩⟩
theorem accs_lit (w : World) : accsR.O (w.alloc (.cells #[] 67)) w.heap.size (fun b => (Value.slice (some ⟨w.heap.size, 0, none⟩) 0 0).ownBlock = some b ∨ ∃ i, i < ([] : List Acc).length ∧ (fun _ _ => False : Nat → Nat → Prop) i b) (.slice (some ⟨w.heap.size, 0, none⟩) 0 0) [] :=
  ⟨[], fun _ => default, fun _ _ => False, ⟨World.ownsRow_lit (base := w.heap.size) (e := 67) (size := 1) w #[] 0 (Nat.le_refl _) (by unfold maxLen; omega) rfl, fun i hi => absurd hi (Nat.not_lt_zero _), fun i hi => absurd hi (Nat.not_lt_zero _), fun i hi => absurd hi (Nat.not_lt_zero _), fun i hi => absurd hi (Nat.not_lt_zero _), fun i j hi => absurd hi (Nat.not_lt_zero _)⟩, fun b => Iff.rfl⟩
theorem take_accs (l : List Acc) {k : Nat} (hk : k < l.length) : l.take (k + 1) = l.take k ++ [l.getD k default] := by
  rw [List.take_succ_eq_append_getElem hk]
  simp [List.getD, hk]
end Go.Proofs.YtncmdeijimgchaaGreat


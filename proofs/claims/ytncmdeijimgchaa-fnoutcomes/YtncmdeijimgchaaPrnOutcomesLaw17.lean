import Derived.Test.YtncmdeijimgchaaPrnOutcomesLaw12
import Derived.Test.YtncmdeijimgchaaPrnOutcomesLaw13
import Derived.Test.YtncmdeijimgchaaPrnOutcomesLaw16
import Derived.BigQuiet
import Derived.Deep.QuietTactic
import Derived.Deep.RegionHeld3
import Derived.Test.YtncmdeijimgchaaPrnOutcomesLaw1
import Derived.Deep.DrawnRows

/-
  OutcomeOf, in mathematics; a map cleared.
-/
set_option linter.unusedSimpArgs false
set_option linter.unusedVariables false
namespace Go.Proofs.Ytncmdeijimgchaa
open Go.RowKit Go.Maps
set_option linter.unusedSectionVars false
variable [DecidableEq Vot] [Inhabited Vot] [DecidableEq Slt] [Inhabited Slt] [DecidableEq SltR] [Inhabited SltR] [DecidableEq Bal] [Inhabited Bal] [DecidableEq Ledg] [Inhabited Ledg] [DecidableEq Leg] [Inhabited Leg] [DecidableEq Acc] [Inhabited Acc] [DecidableEq AccR] [Inhabited AccR] [DecidableEq AccsR] [Inhabited AccsR] [DecidableEq SltsR] [Inhabited SltsR] [DecidableEq Cont] [Inhabited Cont]
attribute [local go_sem ↓] Go.wp_at_zero Go.wp_at_succ

def outA (f : Int → Int) (shs : List Int) : Nat → Int
  | 0 => 1
  | k + 1 => if f (shs.getD k 0) = 0 then 0 else outA f shs k
def outV (f : Int → Int) (shs : List Int) : Int := if shs.any (fun s => decide (f s = 2)) = true then 2 else outA f shs shs.length
theorem outV_hit {f : Int → Int} {shs : List Int} {k : Nat} (hk : k < shs.length) (h : f (shs.getD k 0) = 2) : outV f shs = 2 := by
  unfold outV
  rw [if_pos]
  rw [List.any_eq_true]
  exact ⟨shs.getD k 0, by simp [List.getD, hk], decide_eq_true h⟩
theorem outV_end {f : Int → Int} {shs : List Int} (h : ∀ k, k < shs.length → ¬ f (shs.getD k 0) = 2) : outV f shs = outA f shs shs.length := by
  unfold outV
  rw [if_neg]
  rw [List.any_eq_true]
  rintro ⟨s, hs, h2⟩
  obtain ⟨i, hi, rfl⟩ := List.getElem_of_mem hs
  have h3 : f shs[i] = 2 := of_decide_eq_true h2
  exact h i hi (by rw [show shs.getD i 0 = shs[i] by simp [List.getD, hi]]; exact h3)
def outC (l : List Acc) (c : Cont) : Int := if listF l = 0 then contractFault c.id c.legs else listF l
def outR (l : List Acc) (c : Cont) (ysf : Int → List Vot) : Int := if outC l c = 0 then outV (fun s => hdV (ysf s)) (shardsL c.legs) else 0
theorem outC_ok {l : List Acc} {c : Cont} (h : outC l c = 0) : listF l = 0 ∧ contractFault c.id c.legs = 0 := by
  unfold outC at h
  by_cases h1 : listF l = 0
  · rw [if_pos h1] at h; exact ⟨h1, h⟩
  · rw [if_neg h1] at h; exact absurd h h1
theorem cf_id {id : Int} {xs : List Leg} (h : contractFault id xs = 0) {s : Int} (hs : s ∈ shardsL xs) : idOk id s = true := by
  have h1 : inB id 1 1000000000 = true := (cf_inv h).1
  have h2 : s = 0 ∨ s = 1 ∨ s = 2 := by
    unfold shardsL sl at hs
    simp only [List.mem_append] at hs
    rcases hs with (hs | hs) | hs
    · split at hs <;> simp at hs; exact .inl hs
    · split at hs <;> simp at hs; exact .inr (.inl hs)
    · split at hs <;> simp at hs; exact .inr (.inr hs)
  unfold idOk
  rw [h1, Bool.true_and]
  exact inBi.2 (by omega)
theorem out_ex (l : List Acc) (c : Cont) : ∃ ysf : Int → List Vot, outC l c = 0 → ∀ s, s ∈ shardsL c.legs → Chs (slotsL l c.id s) (ysf s) := by
  by_cases h : outC l c = 0
  · obtain ⟨h1, h2⟩ := outC_ok h
    refine ⟨fun s => Classical.choose (chs_exL l c.id s), fun _ s hs => Classical.choose_spec (chs_exL l c.id s) ?_⟩
    unfold freC
    rw [if_pos h1, if_pos (cf_id h2 hs)]
  · exact ⟨fun _ => [], fun h' => absurd h' h⟩
theorem sh_mem {xs : List Leg} {k : Nat} (hk : k < (shardsL xs).length) : (shardsL xs).getD k 0 ∈ shardsL xs := by simp [List.getD, hk]
theorem bkv_clear {w : World} {B n : Nat} {f : Vot → Option Int} (h : Bkv w B n f) (ty : TypeId) : ∃ w', (Builtin.clear_ #[103] ty #[.map (some B)]).run Try.prog w = .ok (.tuple #[]) w' ∧ Bkv w' B 0 (fun _ => none) ∧ Mod (fun b => b = B) w w' := by
  obtain ⟨D, ⟨es, clock, hb, _⟩, _⟩ := h
  have hlt : B < w.heap.size := (Array.getElem?_eq_some_iff.1 hb).1
  refine ⟨ChangeMaps.setBlock w B (.map #[] clock), ?_, ⟨.map [], ⟨#[], clock, ?_, ⟨by simp, MapKept.stamped_empty clock, by simp⟩, Nat.le_refl _, rfl⟩, fun _ _ _ => ⟨rfl, rfl⟩⟩, setBlk_mod w B _⟩
  · simp [Builtin.clear_, run_underlying Try.underlying103, MapKept.run_getObj_map hb, MapKept.run_setObj_map _ hb, Result.andThen, ChangeMaps.setBlock]
  · simp [ChangeMaps.setBlock, hlt]
theorem wpl_clear {w : World} {ops : Array Oper} {rest : List Oper} {o : Oper} {a : Act} {Q : Exit → Act → World → Prop} (hgd : o.guard = none) (s : Operand) (t : TypeId)
    (ho : o.op = .call { callee := .builtin .clear, args := #[s], argTypes := #[t] }) (v : Value) (hs : a.eval s = v) {v' : Value} {w' : World}
    (hr : (Builtin.clear_ #[t] o.type #[v]).run Try.prog w = .ok v' w') (h : wpList Try.prog ops Q rest (a.put o.dst v') w') : wpList Try.prog ops Q (o :: rest) a w := by
  refine wpList_plain hgd fun K hK => ?_
  unfold Oper.wp execOp
  simp only [ho, resolve, invoke, builtin, Sem.run_bind, Sem.run_pure, Result.andThen_ok, List.map_toArray, List.map_cons, List.map_nil, hs, hr]
  exact hK _ _ h
theorem bkv_clear2 {w : World} {B n : Nat} {f : Vot → Option Int} (h : Bkv w B n f) : ∃ w', (∀ ty, (Builtin.clear_ #[103] ty #[.map (some B)]).run Try.prog w = .ok (.tuple #[]) w') ∧ Bkv w' B 0 (fun _ => none) ∧ Mod (fun b => b = B) w w' := by
  obtain ⟨w', h1, h2, h3⟩ := bkv_clear h 0
  exact ⟨w', fun ty => h1, h2, h3⟩
end Go.Proofs.Ytncmdeijimgchaa

/-
  What is chosen stays chosen, and an outcome that is clear stays so.
-/
namespace Go.Proofs.Ytncmdeijimgchaa
open Go.RowKit
set_option linter.unusedSectionVars false
variable [DecidableEq Vot] [Inhabited Vot] [DecidableEq Slt] [Inhabited Slt] [DecidableEq SltR] [Inhabited SltR] [DecidableEq Bal] [Inhabited Bal] [DecidableEq Ledg] [Inhabited Ledg] [DecidableEq Leg] [Inhabited Leg] [DecidableEq Acc] [Inhabited Acc] [DecidableEq AccR] [Inhabited AccR] [DecidableEq AccsR] [Inhabited AccsR] [DecidableEq SltsR] [Inhabited SltsR] [DecidableEq Cont] [Inhabited Cont]

theorem promAt_rest {xs : List Slt} {c s b : Int} (h : (promAtD xs c s b).code = 0) {s' : Int} (hs : ¬ s' = s) : slotO (promAtD xs c s b).acc.slots (freS c s') = slotO xs (freS c s') := by
  obtain ⟨h0, h1, e⟩ := promAtD_told h
  rw [e] at h ⊢
  obtain ⟨hc, e2, ok, _⟩ := toldD_fine (accOk_of h0) (fun hc => (promD_fine hc).1) h
  rw [e2]
  obtain ⟨_, p1, p2, p3, p4, _⟩ := promD_fine hc
  have hso := slotO_same xs (freS c s)
  rw [slotO_rest (accOk_of h0) ok]
  cases e3 : sameS (promD (slotO xs (freS c s)) b).slot (freS c s') with
  | false => rfl
  | true => exact absurd ((sameS_iff.1 e3).2.symm.trans (p2.trans hso.2)) hs
theorem accAt_rest {xs : List Slt} {c s b v : Int} (h : (accAtD xs c s b v).code = 0) {s' : Int} (hs : ¬ s' = s) : slotO (accAtD xs c s b v).acc.slots (freS c s') = slotO xs (freS c s') := by
  obtain ⟨h0, h1, e⟩ := accAtD_told h
  rw [e] at h ⊢
  obtain ⟨hc, e2, ok, _⟩ := toldD_fine (accOk_of h0) (fun hc => (accD_fine hc).1) h
  rw [e2]
  obtain ⟨_, p0, _⟩ := accD_fine hc
  obtain ⟨g, p1, p2⟩ := accS_gr (d := slotO xs (freS c s)) (b := b) (v := v)
  rw [p0] at ok ⊢
  have hso := slotO_same xs (freS c s)
  rw [slotO_rest (accOk_of h0) ok]
  cases e3 : sameS (accS (slotO xs (freS c s)) ⟨b, v⟩) (freS c s') with
  | false => rfl
  | true => exact absurd ((sameS_iff.1 e3).2.symm.trans (p2.trans hso.2)) hs
theorem prN_rest (l : List Acc) (R : List Int) (c s b : Int) : ∀ k j, j < l.length → ∀ s', ¬ s' = s → slotO ((prN l R c s b k).accs.getD j default).slots (freS c s') = slotO (l.getD j default).slots (freS c s')
  | 0, _, _, _, _ => rfl
  | k + 1, j, hj, s', hs => by
    have ih := prN_rest l R c s b k j hj s' hs
    have hl := prN_len l R c s b k
    unfold prN prS
    split
    · rename_i h
      dsimp only
      rw [acc_get (by rw [hl]; exact hj)]
      by_cases e : (R.getD k 0).toNat = j
      · rw [if_pos e]
        rw [← ih]
        subst e
        exact promAt_rest h hs
      · rw [if_neg e]; exact ih
    · exact ih
theorem acN_rest (l : List Acc) (Dd : List Int) (c s b v : Int) : ∀ k j, j < l.length → ∀ s', ¬ s' = s → slotO ((acN l Dd c s b v k).getD j default).slots (freS c s') = slotO (l.getD j default).slots (freS c s')
  | 0, _, _, _, _ => rfl
  | k + 1, j, hj, s', hs => by
    have ih := acN_rest l Dd c s b v k j hj s' hs
    have hl := acN_len l Dd c s b v k
    unfold acN acS
    split
    · rename_i h
      rw [acc_get (by rw [hl]; exact hj)]
      by_cases e : (Dd.getD k 0).toNat = j
      · rw [if_pos e]
        rw [← ih]
        subst e
        exact accAt_rest h hs
      · rw [if_neg e]; exact ih
    · exact ih
theorem prN_rise (l : List Acc) (R : List Int) (c s b : Int) (hr : ∀ k, k + 1 < R.length → R.getD k 0 < R.getD (k + 1) 0) : ∀ k, k ≤ R.length → (prN l R c s b k).did.Pairwise (· < ·) ∧ (k < R.length → ∀ a ∈ (prN l R c s b k).did, a < R.getD k 0)
  | 0, _ => ⟨List.Pairwise.nil, fun _ a ha => by simp [prN] at ha⟩
  | k + 1, hk => by
    obtain ⟨h1, h2⟩ := prN_rise l R c s b hr k (by omega)
    have h3 := h2 (by omega)
    unfold prN prS
    split
    · dsimp only
      refine ⟨List.pairwise_append.2 ⟨h1, by simp, fun a ha a' ha' => by rw [List.mem_singleton] at ha'; rw [ha']; exact h3 a ha⟩, fun hk' a ha => ?_⟩
      have h4 := hr k hk'
      rcases List.mem_append.1 ha with ha | ha
      · have := h3 a ha; omega
      · rw [List.mem_singleton] at ha; omega
    · exact ⟨h1, fun hk' a ha => by have h4 := hr k hk'; have := h3 a ha; omega⟩
theorem cntP_mono {p q : Nat → Bool} : ∀ {n : Nat}, (∀ k, k < n → p k = true → q k = true) → cntP p n ≤ cntP q n
  | 0, _ => Nat.le_refl _
  | n + 1, h => by
    have ih := cntP_mono (p := p) (q := q) (n := n) (fun k hk => h k (by omega))
    unfold cntP
    cases e : p n with
    | false => rw [if_neg (by simp)]; omega
    | true => rw [if_pos rfl, h n (by omega) e, if_pos rfl]; omega
theorem isCh_mono {D D' : List Slt} {u : Vot} (hl : D'.length = D.length) (h : ∀ k, k < D.length → u ∈ (D.getD k default).cast → u ∈ (D'.getD k default).cast) (hu : isCh D u) : isCh D' u := by
  unfold isCh cntV at hu ⊢
  rw [hl]
  have := cntP_mono (p := fun k => hasV (D.getD k default) u) (q := fun k => hasV (D'.getD k default) u) (n := D.length) (fun k hk hp => hasV_iff.2 (h k hk (hasV_iff.1 hp)))
  omega
def Safe (D : List Slt) : Prop := ∀ u, isCh D u → ∀ k, k < D.length → ∀ v ∈ (D.getD k default).cast, u.bal ≤ v.bal → v.val = u.val
theorem slt_bal {d : Slt} (h : SltOk d) {u : Vot} (hu : u ∈ d.cast) : 0 ≤ u.bal ∧ u.bal ≤ d.lb := by
  obtain ⟨i, hi, rfl⟩ := getD_of_mem hu
  have h1 := (slt_order h i (d.cast.length - 1 - i) (by omega)).1
  have h2 := h.last.1
  obtain ⟨m, hm⟩ : ∃ m, d.cast.length = m + 1 := ⟨d.cast.length - 1, by omega⟩
  rw [hm, lastV_succ] at h2
  rw [show i + (d.cast.length - 1 - i) = m by omega] at h1
  have h3 := votB_iff.1 (h.at_ i hi).1
  exact ⟨h3.1.1, by rw [h2]; exact h1⟩
theorem last_mem {xs : List Vot} (h : 0 ≤ (lastV xs xs.length).bal) : lastV xs xs.length ∈ xs := by
  cases e : xs.length with
  | zero => rw [e, lastV_zero] at h; simp [noV] at h
  | succ m => rw [lastV_succ]; exact mem_getD (by omega)
theorem hdV_stays {D D' : List Slt} {ys ys' : List Vot} (h : Chs D ys) (h' : Chs D' ys') (hs : Safe D') (hm : ∀ u, isCh D u → isCh D' u) (h0 : ¬ hdV ys = 0) : hdV ys' = hdV ys := by
  cases ys with
  | nil => simp [hdV] at h0
  | cons u ys =>
    have hu : isCh D' u := hm u ((h.mem u).1 (by simp))
    have hy : u ∈ ys' := (h'.mem u).2 hu
    cases ys' with
    | nil => simp at hy
    | cons u' ys' =>
      have hu' : isCh D' u' := (h'.mem u').1 (by simp)
      have hle : u'.bal ≤ u.bal := by
        rcases List.mem_cons.1 hy with e | e
        · rw [e]; exact Int.le_refl _
        · have := (List.pairwise_cons.1 h'.rise).1 u e; omega
      obtain ⟨k, hk, hc⟩ := ch_cast hu
      have := hs u' hu' k hk u hc hle
      simp [hdV, this]
theorem outA_one {f : Int → Int} {shs : List Int} : ∀ {n : Nat}, ¬ outA f shs n = 0 → outA f shs n = 1 ∧ ∀ k, k < n → ¬ f (shs.getD k 0) = 0
  | 0, _ => ⟨rfl, fun k hk => by omega⟩
  | n + 1, h => by
    unfold outA at h ⊢
    by_cases e : f (shs.getD n 0) = 0
    · rw [if_pos e] at h; exact absurd rfl h
    · rw [if_neg e] at h ⊢
      obtain ⟨h1, h2⟩ := outA_one h
      refine ⟨h1, fun k hk => ?_⟩
      by_cases ek : k < n
      · exact h2 k ek
      · obtain rfl : k = n := by omega
        exact e
theorem outA_all {f : Int → Int} {shs : List Int} : ∀ {n : Nat}, (∀ k, k < n → ¬ f (shs.getD k 0) = 0) → outA f shs n = 1
  | 0, _ => rfl
  | n + 1, h => by
    unfold outA
    rw [if_neg (h n (by omega))]
    exact outA_all fun k hk => h k (by omega)
theorem outV_stays {f f' : Int → Int} {shs : List Int} (h : ∀ s, s ∈ shs → ¬ f s = 0 → f' s = f s) (h0 : ¬ outV f shs = 0) : outV f' shs = outV f shs := by
  have hm : ∀ k, k < shs.length → shs.getD k 0 ∈ shs := fun k hk => by simp [List.getD, hk]
  by_cases e : ∃ k, k < shs.length ∧ f (shs.getD k 0) = 2
  · obtain ⟨k, hk, e⟩ := e
    rw [outV_hit hk e, outV_hit hk ((h _ (hm k hk) (by omega)).trans e)]
  · have e' : ∀ k, k < shs.length → ¬ f (shs.getD k 0) = 2 := fun k hk h2 => e ⟨k, hk, h2⟩
    rw [outV_end e'] at h0 ⊢
    obtain ⟨h1, h2⟩ := outA_one h0
    have h3 : ∀ k, k < shs.length → f' (shs.getD k 0) = f (shs.getD k 0) := fun k hk => h _ (hm k hk) (h2 k hk)
    rw [outV_end fun k hk => by rw [h3 k hk]; exact e' k hk, h1]
    exact outA_all fun k hk => by rw [h3 k hk]; exact h2 k hk
structure Inv (l : List Acc) (c B : Int) : Prop where
  ok : ListOk l
  bd : ∀ k, k < l.length → ∀ s, idOk c s = true → (slotO (l.getD k default).slots (freS c s)).pr < B
  safe : ∀ s, idOk c s = true → Safe (slotsL l c s)
theorem isCh_at {l : List Acc} {c s : Int} {u : Vot} (h : isCh (slotsL l c s) u) : ∃ k, k < l.length ∧ u ∈ (slotO (l.getD k default).slots (freS c s)).cast := by
  obtain ⟨k, hk, hc⟩ := ch_cast h
  rw [slotsL_len] at hk
  rw [slotsL_at l c s hk] at hc
  exact ⟨k, hk, hc⟩
theorem isCh_of {l l' : List Acc} {c s : Int} {u : Vot} (hl : l'.length = l.length) (h : ∀ k, k < l.length → u ∈ (slotO (l.getD k default).slots (freS c s)).cast → u ∈ (slotO (l'.getD k default).slots (freS c s)).cast) (hu : isCh (slotsL l c s) u) : isCh (slotsL l' c s) u := by
  refine isCh_mono (by rw [slotsL_len, slotsL_len, hl]) (fun k hk hc => ?_) hu
  rw [slotsL_len] at hk
  rw [slotsL_at l c s hk] at hc
  rw [slotsL_at l' c s (by rw [hl]; exact hk)]
  exact h k hk hc
theorem safe_same {l l' : List Acc} {c s : Int} (hl : l'.length = l.length) (h : ∀ k, k < l.length → (slotO (l'.getD k default).slots (freS c s)).cast = (slotO (l.getD k default).slots (freS c s)).cast) (hs : Safe (slotsL l c s)) : Safe (slotsL l' c s) := by
  intro u hu k hk v hv hle
  rw [slotsL_len, hl] at hk
  rw [slotsL_at l' c s (by rw [hl]; exact hk), h k hk] at hv
  refine hs u (isCh_of hl.symm (fun j hj hc => ?_) hu) k (by rw [slotsL_len]; exact hk) v (by rw [slotsL_at l c s hk]; exact hv) hle
  rw [hl] at hj
  rw [← h j hj]; exact hc
theorem picked {l : List Acc} {c s B own : Int} {st : Pst} (hi : Inv l c B) (hid : idOk c s = true) (hd : Did l c s st) (hr : st.did.Pairwise (· < ·)) (hq : quoV l.length ≤ (st.did.length : Int)) {u : Vot} (hu : isCh (slotsL l c s) u) : (best own st.old st.old.length).val = u.val := by
  have hc := cnt_mem l.length st.did hr hd.inn
  have h2 := quo_two l.length
  have hu' := hu
  unfold isCh cntV at hu'
  rw [slotsL_len] at hu'
  obtain ⟨k, hk, h3, h4⟩ := cntP_two (fun k => decide ((k : Int) ∈ st.did)) (fun k => hasV ((slotsL l c s).getD k default) u) l.length (by omega)
  have h3' : (k : Int) ∈ st.did := of_decide_eq_true h3
  obtain ⟨i, hi', e⟩ := List.getElem_of_mem h3'
  have ei : st.did.getD i 0 = k := by simp [List.getD, hi', e]
  have ho := hd.at_ i hi'
  rw [ei, show (k : Int).toNat = k by omega] at ho
  have hm := hasV_iff.1 h4
  rw [slotsL_at l c s hk] at hm
  have okS : ∀ j, j < l.length → SltOk (slotO (l.getD j default).slots (freS c s)) := fun j hj => sltOk_of (slotO_ok (accOk_of (hi.ok.ok j hj)) hid)
  have hb := slt_bal (okS k hk) hm
  have hlast := (okS k hk).last.1
  obtain ⟨m1, m2⟩ := best_max own st.old st.old.length (Nat.le_refl _)
  have hbi := m1 i (by rw [hd.len]; exact hi')
  rw [ho] at hbi
  obtain ⟨i2, hi2, e2⟩ := m2 (by omega)
  rw [hd.len] at hi2
  have ho2 := hd.at_ i2 hi2
  have hin := hd.inn (st.did.getD i2 0) (by simp [List.getD, hi2])
  obtain ⟨k2, hk2⟩ : ∃ k2, (st.did.getD i2 0).toNat = k2 := ⟨_, rfl⟩
  rw [hk2] at ho2
  have hk2' : k2 < l.length := by omega
  rw [e2, ho2] at hbi ⊢
  have hmem := last_mem (xs := (slotO (l.getD k2 default).slots (freS c s)).cast) (by omega)
  exact hi.safe s hid u hu k2 (by rw [slotsL_len]; exact hk2') _ (by rw [slotsL_at l c s hk2']; exact hmem) (by omega)
theorem Inv.grow {l l' : List Acc} {c s b v B : Int} (hi : Inv l c B) (hB : B ≤ b) (hok : ListOk l') (hg : Grs c b v l l')
    (hrest : ∀ j, j < l.length → ∀ s', ¬ s' = s → slotO (l'.getD j default).slots (freS c s') = slotO (l.getD j default).slots (freS c s'))
    (hv : ∀ u, idOk c s = true → isCh (slotsL l c s) u → v = u.val) :
    Inv l' c (b + 1) ∧ ∀ s', idOk c s' = true → ∀ u, isCh (slotsL l c s') u → isCh (slotsL l' c s') u := by
  have hmono : ∀ s', ∀ u, isCh (slotsL l c s') u → isCh (slotsL l' c s') u := fun s' u hu => isCh_of hg.1 (fun k hk hc => (hg.2 k hk s').keep u hc) hu
  refine ⟨⟨hok, fun k hk s' hid => ?_, fun s' hid => ?_⟩, fun s' _ u hu => hmono s' u hu⟩
  · rw [hg.1] at hk
    have h1 := hi.bd k hk s' hid
    rcases (hg.2 k hk s').pr with e | e <;> omega
  · by_cases hs : s' = s
    · subst hs
      have okS : ∀ j, j < l.length → SltOk (slotO (l.getD j default).slots (freS c s')) := fun j hj => sltOk_of (slotO_ok (accOk_of (hi.ok.ok j hj)) hid)
      have hlow : ∀ j, j < l.length → ∀ u ∈ (slotO (l.getD j default).slots (freS c s')).cast, u.bal < b := fun j hj u hu => by
        have h1 := (slt_bal (okS j hj) hu).2
        have h2 := (okS j hj).pr
        have h3 := hi.bd j hj s' hid
        omega
      intro u hu k hk w hw hle
      rw [slotsL_len, hg.1] at hk
      rw [slotsL_at l' c s' (by rw [hg.1]; exact hk)] at hw
      obtain ⟨j, hj, huj⟩ := isCh_at hu
      rw [hg.1] at hj
      rcases (hg.2 j hj s').new u huj with hold | hnew
      · have hub := hlow j hj u hold
        have hne : ¬ u = ⟨b, v⟩ := fun e => by rw [e] at hub; simp at hub
        have hu0 : isCh (slotsL l c s') u := isCh_of hg.1.symm (fun q hq hc => by
          rw [hg.1] at hq
          exact ((hg.2 q hq s').new u hc).elim (fun h => h) (fun h => absurd h hne)) hu
        rcases (hg.2 k hk s').new w hw with hwo | hwn
        · exact hi.safe s' hid u hu0 k (by rw [slotsL_len]; exact hk) w (by rw [slotsL_at l c s' hk]; exact hwo) hle
        · rw [hwn]; exact hv u hid hu0
      · rw [hnew] at hle ⊢
        rcases (hg.2 k hk s').new w hw with hwo | hwn
        · have := hlow k hk w hwo
          dsimp only at hle
          omega
        · rw [hwn]
    · exact safe_same hg.1 (fun k hk => by rw [hrest k hk s' hs]) (hi.safe s' hid)
theorem run_inv {l : List Acc} {R : List Int} {c s b own B : Int} (hi : Inv l c B) (hB : B ≤ b) (hid : idOk c s = true) (hb : balF R l.length b own = 0) :
    (runD l R c s b own).accs.length = l.length ∧ Inv (runD l R c s b own).accs c (b + 1) ∧ ∀ s', idOk c s' = true → ∀ u, isCh (slotsL l c s') u → isCh (slotsL (runD l R c s b own).accs c s') u := by
  have hfc : freC l c s = 0 := by unfold freC; rw [if_pos (listF_ok hi.ok), if_pos hid]
  have bok := balOk_of hb
  have hD := prN_Did l R c s b hi.ok bok.inn R.length (Nat.le_refl _)
  have hri := (prN_rise l R c s b bok.rise R.length (Nat.le_refl _)).1
  have hpk := prN_ok R c s b hi.ok R.length
  have hlen := prN_len l R c s b R.length
  have hrs := prN_rest l R c s b R.length
  have hcs := prN_cast l R c s b R.length
  have hgr := fun v => prN_grs l R c s b v R.length
  unfold runD
  rw [if_pos hfc, if_pos hb]
  generalize prN l R c s b R.length = P at *
  by_cases hq : (P.did.length : Int) < quoV l.length
  · rw [if_pos hq]
    dsimp only
    refine ⟨hlen, ⟨hpk, fun k hk s' hid' => ?_, fun s' hid' => safe_same hlen (fun k hk => hcs k hk s') (hi.safe s' hid')⟩, fun s' _ u hu => isCh_of hlen (fun k hk hc => by rw [hcs k hk s']; exact hc) hu⟩
    rw [hlen] at hk
    have h1 := hi.bd k hk s' hid'
    rcases ((hgr 0).2 k hk s').pr with e | e <;> omega
  · rw [if_neg hq]
    dsimp only
    generalize hv : (best own P.old P.old.length).val = v at *
    have hg : Grs c b v l (acN P.accs P.did c s b v P.did.length) := (hgr v).trans (acN_grs P.accs P.did c s b v P.did.length)
    refine ⟨by rw [acN_len, hlen], hi.grow (s := s) hB (acN_ok P.did c s b v hpk _) hg (fun j hj s' hs => ?_) (fun u hid' hu => ?_)⟩
    · rw [acN_rest P.accs P.did c s b v P.did.length j (by rw [hlen]; exact hj) s' hs, hrs j hj s' hs]
    · rw [← hv]; exact picked hi hid' hD hri (by omega) hu
end Go.Proofs.Ytncmdeijimgchaa

/-
  Rows of bytes: copied, compared, counted, marked and read back.
-/
namespace Go.Proofs.Ytncmdeijimgchaa
open Go.RowKit
attribute [local go_sem ↓] Go.wp_at_zero Go.wp_at_succ

abbrev Byte := Fin 256
def toB (n : Int) : Byte := ⟨(n % 256).toNat, by omega⟩
theorem toB_val (n : Int) : ((toB n).val : Int) = n % 256 := by simp only [toB]; omega
def bytesC (ys : List Byte) : List Value := ys.map (fun b => Value.int .u8 (b.val : Int))
theorem length_bytesC (ys : List Byte) : (bytesC ys).length = ys.length := by simp [bytesC]
theorem bytesC_append (xs ys : List Byte) : bytesC (xs ++ ys) = bytesC xs ++ bytesC ys := by simp [bytesC]
theorem bytesC_one (xs : List Byte) : ∀ u ∈ bytesC xs, u.oneCell' = true := by
  intro u hu
  simp only [bytesC, List.mem_map] at hu
  obtain ⟨b, _, rfl⟩ := hu
  rfl
theorem get_bytesC (ys : List Byte) (i : Nat) (h : i < ys.length) : (bytesC ys)[i]? = some (.int .u8 ((ys.getD i 0).val : Int)) := by
  simp [bytesC, List.getD, h]
theorem infoByte : (Try.prog.info? 5).map (fun i => (i.zero, i.size, i.bytes)) = some (some (.int .u8 0), 1, 1) := by kernel_rfl
def BytesV (w : World) (v : Value) (ys : List Byte) : Prop :=
  ∃ a cap, v = .slice a ys.length cap ∧ ys.length ≤ cap ∧ cap ≤ maxLen ∧ ∀ i, i < ys.length → ∃ b o, a = some ⟨b, o, none⟩ ∧ w.cell? ⟨b, o + i, none⟩ = some (.int .u8 ((ys.getD i 0).val : Int))
theorem BytesV_below {w w' : World} {v : Value} {ys : List Byte} (h : BytesV w v ys) (hb : Below w.heap.size w w') : BytesV w' v ys := by
  obtain ⟨a, cap, rfl, h1, h2, h3⟩ := h
  exact ⟨a, cap, rfl, h1, h2, fun i hi => by
    obtain ⟨b, o, ha, hc⟩ := h3 i hi
    exact ⟨b, o, ha, cell_keep hb hc⟩⟩
theorem BytesV_of_owns {w : World} {base e : Nat} {v : Value} {ys : List Byte} (h : w.ownsRow base e 1 v ys.length (bytesC ys)) : BytesV w v ys := by
  rcases h.2 with ⟨rfl, hn⟩ | ⟨g, cap, cur, rfl, hb, hg, hnc, hcm, hcs, htake⟩
  · exact ⟨none, 0, by rw [hn], by omega, by unfold maxLen; omega, fun i hi => by omega⟩
  · refine ⟨some ⟨g, 0, none⟩, cap, rfl, hnc, hcm, fun i hi => ⟨g, 0, rfl, ?_⟩⟩
    rw [Nat.zero_add]
    exact (h.cellAt i (by omega)).trans (get_bytesC ys i hi)
end Go.Proofs.Ytncmdeijimgchaa

/-
  Rows of uint8: the uniform forms. (Written by program: nest.py.)
-/
namespace Go.Proofs.Ytncmdeijimgchaa
open Go.RowKit
attribute [local go_sem ↓] Go.wp_at_zero Go.wp_at_succ

def bytesR : Rep (List Byte) := fRep 5 1 bytesC BytesV BytesV_below BytesV_of_owns
theorem bytes_form {w : World} {v : Value} {xs : List Byte} (h : bytesR.V w v xs) : ∃ a c, v = .slice a xs.length c := by
  obtain ⟨a, c, rfl, _⟩ := h
  exact ⟨_, _, rfl⟩
end Go.Proofs.Ytncmdeijimgchaa


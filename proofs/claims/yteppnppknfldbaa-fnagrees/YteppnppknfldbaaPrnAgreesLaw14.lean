import Derived.Test.YteppnppknfldbaaPrnAgreesLaw3
import Derived.Deep.RegionHeld3
import Derived.Deep.DrawnRows
import Derived.Test.YteppnppknfldbaaPrnAgreesLaw1
import Derived.Test.YteppnppknfldbaaPrnAgreesLaw13
import Derived.Test.YteppnppknfldbaaPrnAgreesLaw12
import Derived.BigQuiet
import Derived.Deep.QuietTactic

/-
  Contract. (Written by program: nest.py.)
-/
namespace Go.Proofs.Yteppnppknfldbaa
open Go.RowKit
set_option linter.unusedSectionVars false
variable [DecidableEq Leg] [Inhabited Leg]
attribute [local go_sem ↓] Go.wp_at_zero Go.wp_at_succ

structure Cont where
  id : Int
  legs : List Leg
variable [DecidableEq Cont] [Inhabited Cont]

end Go.Proofs.Yteppnppknfldbaa

/-
  What is chosen stays chosen, and an outcome that is clear stays so.
-/
namespace Go.Proofs.Yteppnppknfldbaa
open Go.RowKit
set_option linter.unusedSectionVars false
variable [DecidableEq Vot] [Inhabited Vot] [DecidableEq Slt] [Inhabited Slt] [DecidableEq SltR] [Inhabited SltR] [DecidableEq Bal] [Inhabited Bal] [DecidableEq Ledg] [Inhabited Ledg] [DecidableEq Leg] [Inhabited Leg] [DecidableEq Acc] [Inhabited Acc] [DecidableEq AccR] [Inhabited AccR] [DecidableEq AccsR] [Inhabited AccsR] [DecidableEq SltsR] [Inhabited SltsR] [DecidableEq Cont] [Inhabited Cont]

theorem prN_rise (l : List Acc) (R : List Int) (c s b : Int) (hr : ∀ k, k + 1 < R.length → R.getD k 0 < R.getD (k + 1) 0) : ∀ k, k ≤ R.length → (prN l R c s b k).did.Pairwise (· < ·) ∧ (k < R.length → ∀ a ∈ (prN l R c s b k).did, a < R.getD k 0)
  | 0, _ => ⟨List.Pairwise.nil, fun _ a ha => by simp [prN] at ha⟩
  | k + 1, hk => by
    obtain ⟨h1, h2⟩ := prN_rise l R c s b hr k (by omega)
    have h3 := h2 (by omega)
    unfold prN prS
    split
    · dsimp only
      refine ⟨List.pairwise_append.2 ⟨h1, by simp, fun a ha a' ha' => by rw [List.mem_singleton] at ha'; rw [ha']; exact h3 a ha⟩, fun hk' a ha => ?_⟩
      have h4 := hr k hk'
      rcases List.mem_append.1 ha with ha | ha
      · have := h3 a ha; omega
      · rw [List.mem_singleton] at ha; omega
    · exact ⟨h1, fun hk' a ha => by have h4 := hr k hk'; have := h3 a ha; omega⟩
theorem cntP_mono {p q : Nat → Bool} : ∀ {n : Nat}, (∀ k, k < n → p k = true → q k = true) → cntP p n ≤ cntP q n
  | 0, _ => Nat.le_refl _
  | n + 1, h => by
    have ih := cntP_mono (p := p) (q := q) (n := n) (fun k hk => h k (by omega))
    unfold cntP
    cases e : p n with
    | false => rw [if_neg (by simp)]; omega
    | true => rw [if_pos rfl, h n (by omega) e, if_pos rfl]; omega
theorem isCh_mono {D D' : List Slt} {u : Vot} (hl : D'.length = D.length) (h : ∀ k, k < D.length → u ∈ (D.getD k default).cast → u ∈ (D'.getD k default).cast) (hu : isCh D u) : isCh D' u := by
  unfold isCh cntV at hu ⊢
  rw [hl]
  have := cntP_mono (p := fun k => hasV (D.getD k default) u) (q := fun k => hasV (D'.getD k default) u) (n := D.length) (fun k hk hp => hasV_iff.2 (h k hk (hasV_iff.1 hp)))
  omega
def Safe (D : List Slt) : Prop := ∀ u, isCh D u → ∀ k, k < D.length → ∀ v ∈ (D.getD k default).cast, u.bal ≤ v.bal → v.val = u.val
theorem slt_bal {d : Slt} (h : SltOk d) {u : Vot} (hu : u ∈ d.cast) : 0 ≤ u.bal ∧ u.bal ≤ d.lb := by
  obtain ⟨i, hi, rfl⟩ := getD_of_mem hu
  have h1 := (slt_order h i (d.cast.length - 1 - i) (by omega)).1
  have h2 := h.last.1
  obtain ⟨m, hm⟩ : ∃ m, d.cast.length = m + 1 := ⟨d.cast.length - 1, by omega⟩
  rw [hm, lastV_succ] at h2
  rw [show i + (d.cast.length - 1 - i) = m by omega] at h1
  have h3 := votB_iff.1 (h.at_ i hi).1
  exact ⟨h3.1.1, by rw [h2]; exact h1⟩
theorem last_mem {xs : List Vot} (h : 0 ≤ (lastV xs xs.length).bal) : lastV xs xs.length ∈ xs := by
  cases e : xs.length with
  | zero => rw [e, lastV_zero] at h; simp [noV] at h
  | succ m => rw [lastV_succ]; exact mem_getD (by omega)
structure Inv (l : List Acc) (c B : Int) : Prop where
  ok : ListOk l
  bd : ∀ k, k < l.length → ∀ s, idOk c s = true → (slotO (l.getD k default).slots (freS c s)).pr < B
  safe : ∀ s, idOk c s = true → Safe (slotsL l c s)
theorem isCh_at {l : List Acc} {c s : Int} {u : Vot} (h : isCh (slotsL l c s) u) : ∃ k, k < l.length ∧ u ∈ (slotO (l.getD k default).slots (freS c s)).cast := by
  obtain ⟨k, hk, hc⟩ := ch_cast h
  rw [slotsL_len] at hk
  rw [slotsL_at l c s hk] at hc
  exact ⟨k, hk, hc⟩
theorem isCh_of {l l' : List Acc} {c s : Int} {u : Vot} (hl : l'.length = l.length) (h : ∀ k, k < l.length → u ∈ (slotO (l.getD k default).slots (freS c s)).cast → u ∈ (slotO (l'.getD k default).slots (freS c s)).cast) (hu : isCh (slotsL l c s) u) : isCh (slotsL l' c s) u := by
  refine isCh_mono (by rw [slotsL_len, slotsL_len, hl]) (fun k hk hc => ?_) hu
  rw [slotsL_len] at hk
  rw [slotsL_at l c s hk] at hc
  rw [slotsL_at l' c s (by rw [hl]; exact hk)]
  exact h k hk hc
theorem safe_same {l l' : List Acc} {c s : Int} (hl : l'.length = l.length) (h : ∀ k, k < l.length → (slotO (l'.getD k default).slots (freS c s)).cast = (slotO (l.getD k default).slots (freS c s)).cast) (hs : Safe (slotsL l c s)) : Safe (slotsL l' c s) := by
  intro u hu k hk v hv hle
  rw [slotsL_len, hl] at hk
  rw [slotsL_at l' c s (by rw [hl]; exact hk), h k hk] at hv
  refine hs u (isCh_of hl.symm (fun j hj hc => ?_) hu) k (by rw [slotsL_len]; exact hk) v (by rw [slotsL_at l c s hk]; exact hv) hle
  rw [hl] at hj
  rw [← h j hj]; exact hc
theorem picked {l : List Acc} {c s B own : Int} {st : Pst} (hi : Inv l c B) (hid : idOk c s = true) (hd : Did l c s st) (hr : st.did.Pairwise (· < ·)) (hq : quoV l.length ≤ (st.did.length : Int)) {u : Vot} (hu : isCh (slotsL l c s) u) : (best own st.old st.old.length).val = u.val := by
  have hc := cnt_mem l.length st.did hr hd.inn
  have h2 := quo_two l.length
  have hu' := hu
  unfold isCh cntV at hu'
  rw [slotsL_len] at hu'
  obtain ⟨k, hk, h3, h4⟩ := cntP_two (fun k => decide ((k : Int) ∈ st.did)) (fun k => hasV ((slotsL l c s).getD k default) u) l.length (by omega)
  have h3' : (k : Int) ∈ st.did := of_decide_eq_true h3
  obtain ⟨i, hi', e⟩ := List.getElem_of_mem h3'
  have ei : st.did.getD i 0 = k := by simp [List.getD, hi', e]
  have ho := hd.at_ i hi'
  rw [ei, show (k : Int).toNat = k by omega] at ho
  have hm := hasV_iff.1 h4
  rw [slotsL_at l c s hk] at hm
  have okS : ∀ j, j < l.length → SltOk (slotO (l.getD j default).slots (freS c s)) := fun j hj => sltOk_of (slotO_ok (accOk_of (hi.ok.ok j hj)) hid)
  have hb := slt_bal (okS k hk) hm
  have hlast := (okS k hk).last.1
  obtain ⟨m1, m2⟩ := best_max own st.old st.old.length (Nat.le_refl _)
  have hbi := m1 i (by rw [hd.len]; exact hi')
  rw [ho] at hbi
  obtain ⟨i2, hi2, e2⟩ := m2 (by omega)
  rw [hd.len] at hi2
  have ho2 := hd.at_ i2 hi2
  have hin := hd.inn (st.did.getD i2 0) (by simp [List.getD, hi2])
  obtain ⟨k2, hk2⟩ : ∃ k2, (st.did.getD i2 0).toNat = k2 := ⟨_, rfl⟩
  rw [hk2] at ho2
  have hk2' : k2 < l.length := by omega
  rw [e2, ho2] at hbi ⊢
  have hmem := last_mem (xs := (slotO (l.getD k2 default).slots (freS c s)).cast) (by omega)
  exact hi.safe s hid u hu k2 (by rw [slotsL_len]; exact hk2') _ (by rw [slotsL_at l c s hk2']; exact hmem) (by omega)
theorem Inv.grow {l l' : List Acc} {c s b v B : Int} (hi : Inv l c B) (hB : B ≤ b) (hok : ListOk l') (hg : Grs c b v l l')
    (hrest : ∀ j, j < l.length → ∀ s', ¬ s' = s → slotO (l'.getD j default).slots (freS c s') = slotO (l.getD j default).slots (freS c s'))
    (hv : ∀ u, idOk c s = true → isCh (slotsL l c s) u → v = u.val) :
    Inv l' c (b + 1) ∧ ∀ s', idOk c s' = true → ∀ u, isCh (slotsL l c s') u → isCh (slotsL l' c s') u := by
  have hmono : ∀ s', ∀ u, isCh (slotsL l c s') u → isCh (slotsL l' c s') u := fun s' u hu => isCh_of hg.1 (fun k hk hc => (hg.2 k hk s').keep u hc) hu
  refine ⟨⟨hok, fun k hk s' hid => ?_, fun s' hid => ?_⟩, fun s' _ u hu => hmono s' u hu⟩
  · rw [hg.1] at hk
    have h1 := hi.bd k hk s' hid
    rcases (hg.2 k hk s').pr with e | e <;> omega
  · by_cases hs : s' = s
    · subst hs
      have okS : ∀ j, j < l.length → SltOk (slotO (l.getD j default).slots (freS c s')) := fun j hj => sltOk_of (slotO_ok (accOk_of (hi.ok.ok j hj)) hid)
      have hlow : ∀ j, j < l.length → ∀ u ∈ (slotO (l.getD j default).slots (freS c s')).cast, u.bal < b := fun j hj u hu => by
        have h1 := (slt_bal (okS j hj) hu).2
        have h2 := (okS j hj).pr
        have h3 := hi.bd j hj s' hid
        omega
      intro u hu k hk w hw hle
      rw [slotsL_len, hg.1] at hk
      rw [slotsL_at l' c s' (by rw [hg.1]; exact hk)] at hw
      obtain ⟨j, hj, huj⟩ := isCh_at hu
      rw [hg.1] at hj
      rcases (hg.2 j hj s').new u huj with hold | hnew
      · have hub := hlow j hj u hold
        have hne : ¬ u = ⟨b, v⟩ := fun e => by rw [e] at hub; simp at hub
        have hu0 : isCh (slotsL l c s') u := isCh_of hg.1.symm (fun q hq hc => by
          rw [hg.1] at hq
          exact ((hg.2 q hq s').new u hc).elim (fun h => h) (fun h => absurd h hne)) hu
        rcases (hg.2 k hk s').new w hw with hwo | hwn
        · exact hi.safe s' hid u hu0 k (by rw [slotsL_len]; exact hk) w (by rw [slotsL_at l c s' hk]; exact hwo) hle
        · rw [hwn]; exact hv u hid hu0
      · rw [hnew] at hle ⊢
        rcases (hg.2 k hk s').new w hw with hwo | hwn
        · have := hlow k hk w hwo
          dsimp only at hle
          omega
        · rw [hwn]
    · exact safe_same hg.1 (fun k hk => by rw [hrest k hk s' hs]) (hi.safe s' hid)
end Go.Proofs.Yteppnppknfldbaa

/-
  Acceptors of whom one thing alone is asked, whatever the ballots: all votes have one value, and it stays.
-/
set_option linter.unusedVariables false
namespace Go.Proofs.Yteppnppknfldbaa
open Go.RowKit
set_option linter.unusedSectionVars false
variable [DecidableEq Vot] [Inhabited Vot] [DecidableEq Slt] [Inhabited Slt] [DecidableEq SltR] [Inhabited SltR] [DecidableEq Bal] [Inhabited Bal] [DecidableEq Ledg] [Inhabited Ledg] [DecidableEq Leg] [Inhabited Leg] [DecidableEq Acc] [Inhabited Acc] [DecidableEq AccR] [Inhabited AccR] [DecidableEq AccsR] [Inhabited AccsR] [DecidableEq SltsR] [Inhabited SltsR] [DecidableEq Cont] [Inhabited Cont]

structure One (xs : List Slt) (c s : Int) : Prop where
  ok : accF xs = 0
  len : xs.length ≤ 1
  same : ∀ x ∈ xs, sameS x (freS c s) = true
theorem one_put {xs : List Slt} {c s : Int} {y : Slt} (h : One xs c s) (hy : sltFault y = 0) (hs : sameS y (freS c s) = true) : One (putS xs y) c s := by
  have h0 := accOk_of h.ok
  have hl := putS_len xs y
  have hlen := h.len
  have ok := putS_ok h0 hy (by omega)
  have hall : ∀ x ∈ putS xs y, x = y := fun x hx => by
    rcases (putS_mem h0 x).1 hx with e | ⟨h1, h2⟩
    · exact e
    · rw [sameS_trans (h.same x h1) (sameS_symm hs)] at h2; cases h2
  refine ⟨accF_ok ok, ?_, fun x hx => by rw [hall x hx]; exact hs⟩
  by_cases h2 : (putS xs y).length ≤ 1
  · exact h2
  · have a0 := hall _ (slt_mem (show 0 < (putS xs y).length by omega))
    have a1 := hall _ (slt_mem (show 1 < (putS xs y).length by omega))
    have h3 := ok.ord 0 1 (by omega) (by omega)
    rw [a0, a1, aheadS_iff] at h3
    omega
theorem other_slot {xs : List Slt} {c s s' : Int} (h : One xs c s) (hs : ¬ s' = s) : slotO xs (freS c s') = freS c s' :=
  slotO_out fun x hx => by
    cases e : sameS x (freS c s') with
    | false => rfl
    | true => exact absurd ((sameS_iff.1 e).2.symm.trans (sameS_iff.1 (h.same x hx)).2) hs
theorem putS_few {xs : List Slt} {c s : Int} (h : One xs c s) (y : Slt) : ¬ 60 < (putS xs y).length := by
  have := putS_len xs y
  have := h.len
  omega
theorem prom_one {xs : List Slt} {c s b : Int} (h : One xs c s) (hc : (promAtD xs c s b).code = 0) :
    One (promAtD xs c s b).acc.slots c s ∧ (slotO (promAtD xs c s b).acc.slots (freS c s)).cast = (slotO xs (freS c s)).cast ∧ (slotO (promAtD xs c s b).acc.slots (freS c s)).pr = b := by
  obtain ⟨h0, h1, e⟩ := promAtD_told hc
  rw [e] at hc ⊢
  obtain ⟨hcc, e2, ok, _⟩ := toldD_fine (accOk_of h0) (fun hc => (promD_fine hc).1) hc
  rw [e2]
  obtain ⟨p0, p1, p2, p3, p4, _⟩ := promD_fine hcc
  have hso := slotO_same xs (freS c s)
  have hss : sameS (promD (slotO xs (freS c s)) b).slot (freS c s) = true := sameS_iff.2 ⟨p1.trans hso.1, p2.trans hso.2⟩
  rw [slotO_put (accOk_of h0) ok hss]
  exact ⟨one_put h p0 hss, p3, p4⟩
theorem prom_zero {xs : List Slt} {c s b : Int} (h : One xs c s) (hid : idOk c s = true) (hb : inB b 0 1000 = true) (hp : ¬ b < (slotO xs (freS c s)).pr) : (promAtD xs c s b).code = 0 := by
  have hf := slotO_ok (accOk_of h.ok) hid
  unfold promAtD
  rw [if_pos h.ok, if_pos hid, promD_ok hf hb hp, toldD_ok rfl (putS_few h _)]
theorem acc_zero {xs : List Slt} {c s b v : Int} (h : One xs c s) (hid : idOk c s = true) (hv : votB ⟨b, v⟩ = true) (hc : accC (slotO xs (freS c s)) ⟨b, v⟩ = 0) :
    (accAtD xs c s b v).code = 0 ∧ One (accAtD xs c s b v).acc.slots c s ∧ slotO (accAtD xs c s b v).acc.slots (freS c s) = accS (slotO xs (freS c s)) ⟨b, v⟩ := by
  have hf := slotO_ok (accOk_of h.ok) hid
  have hr : (inB b 0 1000 && inB v 1 2) = true := hv
  have e : accAtD xs c s b v = ⟨0, (slotO xs (freS c s)).lb, (slotO xs (freS c s)).lv, ⟨putS xs (accS (slotO xs (freS c s)) ⟨b, v⟩)⟩⟩ := by
    unfold accAtD
    rw [if_pos h.ok, if_pos hid, accD_ok hf hr hc, toldD_ok rfl (putS_few h _)]
  have hfine := accS_fine hf hv hc
  have hso := slotO_same xs (freS c s)
  obtain ⟨_, g1, g2⟩ := accS_gr (d := slotO xs (freS c s)) (b := b) (v := v)
  have hss : sameS (accS (slotO xs (freS c s)) ⟨b, v⟩) (freS c s) = true := sameS_iff.2 ⟨g1.trans hso.1, g2.trans hso.2⟩
  have h1 := one_put h hfine hss
  rw [e]
  exact ⟨rfl, h1, slotO_put (accOk_of h.ok) (accOk_of h1.ok) hss⟩
theorem accS_has {d : Slt} {b v : Int} (hok : SltOk d) (hb : 0 ≤ b) : (⟨b, v⟩ : Vot) ∈ (accS d ⟨b, v⟩).cast ∧ (accS d ⟨b, v⟩).cast.length ≤ d.cast.length + 1 ∧ (accS d ⟨b, v⟩).pr = b := by
  by_cases h : (⟨b, v⟩ : Vot).bal = d.lb ∧ (⟨b, v⟩ : Vot).val = d.lv
  · have e : accS d ⟨b, v⟩ = ⟨d.con, d.sh, b, b, v, d.cast⟩ := by unfold accS; rw [if_pos h]
    rw [e]
    refine ⟨?_, by dsimp only; omega, rfl⟩
    dsimp only at h ⊢
    have hl := hok.last
    have hm := last_mem (xs := d.cast) (by rw [← hl.1, ← h.1]; exact hb)
    have e2 : lastV d.cast d.cast.length = ⟨b, v⟩ := by
      cases hh : lastV d.cast d.cast.length with
      | mk x y =>
        rw [hh] at hl
        dsimp only at hl
        rw [h.1, h.2, hl.1, hl.2]
    rw [e2] at hm
    exact hm
  · have e : accS d ⟨b, v⟩ = ⟨d.con, d.sh, b, b, v, d.cast ++ [⟨b, v⟩]⟩ := by unfold accS; rw [if_neg h]
    rw [e]
    exact ⟨by simp, by simp, rfl⟩
structure Ag (l : List Acc) (c s : Int) (m : Nat) (B v : Int) : Prop where
  ok : ListOk l
  one : ∀ k, k < l.length → One (l.getD k default).slots c s
  cl : ∀ k, k < l.length → (slotO (l.getD k default).slots (freS c s)).cast.length ≤ m
  pr : ∀ k, k < l.length → (slotO (l.getD k default).slots (freS c s)).pr ≤ B
  val : ∀ k, k < l.length → ∀ u ∈ (slotO (l.getD k default).slots (freS c s)).cast, u.val = v
  quo : (∃ k, k < l.length ∧ ¬ (slotO (l.getD k default).slots (freS c s)).cast = []) → ∃ u, isCh (slotsL l c s) u
theorem Ag.inv {l : List Acc} {c s B v : Int} {m : Nat} (h : Ag l c s m B v) (hB : 0 ≤ B) : Inv l c (B + 1) := by
  refine ⟨h.ok, fun k hk s' hid => ?_, fun s' hid u hu k hk w hw _ => ?_⟩
  · by_cases e : s' = s
    · subst e; have := h.pr k hk; omega
    · rw [other_slot (h.one k hk) e]; show (-1 : Int) < B + 1; omega
  · rw [slotsL_len] at hk
    rw [slotsL_at l c s' hk] at hw
    by_cases e : s' = s
    · subst e
      obtain ⟨j, hj, hu'⟩ := isCh_at hu
      rw [h.val k hk w hw, h.val j hj u hu']
    · rw [other_slot (h.one k hk) e] at hw
      simp [freS] at hw
theorem Ag.ch_val {l : List Acc} {c s B v : Int} {m : Nat} (h : Ag l c s m B v) {u : Vot} (hu : isCh (slotsL l c s) u) : u.val = v := by
  obtain ⟨j, hj, hu'⟩ := isCh_at hu
  exact h.val j hj u hu'
def pr1 (c s b : Int) (a : Acc) : Acc := if (promAtD a.slots c s b).code = 0 then (promAtD a.slots c s b).acc else a
def ac1 (c s b v : Int) (a : Acc) : Acc := if (accAtD a.slots c s b v).code = 0 then (accAtD a.slots c s b v).acc else a
theorem prN_at (l : List Acc) (R : List Int) (c s b : Int) (hin : ∀ k, k < R.length → 0 ≤ R.getD k 0 ∧ R.getD k 0 < l.length) (hri : ∀ i j, i < j → j < R.length → R.getD i 0 < R.getD j 0) : ∀ k, k ≤ R.length →
    (∀ j, j < l.length → (∀ i, i < k → ¬ R.getD i 0 = (j : Int)) → (prN l R c s b k).accs.getD j default = l.getD j default) ∧
    (∀ i, i < k → (prN l R c s b k).accs.getD (R.getD i 0).toNat default = pr1 c s b (l.getD (R.getD i 0).toNat default)) ∧
    (∀ a ∈ (prN l R c s b k).did, ∃ i, i < k ∧ R.getD i 0 = a ∧ (promAtD (l.getD a.toNat default).slots c s b).code = 0)
  | 0, _ => ⟨fun j _ _ => rfl, fun i hi => absurd hi (Nat.not_lt_zero _), fun a ha => by simp [prN] at ha⟩
  | k + 1, hk => by
    obtain ⟨h1, h2, h3⟩ := prN_at l R c s b hin hri k (by omega)
    have hk1 := hin k (by omega)
    have hl := prN_len l R c s b k
    have he := h1 (R.getD k 0).toNat (by omega) (fun i hi e => by have := hri i k hi (by omega); omega)
    unfold prN prS
    rw [he]
    by_cases hc : (promAtD (l.getD (R.getD k 0).toNat default).slots c s b).code = 0
    · rw [if_pos hc]
      dsimp only
      refine ⟨fun j hj hn => ?_, fun i hi => ?_, fun a ha => ?_⟩
      · have := hn k (by omega)
        rw [acc_get (by rw [hl]; exact hj), if_neg (by omega)]
        exact h1 j hj (fun i hi => hn i (by omega))
      · have hi1 := hin i (by omega)
        rw [acc_get (by rw [hl]; omega)]
        by_cases e : i = k
        · subst e
          rw [if_pos rfl]
          unfold pr1
          rw [if_pos hc]
        · have := hri i k (by omega) (by omega)
          rw [if_neg (by omega)]
          exact h2 i (by omega)
      · rcases List.mem_append.1 ha with ha | ha
        · obtain ⟨i, hi, e, h⟩ := h3 a ha
          exact ⟨i, by omega, e, h⟩
        · rw [List.mem_singleton] at ha
          subst ha
          exact ⟨k, by omega, rfl, hc⟩
    · rw [if_neg hc]
      refine ⟨fun j hj hn => h1 j hj (fun i hi => hn i (by omega)), fun i hi => ?_, fun a ha => ?_⟩
      · by_cases e : i = k
        · subst e
          rw [he]
          unfold pr1
          rw [if_neg hc]
        · exact h2 i (by omega)
      · obtain ⟨i, hi, e, h⟩ := h3 a ha
        exact ⟨i, by omega, e, h⟩
theorem acN_at (l : List Acc) (Dd : List Int) (c s b v : Int) (hin : ∀ k, k < Dd.length → 0 ≤ Dd.getD k 0 ∧ Dd.getD k 0 < l.length) (hri : ∀ i j, i < j → j < Dd.length → Dd.getD i 0 < Dd.getD j 0) : ∀ k, k ≤ Dd.length →
    (∀ j, j < l.length → (∀ i, i < k → ¬ Dd.getD i 0 = (j : Int)) → (acN l Dd c s b v k).getD j default = l.getD j default) ∧
    (∀ i, i < k → (acN l Dd c s b v k).getD (Dd.getD i 0).toNat default = ac1 c s b v (l.getD (Dd.getD i 0).toNat default))
  | 0, _ => ⟨fun j _ _ => rfl, fun i hi => absurd hi (Nat.not_lt_zero _)⟩
  | k + 1, hk => by
    obtain ⟨h1, h2⟩ := acN_at l Dd c s b v hin hri k (by omega)
    have hk1 := hin k (by omega)
    have hl := acN_len l Dd c s b v k
    have he := h1 (Dd.getD k 0).toNat (by omega) (fun i hi e => by have := hri i k hi (by omega); omega)
    unfold acN acS
    rw [he]
    by_cases hc : (accAtD (l.getD (Dd.getD k 0).toNat default).slots c s b v).code = 0
    · rw [if_pos hc]
      refine ⟨fun j hj hn => ?_, fun i hi => ?_⟩
      · have := hn k (by omega)
        rw [acc_get (by rw [hl]; exact hj), if_neg (by omega)]
        exact h1 j hj (fun i hi => hn i (by omega))
      · have hi1 := hin i (by omega)
        rw [acc_get (by rw [hl]; omega)]
        by_cases e : i = k
        · subst e
          rw [if_pos rfl]
          unfold ac1
          rw [if_pos hc]
        · have := hri i k (by omega) (by omega)
          rw [if_neg (by omega)]
          exact h2 i (by omega)
    · rw [if_neg hc]
      refine ⟨fun j hj hn => h1 j hj (fun i hi => hn i (by omega)), fun i hi => ?_⟩
      by_cases e : i = k
      · subst e
        rw [he]
        unfold ac1
        rw [if_neg hc]
      · exact h2 i (by omega)
theorem rise_all {R : List Int} (h : ∀ k, k + 1 < R.length → R.getD k 0 < R.getD (k + 1) 0) : ∀ j i, i < j → j < R.length → R.getD i 0 < R.getD j 0
  | 0, i, hi, _ => absurd hi (Nat.not_lt_zero _)
  | j + 1, i, hi, hj => by
    have h1 := h j hj
    by_cases e : i = j
    · subst e; exact h1
    · have := rise_all h j i (by omega) (by omega)
      omega
theorem pair_get {ds : List Int} (h : ds.Pairwise (· < ·)) : ∀ i j, i < j → j < ds.length → ds.getD i 0 < ds.getD j 0 := fun i j hij hj => by
  have h1 := List.pairwise_iff_getElem.1 h i j (by omega) hj hij
  rw [List.getD_eq_getElem?_getD, List.getD_eq_getElem?_getD, List.getElem?_eq_getElem (by omega), List.getElem?_eq_getElem hj]
  exact h1
theorem pick_or {own : Int} {xs : List Vot} (n : Nat) (hn : n ≤ xs.length) : (best own xs n).val = own ∨ ∃ i, i < n ∧ best own xs n = xs.getD i default := by
  by_cases h : 0 ≤ (best own xs n).bal
  · exact .inr ((best_max own xs n hn).2 h)
  · exact .inl (by rw [best_no own xs n (by omega)])
theorem Ag.prom {l : List Acc} {R : List Int} {c s b own B v : Int} {m : Nat} (h : Ag l c s m B v) (hb : b ≤ B) (bok : BalOk R l.length b own) : Ag (prN l R c s b R.length).accs c s m B v := by
  have hlen := prN_len l R c s b R.length
  have hcs := prN_cast l R c s b R.length
  obtain ⟨p1, p2, _⟩ := prN_at l R c s b bok.inn (fun i j hij hj => rise_all bok.rise j i hij hj) R.length (Nat.le_refl _)
  have hcase : ∀ j, j < l.length → (prN l R c s b R.length).accs.getD j default = l.getD j default ∨ ((promAtD (l.getD j default).slots c s b).code = 0 ∧ (prN l R c s b R.length).accs.getD j default = (promAtD (l.getD j default).slots c s b).acc) := fun j hj => by
    by_cases hn : ∀ i, i < R.length → ¬ R.getD i 0 = (j : Int)
    · exact .inl (p1 j hj hn)
    · obtain ⟨i, hi⟩ := Classical.not_forall.1 hn
      obtain ⟨hi, e⟩ := Classical.not_imp.1 hi
      have e := Classical.not_not.1 e
      have h2 := p2 i hi
      rw [e, show (j : Int).toNat = j by omega] at h2
      unfold pr1 at h2
      by_cases hc : (promAtD (l.getD j default).slots c s b).code = 0
      · rw [if_pos hc] at h2
        exact .inr ⟨hc, h2⟩
      · rw [if_neg hc] at h2
        exact .inl h2
  refine ⟨prN_ok R c s b h.ok R.length, fun k hk => ?_, fun k hk => ?_, fun k hk => ?_, fun k hk u hu => ?_, fun ⟨k, hk, hne⟩ => ?_⟩
  · rw [hlen] at hk
    rcases hcase k hk with e | ⟨hc, e⟩
    · rw [e]; exact h.one k hk
    · rw [e]; exact (prom_one (h.one k hk) hc).1
  · rw [hlen] at hk
    rw [hcs k hk s]; exact h.cl k hk
  · rw [hlen] at hk
    rcases hcase k hk with e | ⟨hc, e⟩
    · rw [e]; exact h.pr k hk
    · rw [e, (prom_one (h.one k hk) hc).2.2]; exact hb
  · rw [hlen] at hk
    rw [hcs k hk s] at hu; exact h.val k hk u hu
  · rw [hlen] at hk
    rw [hcs k hk s] at hne
    obtain ⟨u, hu⟩ := h.quo ⟨k, hk, hne⟩
    exact ⟨u, isCh_of hlen (fun j hj hc => by rw [hcs j hj s]; exact hc) hu⟩
theorem run_ag {l : List Acc} {R : List Int} {c s b own B v : Int} {m : Nat} (h : Ag l c s m B v) (hid : idOk c s = true) (hB : 0 ≤ B) (hbB : b ≤ B) (hm : m < 60) (hb : balF R l.length b own = 0) :
    (runD l R c s b own).accs.length = l.length ∧ ((runD l R c s b own).code = 0 ∨ (runD l R c s b own).code = 4) ∧ ∃ v', Ag (runD l R c s b own).accs c s (m + 1) B v' ∧
      ((runD l R c s b own).code = 0 → (runD l R c s b own).value = v' ∧ ∃ u, isCh (slotsL (runD l R c s b own).accs c s) u) ∧ (∀ u, isCh (slotsL l c s) u → isCh (slotsL (runD l R c s b own).accs c s) u) ∧
      (quoV l.length ≤ ((prN l R c s b R.length).did.length : Int) → (runD l R c s b own).code = 0) := by
  have hfc : freC l c s = 0 := by unfold freC; rw [if_pos (listF_ok h.ok), if_pos hid]
  have bok := balOk_of hb
  have hinv := h.inv hB
  have hD := prN_Did l R c s b h.ok bok.inn R.length (Nat.le_refl _)
  have hri := (prN_rise l R c s b bok.rise R.length (Nat.le_refl _)).1
  have hpk := h.prom hbB bok
  have hlen := prN_len l R c s b R.length
  have hcs := prN_cast l R c s b R.length
  obtain ⟨_, q2, q3⟩ := prN_at l R c s b bok.inn (fun i j hij hj => rise_all bok.rise j i hij hj) R.length (Nat.le_refl _)
  have hpr : ∀ a ∈ (prN l R c s b R.length).did, (slotO ((prN l R c s b R.length).accs.getD a.toNat default).slots (freS c s)).pr = b := fun a ha => by
    obtain ⟨i, hi, e, hc⟩ := q3 a ha
    have h2 := q2 i hi
    rw [e] at h2
    unfold pr1 at h2
    rw [if_pos hc] at h2
    have hin := hD.inn a ha
    rw [h2]
    exact (prom_one (h.one a.toNat (by omega)) hc).2.2
  have hb0 : inB b 0 1000 = true ∧ inB own 1 2 = true := by have := bok.vote; unfold votB at this; simpa using this
  have hbb := inBi.1 hb0.1
  have hmono : ∀ u, isCh (slotsL l c s) u → isCh (slotsL (prN l R c s b R.length).accs c s) u := fun u hu => isCh_of hlen (fun j hj hc => by rw [hcs j hj s]; exact hc) hu
  unfold runD
  rw [if_pos hfc, if_pos hb]
  clear q2 q3
  generalize prN l R c s b R.length = P at *
  by_cases hq : (P.did.length : Int) < quoV l.length
  · rw [if_pos hq]
    dsimp only
    exact ⟨hlen, .inr rfl, v, ⟨hpk.ok, hpk.one, fun k hk => Nat.le_succ_of_le (hpk.cl k hk), hpk.pr, hpk.val, hpk.quo⟩, fun e => absurd e (by omega), hmono, fun hh => absurd hh (by omega)⟩
  · rw [if_neg hq]
    dsimp only
    obtain ⟨v', hv'⟩ : ∃ v', v' = (best own P.old P.old.length).val := ⟨_, rfl⟩
    rw [← hv']
    have hokD : ∀ k, k < l.length → SltOk (slotO (l.getD k default).slots (freS c s)) := fun k hk => sltOk_of (slotO_ok (accOk_of (h.one k hk).ok) hid)
    have hokP : ∀ k, k < P.accs.length → SltOk (slotO (P.accs.getD k default).slots (freS c s)) := fun k hk => sltOk_of (slotO_ok (accOk_of (hpk.one k hk).ok) hid)
    have hvv : inB v' 1 2 = true := by
      rcases pick_or (own := own) (xs := P.old) P.old.length (Nat.le_refl _) with e | ⟨i, hi, e⟩
      · rw [hv', e]; exact hb0.2
      · by_cases hz : 0 ≤ (best own P.old P.old.length).bal
        · rw [hD.len] at hi
          have ho := hD.at_ i hi
          have hin := hD.inn (P.did.getD i 0) (by simp [List.getD, hi])
          rw [e, ho] at hz
          have hmem := last_mem hz
          obtain ⟨t, ht, e3⟩ := getD_of_mem hmem
          have hvb := (hokD (P.did.getD i 0).toNat (by omega)).at_ t ht
          rw [hv', e, ho, ← e3]
          have := votB_iff.1 hvb.1
          exact inBi.2 this.2
        · have e4 := best_no own P.old P.old.length (by omega)
          rw [hv', e4]; exact hb0.2
    have hvot : votB ⟨b, v'⟩ = true := by unfold votB; rw [hb0.1, hvv]; rfl
    have hold : ∀ k, k < l.length → ∀ u ∈ (slotO (l.getD k default).slots (freS c s)).cast, u.val = v' := fun k hk u hu => by
      obtain ⟨z, hz⟩ := h.quo ⟨k, hk, fun e => by rw [e] at hu; cases hu⟩
      have h1 := picked (own := own) hinv hid hD hri (by omega) hz
      rw [h.val k hk u hu, hv', h1, h.ch_val hz]
    have hin : ∀ k, k < P.did.length → 0 ≤ P.did.getD k 0 ∧ P.did.getD k 0 < P.accs.length := fun k hk => by
      have := hD.inn (P.did.getD k 0) (by simp [List.getD, hk])
      rw [hlen]; exact this
    obtain ⟨a1, a2⟩ := acN_at P.accs P.did c s b v' hin (pair_get hri) P.did.length (Nat.le_refl _)
    have hlen2 := acN_len P.accs P.did c s b v' P.did.length
    have hdid : ∀ i, i < P.did.length → (accAtD (P.accs.getD (P.did.getD i 0).toNat default).slots c s b v').code = 0 ∧ One (accAtD (P.accs.getD (P.did.getD i 0).toNat default).slots c s b v').acc.slots c s ∧ slotO (accAtD (P.accs.getD (P.did.getD i 0).toNat default).slots c s b v').acc.slots (freS c s) = accS (slotO (P.accs.getD (P.did.getD i 0).toNat default).slots (freS c s)) ⟨b, v'⟩ := fun i hi => by
      have hi1 := hin i hi
      have hp := hpr (P.did.getD i 0) (by simp [List.getD, hi])
      have hcl := hpk.cl (P.did.getD i 0).toNat (by omega)
      have hk := hokP (P.did.getD i 0).toNat (by omega)
      refine acc_zero (hpk.one _ (by omega)) hid hvot ?_
      by_cases e1 : b = (slotO (P.accs.getD (P.did.getD i 0).toNat default).slots (freS c s)).lb
      · refine accC_same (by dsimp only; rw [hp]; omega) e1 ?_
        have hl := hk.last
        have hm := last_mem (xs := (slotO (P.accs.getD (P.did.getD i 0).toNat default).slots (freS c s)).cast) (by rw [← hl.1, ← e1]; omega)
        rw [hcs _ (by rw [hlen] at hi1; omega) s] at hm
        have := hold (P.did.getD i 0).toNat (by rw [hlen] at hi1; omega) _ hm
        rw [hl.2, hcs _ (by rw [hlen] at hi1; omega) s, this]
      · exact accC_new (by dsimp only; rw [hp]; omega) e1 (by omega)
    have hcase : ∀ j, j < P.accs.length → ((acN P.accs P.did c s b v' P.did.length).getD j default = P.accs.getD j default) ∨ (One ((acN P.accs P.did c s b v' P.did.length).getD j default).slots c s ∧ slotO ((acN P.accs P.did c s b v' P.did.length).getD j default).slots (freS c s) = accS (slotO (P.accs.getD j default).slots (freS c s)) ⟨b, v'⟩) := fun j hj => by
      by_cases hn : ∀ i, i < P.did.length → ¬ P.did.getD i 0 = (j : Int)
      · exact .inl (a1 j hj hn)
      · obtain ⟨i, hi⟩ := Classical.not_forall.1 hn
        obtain ⟨hi, e⟩ := Classical.not_imp.1 hi
        have e := Classical.not_not.1 e
        have h2 := a2 i hi
        have h3 := hdid i hi
        rw [e, show (j : Int).toNat = j by omega] at h2 h3
        unfold ac1 at h2
        rw [if_pos h3.1] at h2
        rw [h2]
        exact .inr h3.2
    have hhas : ∀ i, i < P.did.length → (⟨b, v'⟩ : Vot) ∈ (slotO ((acN P.accs P.did c s b v' P.did.length).getD (P.did.getD i 0).toNat default).slots (freS c s)).cast := fun i hi => by
      have h3 := hdid i hi
      have h2 := a2 i hi
      unfold ac1 at h2
      rw [if_pos h3.1] at h2
      rw [h2, h3.2.2]
      exact (accS_has (hokP _ (by have := hin i hi; omega)) hbb.1).1
    have hch : isCh (slotsL (acN P.accs P.did c s b v' P.did.length) c s) ⟨b, v'⟩ := by
      have hlA : (slotsL (acN P.accs P.did c s b v' P.did.length) c s).length = l.length := by rw [slotsL_len, hlen2, hlen]
      have hcnt := cnt_mem l.length P.did hri hD.inn
      unfold isCh cntV
      rw [hlA]
      have := cntP_mono (p := fun k => decide ((k : Int) ∈ P.did)) (q := fun k => hasV ((slotsL (acN P.accs P.did c s b v' P.did.length) c s).getD k default) ⟨b, v'⟩) (n := l.length) (fun k hk hp => by
        have hm := of_decide_eq_true hp
        obtain ⟨i, hi, e⟩ := List.getElem_of_mem hm
        have ei : P.did.getD i 0 = k := by simp [List.getD, hi, e]
        have h4 := hhas i hi
        rw [ei, show (k : Int).toNat = k by omega] at h4
        refine hasV_iff.2 ?_
        rw [slotsL_at _ c s (by rw [hlen2, hlen]; exact hk)]
        exact h4)
      omega
    refine ⟨by rw [hlen2, hlen], .inl rfl, v', ⟨acN_ok P.did c s b v' hpk.ok _, fun k hk => ?_, fun k hk => ?_, fun k hk => ?_, fun k hk u hu => ?_, fun _ => ⟨_, hch⟩⟩, fun _ => ⟨rfl, _, hch⟩, fun u hu => ?_, fun _ => rfl⟩
    · rw [hlen2] at hk
      rcases hcase k hk with e | ⟨e, _⟩
      · rw [e]; exact hpk.one k hk
      · exact e
    · rw [hlen2] at hk
      rcases hcase k hk with e | ⟨_, e⟩
      · rw [e]; have := hpk.cl k hk; omega
      · rw [e]; have := (accS_has (b := b) (v := v') (hokP k hk) hbb.1).2.1; have := hpk.cl k hk; omega
    · rw [hlen2] at hk
      rcases hcase k hk with e | ⟨_, e⟩
      · rw [e]; exact hpk.pr k hk
      · rw [e, (accS_has (b := b) (v := v') (hokP k hk) hbb.1).2.2]; exact hbB
    · rw [hlen2] at hk
      have hkl : k < l.length := by rw [← hlen]; exact hk
      rcases hcase k hk with e | ⟨_, e⟩
      · rw [e, hcs k hkl s] at hu; exact hold k hkl u hu
      · rw [e] at hu
        rcases (accS_gr (d := slotO (P.accs.getD k default).slots (freS c s)) (b := b) (v := v')).1.new u hu with h5 | h5
        · rw [hcs k hkl s] at h5; exact hold k hkl u h5
        · rw [h5]
    · refine isCh_of (by rw [hlen2]) (fun j hj hc => ?_) (hmono u hu)
      rcases hcase j hj with e | ⟨_, e⟩
      · rw [e]; exact hc
      · rw [e]; exact accS_gr.1.keep u hc
theorem prN_all {l : List Acc} {R : List Int} {c s b : Int} (hin : ∀ k, k < R.length → 0 ≤ R.getD k 0 ∧ R.getD k 0 < l.length) (hri : ∀ i j, i < j → j < R.length → R.getD i 0 < R.getD j 0) (hc : ∀ k, k < R.length → (promAtD (l.getD (R.getD k 0).toNat default).slots c s b).code = 0) : ∀ k, k ≤ R.length → (prN l R c s b k).did.length = k
  | 0, _ => rfl
  | k + 1, hk => by
    have ih := prN_all hin hri hc k (by omega)
    obtain ⟨h1, _, _⟩ := prN_at l R c s b hin hri k (by omega)
    have hk1 := hin k (by omega)
    have he := h1 (R.getD k 0).toNat (by omega) (fun i hi e => by have := hri i k hi (by omega); omega)
    unfold prN prS
    rw [he, if_pos (hc k (by omega))]
    simp [ih]
theorem Ag.wide {l : List Acc} {c s B B' v : Int} {m : Nat} (h : Ag l c s m B v) (hB : B ≤ B') : Ag l c s m B' v :=
  ⟨h.ok, h.one, h.cl, fun k hk => by have := h.pr k hk; omega, h.val, h.quo⟩
theorem hdV_is {l : List Acc} {c s B v : Int} {m : Nat} {ys : List Vot} (h : Ag l c s m B v) (hys : Chs (slotsL l c s) ys) {u : Vot} (hu : isCh (slotsL l c s) u) : hdV ys = v := by
  cases ys with
  | nil => exact absurd ((hys.mem u).2 hu) (by simp)
  | cons u' ys =>
    show u'.val = v
    exact h.ch_val ((hys.mem u').1 (by simp))
theorem hdV_ch {l : List Acc} {c s : Int} {ys : List Vot} (hys : Chs (slotsL l c s) ys) (h0 : ¬ hdV ys = 0) : ∃ u, isCh (slotsL l c s) u ∧ u.val = hdV ys := by
  cases ys with
  | nil => simp [hdV] at h0
  | cons u ys => exact ⟨u, (hys.mem u).1 (by simp), rfl⟩
end Go.Proofs.Yteppnppknfldbaa

/-
  Rows of bytes: copied, compared, counted, marked and read back.
-/
namespace Go.Proofs.Yteppnppknfldbaa
open Go.RowKit
attribute [local go_sem ↓] Go.wp_at_zero Go.wp_at_succ

abbrev Byte := Fin 256
def toB (n : Int) : Byte := ⟨(n % 256).toNat, by omega⟩
theorem toB_val (n : Int) : ((toB n).val : Int) = n % 256 := by simp only [toB]; omega
def bytesC (ys : List Byte) : List Value := ys.map (fun b => Value.int .u8 (b.val : Int))
theorem get_bytesC (ys : List Byte) (i : Nat) (h : i < ys.length) : (bytesC ys)[i]? = some (.int .u8 ((ys.getD i 0).val : Int)) := by
  simp [bytesC, List.getD, h]
def BytesV (w : World) (v : Value) (ys : List Byte) : Prop :=
  ∃ a cap, v = .slice a ys.length cap ∧ ys.length ≤ cap ∧ cap ≤ maxLen ∧ ∀ i, i < ys.length → ∃ b o, a = some ⟨b, o, none⟩ ∧ w.cell? ⟨b, o + i, none⟩ = some (.int .u8 ((ys.getD i 0).val : Int))
theorem BytesV_below {w w' : World} {v : Value} {ys : List Byte} (h : BytesV w v ys) (hb : Below w.heap.size w w') : BytesV w' v ys := by
  obtain ⟨a, cap, rfl, h1, h2, h3⟩ := h
  exact ⟨a, cap, rfl, h1, h2, fun i hi => by
    obtain ⟨b, o, ha, hc⟩ := h3 i hi
    exact ⟨b, o, ha, cell_keep hb hc⟩⟩
theorem BytesV_of_owns {w : World} {base e : Nat} {v : Value} {ys : List Byte} (h : w.ownsRow base e 1 v ys.length (bytesC ys)) : BytesV w v ys := by
  rcases h.2 with ⟨rfl, hn⟩ | ⟨g, cap, cur, rfl, hb, hg, hnc, hcm, hcs, htake⟩
  · exact ⟨none, 0, by rw [hn], by omega, by unfold maxLen; omega, fun i hi => by omega⟩
  · refine ⟨some ⟨g, 0, none⟩, cap, rfl, hnc, hcm, fun i hi => ⟨g, 0, rfl, ?_⟩⟩
    rw [Nat.zero_add]
    exact (h.cellAt i (by omega)).trans (get_bytesC ys i hi)
end Go.Proofs.Yteppnppknfldbaa


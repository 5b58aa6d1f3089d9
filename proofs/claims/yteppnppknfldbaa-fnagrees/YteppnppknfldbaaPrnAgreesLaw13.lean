import Derived.Test.YteppnppknfldbaaPrnAgreesLaw12
import Derived.Test.YteppnppknfldbaaPrnAgreesLaw4
import Derived.Maps.OwnSet
import Derived.DeepKeys4
import Derived.WideKeyEntry
import Derived.Test.YteppnppknfldbaaPrnAgreesLaw3
import Derived.Deep.RegionHeld3
import Derived.Deep.DrawnRows
import Derived.Deep.AppendLies
import Derived.RegionTactic
import Derived.ChangeAlike
import Derived.BigRegion

/-
  A value that is chosen stays so.
-/
namespace Go.Proofs.Yteppnppknfldbaa
open Go.RowKit
set_option linter.unusedSectionVars false
variable [DecidableEq Vot] [Inhabited Vot] [DecidableEq Slt] [Inhabited Slt] [DecidableEq SltR] [Inhabited SltR] [DecidableEq Bal] [Inhabited Bal] [DecidableEq Ledg] [Inhabited Ledg] [DecidableEq Leg] [Inhabited Leg] [DecidableEq Acc] [Inhabited Acc] [DecidableEq AccR] [Inhabited AccR] [DecidableEq AccsR] [Inhabited AccsR] [DecidableEq SltsR] [Inhabited SltsR]

theorem acc_get {l : List Acc} {i k : Nat} {a : Acc} (hk : k < l.length) : (l.set i a).getD k default = if i = k then a else l.getD k default := by
  by_cases e : i = k
  · subst e; rw [if_pos rfl]; simp [hk]
  · rw [if_neg e]; simp [List.getElem?_set_ne e]
def Grs (c b v : Int) (l l' : List Acc) : Prop := l'.length = l.length ∧ ∀ k, k < l.length → ∀ s', Gr b v (slotO (l.getD k default).slots (freS c s')) (slotO (l'.getD k default).slots (freS c s'))
theorem Grs.rfl' {c b v : Int} {l : List Acc} : Grs c b v l l := ⟨rfl, fun _ _ _ => Gr.rfl'⟩
theorem Grs.trans {c b v : Int} {l l' l'' : List Acc} (h : Grs c b v l l') (h' : Grs c b v l' l'') : Grs c b v l l'' :=
  ⟨h'.1.trans h.1, fun k hk s' => (h.2 k hk s').trans (h'.2 k (by rw [h.1]; exact hk) s')⟩
theorem Grs.put {c b v : Int} {l : List Acc} {i : Nat} {a : Acc} (h : ∀ s', Gr b v (slotO (l.getD i default).slots (freS c s')) (slotO a.slots (freS c s'))) : Grs c b v l (l.set i a) := by
  refine ⟨List.length_set, fun k hk s' => ?_⟩
  rw [acc_get hk]
  by_cases e : i = k
  · subst e; rw [if_pos rfl]; exact h s'
  · rw [if_neg e]; exact Gr.rfl'
theorem promAt_cast {xs : List Slt} {c s b : Int} (h : (promAtD xs c s b).code = 0) (s' : Int) : (slotO (promAtD xs c s b).acc.slots (freS c s')).cast = (slotO xs (freS c s')).cast := by
  obtain ⟨h0, h1, e⟩ := promAtD_told h
  rw [e] at h ⊢
  obtain ⟨hc, e2, ok, _⟩ := toldD_fine (accOk_of h0) (fun hc => (promD_fine hc).1) h
  rw [e2]
  obtain ⟨_, p1, p2, p3, p4, _⟩ := promD_fine hc
  have hso := slotO_same xs (freS c s)
  by_cases hs : s' = s
  · subst hs
    rw [slotO_put (accOk_of h0) ok (sameS_iff.2 ⟨p1.trans hso.1, p2.trans hso.2⟩), p3]
  · rw [slotO_rest (accOk_of h0) ok]
    cases e3 : sameS (promD (slotO xs (freS c s)) b).slot (freS c s') with
    | false => rfl
    | true => exact absurd ((sameS_iff.1 e3).2.symm.trans (p2.trans hso.2)) hs
theorem prN_cast (l : List Acc) (R : List Int) (c s b : Int) : ∀ k j, j < l.length → ∀ s', (slotO ((prN l R c s b k).accs.getD j default).slots (freS c s')).cast = (slotO (l.getD j default).slots (freS c s')).cast
  | 0, _, _, _ => rfl
  | k + 1, j, hj, s' => by
    have ih := prN_cast l R c s b k j hj s'
    have hl := prN_len l R c s b k
    unfold prN prS
    split
    · rename_i h
      dsimp only
      rw [acc_get (by rw [hl]; exact hj)]
      by_cases e : (R.getD k 0).toNat = j
      · rw [if_pos e]
        rw [← ih]
        subst e
        exact promAt_cast h s'
      · rw [if_neg e]; exact ih
    · exact ih
structure Did (l : List Acc) (c s : Int) (st : Pst) : Prop where
  len : st.old.length = st.did.length
  inn : ∀ a ∈ st.did, 0 ≤ a ∧ a < l.length
  at_ : ∀ i, i < st.did.length → st.old.getD i default = lastV (slotO (l.getD (st.did.getD i 0).toNat default).slots (freS c s)).cast (slotO (l.getD (st.did.getD i 0).toNat default).slots (freS c s)).cast.length
theorem prN_Did (l : List Acc) (R : List Int) (c s b : Int) (hl : ListOk l) (hr : ∀ k, k < R.length → 0 ≤ R.getD k 0 ∧ R.getD k 0 < l.length) : ∀ k, k ≤ R.length → Did l c s (prN l R c s b k)
  | 0, _ => ⟨rfl, fun a ha => by simp [prN] at ha, fun i hi => by simp [prN] at hi⟩
  | k + 1, hk => by
    have ih := prN_Did l R c s b hl hr k (by omega)
    have hin := hr k (by omega)
    have hc := prN_cast l R c s b k (R.getD k 0).toNat (by omega) s
    have hok := (prN_ok R c s b hl k).ok (R.getD k 0).toNat (by rw [prN_len]; omega)
    unfold prN prS
    split
    · rename_i h
      obtain ⟨h0, h1, _⟩ := promAtD_told h
      obtain ⟨o1, o2⟩ := promAt_old h
      have sok := sltOk_of (slotO_ok (accOk_of h0) h1)
      refine ⟨by simp [ih.len], fun a ha => ?_, fun i hi => ?_⟩
      · simp only [List.mem_append, List.mem_singleton] at ha
        rcases ha with ha | ha
        · exact ih.inn a ha
        · rw [ha]; exact hin
      · dsimp only at hi ⊢
        rw [List.length_append, List.length_singleton] at hi
        by_cases e : i < (prN l R c s b k).did.length
        · have e1 := ih.at_ i e
          have e2 : ((prN l R c s b k).did ++ [R.getD k 0]).getD i 0 = (prN l R c s b k).did.getD i 0 := by
            simp only [List.getD_eq_getElem?_getD]; rw [List.getElem?_append_left e]
          rw [e2, ← e1]
          simp only [List.getD_eq_getElem?_getD]
          rw [List.getElem?_append_left (by rw [ih.len]; exact e)]
        · obtain rfl : i = (prN l R c s b k).did.length := by omega
          have e2 : ((prN l R c s b k).did ++ [R.getD k 0]).getD (prN l R c s b k).did.length 0 = R.getD k 0 := by simp
          rw [e2, ← hc]
          have e3 : ∀ z : Vot, ((prN l R c s b k).old ++ [z]).getD (prN l R c s b k).did.length default = z := fun z => by rw [← ih.len]; simp
          rw [e3, o1, o2, sok.last.1, sok.last.2]
    · exact ih
theorem best_max (own : Int) (xs : List Vot) : ∀ n, n ≤ xs.length → (∀ i, i < n → (xs.getD i default).bal ≤ (best own xs n).bal) ∧ (0 ≤ (best own xs n).bal → ∃ i, i < n ∧ best own xs n = xs.getD i default)
  | 0, _ => ⟨fun i hi => by omega, fun h => by simp [best] at h⟩
  | n + 1, hn => by
    obtain ⟨h1, h2⟩ := best_max own xs n (by omega)
    unfold best
    by_cases e : (best own xs n).bal < (xs.getD n default).bal
    · rw [if_pos e]
      refine ⟨fun i hi => ?_, fun _ => ⟨n, by omega, rfl⟩⟩
      by_cases ei : i < n
      · have := h1 i ei; omega
      · obtain rfl : i = n := by omega
        exact Int.le_refl _
    · rw [if_neg e]
      refine ⟨fun i hi => ?_, fun h => ?_⟩
      · by_cases ei : i < n
        · exact h1 i ei
        · obtain rfl : i = n := by omega
          omega
      · obtain ⟨i, hi, e2⟩ := h2 h
        exact ⟨i, by omega, e2⟩
theorem cnt_mem : ∀ (n : Nat) (ds : List Int), ds.Pairwise (· < ·) → (∀ a ∈ ds, 0 ≤ a ∧ a < n) → ds.length ≤ cntP (fun k => decide ((k : Int) ∈ ds)) n
  | 0, ds, _, h => by
    cases ds with
    | nil => simp
    | cons a ds => have := h a (by simp); omega
  | n + 1, ds, hp, h => by
    have hf := cnt_mem n (ds.filter (fun a => decide (a < (n : Int)))) (hp.filter _) (fun a ha => by
      rw [List.mem_filter] at ha
      have h1 := h a ha.1
      have h2 := of_decide_eq_true ha.2
      omega)
    have he : cntP (fun k => decide ((k : Int) ∈ ds.filter (fun a => decide (a < (n : Int))))) n = cntP (fun k => decide ((k : Int) ∈ ds)) n := by
      have : ∀ m, m ≤ n → cntP (fun k => decide ((k : Int) ∈ ds.filter (fun a => decide (a < (n : Int))))) m = cntP (fun k => decide ((k : Int) ∈ ds)) m := by
        intro m
        induction m with
        | zero => intro _; rfl
        | succ m ih =>
          intro hm
          have hiff : decide ((m : Int) ∈ ds.filter (fun a => decide (a < (n : Int)))) = decide ((m : Int) ∈ ds) := by
            rw [decide_eq_decide, List.mem_filter]
            exact ⟨fun h => h.1, fun h => ⟨h, decide_eq_true (by omega)⟩⟩
          unfold cntP
          rw [ih (by omega), hiff]
      exact this n (Nat.le_refl _)
    rw [he] at hf
    unfold cntP
    by_cases hn : (n : Int) ∈ ds
    · rw [decide_eq_true hn, if_pos rfl]
      have hlen : ds.length ≤ (ds.filter (fun a => decide (a < (n : Int)))).length + 1 := by
        clear hf he
        induction ds with
        | nil => simp
        | cons a ds ih =>
          rw [List.pairwise_cons] at hp
          by_cases ha : a < (n : Int)
          · rw [List.filter_cons_of_pos (by simpa using ha)]
            have hn' : (n : Int) ∈ ds := by
              rcases List.mem_cons.1 hn with e | e
              · omega
              · exact e
            have := ih hp.2 (fun a' ha' => h a' (List.mem_cons_of_mem _ ha')) hn'
            simp only [List.length_cons]
            omega
          · have han : a = n := by have := h a (by simp); omega
            cases ds with
            | nil => simp
            | cons a' ds => have h1 := hp.1 a' (by simp); have h2 := h a' (by simp); omega
      omega
    · rw [decide_eq_false hn, if_neg (by simp)]
      have hlen : (ds.filter (fun a => decide (a < (n : Int)))) = ds := List.filter_eq_self.2 (fun a ha => by
        have h1 := h a ha
        have h2 : ¬ a = (n : Int) := fun e => hn (e ▸ ha)
        exact decide_eq_true (by omega))
      rw [hlen] at hf
      omega
end Go.Proofs.Yteppnppknfldbaa

/-
  A map whose keys are votes: what it holds, vote by vote; looked up, an entry taken, stored.
-/
set_option linter.unusedVariables false
set_option linter.unusedSimpArgs false
namespace Go.Proofs.Yteppnppknfldbaa
open Go.RowKit Go.Maps Go.WideElems Go.ChangeMaps
set_option linter.unusedSectionVars false
variable [DecidableEq Vot] [Inhabited Vot] [DecidableEq Slt] [Inhabited Slt] [DecidableEq SltR] [Inhabited SltR] [DecidableEq Bal] [Inhabited Bal] [DecidableEq Ledg] [Inhabited Ledg] [DecidableEq Leg] [Inhabited Leg]
open Go.WideMaps (KeyLaw)

def vv (x : Vot) : Value := .agg #[.int .i64 x.bal, .int .i64 x.val]
def vwf (x : Vot) : Prop := (Lit.int .i64 x.bal).wf = true ∧ (Lit.int .i64 x.val).wf = true
theorem wfv {n : Int} (h0 : -9223372036854775808 ≤ n) (h1 : n ≤ 9223372036854775807) : (Lit.int .i64 n).wf = true := by
  simp [Lit.wf, IntKind.min, IntKind.max, IntKind.signed, IntKind.bits]
  omega
theorem vwf_ok {x : Vot} (h : votB x = true) : vwf x := by
  have := votB_iff.1 h
  exact ⟨wfv (by omega) (by omega), wfv (by omega) (by omega)⟩
set_option maxRecDepth 20000 in
theorem votWide : (match Try.prog.underlying 40 with | some (.array _ _) | some (.struct _) => true | _ => false) = true := by rw [Try.underlying40]
set_option maxRecDepth 100000 in
theorem votK : KeyLaw Try.prog 40 := deep_law_laid laidOut (m := 2) (by omega) (of_decide_eq_true (by kernel_rfl)) (by kernel_rfl) votWide
theorem votLaw : Keyed Try.prog 40 := Keyed.of_law votK
theorem votCellsN : Try.prog.cellsOf 40 = 2 := by kernel_rfl
theorem votType : Try.prog.keyType 40 = true := by kernel_rfl
theorem votDepth : ∃ d, Try.prog.types.size + 1 = d + 1 + 1 := ⟨Try.prog.types.size - 1, by have h : 0 < Try.prog.types.size := of_decide_eq_true (by kernel_rfl); omega⟩
theorem numLits (d : Nat) (n : Int) (h : (Lit.int .i64 n).wf = true) : Try.prog.keyLits (d + 1) 2 [.int .i64 n] = some [.int .i64 n] := by
  unfold Program.keyLits
  rw [Try.underlying2]
  simp [h]
set_option maxRecDepth 20000 in
theorem keyOf_vv {x : Vot} (h : vwf x) : ∃ kl, keyOf Try.prog 40 (vv x) = some kl := by
  obtain ⟨d, hd⟩ := votDepth
  obtain ⟨h0, h1⟩ := h
  have hc : Try.prog.cellsOf 2 = 1 := by kernel_rfl
  have hf : (vv x).formed Try.prog 40 = true := by simp [vv, Value.formed, Try.underlying40, votCellsN]
  have hl : Try.prog.keyLits (Try.prog.types.size + 1) 40 (vv x).cells.toList = some [.int .i64 x.bal, .int .i64 x.val] := by
    rw [hd]
    unfold Program.keyLits
    rw [Try.underlying40]
    simp [vv, Value.cells, votCellsN, hc, numLits d x.bal h0, numLits d x.val h1]
  unfold keyOf
  rw [Try.underlying40]
  dsimp only
  rw [if_pos (by rw [votType, hf]; rfl), hl]
  exact ⟨_, rfl⟩
set_option maxRecDepth 20000 in
theorem numLits_inv {d : Nat} {c : Value} {l : List Lit} (h : Try.prog.keyLits (d + 1) 2 [c] = some l) : ∃ n, c = .int .i64 n ∧ (Lit.int .i64 n).wf = true := by
  unfold Program.keyLits at h
  rw [Try.underlying2] at h
  cases c <;> simp at h
  obtain ⟨⟨rfl, hw⟩, _⟩ := h
  exact ⟨_, rfl, hw⟩
set_option maxRecDepth 20000 in
theorem vv_of_key {v : Value} {kl : Lit} (h : keyOf Try.prog 40 v = some kl) : ∃ x, v = vv x ∧ vwf x := by
  obtain ⟨xs, L, rfl, hl, _⟩ := keyOf_top votWide h
  obtain ⟨d, hd⟩ := votDepth
  have hc : Try.prog.cellsOf 2 = 1 := by kernel_rfl
  rw [hd] at hl
  unfold Program.keyLits at hl
  rw [Try.underlying40] at hl
  simp only [votCellsN, hc] at hl
  split at hl
  · rename_i h3
    obtain ⟨l⟩ := xs
    match l, h3.1 with
    | [c0, c1], _ =>
      simp [hc] at hl
      cases e0 : Try.prog.keyLits (d + 1) 2 [c0] with
      | none => simp [e0] at hl
      | some l0 =>
        cases e1 : Try.prog.keyLits (d + 1) 2 [c1] with
        | none => simp [e0, e1] at hl
        | some l1 =>
          obtain ⟨n0, rfl, w0⟩ := numLits_inv e0
          obtain ⟨n1, rfl, w1⟩ := numLits_inv e1
          exact ⟨⟨n0, n1⟩, rfl, w0, w1⟩
  · cases hl
theorem vv_inj {x y : Vot} (h : vv x = vv y) : x = y := by
  obtain ⟨a, b⟩ := x
  obtain ⟨c, d⟩ := y
  simpa [vv] using h
def Bkv (w : World) (b n : Nat) (f : Vot → Option Int) : Prop :=
  ∃ D : DataW Unit, w.ownsMap Try.prog 40 (plainElem Try.prog 2) b n D ∧
    ∀ x kl, keyOf Try.prog 40 (vv x) = some kl → Maps.has D kl = (f x).isSome ∧ D.atKey kl (.lit (.int .i64 0)) = .lit (.int .i64 ((f x).getD 0))
def updV1 (f : Vot → Option Int) (x : Vot) (v : Option Int) : Vot → Option Int := fun y => if decide (y.bal = x.bal) && decide (y.val = x.val) then v else f y
theorem updV1_at (f : Vot → Option Int) (x : Vot) (v : Option Int) : updV1 f x v x = v := by unfold updV1; rw [if_pos (vot_eq.2 rfl)]
theorem updV1_ne (f : Vot → Option Int) {x y : Vot} (v : Option Int) (h : ¬ y = x) : updV1 f x v y = f y := by unfold updV1; rw [if_neg (fun e => h (vot_eq.1 e))]
theorem bkv_made (w : World) : Bkv (w.alloc (.map #[] 0)) w.heap.size 0 (fun _ => none) :=
  ⟨_, World.ownsMap_made w _ _ _, fun _ _ _ => ⟨rfl, rfl⟩⟩
theorem Bkv.lt {w : World} {b n : Nat} {f : Vot → Option Int} (h : Bkv w b n f) : b < w.heap.size := by
  obtain ⟨D, hD, _⟩ := h; exact hD.lt
theorem Bkv.kept {w w' : World} {b n : Nat} {f : Vot → Option Int} {row : Option Nat} (h : Bkv w b n f) (hg : w.grownBy w' row) (hne : some b ≠ row) : Bkv w' b n f := by
  obtain ⟨D, hD, h1⟩ := h; exact ⟨D, hD.kept hg hne, h1⟩
theorem Bkv.below {w w' : World} {b n : Nat} {f : Vot → Option Int} (h : Bkv w b n f) (hb : Below w.heap.size w w') : Bkv w' b n f := h.kept (grown_of_below hb) (by simp)
theorem Bkv.mono {w : World} {b n n' : Nat} {f : Vot → Option Int} (h : Bkv w b n f) (hn : n ≤ n') : Bkv w b n' f := by
  obtain ⟨D, hD, h1⟩ := h; exact ⟨D, hD.mono hn, h1⟩
theorem zeroV64 (w : World) : (zeroValue 2).run Try.prog w = .ok (.int .i64 0) w := by kernel_rfl
theorem Bkv.look {w : World} {b n : Nat} {f : Vot → Option Int} (h : Bkv w b n f) {x : Vot} (hw : vwf x) :
    (Instr.lookup 62 (.map (some b)) (vv x) false).run Try.prog w = .ok (.int .i64 ((f x).getD 0)) w ∧ (Lit.int .i64 ((f x).getD 0)).wf = true := by
  obtain ⟨D, hD, h1⟩ := h
  obtain ⟨kl, hk⟩ := keyOf_vv hw
  obtain ⟨c, hrun, hat, hwc⟩ := hD.lookup_int votLaw Try.underlying62 Try.underlying2 (zeroV64 w) hk
  have := (h1 x kl hk).2
  rw [hat] at this
  simp at this
  rw [← this]
  exact ⟨hrun, hwc⟩
theorem Bkv.put {w : World} {b n : Nat} {f : Vot → Option Int} (h : Bkv w b n f) {x : Vot} {v : Int} (hw : vwf x) (hv : (Lit.int .i64 v).wf = true) (hn : n < maxLen) :
    ∃ w', (Instr.mapUpdate 62 (.map (some b)) (vv x) (.int .i64 v)).run Try.prog w = .ok () w' ∧ Bkv w' b (n + 1) (updV1 f x (some v)) ∧ w.grownBy w' (some b) := by
  obtain ⟨D, hD, h1⟩ := h
  obtain ⟨kl, hk⟩ := keyOf_vv hw
  obtain ⟨w', hrun, hD', hg⟩ := hD.update votLaw Try.underlying62 hn hk (plainElem_int Try.underlying2 hv)
  refine ⟨w', hrun, ⟨_, hD', fun y kl' hk' => ?_⟩, hg⟩
  by_cases e : kl' = kl
  · subst e
    have e' := vv_inj (votLaw.inj hk' hk)
    subst e'
    rw [updV1_at]
    exact ⟨has_put_same hD.isMap (votLaw.key hk) _, atKey_put_same hD.isMap (votLaw.key hk) _ _⟩
  · rw [updV1_ne _ _ (by
      rintro rfl
      rw [hk] at hk'
      exact e (by simpa using hk'.symm)), has_put_other e, atKey_put_other e]
    exact h1 y kl' hk'
theorem setBlk_twice (w : World) (b : Nat) (x y : Obj) : setBlock (setBlock w b x) b y = setBlock w b y := by
  unfold setBlock
  simp
theorem setBlk_mod (w : World) (b : Nat) (x : Obj) : Mod (fun i => i = b) w (setBlock w b x) := by
  refine ⟨rfl, rfl, rfl, ?_, fun i hi hn => ?_⟩
  · simp [setBlock]
  · simp only [setBlock]
    rw [Array.getElem?_setIfInBounds, if_neg (fun e => hn e.symm)]
theorem Bkv.entry {w : World} {b n : Nat} {f : Vot → Option Int} (h : Bkv w b n f) {x : Vot} (hw : vwf x) (hn : n < maxLen) :
    ∃ v0 st w1, (Instr.mapEntry 62 (.map (some b)) (vv x)).run Try.prog w = .ok (.tuple #[v0, goInt st]) w1 ∧ Mod (fun i => i = b) w w1 ∧
      ∀ v, (Lit.int .i64 v).wf = true → ∃ w', (Instr.entryStore 62 (.map (some b)) (goInt st) (.int .i64 v)).run Try.prog w1 = .ok () w' ∧ Bkv w' b (n + 1) (updV1 f x (some v)) ∧ Mod (fun i => i = b) w w' := by
  have hB := h
  have hlt := h.lt
  obtain ⟨D, ⟨es, clock, hb, Ft, hs, hD⟩, h1⟩ := h
  obtain ⟨kl, hk⟩ := keyOf_vv hw
  obtain ⟨v0, st, es1, clock1, hr, _, hst⟩ := entry_then_store votK Try.underlying62 (fun u => zeroV64 u) hb Ft hk
  refine ⟨v0, st, _, hr, setBlk_mod _ _ _, fun v hv => ?_⟩
  obtain ⟨es', clock', hr2, hr3⟩ := hst (setBlock w b (.map es1 clock1)) (.int .i64 v) (by simp [setBlock, hlt])
  obtain ⟨w', hp, hB', _⟩ := hB.put hw hv hn
  rw [hr3] at hp
  have e : setBlock w b (.map es' clock') = w' := by
    injection hp
  refine ⟨_, hr2, ?_, ?_⟩
  · rw [setBlk_twice, e]
    exact hB'
  · rw [setBlk_twice]
    exact setBlk_mod _ _ _
theorem entry_as2 {H : Type} {P : Program} {w : World} {t k e : TypeId} {R : Value → Option (DataW H × List MemPlace)} {b : Nat} {es : Array MapEntry} {clock : Nat} (K : KeyLaw P k) (ht : P.underlying t = some (.map k e)) {z : Value} (hz : ∀ u : World, (zeroValue e).run P u = .ok z u) (hb : w.heap[b]? = some (.map es clock)) (F : Go.WideElems.Fit P k R es clock)
    {key : Value} {kl : Lit} (hkey : keyOf P k key = some kl) :
    ∃ (v0 : Value) (st : Nat) (X : World), (Instr.mapEntry t (.map (some b)) key).run P w = .ok (.tuple #[v0, goInt st]) X ∧ (Instr.mapUpdate t (.map (some b)) key v0).run P w = .ok () X ∧ (Instr.lookup t (.map (some b)) key false).run P w = .ok v0 w := by
  rcases K.find w hkey es.toList F.keys with ⟨h1, h2⟩ | ⟨j, e0, h1, h2, h3⟩
  · refine ⟨z, clock, setBlock w b (.map (es.push ⟨key, z, clock⟩) (clock + 1)), ?_, ?_, ?_⟩
    · simp [Instr.mapEntry, run_underlying ht, MapKept.run_getObj_map hb, K.check w false hkey, h1, hz, MapKept.run_setObj_map _ hb, Result.andThen, setBlock]
    · simp [Instr.mapUpdate, run_underlying ht, MapKept.run_getObj_map hb, K.check w false hkey, h1, MapKept.run_setObj_map _ hb, Result.andThen, setBlock]
    · simp [Instr.lookup, run_underlying ht, MapKept.run_getObj_map hb, K.check w _ hkey, h1, hz, Result.andThen]
  · have hj : es[j]? = some e0 := by simpa using h2
    have hA : es.modify j (fun e => { e with key := key }) = es := by
      apply Array.ext'
      rw [Array.toList_modify, modify_eq_set _ _ _ _ h2]
      have q : ({ e0 with key := key } : MapEntry) = e0 := by rw [← h3]
      rw [q]
      exact set_self _ _ _ h2
    have hB : es.modify j (fun e' => { e' with key := key, val := e0.val }) = es := by
      apply Array.ext'
      rw [Array.toList_modify, modify_eq_set _ _ _ _ h2]
      have q : ({ e0 with key := key, val := e0.val } : MapEntry) = e0 := by rw [← h3]
      rw [q]
      exact set_self _ _ _ h2
    refine ⟨e0.val, e0.born, setBlock w b (.map es clock), ?_, ?_, ?_⟩
    · simp [Instr.mapEntry, run_underlying ht, MapKept.run_getObj_map hb, K.check w false hkey, h1, hj, h3, K.stays w hkey, hA, MapKept.run_setObj_map _ hb, Result.andThen, setBlock]
    · simp [Instr.mapUpdate, run_underlying ht, MapKept.run_getObj_map hb, K.check w false hkey, h1, hj, h3, K.stays w hkey, hB, MapKept.run_setObj_map _ hb, Result.andThen, setBlock]
    · simp [Instr.lookup, run_underlying ht, MapKept.run_getObj_map hb, K.check w _ hkey, h1, hj, Result.andThen]
theorem Bkv.entry2 {w : World} {b n : Nat} {f : Vot → Option Int} (h : Bkv w b n f) {x : Vot} (hw : vwf x) (hn : n < maxLen) :
    ∃ v0 st w1, (Instr.mapEntry 62 (.map (some b)) (vv x)).run Try.prog w = .ok (.tuple #[v0, goInt st]) w1 ∧ Mod (fun i => i = b) w w1 ∧ Bkv w1 b (n + 1) (updV1 f x (some ((f x).getD 0))) ∧
      ∀ v, (Lit.int .i64 v).wf = true → ∃ w', (Instr.entryStore 62 (.map (some b)) (goInt st) (.int .i64 v)).run Try.prog w1 = .ok () w' ∧ Bkv w' b (n + 1) (updV1 f x (some v)) ∧ Mod (fun i => i = b) w w' := by
  obtain ⟨v0, st, w1, h1, h2, h3⟩ := h.entry hw hn
  refine ⟨v0, st, w1, h1, h2, ?_, h3⟩
  obtain ⟨hl, hlw⟩ := h.look hw
  have hB := h
  obtain ⟨D, ⟨es, clock, hb, Ft, hs, hD⟩, _⟩ := h
  obtain ⟨kl, hk⟩ := keyOf_vv hw
  obtain ⟨u0, st', X, e1, e2, e3⟩ := entry_as2 votK Try.underlying62 (fun u => zeroV64 u) hb Ft hk
  rw [h1] at e1
  rw [hl] at e3
  injection e1 with _ eX
  injection e3 with eV _
  obtain ⟨w', hp, hB', _⟩ := hB.put hw hlw hn
  rw [← eV] at e2
  rw [e2] at hp
  injection hp with _ eW
  rw [eX, eW]
  exact hB'
end Go.Proofs.Yteppnppknfldbaa

/-
  Rows of numbers: compared, marked and read back; and the answers that hold one.
-/
namespace Go.Proofs.Yteppnppknfldbaa
open Go.RowKit
set_option linter.unusedSectionVars false
variable [DecidableEq Leg] [Inhabited Leg]
attribute [local go_sem ↓] Go.wp_at_zero Go.wp_at_succ

def intsC (ys : List Int) : List Value := ys.map (Value.int .i64)
theorem infoInt : (Try.prog.info? 2).map (fun i => (i.zero, i.size, i.bytes)) = some (some (.int .i64 0), 1, 8) := by kernel_rfl
def IntsV (w : World) (v : Value) (ys : List Int) : Prop :=
  ∃ a cap, v = .slice a ys.length cap ∧ ys.length ≤ cap ∧ cap ≤ maxLen ∧ ∀ i, i < ys.length → ∃ b o, a = some ⟨b, o, none⟩ ∧ w.cell? ⟨b, o + i, none⟩ = some (.int .i64 (ys.getD i 0))
theorem IntsV_below {w w' : World} {v : Value} {ys : List Int} (h : IntsV w v ys) (hb : Below w.heap.size w w') : IntsV w' v ys := by
  obtain ⟨a, cap, rfl, h1, h2, h3⟩ := h
  exact ⟨a, cap, rfl, h1, h2, fun i hi => by
    obtain ⟨b, o, ha, hc⟩ := h3 i hi
    exact ⟨b, o, ha, cell_keep hb hc⟩⟩
theorem IntsV_of_owns {w : World} {base e : Nat} {v : Value} {ys : List Int} (h : w.ownsRow base e 1 v ys.length (intsC ys)) : IntsV w v ys := by
  rcases h.2 with ⟨rfl, hn⟩ | ⟨g, cap, cur, rfl, hb, hg, hnc, hcm, hcs, htake⟩
  · exact ⟨none, 0, by rw [hn], by omega, by unfold maxLen; omega, fun i hi => by omega⟩
  · refine ⟨some ⟨g, 0, none⟩, cap, rfl, hnc, hcm, fun i hi => ⟨g, 0, rfl, ?_⟩⟩
    rw [Nat.zero_add]
    refine (h.cellAt i (by omega)).trans ?_
    simp [intsC, List.getD, hi]
end Go.Proofs.Yteppnppknfldbaa

/-
  ShardsOf on both sides.
-/
namespace Go.Proofs.Yteppnppknfldbaa
open Go.RowKit
set_option linter.unusedSectionVars false
variable [DecidableEq Leg] [Inhabited Leg]
attribute [local go_sem ↓] Go.wp_at_zero Go.wp_at_succ

def sl (p0 p1 p2 : Bool) : List Int := (if p0 then [0] else []) ++ (if p1 then [1] else []) ++ (if p2 then [2] else [])
end Go.Proofs.Yteppnppknfldbaa


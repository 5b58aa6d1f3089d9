import Derived.Test.YtolihmobkoiplaaGreatPrnOutcomeOfLaw10
import Derived.Test.YtolihmobkoiplaaGreatPrnOutcomeOfLaw4
import Derived.BigQuiet
import Derived.Deep.QuietTactic
import Derived.Deep.RegionHeld3
import Derived.Maps.OwnSet
import Derived.DeepKeys4
import Derived.WideKeyEntry
import Derived.Test.YtolihmobkoiplaaGreatPrnOutcomeOfLaw3
import Derived.Deep.DrawnRows

/-
  What is chosen of acceptors.
-/
set_option linter.unusedSimpArgs false
set_option linter.unusedVariables false
namespace Go.Proofs.YtolihmobkoiplaaGreat
open Go.RowKit
set_option linter.unusedSectionVars false
variable [DecidableEq Vot] [Inhabited Vot] [DecidableEq Slt] [Inhabited Slt] [DecidableEq SltR] [Inhabited SltR] [DecidableEq Bal] [Inhabited Bal] [DecidableEq Ledg] [Inhabited Ledg] [DecidableEq Leg] [Inhabited Leg] [DecidableEq Acc] [Inhabited Acc] [DecidableEq AccR] [Inhabited AccR] [DecidableEq AccsR] [Inhabited AccsR] [DecidableEq SltsR] [Inhabited SltsR]
attribute [local go_sem ↓] Go.wp_at_zero Go.wp_at_succ

def hdV (ys : List Vot) : Int := if ys.length = 0 then 0 else (ys.getD 0 default).val
theorem slotsL_at (l : List Acc) (c s : Int) {k : Nat} (hk : k < l.length) : (slotsL l c s).getD k default = slotO (l.getD k default).slots (freS c s) := by
  simp [slotsL, List.getD, hk]
theorem ask_slots {l : List Acc} {c s : Int} (hl : ListOk l) (hid : idOk c s = true) : askF (slotsL l c s) = 0 := by
  have hlen := slotsL_len l c s
  have h1 : scanI (askAt (slotsL l c s)) (slotsL l c s).length = 0 := scanI_of (fun k hk => by
    rw [hlen] at hk
    show sltFault ((slotsL l c s).getD k default) = 0
    rw [slotsL_at l c s hk]
    exact slotO_ok (accOk_of (hl.ok k hk)) hid)
  refine askF_same h1 (inBi.2 (by have := hl.lo; have := hl.hi; rw [hlen]; omega)) (scanI_of (fun k hk => ?_))
  rw [hlen] at hk
  unfold sameAt
  rw [slotsL_at l c s hk, slotsL_at l c s (show 0 < l.length by omega)]
  have e1 := slotO_same (l.getD k default).slots (freS c s)
  have e2 := slotO_same (l.getD 0 default).slots (freS c s)
  rw [if_pos ⟨e1.1.trans e2.1.symm, e1.2.trans e2.2.symm⟩]
theorem freS_V {w : World} {c s : Int} {p : Option Addr} {q : Nat} (h : sltR.V w (.agg #[.int .i64 c, .int .i64 s, .int .i64 (-1), .int .i64 (-1), .int .i64 0, .slice p 0 q]) (freS c s)) (W : World) : sltR.V W (.agg #[.int .i64 c, .int .i64 s, .int .i64 (-1), .int .i64 (-1), .int .i64 0, .slice p 0 q]) (freS c s) := by
  obtain ⟨u, e, a, cap, hu, h1, h2, _⟩ := h
  simp only [freS, Value.agg.injEq, Array.mk.injEq, List.cons.injEq, and_true, true_and] at e
  rw [hu] at e
  simp only [freS, Value.slice.injEq] at e
  obtain ⟨rfl, _, rfl⟩ := e
  exact ⟨_, rfl, _, _, rfl, h1, h2, fun i hi => absurd hi (by simp [freS])⟩
theorem chs_slots {l : List Acc} {c s : Int} (hl : ListOk l) (hid : idOk c s = true) : AllOk (slotsL l c s) := (askF_ok (ask_slots hl hid)).1
theorem chs_exL (l : List Acc) (c s : Int) : ∃ ys, freC l c s = 0 → Chs (slotsL l c s) ys := by
  by_cases h : freC l c s = 0
  · obtain ⟨h1, h2⟩ := freC_ok h
    obtain ⟨ys, hy⟩ := chs_ex (chs_slots (listOk_of h1) h2)
    exact ⟨ys, fun _ => hy⟩
  · exact ⟨[], fun h' => absurd h' h⟩
end Go.Proofs.YtolihmobkoiplaaGreat

/-
  A map whose keys are votes: what it holds, vote by vote; looked up, an entry taken, stored.
-/
set_option linter.unusedVariables false
set_option linter.unusedSimpArgs false
namespace Go.Proofs.YtolihmobkoiplaaGreat
open Go.RowKit Go.Maps Go.WideElems Go.ChangeMaps
set_option linter.unusedSectionVars false
variable [DecidableEq Vot] [Inhabited Vot] [DecidableEq Slt] [Inhabited Slt] [DecidableEq SltR] [Inhabited SltR] [DecidableEq Bal] [Inhabited Bal] [DecidableEq Ledg] [Inhabited Ledg] [DecidableEq Leg] [Inhabited Leg]
open Go.WideMaps (KeyLaw)

def vv (x : Vot) : Value := .agg #[.int .i64 x.bal, .int .i64 x.val]
def vwf (x : Vot) : Prop := (Lit.int .i64 x.bal).wf = true ∧ (Lit.int .i64 x.val).wf = true
theorem wfv {n : Int} (h0 : -9223372036854775808 ≤ n) (h1 : n ≤ 9223372036854775807) : (Lit.int .i64 n).wf = true := by
  simp [Lit.wf, IntKind.min, IntKind.max, IntKind.signed, IntKind.bits]
  omega
theorem vwf_ok {x : Vot} (h : votB x = true) : vwf x := by
  have := votB_iff.1 h
  exact ⟨wfv (by omega) (by omega), wfv (by omega) (by omega)⟩
set_option maxRecDepth 20000 in
theorem votWide : (match Tryz.prog.underlying 63 with | some (.array _ _) | some (.struct _) => true | _ => false) = true := by rw [Tryz.underlying63]
set_option maxRecDepth 100000 in
theorem votK : KeyLaw Tryz.prog 63 := deep_law_laid laidOut (m := 2) (by omega) (of_decide_eq_true (by kernel_rfl)) (by kernel_rfl) votWide
theorem votLaw : Keyed Tryz.prog 63 := Keyed.of_law votK
theorem votCellsN : Tryz.prog.cellsOf 63 = 2 := by kernel_rfl
theorem votType : Tryz.prog.keyType 63 = true := by kernel_rfl
theorem votDepth : ∃ d, Tryz.prog.types.size + 1 = d + 1 + 1 := ⟨Tryz.prog.types.size - 1, by have h : 0 < Tryz.prog.types.size := of_decide_eq_true (by kernel_rfl); omega⟩
theorem numLits (d : Nat) (n : Int) (h : (Lit.int .i64 n).wf = true) : Tryz.prog.keyLits (d + 1) 2 [.int .i64 n] = some [.int .i64 n] := by
  unfold Program.keyLits
  rw [Tryz.underlying2]
  simp [h]
set_option maxRecDepth 20000 in
theorem keyOf_vv {x : Vot} (h : vwf x) : ∃ kl, keyOf Tryz.prog 63 (vv x) = some kl := by
  obtain ⟨d, hd⟩ := votDepth
  obtain ⟨h0, h1⟩ := h
  have hc : Tryz.prog.cellsOf 2 = 1 := by kernel_rfl
  have hf : (vv x).formed Tryz.prog 63 = true := by simp [vv, Value.formed, Tryz.underlying63, votCellsN]
  have hl : Tryz.prog.keyLits (Tryz.prog.types.size + 1) 63 (vv x).cells.toList = some [.int .i64 x.bal, .int .i64 x.val] := by
    rw [hd]
    unfold Program.keyLits
    rw [Tryz.underlying63]
    simp [vv, Value.cells, votCellsN, hc, numLits d x.bal h0, numLits d x.val h1]
  unfold keyOf
  rw [Tryz.underlying63]
  dsimp only
  rw [if_pos (by rw [votType, hf]; rfl), hl]
  exact ⟨_, rfl⟩
set_option maxRecDepth 20000 in
theorem numLits_inv {d : Nat} {c : Value} {l : List Lit} (h : Tryz.prog.keyLits (d + 1) 2 [c] = some l) : ∃ n, c = .int .i64 n ∧ (Lit.int .i64 n).wf = true := by
  unfold Program.keyLits at h
  rw [Tryz.underlying2] at h
  cases c <;> simp at h
  obtain ⟨⟨rfl, hw⟩, _⟩ := h
  exact ⟨_, rfl, hw⟩
set_option maxRecDepth 20000 in
theorem vv_of_key {v : Value} {kl : Lit} (h : keyOf Tryz.prog 63 v = some kl) : ∃ x, v = vv x ∧ vwf x := by
  obtain ⟨xs, L, rfl, hl, _⟩ := keyOf_top votWide h
  obtain ⟨d, hd⟩ := votDepth
  have hc : Tryz.prog.cellsOf 2 = 1 := by kernel_rfl
  rw [hd] at hl
  unfold Program.keyLits at hl
  rw [Tryz.underlying63] at hl
  simp only [votCellsN, hc] at hl
  split at hl
  · rename_i h3
    obtain ⟨l⟩ := xs
    match l, h3.1 with
    | [c0, c1], _ =>
      simp [hc] at hl
      cases e0 : Tryz.prog.keyLits (d + 1) 2 [c0] with
      | none => simp [e0] at hl
      | some l0 =>
        cases e1 : Tryz.prog.keyLits (d + 1) 2 [c1] with
        | none => simp [e0, e1] at hl
        | some l1 =>
          obtain ⟨n0, rfl, w0⟩ := numLits_inv e0
          obtain ⟨n1, rfl, w1⟩ := numLits_inv e1
          exact ⟨⟨n0, n1⟩, rfl, w0, w1⟩
  · cases hl
theorem vv_inj {x y : Vot} (h : vv x = vv y) : x = y := by
  obtain ⟨a, b⟩ := x
  obtain ⟨c, d⟩ := y
  simpa [vv] using h
def Bkv (w : World) (b n : Nat) (f : Vot → Option Int) : Prop :=
  ∃ D : DataW Unit, w.ownsMap Tryz.prog 63 (plainElem Tryz.prog 2) b n D ∧
    ∀ x kl, keyOf Tryz.prog 63 (vv x) = some kl → Maps.has D kl = (f x).isSome ∧ D.atKey kl (.lit (.int .i64 0)) = .lit (.int .i64 ((f x).getD 0))
def updV1 (f : Vot → Option Int) (x : Vot) (v : Option Int) : Vot → Option Int := fun y => if decide (y.bal = x.bal) && decide (y.val = x.val) then v else f y
theorem updV1_at (f : Vot → Option Int) (x : Vot) (v : Option Int) : updV1 f x v x = v := by unfold updV1; rw [if_pos (vot_eq.2 rfl)]
theorem updV1_ne (f : Vot → Option Int) {x y : Vot} (v : Option Int) (h : ¬ y = x) : updV1 f x v y = f y := by unfold updV1; rw [if_neg (fun e => h (vot_eq.1 e))]
theorem bkv_made (w : World) : Bkv (w.alloc (.map #[] 0)) w.heap.size 0 (fun _ => none) :=
  ⟨_, World.ownsMap_made w _ _ _, fun _ _ _ => ⟨rfl, rfl⟩⟩
theorem Bkv.lt {w : World} {b n : Nat} {f : Vot → Option Int} (h : Bkv w b n f) : b < w.heap.size := by
  obtain ⟨D, hD, _⟩ := h; exact hD.lt
theorem Bkv.kept {w w' : World} {b n : Nat} {f : Vot → Option Int} {row : Option Nat} (h : Bkv w b n f) (hg : w.grownBy w' row) (hne : some b ≠ row) : Bkv w' b n f := by
  obtain ⟨D, hD, h1⟩ := h; exact ⟨D, hD.kept hg hne, h1⟩
theorem Bkv.below {w w' : World} {b n : Nat} {f : Vot → Option Int} (h : Bkv w b n f) (hb : Below w.heap.size w w') : Bkv w' b n f := h.kept (grown_of_below hb) (by simp)
theorem Bkv.mono {w : World} {b n n' : Nat} {f : Vot → Option Int} (h : Bkv w b n f) (hn : n ≤ n') : Bkv w b n' f := by
  obtain ⟨D, hD, h1⟩ := h; exact ⟨D, hD.mono hn, h1⟩
theorem zeroV64 (w : World) : (zeroValue 2).run Tryz.prog w = .ok (.int .i64 0) w := by kernel_rfl
theorem Bkv.look {w : World} {b n : Nat} {f : Vot → Option Int} (h : Bkv w b n f) {x : Vot} (hw : vwf x) :
    (Instr.lookup 59 (.map (some b)) (vv x) false).run Tryz.prog w = .ok (.int .i64 ((f x).getD 0)) w ∧ (Lit.int .i64 ((f x).getD 0)).wf = true := by
  obtain ⟨D, hD, h1⟩ := h
  obtain ⟨kl, hk⟩ := keyOf_vv hw
  obtain ⟨c, hrun, hat, hwc⟩ := hD.lookup_int votLaw Tryz.underlying59 Tryz.underlying2 (zeroV64 w) hk
  have := (h1 x kl hk).2
  rw [hat] at this
  simp at this
  rw [← this]
  exact ⟨hrun, hwc⟩
theorem Bkv.put {w : World} {b n : Nat} {f : Vot → Option Int} (h : Bkv w b n f) {x : Vot} {v : Int} (hw : vwf x) (hv : (Lit.int .i64 v).wf = true) (hn : n < maxLen) :
    ∃ w', (Instr.mapUpdate 59 (.map (some b)) (vv x) (.int .i64 v)).run Tryz.prog w = .ok () w' ∧ Bkv w' b (n + 1) (updV1 f x (some v)) ∧ w.grownBy w' (some b) := by
  obtain ⟨D, hD, h1⟩ := h
  obtain ⟨kl, hk⟩ := keyOf_vv hw
  obtain ⟨w', hrun, hD', hg⟩ := hD.update votLaw Tryz.underlying59 hn hk (plainElem_int Tryz.underlying2 hv)
  refine ⟨w', hrun, ⟨_, hD', fun y kl' hk' => ?_⟩, hg⟩
  by_cases e : kl' = kl
  · subst e
    have e' := vv_inj (votLaw.inj hk' hk)
    subst e'
    rw [updV1_at]
    exact ⟨has_put_same hD.isMap (votLaw.key hk) _, atKey_put_same hD.isMap (votLaw.key hk) _ _⟩
  · rw [updV1_ne _ _ (by
      rintro rfl
      rw [hk] at hk'
      exact e (by simpa using hk'.symm)), has_put_other e, atKey_put_other e]
    exact h1 y kl' hk'
theorem setBlk_twice (w : World) (b : Nat) (x y : Obj) : setBlock (setBlock w b x) b y = setBlock w b y := by
  unfold setBlock
  simp
theorem setBlk_mod (w : World) (b : Nat) (x : Obj) : Mod (fun i => i = b) w (setBlock w b x) := by
  refine ⟨rfl, rfl, rfl, ?_, fun i hi hn => ?_⟩
  · simp [setBlock]
  · simp only [setBlock]
    rw [Array.getElem?_setIfInBounds, if_neg (fun e => hn e.symm)]
theorem Bkv.entry {w : World} {b n : Nat} {f : Vot → Option Int} (h : Bkv w b n f) {x : Vot} (hw : vwf x) (hn : n < maxLen) :
    ∃ v0 st w1, (Instr.mapEntry 59 (.map (some b)) (vv x)).run Tryz.prog w = .ok (.tuple #[v0, goInt st]) w1 ∧ Mod (fun i => i = b) w w1 ∧
      ∀ v, (Lit.int .i64 v).wf = true → ∃ w', (Instr.entryStore 59 (.map (some b)) (goInt st) (.int .i64 v)).run Tryz.prog w1 = .ok () w' ∧ Bkv w' b (n + 1) (updV1 f x (some v)) ∧ Mod (fun i => i = b) w w' := by
  have hB := h
  have hlt := h.lt
  obtain ⟨D, ⟨es, clock, hb, Ft, hs, hD⟩, h1⟩ := h
  obtain ⟨kl, hk⟩ := keyOf_vv hw
  obtain ⟨v0, st, es1, clock1, hr, _, hst⟩ := entry_then_store votK Tryz.underlying59 (fun u => zeroV64 u) hb Ft hk
  refine ⟨v0, st, _, hr, setBlk_mod _ _ _, fun v hv => ?_⟩
  obtain ⟨es', clock', hr2, hr3⟩ := hst (setBlock w b (.map es1 clock1)) (.int .i64 v) (by simp [setBlock, hlt])
  obtain ⟨w', hp, hB', _⟩ := hB.put hw hv hn
  rw [hr3] at hp
  have e : setBlock w b (.map es' clock') = w' := by
    injection hp
  refine ⟨_, hr2, ?_, ?_⟩
  · rw [setBlk_twice, e]
    exact hB'
  · rw [setBlk_twice]
    exact setBlk_mod _ _ _
theorem entry_as2 {H : Type} {P : Program} {w : World} {t k e : TypeId} {R : Value → Option (DataW H × List MemPlace)} {b : Nat} {es : Array MapEntry} {clock : Nat} (K : KeyLaw P k) (ht : P.underlying t = some (.map k e)) {z : Value} (hz : ∀ u : World, (zeroValue e).run P u = .ok z u) (hb : w.heap[b]? = some (.map es clock)) (F : Fit P k R es clock)
    {key : Value} {kl : Lit} (hkey : keyOf P k key = some kl) :
    ∃ (v0 : Value) (st : Nat) (X : World), (Instr.mapEntry t (.map (some b)) key).run P w = .ok (.tuple #[v0, goInt st]) X ∧ (Instr.mapUpdate t (.map (some b)) key v0).run P w = .ok () X ∧ (Instr.lookup t (.map (some b)) key false).run P w = .ok v0 w := by
  rcases K.find w hkey es.toList F.keys with ⟨h1, h2⟩ | ⟨j, e0, h1, h2, h3⟩
  · refine ⟨z, clock, setBlock w b (.map (es.push ⟨key, z, clock⟩) (clock + 1)), ?_, ?_, ?_⟩
    · simp [Instr.mapEntry, run_underlying ht, MapKept.run_getObj_map hb, K.check w false hkey, h1, hz, MapKept.run_setObj_map _ hb, Result.andThen, setBlock]
    · simp [Instr.mapUpdate, run_underlying ht, MapKept.run_getObj_map hb, K.check w false hkey, h1, MapKept.run_setObj_map _ hb, Result.andThen, setBlock]
    · simp [Instr.lookup, run_underlying ht, MapKept.run_getObj_map hb, K.check w _ hkey, h1, hz, Result.andThen]
  · have hj : es[j]? = some e0 := by simpa using h2
    have hA : es.modify j (fun e => { e with key := key }) = es := by
      apply Array.ext'
      rw [Array.toList_modify, modify_eq_set _ _ _ _ h2]
      have q : ({ e0 with key := key } : MapEntry) = e0 := by rw [← h3]
      rw [q]
      exact set_self _ _ _ h2
    have hB : es.modify j (fun e' => { e' with key := key, val := e0.val }) = es := by
      apply Array.ext'
      rw [Array.toList_modify, modify_eq_set _ _ _ _ h2]
      have q : ({ e0 with key := key, val := e0.val } : MapEntry) = e0 := by rw [← h3]
      rw [q]
      exact set_self _ _ _ h2
    refine ⟨e0.val, e0.born, setBlock w b (.map es clock), ?_, ?_, ?_⟩
    · simp [Instr.mapEntry, run_underlying ht, MapKept.run_getObj_map hb, K.check w false hkey, h1, hj, h3, K.stays w hkey, hA, MapKept.run_setObj_map _ hb, Result.andThen, setBlock]
    · simp [Instr.mapUpdate, run_underlying ht, MapKept.run_getObj_map hb, K.check w false hkey, h1, hj, h3, K.stays w hkey, hB, MapKept.run_setObj_map _ hb, Result.andThen, setBlock]
    · simp [Instr.lookup, run_underlying ht, MapKept.run_getObj_map hb, K.check w _ hkey, h1, hj, Result.andThen]
theorem Bkv.entry2 {w : World} {b n : Nat} {f : Vot → Option Int} (h : Bkv w b n f) {x : Vot} (hw : vwf x) (hn : n < maxLen) :
    ∃ v0 st w1, (Instr.mapEntry 59 (.map (some b)) (vv x)).run Tryz.prog w = .ok (.tuple #[v0, goInt st]) w1 ∧ Mod (fun i => i = b) w w1 ∧ Bkv w1 b (n + 1) (updV1 f x (some ((f x).getD 0))) ∧
      ∀ v, (Lit.int .i64 v).wf = true → ∃ w', (Instr.entryStore 59 (.map (some b)) (goInt st) (.int .i64 v)).run Tryz.prog w1 = .ok () w' ∧ Bkv w' b (n + 1) (updV1 f x (some v)) ∧ Mod (fun i => i = b) w w' := by
  obtain ⟨v0, st, w1, h1, h2, h3⟩ := h.entry hw hn
  refine ⟨v0, st, w1, h1, h2, ?_, h3⟩
  obtain ⟨hl, hlw⟩ := h.look hw
  have hB := h
  obtain ⟨D, ⟨es, clock, hb, Ft, hs, hD⟩, _⟩ := h
  obtain ⟨kl, hk⟩ := keyOf_vv hw
  obtain ⟨u0, st', X, e1, e2, e3⟩ := entry_as2 votK Tryz.underlying59 (fun u => zeroV64 u) hb Ft hk
  rw [h1] at e1
  rw [hl] at e3
  injection e1 with _ eX
  injection e3 with eV _
  obtain ⟨w', hp, hB', _⟩ := hB.put hw hlw hn
  rw [← eV] at e2
  rw [e2] at hp
  injection hp with _ eW
  rw [eX, eW]
  exact hB'
end Go.Proofs.YtolihmobkoiplaaGreat

/-
  Legs in memory: what a slice of legs holds, and the contracts of the functions that only compare, count and copy them.
-/
namespace Go.Proofs.YtolihmobkoiplaaGreat
open Go.RowKit
set_option linter.unusedSectionVars false
variable [DecidableEq Leg] [Inhabited Leg]
attribute [local go_sem ↓] Go.wp_at_zero Go.wp_at_succ

def legCells (w : World) (b o : Nat) (l : Leg) : Prop :=
  w.cell? ⟨b, o, none⟩ = some (.int .i64 l.sh) ∧ w.cell? ⟨b, o + 1, none⟩ = some (.int .i64 l.ac) ∧ w.cell? ⟨b, o + 2, none⟩ = some (.int .i64 l.ast) ∧ w.cell? ⟨b, o + 3, none⟩ = some (.int .i64 l.am)
def LegsV (w : World) (v : Value) (xs : List Leg) : Prop :=
  ∃ a cap, v = .slice a xs.length cap ∧ xs.length ≤ cap ∧ cap ≤ maxLen ∧ ∀ i, i < xs.length → ∃ b o, a = some ⟨b, o, none⟩ ∧ legCells w b (o + i * 4) (xs.getD i default)
theorem legCells_below {w w' : World} {b o : Nat} {l : Leg} (hb : Below w.heap.size w w') (h : legCells w b o l) : legCells w' b o l := by
  obtain ⟨h1, h2, h3, h4⟩ := h
  have hlt : b < w.heap.size := World.block_lt_of_cell? w _ h1
  exact ⟨(hb.cell (p := ⟨b, o, none⟩) hlt).trans h1, (hb.cell (p := ⟨b, o + 1, none⟩) hlt).trans h2, (hb.cell (p := ⟨b, o + 2, none⟩) hlt).trans h3, (hb.cell (p := ⟨b, o + 3, none⟩) hlt).trans h4⟩
theorem keep2 {w w' : World} {b o b' o' : Nat} {l l' : Leg} (hb : Below w.heap.size w w') (h : legCells w b o l) (h' : legCells w b' o' l') :
    Below w.heap.size w w' ∧ (w'.cell? ⟨b, o, none⟩ = some (.int .i64 l.sh) ∧ w'.cell? ⟨b, o + 1, none⟩ = some (.int .i64 l.ac) ∧ w'.cell? ⟨b, o + 2, none⟩ = some (.int .i64 l.ast) ∧ w'.cell? ⟨b, o + 3, none⟩ = some (.int .i64 l.am)) ∧
      (w'.cell? ⟨b', o', none⟩ = some (.int .i64 l'.sh) ∧ w'.cell? ⟨b', o' + 1, none⟩ = some (.int .i64 l'.ac) ∧ w'.cell? ⟨b', o' + 2, none⟩ = some (.int .i64 l'.ast) ∧ w'.cell? ⟨b', o' + 3, none⟩ = some (.int .i64 l'.am)) :=
  ⟨hb, legCells_below hb h, legCells_below hb h'⟩
theorem list_eq_of {xs ys : List Leg} (hl : ys.length = xs.length) (h : ∀ j, j < xs.length → xs.getD j default = ys.getD j default) : xs = ys := by
  apply List.ext_getElem (by omega)
  intro i h1 h2
  have := h i h1
  simpa [List.getD, h1, h2] using this
set_option maxHeartbeats 1000000 in
theorem eqLegS_any (x y : Value) (xs ys : List Leg) (w : World) (hx : LegsV w x xs) (hy : LegsV w y ys) :
    Calls Tryz.prog 27 #[x, y] w fun e w' => e = .returned (.bool (decide (xs = ys))) ∧ Below w.heap.size w w' := by
  obtain ⟨ax, cx, rfl, hcx, hmx, hx⟩ := hx
  obtain ⟨ay, cy, rfl, hcy, hmy, hy⟩ := hy
  unfold maxLen at hmx hmy
  by_cases hl : ys.length = xs.length
  · rw [hl] at hcy hy ⊢
    have HL : Hid (ys.length = xs.length) := hl
    clear hl
    generalize hn : xs.length = n at *
    have HN : Hid (xs.length = n) := hn
    clear hn
    go_enter Tryz.func27, Tryz.ntmps27
    go_wp2
    go_loopw [5] (fun i w' => ∃ k : Nat, k ≤ n ∧ i = .int .i64 k ∧ (∀ j, j < k → xs.getD j default = ys.getD j default) ∧ Below w.heap.size w w') (fun i _ => n - (intOf i).toNat)
    case atStart => exact ⟨0, Nat.zero_le _, rfl, fun j h => absurd h (Nat.not_lt_zero _), Below.refl _ _⟩
    case round =>
      obtain ⟨k, hk, rfl, hpre, hbl⟩ := hrel
      have HP : Hid (∀ j, j < k → xs.getD j default = ys.getD j default) := hpre
      clear hpre
      by_cases hlt : k < n
      · obtain ⟨bx, ox, rfl, h1⟩ := hx k hlt
        obtain ⟨b2, oy, rfl, h2⟩ := hy k hlt
        obtain ⟨l1, hl1⟩ : ∃ l, l = xs.getD k default := ⟨_, rfl⟩
        obtain ⟨l2, hl2⟩ : ∃ l, l = ys.getD k default := ⟨_, rfl⟩
        rw [← hl1] at h1
        rw [← hl2] at h2
        have H1 : Hid (l1 = xs.getD k default) := hl1
        have H2 : Hid (l2 = ys.getD k default) := hl2
        clear hl1 hl2 hx hy
        go_wp2
        go_region_held3 (fun w' => Below w.heap.size w w' ∧ (w'.cell? ⟨bx, ox + k * 4, none⟩ = some (.int .i64 l1.sh) ∧ w'.cell? ⟨bx, ox + k * 4 + 1, none⟩ = some (.int .i64 l1.ac) ∧ w'.cell? ⟨bx, ox + k * 4 + 2, none⟩ = some (.int .i64 l1.ast) ∧ w'.cell? ⟨bx, ox + k * 4 + 3, none⟩ = some (.int .i64 l1.am)) ∧ (w'.cell? ⟨b2, oy + k * 4, none⟩ = some (.int .i64 l2.sh) ∧ w'.cell? ⟨b2, oy + k * 4 + 1, none⟩ = some (.int .i64 l2.ac) ∧ w'.cell? ⟨b2, oy + k * 4 + 2, none⟩ = some (.int .i64 l2.ast) ∧ w'.cell? ⟨b2, oy + k * 4 + 3, none⟩ = some (.int .i64 l2.am))) ((refine keep2 ?_ h1 h2; repeat (first | exact Below.refl _ _ | assumption | refine Below.drew ?_ | refine balloc ?_ _ | refine bstep ?_ (by assumption)))) (first | (go_at_call 46; refine (eqLeg_any l1 l2 _).mono ?_; rintro e w' ⟨rfl, hb1⟩))
        rename_i hH
        have hB := hH.1
        clear hH
        go_wp2
        · rename_i hle
          go_ret
          refine ⟨?_, hB⟩
          have : ¬ xs = ys := fun h => by
            have : l1 = l2 := by rw [H1.out, H2.out, h]
            simp [this] at hle
          simp [this]
        · rename_i hle
          refine ⟨⟨k + 1, by omega, by go_num, fun j hj => ?_, hB⟩, by simp [intOf]; omega⟩
          by_cases hjk : j < k
          · exact HP.out j hjk
          · have : j = k := by omega
            subst this
            rw [← H1.out, ← H2.out]
            simpa using hle
      · go_wp2
        go_ret
        have : k = n := by omega
        subst this
        refine ⟨?_, hbl⟩
        have : xs = ys := list_eq_of (by rw [HL.out, HN.out]) (by rw [HN.out]; exact HP.out)
        simp [this]
  · go_enter Tryz.func27, Tryz.ntmps27
    have hl' : ((xs.length : Int) == (ys.length : Int)) = false := by simp; omega
    go_wp2
    go_ret
    have : ¬ xs = ys := fun h => hl (by rw [h])
    exact ⟨by simp [this], Below.refl _ _⟩
end Go.Proofs.YtolihmobkoiplaaGreat

/-
  Legs copied: the contract of the law's own copy of a slice of legs.
-/
namespace Go.Proofs.YtolihmobkoiplaaGreat
open Go.RowKit
set_option linter.unusedSectionVars false
variable [DecidableEq Leg] [Inhabited Leg]
attribute [local go_sem ↓] Go.wp_at_zero Go.wp_at_succ

def legC (l : Leg) : List Value := [.int .i64 l.sh, .int .i64 l.ac, .int .i64 l.ast, .int .i64 l.am]
def legsC (xs : List Leg) : List Value := xs.flatMap legC
theorem infoLeg : (Tryz.prog.info? 77).map (fun i => (i.zero, i.size, i.bytes)) = some (some (.agg #[.int .i64 0, .int .i64 0, .int .i64 0, .int .i64 0]), 4, 32) := by kernel_rfl
theorem length_legsC (xs : List Leg) : (legsC xs).length = xs.length * 4 := by
  induction xs with
  | nil => rfl
  | cons x r ih =>
    have e : legsC (x :: r) = legC x ++ legsC r := by simp [legsC]
    have l4 : (legC x).length = 4 := rfl
    rw [e, List.length_append, l4, ih, List.length_cons]
    omega
theorem getLegsC (xs : List Leg) : ∀ i, i < xs.length → (legsC xs)[i * 4]? = some (.int .i64 (xs.getD i default).sh) ∧ (legsC xs)[i * 4 + 1]? = some (.int .i64 (xs.getD i default).ac) ∧
    (legsC xs)[i * 4 + 2]? = some (.int .i64 (xs.getD i default).ast) ∧ (legsC xs)[i * 4 + 3]? = some (.int .i64 (xs.getD i default).am) := by
  induction xs with
  | nil => intro i h; simp at h
  | cons x r ih =>
    intro i h
    cases i with
    | zero => simp [legsC, legC]
    | succ i =>
      have := ih i (by simpa using h)
      have e : legsC (x :: r) = legC x ++ legsC r := by simp [legsC]
      have l4 : (legC x).length = 4 := rfl
      rw [e]
      refine ⟨?_, ?_, ?_, ?_⟩
      all_goals rw [List.getElem?_append_right (by omega), l4]
      · rw [show (i + 1) * 4 - 4 = i * 4 by omega]; simpa using this.1
      · rw [show (i + 1) * 4 + 1 - 4 = i * 4 + 1 by omega]; simpa using this.2.1
      · rw [show (i + 1) * 4 + 2 - 4 = i * 4 + 2 by omega]; simpa using this.2.2.1
      · rw [show (i + 1) * 4 + 3 - 4 = i * 4 + 3 by omega]; simpa using this.2.2.2
theorem LegsV_of_owns {w : World} {base e : Nat} {v : Value} {xs : List Leg} (h : w.ownsRow base e 4 v xs.length (legsC xs)) : LegsV w v xs := by
  rcases h.2 with ⟨rfl, hn⟩ | ⟨g, cap, cur, rfl, hb, hg, hnc, hcm, hcs, htake⟩
  · exact ⟨none, 0, by rw [hn], by omega, by unfold maxLen; omega, fun i hi => by omega⟩
  · refine ⟨some ⟨g, 0, none⟩, cap, rfl, hnc, hcm, fun i hi => ⟨g, 0, rfl, ?_⟩⟩
    obtain ⟨h0, h1, h2, h3⟩ := getLegsC xs i hi
    simp only [Nat.zero_add, legCells]
    exact ⟨(h.cellAt _ (by omega)).trans h0, (h.cellAt _ (by omega)).trans h1, (h.cellAt _ (by omega)).trans h2, (h.cellAt _ (by omega)).trans h3⟩
def upto (k : Nat) (cs : List Value) (xs : List Leg) : Prop := ∀ j, j < k * 4 → cs[j]? = (legsC xs)[j]?
theorem upto_full {n : Nat} {cs : List Value} {xs : List Leg} (h : upto n cs xs) (hl : cs.length = n * 4) (hn : xs.length = n) : cs = legsC xs := by
  apply List.ext_getElem?
  intro j
  by_cases hj : j < n * 4
  · exact h j hj
  · rw [List.getElem?_eq_none (by omega), List.getElem?_eq_none (by rw [length_legsC]; omega)]
theorem upto_set {k : Nat} {cs : List Value} {xs : List Leg} {l : Leg} (h : upto k cs xs) (hk : k < xs.length) (hl : cs.length = xs.length * 4) (he : l = xs.getD k default) :
    upto (k + 1) ((((cs.set (k * 4) (.int .i64 l.sh)).set (k * 4 + 1) (.int .i64 l.ac)).set (k * 4 + 2) (.int .i64 l.ast)).set (k * 4 + 3) (.int .i64 l.am)) xs := by
  intro j hj
  obtain ⟨h0, h1, h2, h3⟩ := getLegsC xs k hk
  subst he
  simp only [List.getElem?_set, List.length_set]
  by_cases e3 : k * 4 + 3 = j
  · subst e3; simp [h3]; omega
  by_cases e2 : k * 4 + 2 = j
  · subst e2; simp [h2]; omega
  by_cases e1 : k * 4 + 1 = j
  · subst e1; simp [h1]; omega
  by_cases e0 : k * 4 = j
  · subst e0; simp [h0]; omega
  simp [e0, e1, e2, e3]
  exact h j (by omega)
set_option maxHeartbeats 1000000 in
theorem toLegS_any (x : Value) (xs : List Leg) (w : World) (hx : LegsV w x xs) (hn : xs.length ≤ 1048576) :
    Calls Tryz.prog 19 #[x] w fun e w' => ∃ v, e = .returned v ∧ w'.ownsRow w.heap.size 77 4 v xs.length (legsC xs) ∧ Below w.heap.size w w' := by
  obtain ⟨ax, cx, rfl, hcx, hmx, hx⟩ := hx
  unfold maxLen at hmx
  obtain ⟨i0, hi, hz0, hz1, hz2⟩ := info_parts infoLeg
  obtain ⟨w1, hmk, hown, hgr⟩ := run_make_full (P := Tryz.prog) w w.heap.size 33 77 i0 _ 4 Tryz.underlying33 hi hz0 hz1 .i64 .i64 xs.length (by rw [hz2]; omega) (by unfold maxLen; omega) (Nat.le_refl _)
  have hbl0 : Below w.heap.size w w1 := (Below.refl _ _).grown hgr (Nat.le_refl _) (fun k h => by cases h)
  generalize hn' : xs.length = n at *
  have HN : Hid (xs.length = n) := hn'
  clear hn'
  go_enter Tryz.func19, Tryz.ntmps19
  go_wp2
  go_loopw [4] (fun i w' => ∃ (k : Nat) (cs : List Value), k ≤ n ∧ i = .int .i64 k ∧ w'.ownsRow w.heap.size 77 4 (.slice (some ⟨w.heap.size, 0, none⟩) n n) n cs ∧ upto k cs xs ∧ Below w.heap.size w w') (fun i _ => n - (intOf i).toNat)
  case atStart => exact ⟨0, _, Nat.zero_le _, rfl, hown, fun j h => by omega, hbl0⟩
  case round =>
    obtain ⟨k, cs, hk, rfl, ho, hup, hbl⟩ := hrel
    have HU : Hid (upto k cs xs) := hup
    clear hup hown hmk hgr hbl0
    by_cases hlt : k < n
    · obtain ⟨bx, ox, rfl, h1⟩ := hx k hlt
      obtain ⟨l, hl⟩ : ∃ l, l = xs.getD k default := ⟨_, rfl⟩
      rw [← hl] at h1
      have H1 : Hid (l = xs.getD k default) := hl
      clear hl hx
      obtain ⟨a1, a2, a3, a4⟩ := legCells_below hbl h1
      go_wp2_with fail
      refine (toLeg_any l _).mono ?_
      rintro e wa ⟨rfl, hba⟩
      have ho1 := owns_below ho hba
      obtain ⟨u0, g0⟩ := owns_some ho1 (k * 4) (by omega)
      obtain ⟨u1, g1⟩ := owns_some ho1 (k * 4 + 1) (by omega)
      obtain ⟨u2, g2⟩ := owns_some ho1 (k * 4 + 2) (by omega)
      obtain ⟨u3, g3⟩ := owns_some ho1 (k * 4 + 3) (by omega)
      have hf := fun j => ho1.frozenAt j
      simp only [legV]
      go_wp2
      have s0 := ho1.stored (k * 4) (.int .i64 l.sh)
      have s1 := s0.1.stored (k * 4 + 1) (.int .i64 l.ac)
      have s2 := s1.1.stored (k * 4 + 2) (.int .i64 l.ast)
      have s3 := s2.1.stored (k * 4 + 3) (.int .i64 l.am)
      refine ⟨⟨k + 1, _, by omega, by go_num, s3.1, upto_set HU.out (by have := HN.out; omega) (by have := HN.out; have := ho.1; omega) H1.out, ?_⟩, by simp [intOf]; omega⟩
      exact ((((bstep hbl hba).setCell (Nat.le_refl _) _).setCell (Nat.le_refl _) _).setCell (Nat.le_refl _) _).setCell (Nat.le_refl _) _
    · go_wp2
      go_ret
      have hkn : k = n := by omega
      subst hkn
      have e := upto_full HU.out ho.1 HN.out
      subst e
      exact ⟨_, rfl, ho, hbl⟩
end Go.Proofs.YtolihmobkoiplaaGreat


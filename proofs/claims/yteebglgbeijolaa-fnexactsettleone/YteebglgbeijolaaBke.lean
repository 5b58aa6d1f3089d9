/-
  A book's entry taken and stored; the legs of a contract added to a book.
-/
import Derived.Test.YteebglgbeijolaaCan2
import Derived.Test.YteebglgbeijolaaRegT
import Derived.WideKeyEntry
namespace Go.Proofs.Yteebglgbeijolaa
open Go.RowKit Go.Maps Go.WideElems Go.ChangeMaps
set_option linter.unusedSectionVars false
variable [DecidableEq Bal] [Inhabited Bal] [DecidableEq Ledg] [Inhabited Ledg] [DecidableEq Leg] [Inhabited Leg] [DecidableEq Cont] [Inhabited Cont]
open Go.WideMaps (KeyLaw)
set_option linter.unusedVariables false
set_option linter.unusedSimpArgs false
attribute [local go_sem ↓] Go.wp_at_zero Go.wp_at_succ

set_option maxRecDepth 100000 in
theorem holdK : KeyLaw Try.prog 180 := deep_law_laid laidOut (m := 2) (by omega) (of_decide_eq_true (by kernel_rfl)) (by kernel_rfl) holdWide
theorem setBlock_twice (w : World) (b : Nat) (x y : Obj) : setBlock (setBlock w b x) b y = setBlock w b y := by
  unfold setBlock
  simp
theorem setBlock_mod (w : World) (b : Nat) (x : Obj) : Mod (fun i => i = b) w (setBlock w b x) := by
  refine ⟨rfl, rfl, rfl, ?_, fun i hi hn => ?_⟩
  · simp [setBlock]
  · simp only [setBlock]
    rw [Array.getElem?_setIfInBounds, if_neg (fun e => hn e.symm)]

theorem Book.entry {w : World} {b n : Nat} {f : Int → Int → Int → Option Int} (h : Book w b n f) {s a t : Int} (hw : kwf s a t) (hn : n < maxLen) :
    ∃ v0 st w1, (Instr.mapEntry 141 (.map (some b)) (kv s a t)).run Try.prog w = .ok (.tuple #[v0, goInt st]) w1 ∧ Mod (fun i => i = b) w w1 ∧
      ∀ v, (Lit.int .i64 v).wf = true → ∃ w', (Instr.entryStore 141 (.map (some b)) (goInt st) (.int .i64 v)).run Try.prog w1 = .ok () w' ∧ Book w' b (n + 1) (upd3 f s a t (some v)) ∧ Mod (fun i => i = b) w w' := by
  have hB := h
  have hlt := h.lt
  obtain ⟨D, ⟨es, clock, hb, Ft, hs, hD⟩, h1⟩ := h
  obtain ⟨kl, hk⟩ := keyOf_kv hw
  obtain ⟨v0, st, es1, clock1, hr, _, hst⟩ := entry_then_store holdK Try.underlying141 (fun u => zero64 u) hb Ft hk
  refine ⟨v0, st, _, hr, setBlock_mod _ _ _, fun v hv => ?_⟩
  obtain ⟨es', clock', hr2, hr3⟩ := hst (setBlock w b (.map es1 clock1)) (.int .i64 v) (by simp [setBlock, hlt])
  obtain ⟨w', hp, hB', _⟩ := hB.put hw hv hn
  rw [hr3] at hp
  have e : setBlock w b (.map es' clock') = w' := by
    injection hp
  refine ⟨_, hr2, ?_, ?_⟩
  · rw [setBlock_twice, e]
    exact hB'
  · rw [setBlock_twice]
    exact setBlock_mod _ _ _

/-- taking an entry is storing what is there -/
theorem entry_as {H : Type} {P : Program} {w : World} {t k e : TypeId} {R : Value → Option (DataW H × List MemPlace)} {b : Nat} {es : Array MapEntry} {clock : Nat} (K : KeyLaw P k) (ht : P.underlying t = some (.map k e)) {z : Value} (hz : ∀ u : World, (zeroValue e).run P u = .ok z u) (hb : w.heap[b]? = some (.map es clock)) (F : Fit P k R es clock)
    {key : Value} {kl : Lit} (hkey : keyOf P k key = some kl) :
    ∃ (v0 : Value) (st : Nat) (X : World), (Instr.mapEntry t (.map (some b)) key).run P w = .ok (.tuple #[v0, goInt st]) X ∧ (Instr.mapUpdate t (.map (some b)) key v0).run P w = .ok () X ∧ (Instr.lookup t (.map (some b)) key false).run P w = .ok v0 w := by
  rcases K.find w hkey es.toList F.keys with ⟨h1, h2⟩ | ⟨j, e0, h1, h2, h3⟩
  · refine ⟨z, clock, setBlock w b (.map (es.push ⟨key, z, clock⟩) (clock + 1)), ?_, ?_, ?_⟩
    · simp [Instr.mapEntry, run_underlying ht, MapKept.run_getObj_map hb, K.check w false hkey, h1, hz, MapKept.run_setObj_map _ hb, Result.andThen, setBlock]
    · simp [Instr.mapUpdate, run_underlying ht, MapKept.run_getObj_map hb, K.check w false hkey, h1, MapKept.run_setObj_map _ hb, Result.andThen, setBlock]
    · simp [Instr.lookup, run_underlying ht, MapKept.run_getObj_map hb, K.check w _ hkey, h1, hz, Result.andThen]
  · have hj : es[j]? = some e0 := by simpa using h2
    have hA : es.modify j (fun e => { e with key := key }) = es := by
      apply Array.ext'
      rw [Array.toList_modify, modify_eq_set _ _ _ _ h2]
      have q : ({ e0 with key := key } : MapEntry) = e0 := by rw [← h3]
      rw [q]
      exact set_self _ _ _ h2
    have hB : es.modify j (fun e' => { e' with key := key, val := e0.val }) = es := by
      apply Array.ext'
      rw [Array.toList_modify, modify_eq_set _ _ _ _ h2]
      have q : ({ e0 with key := key, val := e0.val } : MapEntry) = e0 := by rw [← h3]
      rw [q]
      exact set_self _ _ _ h2
    refine ⟨e0.val, e0.born, setBlock w b (.map es clock), ?_, ?_, ?_⟩
    · simp [Instr.mapEntry, run_underlying ht, MapKept.run_getObj_map hb, K.check w false hkey, h1, hj, h3, K.stays w hkey, hA, MapKept.run_setObj_map _ hb, Result.andThen, setBlock]
    · simp [Instr.mapUpdate, run_underlying ht, MapKept.run_getObj_map hb, K.check w false hkey, h1, hj, h3, K.stays w hkey, hB, MapKept.run_setObj_map _ hb, Result.andThen, setBlock]
    · simp [Instr.lookup, run_underlying ht, MapKept.run_getObj_map hb, K.check w _ hkey, h1, hj, Result.andThen]

/-- an entry taken: what is looked up stays so; what is stored there -/
theorem Book.entry2 {w : World} {b n : Nat} {f : Int → Int → Int → Option Int} (h : Book w b n f) {s a t : Int} (hw : kwf s a t) (hn : n < maxLen) :
    ∃ v0 st w1, (Instr.mapEntry 141 (.map (some b)) (kv s a t)).run Try.prog w = .ok (.tuple #[v0, goInt st]) w1 ∧ Mod (fun i => i = b) w w1 ∧ Book w1 b (n + 1) (upd3 f s a t (some ((f s a t).getD 0))) ∧
      ∀ v, (Lit.int .i64 v).wf = true → ∃ w', (Instr.entryStore 141 (.map (some b)) (goInt st) (.int .i64 v)).run Try.prog w1 = .ok () w' ∧ Book w' b (n + 1) (upd3 f s a t (some v)) ∧ Mod (fun i => i = b) w w' := by
  obtain ⟨v0, st, w1, h1, h2, h3⟩ := h.entry hw hn
  refine ⟨v0, st, w1, h1, h2, ?_, h3⟩
  obtain ⟨hl, hlw⟩ := h.look hw
  have hB := h
  obtain ⟨D, ⟨es, clock, hb, Ft, hs, hD⟩, _⟩ := h
  obtain ⟨kl, hk⟩ := keyOf_kv hw
  obtain ⟨u0, st', X, e1, e2, e3⟩ := entry_as holdK Try.underlying141 (fun u => zero64 u) hb Ft hk
  rw [h1] at e1
  rw [hl] at e3
  injection e1 with _ eX
  injection e3 with eV _
  obtain ⟨w', hp, hB', _⟩ := hB.put hw hlw hn
  rw [← eV] at e2
  rw [e2] at hp
  injection hp with _ eW
  rw [eX, eW]
  exact hB'

/-- a leg added to a book -/
def addL (f : Int → Int → Int → Option Int) (l : Leg) : Int → Int → Int → Option Int := upd3 f l.sh l.ac l.ast (if (f l.sh l.ac l.ast).getD 0 + l.am = 0 then none else some ((f l.sh l.ac l.ast).getD 0 + l.am))
def addLs (f : Int → Int → Int → Option Int) (ls : List Leg) : Int → Int → Int → Option Int := ls.foldl addL f
theorem addLs_succ (f : Int → Int → Int → Option Int) (ls : List Leg) {k : Nat} (h : k < ls.length) : addLs f (ls.take (k + 1)) = addL (addLs f (ls.take k)) (ls.getD k default) := by
  unfold addLs
  rw [take_snoc ls k h, List.foldl_append]
  rfl

end Go.Proofs.Yteebglgbeijolaa

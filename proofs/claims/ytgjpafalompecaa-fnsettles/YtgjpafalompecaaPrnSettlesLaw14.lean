import Derived.Test.YtgjpafalompecaaPrnSettlesLaw13
import Derived.Test.YtgjpafalompecaaPrnSettlesLaw6
import Derived.Test.YtgjpafalompecaaPrnSettlesLaw10
import Derived.Test.YtgjpafalompecaaPrnSettlesLaw2
import Derived.WideKeyEntry
import Derived.Test.YtgjpafalompecaaPrnSettlesLaw11

/-
  Balances in order: what a leg does to them, in mathematics.
-/
namespace Go.Proofs.Ytgjpafalompecaa
open Go.RowKit
set_option linter.unusedSectionVars false
variable [DecidableEq Bal] [Inhabited Bal] [DecidableEq Ledg] [Inhabited Ledg] [DecidableEq Leg] [Inhabited Leg] [DecidableEq Cont] [Inhabited Cont] [DecidableEq LedgR] [Inhabited LedgR]
set_option linter.unusedVariables false
set_option linter.unusedSimpArgs false

def plB (x : Bal) : Int := x.ac * 3 + x.ast
structure RiseB (xs : List Bal) : Prop where
  rise : xs.Pairwise (fun p q => plB p < plB q)
  key : ∀ x ∈ xs, keyOk x.ac x.ast = true
theorem plB_inj {x y : Bal} (hx : keyOk x.ac x.ast = true) (hy : keyOk y.ac y.ast = true) (h : plB x = plB y) : x.ac = y.ac ∧ x.ast = y.ast := by
  have h1 := keyOk_iff.1 hx
  have h2 := keyOk_iff.1 hy
  unfold plB at h
  omega
theorem RiseB.tail {x : Bal} {xs : List Bal} (h : RiseB (x :: xs)) : RiseB xs := ⟨(List.pairwise_cons.1 h.rise).2, fun y hy => h.key y (List.mem_cons_of_mem _ hy)⟩
theorem getB_mem {a t : Int} : ∀ {xs : List Bal} {v : Int}, getB a t xs = some v → ∃ x ∈ xs, x.ac = a ∧ x.ast = t ∧ x.am = v
  | [], _, h => by simp [getB] at h
  | x :: xs, v, h => by
    simp only [getB] at h
    split at h
    · rename_i hc
      exact ⟨x, List.mem_cons_self .., hc.1, hc.2, by simpa using h⟩
    · obtain ⟨y, hy, e⟩ := getB_mem h
      exact ⟨y, List.mem_cons_of_mem _ hy, e⟩
theorem getB_not {a t : Int} {xs : List Bal} (h : ∀ x ∈ xs, ¬ (x.ac = a ∧ x.ast = t)) : getB a t xs = none := by
  cases hg : getB a t xs with
  | none => rfl
  | some v =>
    obtain ⟨x, hx, e1, e2, _⟩ := getB_mem hg
    exact absurd ⟨e1, e2⟩ (h x hx)
theorem getB_head (x : Bal) (xs : List Bal) : getB x.ac x.ast (x :: xs) = some x.am := by
  simp only [getB]
  rw [if_pos ⟨trivial, trivial⟩]
theorem getB_tail {x : Bal} {xs : List Bal} {a t : Int} (h : ¬ (x.ac = a ∧ x.ast = t)) : getB a t (x :: xs) = getB a t xs := by
  simp only [getB]
  rw [if_neg h]
theorem rise_head_none {x : Bal} {xs : List Bal} (h : RiseB (x :: xs)) : getB x.ac x.ast xs = none := getB_not (fun y hy e => by
  have := (List.pairwise_cons.1 h.rise).1 y hy
  unfold plB at this
  omega)
theorem rise_ext : ∀ {xs ys : List Bal}, RiseB xs → RiseB ys → (∀ a t, getB a t xs = getB a t ys) → xs = ys
  | [], [], _, _, _ => rfl
  | [], y :: ys, _, _, h => by
    have := h y.ac y.ast
    rw [getB_head] at this
    simp [getB] at this
  | x :: xs, [], _, _, h => by
    have := h x.ac x.ast
    rw [getB_head] at this
    simp [getB] at this
  | x :: xs, y :: ys, hx, hy, h => by
    have hxk := hx.key x (List.mem_cons_self ..)
    have hyk := hy.key y (List.mem_cons_self ..)
    have hpl : plB x = plB y := by
      rcases Int.lt_trichotomy (plB x) (plB y) with hl | hl | hl
      · have h1 := h x.ac x.ast
        rw [getB_head] at h1
        obtain ⟨z, hz, e1, e2, _⟩ := getB_mem h1.symm
        have hzp : plB z = plB x := by unfold plB; rw [e1, e2]
        rcases List.mem_cons.1 hz with rfl | hz
        · omega
        · have := (List.pairwise_cons.1 hy.rise).1 z hz
          omega
      · exact hl
      · have h1 := h y.ac y.ast
        rw [getB_head] at h1
        obtain ⟨z, hz, e1, e2, _⟩ := getB_mem h1
        have hzp : plB z = plB y := by unfold plB; rw [e1, e2]
        rcases List.mem_cons.1 hz with rfl | hz
        · omega
        · have := (List.pairwise_cons.1 hx.rise).1 z hz
          omega
    obtain ⟨e1, e2⟩ := plB_inj hxk hyk hpl
    have hxy : x = y := by
      have h1 := h x.ac x.ast
      rw [getB_head, e1, e2, getB_head] at h1
      obtain ⟨a, t, v⟩ := x
      obtain ⟨a', t', v'⟩ := y
      simp only at e1 e2
      simp only [Option.some.injEq] at h1
      rw [e1, e2, h1]
    subst hxy
    congr 1
    refine rise_ext hx.tail hy.tail (fun a t => ?_)
    by_cases hc : x.ac = a ∧ x.ast = t
    · rw [← hc.1, ← hc.2, rise_head_none hx, rise_head_none hy]
    · have := h a t
      rw [getB_tail hc, getB_tail hc] at this
      exact this
def setR (a t v : Int) : List Bal → Bool → List Bal
  | [], d => if d then [] else [⟨a, t, v⟩]
  | b :: r, d => if b.ac = a ∧ b.ast = t then setR a t v r d else if d = false ∧ a * 3 + t < b.ac * 3 + b.ast then ⟨a, t, v⟩ :: b :: setR a t v r true else b :: setR a t v r d
theorem set_fold (a t v : Int) : ∀ (xs acc : List Bal) (d : Bool), (if (xs.foldl (setStep a t v) (acc, d)).2 then (xs.foldl (setStep a t v) (acc, d)).1 else (xs.foldl (setStep a t v) (acc, d)).1 ++ [⟨a, t, v⟩]) = acc ++ setR a t v xs d
  | [], acc, d => by
    cases d <;> simp [setR]
  | b :: r, acc, d => by
    rw [List.foldl_cons]
    unfold setR
    by_cases h1 : b.ac = a ∧ b.ast = t
    · have e : setStep a t v (acc, d) b = (acc, d) := by unfold setStep; rw [if_pos h1]
      rw [e, set_fold a t v r acc d, if_pos h1]
    · by_cases h2 : d = false ∧ a * 3 + t < b.ac * 3 + b.ast
      · have e : setStep a t v (acc, d) b = (acc ++ [⟨a, t, v⟩] ++ [b], true) := by unfold setStep; rw [if_neg h1, if_pos h2]
        rw [e, set_fold a t v r _ true, if_neg h1, if_pos h2]
        simp
      · have e : setStep a t v (acc, d) b = (acc ++ [b], d) := by unfold setStep; rw [if_neg h1, if_neg h2]
        rw [e, set_fold a t v r _ d, if_neg h1, if_neg h2]
        simp
theorem setB_R (a t v : Int) (xs : List Bal) : setB a t v xs = setR a t v xs (decide (v = 0)) := by
  have h := set_fold a t v xs [] (decide (v = 0))
  rw [List.nil_append] at h
  unfold setB setTo
  rw [List.take_length]
  exact h
theorem setR_mem {a t v : Int} : ∀ {xs : List Bal} {d : Bool} {x : Bal}, x ∈ setR a t v xs d → x ∈ xs ∨ x = ⟨a, t, v⟩
  | [], d, x, h => by
    unfold setR at h
    split at h
    · cases h
    · exact .inr (List.mem_singleton.1 h)
  | b :: r, d, x, h => by
    unfold setR at h
    split at h
    · rcases setR_mem h with h | h
      · exact .inl (List.mem_cons_of_mem _ h)
      · exact .inr h
    · split at h
      · rcases List.mem_cons.1 h with h | h
        · exact .inr h
        · rcases List.mem_cons.1 h with h | h
          · exact .inl (by rw [h]; exact List.mem_cons_self ..)
          · rcases setR_mem h with h | h
            · exact .inl (List.mem_cons_of_mem _ h)
            · exact .inr h
      · rcases List.mem_cons.1 h with h | h
        · exact .inl (by rw [h]; exact List.mem_cons_self ..)
        · rcases setR_mem h with h | h
          · exact .inl (List.mem_cons_of_mem _ h)
          · exact .inr h
theorem setR_true {a t v : Int} : ∀ (xs : List Bal), setR a t v xs true = xs.filter (fun b => !decide (b.ac = a ∧ b.ast = t))
  | [] => rfl
  | b :: r => by
    unfold setR
    by_cases h1 : b.ac = a ∧ b.ast = t
    · rw [if_pos h1, setR_true r, List.filter_cons_of_neg (by simp [h1])]
    · rw [if_neg h1, if_neg (by simp), setR_true r, List.filter_cons_of_pos (by rw [decide_eq_false h1]; rfl)]
theorem getB_filter {a t a' t' : Int} : ∀ (xs : List Bal), getB a' t' (xs.filter (fun b => !decide (b.ac = a ∧ b.ast = t))) = if a' = a ∧ t' = t then none else getB a' t' xs
  | [] => by simp [getB]
  | b :: r => by
    by_cases h1 : b.ac = a ∧ b.ast = t
    · rw [List.filter_cons_of_neg (by simp [h1]), getB_filter r]
      split
      · rfl
      · rename_i h2
        rw [getB_tail (fun h3 => h2 ⟨h3.1.symm.trans h1.1, h3.2.symm.trans h1.2⟩)]
    · rw [List.filter_cons_of_pos (by rw [decide_eq_false h1]; rfl)]
      by_cases h3 : b.ac = a' ∧ b.ast = t'
      · rw [← h3.1, ← h3.2, getB_head, getB_head, if_neg h1]
      · rw [getB_tail h3, getB_tail h3, getB_filter r]
theorem rise_filter {xs : List Bal} (h : RiseB xs) (p : Bal → Bool) : RiseB (xs.filter p) := ⟨List.Pairwise.sublist List.filter_sublist h.rise, fun x hx => h.key x (List.mem_filter.1 hx).1⟩
theorem setR_false {a t v : Int} (hk : keyOk a t = true) : ∀ {xs : List Bal}, RiseB xs → RiseB (setR a t v xs false) ∧ ∀ a' t', getB a' t' (setR a t v xs false) = if a' = a ∧ t' = t then some v else getB a' t' xs
  | [], _ => by
    unfold setR
    rw [if_neg (by simp)]
    refine ⟨⟨by simp, fun x hx => by rw [List.mem_singleton.1 hx]; exact hk⟩, fun a' t' => ?_⟩
    by_cases e : a' = a ∧ t' = t
    · rw [if_pos e, e.1, e.2]
      exact getB_head ⟨a, t, v⟩ []
    · rw [if_neg e, getB_tail (fun h => e ⟨h.1.symm, h.2.symm⟩)]
  | b :: r, h => by
    have hb := h.key b (List.mem_cons_self ..)
    have ih := setR_false (v := v) hk (xs := r) h.tail
    have hp := (List.pairwise_cons.1 h.rise).1
    unfold setR
    by_cases h1 : b.ac = a ∧ b.ast = t
    · rw [if_pos h1]
      refine ⟨ih.1, fun a' t' => ?_⟩
      rw [ih.2]
      split
      · rfl
      · rename_i h2
        rw [getB_tail (fun h3 => h2 ⟨h3.1.symm.trans h1.1, h3.2.symm.trans h1.2⟩)]
    · rw [if_neg h1]
      by_cases h2 : a * 3 + t < b.ac * 3 + b.ast
      · rw [if_pos ⟨rfl, h2⟩, setR_true r]
        have hnone : ∀ y ∈ r, ¬ (y.ac = a ∧ y.ast = t) := fun y hy e => by
          have := hp y hy
          unfold plB at this
          rw [e.1, e.2] at this
          omega
        have hf : r.filter (fun b => !decide (b.ac = a ∧ b.ast = t)) = r := List.filter_eq_self.2 (fun y hy => by rw [decide_eq_false (hnone y hy)]; rfl)
        rw [hf]
        refine ⟨⟨?_, fun x hx => ?_⟩, fun a' t' => ?_⟩
        · rw [List.pairwise_cons]
          refine ⟨fun y hy => ?_, h.rise⟩
          show a * 3 + t < plB y
          rcases List.mem_cons.1 hy with rfl | hy
          · exact h2
          · have := hp y hy
            unfold plB at this ⊢
            omega
        · rcases List.mem_cons.1 hx with rfl | hx
          · exact hk
          · exact h.key x hx
        · by_cases e : a' = a ∧ t' = t
          · rw [if_pos e, e.1, e.2]
            exact getB_head ⟨a, t, v⟩ _
          · rw [if_neg e, getB_tail (fun h => e ⟨h.1.symm, h.2.symm⟩)]
      · rw [if_neg (fun h3 => h2 h3.2)]
        have hlt : plB b < a * 3 + t := by
          have hne : plB b ≠ a * 3 + t := fun e => h1 (plB_inj (y := ⟨a, t, v⟩) hb hk e)
          unfold plB at hne ⊢
          omega
        refine ⟨⟨?_, fun x hx => ?_⟩, fun a' t' => ?_⟩
        · rw [List.pairwise_cons]
          refine ⟨fun y hy => ?_, ih.1.rise⟩
          rcases setR_mem hy with hy | rfl
          · exact hp y hy
          · exact hlt
        · rcases List.mem_cons.1 hx with rfl | hx
          · exact hb
          · exact ih.1.key x hx
        · by_cases e3 : b.ac = a' ∧ b.ast = t'
          · rw [← e3.1, ← e3.2, getB_head, getB_head, if_neg h1]
          · rw [getB_tail e3, getB_tail e3, ih.2]
theorem setB_does {a t v : Int} (hk : keyOk a t = true) {xs : List Bal} (h : RiseB xs) : RiseB (setB a t v xs) ∧ ∀ a' t', getB a' t' (setB a t v xs) = if a' = a ∧ t' = t then (if v = 0 then none else some v) else getB a' t' xs := by
  rw [setB_R]
  by_cases hv : v = 0
  · rw [decide_eq_true hv, setR_true, if_pos hv]
    exact ⟨rise_filter h _, fun a' t' => getB_filter xs⟩
  · rw [decide_eq_false hv, if_neg hv]
    exact setR_false hk h
end Go.Proofs.Ytgjpafalompecaa

/-
  A book's entry taken and stored; the legs of a contract added to a book.
-/
namespace Go.Proofs.Ytgjpafalompecaa
open Go.RowKit Go.Maps Go.WideElems Go.ChangeMaps
set_option linter.unusedSectionVars false
variable [DecidableEq Bal] [Inhabited Bal] [DecidableEq Ledg] [Inhabited Ledg] [DecidableEq Leg] [Inhabited Leg] [DecidableEq Cont] [Inhabited Cont]
open Go.WideMaps (KeyLaw)
set_option linter.unusedVariables false
set_option linter.unusedSimpArgs false
attribute [local go_sem ↓] Go.wp_at_zero Go.wp_at_succ

set_option maxRecDepth 100000 in
theorem holdK : KeyLaw Try.prog 64 := deep_law_laid laidOut (m := 2) (by omega) (of_decide_eq_true (by kernel_rfl)) (by kernel_rfl) holdWide
theorem setBlock_twice (w : World) (b : Nat) (x y : Obj) : setBlock (setBlock w b x) b y = setBlock w b y := by
  unfold setBlock
  simp
theorem setBlock_mod (w : World) (b : Nat) (x : Obj) : Mod (fun i => i = b) w (setBlock w b x) := by
  refine ⟨rfl, rfl, rfl, ?_, fun i hi hn => ?_⟩
  · simp [setBlock]
  · simp only [setBlock]
    rw [Array.getElem?_setIfInBounds, if_neg (fun e => hn e.symm)]
theorem Book.entry {w : World} {b n : Nat} {f : Int → Int → Int → Option Int} (h : Book w b n f) {s a t : Int} (hw : kwf s a t) (hn : n < maxLen) :
    ∃ v0 st w1, (Instr.mapEntry 54 (.map (some b)) (kv s a t)).run Try.prog w = .ok (.tuple #[v0, goInt st]) w1 ∧ Mod (fun i => i = b) w w1 ∧
      ∀ v, (Lit.int .i64 v).wf = true → ∃ w', (Instr.entryStore 54 (.map (some b)) (goInt st) (.int .i64 v)).run Try.prog w1 = .ok () w' ∧ Book w' b (n + 1) (upd3 f s a t (some v)) ∧ Mod (fun i => i = b) w w' := by
  have hB := h
  have hlt := h.lt
  obtain ⟨D, ⟨es, clock, hb, Ft, hs, hD⟩, h1⟩ := h
  obtain ⟨kl, hk⟩ := keyOf_kv hw
  obtain ⟨v0, st, es1, clock1, hr, _, hst⟩ := entry_then_store holdK Try.underlying54 (fun u => zero64 u) hb Ft hk
  refine ⟨v0, st, _, hr, setBlock_mod _ _ _, fun v hv => ?_⟩
  obtain ⟨es', clock', hr2, hr3⟩ := hst (setBlock w b (.map es1 clock1)) (.int .i64 v) (by simp [setBlock, hlt])
  obtain ⟨w', hp, hB', _⟩ := hB.put hw hv hn
  rw [hr3] at hp
  have e : setBlock w b (.map es' clock') = w' := by
    injection hp
  refine ⟨_, hr2, ?_, ?_⟩
  · rw [setBlock_twice, e]
    exact hB'
  · rw [setBlock_twice]
    exact setBlock_mod _ _ _
theorem entry_as {H : Type} {P : Program} {w : World} {t k e : TypeId} {R : Value → Option (DataW H × List MemPlace)} {b : Nat} {es : Array MapEntry} {clock : Nat} (K : KeyLaw P k) (ht : P.underlying t = some (.map k e)) {z : Value} (hz : ∀ u : World, (zeroValue e).run P u = .ok z u) (hb : w.heap[b]? = some (.map es clock)) (F : Go.WideElems.Fit P k R es clock)
    {key : Value} {kl : Lit} (hkey : keyOf P k key = some kl) :
    ∃ (v0 : Value) (st : Nat) (X : World), (Instr.mapEntry t (.map (some b)) key).run P w = .ok (.tuple #[v0, goInt st]) X ∧ (Instr.mapUpdate t (.map (some b)) key v0).run P w = .ok () X ∧ (Instr.lookup t (.map (some b)) key false).run P w = .ok v0 w := by
  rcases K.find w hkey es.toList F.keys with ⟨h1, h2⟩ | ⟨j, e0, h1, h2, h3⟩
  · refine ⟨z, clock, setBlock w b (.map (es.push ⟨key, z, clock⟩) (clock + 1)), ?_, ?_, ?_⟩
    · simp [Instr.mapEntry, run_underlying ht, MapKept.run_getObj_map hb, K.check w false hkey, h1, hz, MapKept.run_setObj_map _ hb, Result.andThen, setBlock]
    · simp [Instr.mapUpdate, run_underlying ht, MapKept.run_getObj_map hb, K.check w false hkey, h1, MapKept.run_setObj_map _ hb, Result.andThen, setBlock]
    · simp [Instr.lookup, run_underlying ht, MapKept.run_getObj_map hb, K.check w _ hkey, h1, hz, Result.andThen]
  · have hj : es[j]? = some e0 := by simpa using h2
    have hA : es.modify j (fun e => { e with key := key }) = es := by
      apply Array.ext'
      rw [Array.toList_modify, modify_eq_set _ _ _ _ h2]
      have q : ({ e0 with key := key } : MapEntry) = e0 := by rw [← h3]
      rw [q]
      exact set_self _ _ _ h2
    have hB : es.modify j (fun e' => { e' with key := key, val := e0.val }) = es := by
      apply Array.ext'
      rw [Array.toList_modify, modify_eq_set _ _ _ _ h2]
      have q : ({ e0 with key := key, val := e0.val } : MapEntry) = e0 := by rw [← h3]
      rw [q]
      exact set_self _ _ _ h2
    refine ⟨e0.val, e0.born, setBlock w b (.map es clock), ?_, ?_, ?_⟩
    · simp [Instr.mapEntry, run_underlying ht, MapKept.run_getObj_map hb, K.check w false hkey, h1, hj, h3, K.stays w hkey, hA, MapKept.run_setObj_map _ hb, Result.andThen, setBlock]
    · simp [Instr.mapUpdate, run_underlying ht, MapKept.run_getObj_map hb, K.check w false hkey, h1, hj, h3, K.stays w hkey, hB, MapKept.run_setObj_map _ hb, Result.andThen, setBlock]
    · simp [Instr.lookup, run_underlying ht, MapKept.run_getObj_map hb, K.check w _ hkey, h1, hj, Result.andThen]
theorem Book.entry2 {w : World} {b n : Nat} {f : Int → Int → Int → Option Int} (h : Book w b n f) {s a t : Int} (hw : kwf s a t) (hn : n < maxLen) :
    ∃ v0 st w1, (Instr.mapEntry 54 (.map (some b)) (kv s a t)).run Try.prog w = .ok (.tuple #[v0, goInt st]) w1 ∧ Mod (fun i => i = b) w w1 ∧ Book w1 b (n + 1) (upd3 f s a t (some ((f s a t).getD 0))) ∧
      ∀ v, (Lit.int .i64 v).wf = true → ∃ w', (Instr.entryStore 54 (.map (some b)) (goInt st) (.int .i64 v)).run Try.prog w1 = .ok () w' ∧ Book w' b (n + 1) (upd3 f s a t (some v)) ∧ Mod (fun i => i = b) w w' := by
  obtain ⟨v0, st, w1, h1, h2, h3⟩ := h.entry hw hn
  refine ⟨v0, st, w1, h1, h2, ?_, h3⟩
  obtain ⟨hl, hlw⟩ := h.look hw
  have hB := h
  obtain ⟨D, ⟨es, clock, hb, Ft, hs, hD⟩, _⟩ := h
  obtain ⟨kl, hk⟩ := keyOf_kv hw
  obtain ⟨u0, st', X, e1, e2, e3⟩ := entry_as holdK Try.underlying54 (fun u => zero64 u) hb Ft hk
  rw [h1] at e1
  rw [hl] at e3
  injection e1 with _ eX
  injection e3 with eV _
  obtain ⟨w', hp, hB', _⟩ := hB.put hw hlw hn
  rw [← eV] at e2
  rw [e2] at hp
  injection hp with _ eW
  rw [eX, eW]
  exact hB'
def addL (f : Int → Int → Int → Option Int) (l : Leg) : Int → Int → Int → Option Int := upd3 f l.sh l.ac l.ast (if (f l.sh l.ac l.ast).getD 0 + l.am = 0 then none else some ((f l.sh l.ac l.ast).getD 0 + l.am))
def addLs (f : Int → Int → Int → Option Int) (ls : List Leg) : Int → Int → Int → Option Int := ls.foldl addL f
theorem addLs_succ (f : Int → Int → Int → Option Int) (ls : List Leg) {k : Nat} (h : k < ls.length) : addLs f (ls.take (k + 1)) = addL (addLs f (ls.take k)) (ls.getD k default) := by
  unfold addLs
  rw [take_snoc ls k h, List.foldl_append]
  rfl
end Go.Proofs.Ytgjpafalompecaa

/-
  What is settled, told by the book.
-/
namespace Go.Proofs.Ytgjpafalompecaa
open Go.RowKit
set_option linter.unusedSectionVars false
variable [DecidableEq Bal] [Inhabited Bal] [DecidableEq Ledg] [Inhabited Ledg] [DecidableEq Leg] [Inhabited Leg] [DecidableEq Cont] [Inhabited Cont] [DecidableEq LedgR] [Inhabited LedgR]
set_option linter.unusedVariables false
set_option linter.unusedSimpArgs false

theorem rise_of {xs : List Bal} (h : BalsOk xs) : RiseB xs := by
  refine ⟨?_, fun x hx => ?_⟩
  · rw [List.pairwise_iff_getElem]
    intro i j hi hj hij
    have := rising h hij hj
    unfold plB
    simpa [List.getD, hi, hj] using this
  · obtain ⟨i, hi, rfl⟩ := List.mem_iff_getElem.1 hx
    have := balOk_key (h.ok i hi)
    simpa [List.getD, hi] using this
theorem addB_snoc (xs : List Bal) (ls : List Leg) (l : Leg) : addB xs (ls ++ [l]) = addStep (addB xs ls) l := by unfold addB; rw [List.foldl_append]; rfl
theorem addLs_snoc (f : Int → Int → Int → Option Int) (ls : List Leg) (l : Leg) : addLs f (ls ++ [l]) = addL (addLs f ls) l := by unfold addLs; rw [List.foldl_append]; rfl
theorem onSh_snoc (s : Int) (ls : List Leg) (l : Leg) : onSh s (ls ++ [l]) = if l.sh = s then onSh s ls ++ [l] else onSh s ls := by
  unfold onSh
  rw [List.filter_append]
  by_cases h : l.sh = s
  · rw [if_pos h]
    simp [h]
  · rw [if_neg h]
    simp [h]
theorem snoc_ind {α : Type} {P : List α → Prop} (h0 : P []) (h1 : ∀ l x, P l → P (l ++ [x])) (l : List α) : P l := by
  rw [← List.reverse_reverse l]
  induction l.reverse with
  | nil => exact h0
  | cons x l ih =>
    rw [List.reverse_cons]
    exact h1 _ _ ih
theorem settle_book {gs : List (List Bal)} {i : Nat} (hi : i < gs.length) (hx : RiseB (gs.getD i default)) (ls : List Leg) : (∀ l ∈ ls, keyOk l.ac l.ast = true) →
    RiseB (addB (gs.getD i default) (onSh i ls)) ∧ ∀ a t, getB a t (addB (gs.getD i default) (onSh i ls)) = addLs (bookF gs) ls i a t := by
  refine snoc_ind (P := fun ls => (∀ l ∈ ls, keyOk l.ac l.ast = true) → RiseB (addB (gs.getD i default) (onSh i ls)) ∧ ∀ a t, getB a t (addB (gs.getD i default) (onSh i ls)) = addLs (bookF gs) ls i a t) ?_ ?_ ls
  · intro _
    refine ⟨hx, fun a t => ?_⟩
    show getB a t (gs.getD i default) = bookF gs i a t
    unfold bookF
    rw [if_pos ⟨by omega, by omega⟩]
    simp
  · intro ls l ih hk
    obtain ⟨h1, h2⟩ := ih (fun x hx => hk x (List.mem_append_left _ hx))
    have hkl := hk l (List.mem_append_right _ (List.mem_singleton.2 rfl))
    rw [onSh_snoc, addLs_snoc]
    by_cases hs : l.sh = (i : Int)
    · rw [if_pos hs, addB_snoc]
      unfold addStep
      obtain ⟨r1, r2⟩ := setB_does (v := hasB l.ac l.ast (addB (gs.getD i default) (onSh i ls)) + l.am) hkl h1
      refine ⟨r1, fun a t => ?_⟩
      rw [r2, hasB_get, h2]
      unfold addL upd3
      by_cases e : a = l.ac ∧ t = l.ast
      · rw [if_pos e, if_pos (show (i : Int) = l.sh ∧ a = l.ac ∧ t = l.ast from ⟨hs.symm, e.1, e.2⟩), hs]
      · rw [if_neg e, if_neg (fun h => e h.2), h2]
    · rw [if_neg hs]
      refine ⟨h1, fun a t => ?_⟩
      rw [h2]
      unfold addL upd3
      rw [if_neg (fun h => hs h.1.symm)]
theorem book_dom {gs : List (List Bal)} (ls : List Leg) : (∀ l ∈ ls, 0 ≤ l.sh ∧ l.sh < (gs.length : Int)) → ∀ s a t : Int, ¬ (0 ≤ s ∧ s < (gs.length : Int)) → addLs (bookF gs) ls s a t = none := by
  refine snoc_ind (P := fun ls => (∀ l ∈ ls, 0 ≤ l.sh ∧ l.sh < (gs.length : Int)) → ∀ s a t : Int, ¬ (0 ≤ s ∧ s < (gs.length : Int)) → addLs (bookF gs) ls s a t = none) ?_ ?_ ls
  · intro _ s a t h
    show bookF gs s a t = none
    unfold bookF
    rw [if_neg h]
  · intro ls l ih hk s a t h
    have hl := hk l (List.mem_append_right _ (List.mem_singleton.2 rfl))
    rw [addLs_snoc]
    unfold addL upd3
    rw [if_neg (fun e => h (by rw [e.1]; exact hl))]
    exact ih (fun x hx => hk x (List.mem_append_left _ hx)) s a t h
theorem settle_unique {gs : List (List Bal)} {ls : List Leg} (hg : ∀ i, i < gs.length → RiseB (gs.getD i default)) (hk : ∀ l ∈ ls, keyOk l.ac l.ast = true) {hs : List (List Bal)} (hl : hs.length = gs.length)
    (hr : ∀ i, i < gs.length → RiseB (hs.getD i default) ∧ ∀ a t, getB a t (hs.getD i default) = addLs (bookF gs) ls i a t) : hs = settleL gs ls := by
  apply List.ext_getElem?
  intro i
  by_cases hi : i < gs.length
  · have e1 : hs[i]? = some (hs.getD i default) := by simp [List.getD, show i < hs.length by omega]
    have e2 : (settleL gs ls)[i]? = some ((settleL gs ls).getD i default) := by simp [List.getD, show i < (settleL gs ls).length by rw [settleL_len]; exact hi]
    rw [e1, e2, settleL_get gs ls hi]
    congr 1
    obtain ⟨r1, r2⟩ := settle_book hi (hg i hi) ls hk
    exact rise_ext (hr i hi).1 r1 (fun a t => by rw [(hr i hi).2, ← r2]; rfl)
  · rw [List.getElem?_eq_none (by omega), List.getElem?_eq_none (by rw [settleL_len]; omega)]
end Go.Proofs.Ytgjpafalompecaa

/-
  The keys of a book, sorted and laid shard by shard: what lies there rises and tells the book.
-/
namespace Go.Proofs.Ytgjpafalompecaa
open Go.RowKit Go.Sort Go.Shelf
set_option linter.unusedSectionVars false
variable [DecidableEq Rw] [Inhabited Rw] [DecidableEq Bal] [Inhabited Bal] [DecidableEq Ledg] [Inhabited Ledg] [DecidableEq Leg] [Inhabited Leg] [DecidableEq Cont] [Inhabited Cont] [DecidableEq LedgR] [Inhabited LedgR]
set_option linter.unusedVariables false
set_option linter.unusedSimpArgs false

theorem nodup_lt : ∀ (N : Nat) (l : List Nat), l.Nodup → (∀ x ∈ l, x < N) → l.length ≤ N
  | 0, l, _, h => by
    cases l with
    | nil => simp
    | cons x r => exact absurd (h x (by simp)) (Nat.not_lt_zero _)
  | N + 1, l, hn, h => by
    have h1 := nodup_lt N (l.erase N) (hn.erase N) (fun x hx => by
      obtain ⟨h2, h3⟩ := (hn.mem_erase_iff).1 hx
      have := h x h3
      omega)
    rw [List.length_erase] at h1
    split at h1 <;> omega
def KDom (n : Nat) (f : Int → Int → Int → Option Int) : Prop := ∀ s a t, (f s a t).isSome = true → (0 ≤ s ∧ s < (n : Int)) ∧ keyOk a t = true
theorem KDom.len {n : Nat} {f : Int → Int → Int → Option Int} (h : KDom n f) {ys : List K3} (hy : KOk f ys) : ys.length ≤ n * 18 := by
  have h1 := nodup_lt (n * 18) (ys.map (fun k : K3 => k.1.toNat * 18 + k.2.1.toNat * 3 + k.2.2.toNat)) ?_ ?_
  · simpa using h1
  · rw [List.Nodup, List.pairwise_map]
    refine List.Pairwise.imp_of_mem ?_ hy.1
    rintro ⟨s, a, t⟩ ⟨s', a', t'⟩ hx hx' hne e
    obtain ⟨⟨_, _⟩, hk⟩ := h s a t (hy.2 _ hx)
    obtain ⟨⟨_, _⟩, hk'⟩ := h s' a' t' (hy.2 _ hx')
    obtain ⟨⟨_, _⟩, _, _⟩ := keyOk_iff.1 hk
    obtain ⟨⟨_, _⟩, _, _⟩ := keyOk_iff.1 hk'
    apply hne
    dsimp only at e
    have e1 : s = s' := by omega
    have e2 : a = a' := by omega
    have e3 : t = t' := by omega
    rw [e1, e2, e3]
  · intro x hx
    obtain ⟨⟨s, a, t⟩, hm, rfl⟩ := List.mem_map.1 hx
    obtain ⟨⟨_, _⟩, hk⟩ := h s a t (hy.2 _ hm)
    obtain ⟨⟨_, _⟩, _, _⟩ := keyOk_iff.1 hk
    dsimp only
    omega
def balK (f : Int → Int → Int → Option Int) (k : K3) : Bal := ⟨k.2.1, k.2.2, (f k.1 k.2.1 k.2.2).getD 0⟩
def shK (f : Int → Int → Int → Option Int) (ys : List K3) (i : Nat) : List Bal := (ys.filter (fun k => decide (k.1 = (i : Int)))).map (balK f)
theorem shK_snoc (f : Int → Int → Int → Option Int) (ys : List K3) (k : K3) (i : Nat) : shK f (ys ++ [k]) i = if k.1 = (i : Int) then shK f ys i ++ [balK f k] else shK f ys i := by
  unfold shK
  rw [List.filter_append, List.map_append]
  by_cases h : k.1 = (i : Int)
  · simp [h]
  · simp [h]
theorem shK_mem {f : Int → Int → Int → Option Int} {ys : List K3} {i : Nat} {x : Bal} : x ∈ shK f ys i ↔ ∃ k ∈ ys, k.1 = (i : Int) ∧ balK f k = x := by
  unfold shK
  simp only [List.mem_map, List.mem_filter, decide_eq_true_eq]
  constructor
  · rintro ⟨k, ⟨h1, h2⟩, h3⟩
    exact ⟨k, h1, h2, h3⟩
  · rintro ⟨k, h1, h2, h3⟩
    exact ⟨k, ⟨h1, h2⟩, h3⟩
theorem shK_rise {n : Nat} {f : Int → Int → Int → Option Int} (hd : KDom n f) {ys : List K3} (hy : KOk f ys) (hs : ys.Pairwise (fun p q => ltOf cfK q p = false)) (i : Nat) : RiseB (shK f ys i) := by
  refine ⟨?_, fun x hx => ?_⟩
  · unfold shK
    rw [List.pairwise_map]
    have h1 : ys.Pairwise (fun p q => ltOf cfK q p = false ∧ p ≠ q) := hs.and hy.1
    have h2 := h1.filter (fun k => decide (k.1 = (i : Int)))
    refine List.Pairwise.imp_of_mem ?_ h2
    rintro ⟨s, a, t⟩ ⟨s', a', t'⟩ hx hx' ⟨hl, hne⟩
    obtain ⟨hx1, hx2⟩ := List.mem_filter.1 hx
    obtain ⟨hx1', hx2'⟩ := List.mem_filter.1 hx'
    simp only [decide_eq_true_eq] at hx2 hx2'
    obtain ⟨_, hk⟩ := hd s a t (hy.2 _ hx1)
    obtain ⟨_, hk'⟩ := hd s' a' t' (hy.2 _ hx1')
    obtain ⟨⟨_, _⟩, _, _⟩ := keyOk_iff.1 hk
    obtain ⟨⟨_, _⟩, _, _⟩ := keyOk_iff.1 hk'
    rw [← Bool.not_eq_true, ltK_iff] at hl
    dsimp only at hl
    unfold plB balK
    dsimp only
    have hne' : ¬ (a = a' ∧ t = t') := fun e => hne (by rw [hx2, hx2', e.1, e.2])
    omega
  · obtain ⟨k, hk, _, rfl⟩ := shK_mem.1 hx
    exact (hd _ _ _ (hy.2 k hk)).2
theorem shK_get {n : Nat} {f : Int → Int → Int → Option Int} (hn : n ≤ 200) (hd : KDom n f) {ys : List K3} (hy : KDn f ys) (i : Nat) (a t : Int) : getB a t (shK f ys i) = f i a t := by
  cases hf : f i a t with
  | none =>
    refine getB_not (fun x hx e => ?_)
    obtain ⟨k, hk, hi, rfl⟩ := shK_mem.1 hx
    have h1 := hy.1.2 k hk
    unfold balK at e
    dsimp only at e
    rw [hi, e.1, e.2, hf] at h1
    cases h1
  | some v =>
    have hs : (f i a t).isSome = true := by rw [hf]; rfl
    obtain ⟨⟨_, _⟩, hk⟩ := hd i a t hs
    obtain ⟨⟨_, _⟩, _, _⟩ := keyOk_iff.1 hk
    have hm := hy.2 i a t ⟨wf_of (by omega) (by omega), wf_of (by omega) (by omega), wf_of (by omega) (by omega)⟩ hs
    cases hg : getB a t (shK f ys i) with
    | none =>
      have h3 : ∀ (xs : List Bal), getB a t xs = none → ∀ x ∈ xs, ¬ (x.ac = a ∧ x.ast = t) := by
        intro xs
        induction xs with
        | nil => intro _ x hx; cases hx
        | cons y r ih =>
          intro h x hx e
          by_cases hy' : y.ac = a ∧ y.ast = t
          · simp only [getB] at h
            rw [if_pos hy'] at h
            cases h
          · rw [getB_tail hy'] at h
            rcases List.mem_cons.1 hx with rfl | hx
            · exact hy' e
            · exact ih h x hx e
      exact absurd ⟨rfl, rfl⟩ (h3 _ hg (balK f (i, a, t)) (shK_mem.2 ⟨_, hm, rfl, rfl⟩))
    | some u =>
      obtain ⟨x, hx, h1, h2, h3⟩ := getB_mem hg
      obtain ⟨k, hk', hi, rfl⟩ := shK_mem.1 hx
      unfold balK at h1 h2 h3
      dsimp only at h1 h2 h3
      rw [hi, h1, h2, hf] at h3
      rw [← h3]
      rfl
theorem lay_settled {gs : List (List Bal)} {ls : List Leg} (hg : ∀ i, i < gs.length → RiseB (gs.getD i default)) (hk : ∀ l ∈ ls, keyOk l.ac l.ast = true) (hN : gs.length ≤ 200) (hd : KDom gs.length (addLs (bookF gs) ls))
    {ys : List K3} (hy : KDn (addLs (bookF gs) ls) ys) (hs : ys.Pairwise (fun p q => ltOf cfK q p = false)) {hs' : List (List Bal)} (hl : hs'.length = gs.length) (he : ∀ i, i < gs.length → hs'.getD i default = shK (addLs (bookF gs) ls) ys i) : hs' = settleL gs ls :=
  settle_unique hg hk hl (fun i hi => by rw [he i hi]; exact ⟨shK_rise hd hy.1 hs i, fun a t => shK_get hN hd hy i a t⟩)
theorem kdom_settle {gs : List (List Bal)} {ls : List Leg} (hg : ∀ i, i < gs.length → RiseB (gs.getD i default)) (hk : ∀ l ∈ ls, keyOk l.ac l.ast = true) (hl : ∀ l ∈ ls, 0 ≤ l.sh ∧ l.sh < (gs.length : Int)) : KDom gs.length (addLs (bookF gs) ls) := by
  intro s a t h
  by_cases hr : 0 ≤ s ∧ s < (gs.length : Int)
  · refine ⟨hr, ?_⟩
    obtain ⟨i, rfl⟩ : ∃ i : Nat, s = (i : Int) := ⟨s.toNat, by omega⟩
    have hi : i < gs.length := by omega
    obtain ⟨h1, h2⟩ := settle_book hi (hg i hi) ls hk
    rw [← h2] at h
    obtain ⟨v, hv⟩ := Option.isSome_iff_exists.1 h
    obtain ⟨x, hx, rfl, rfl, _⟩ := getB_mem hv
    exact h1.key x hx
  · rw [book_dom ls hl s a t hr] at h
    cases h
end Go.Proofs.Ytgjpafalompecaa


/-
  A map whose keys are three numbers: what it holds, key by key; looked up, written, struck.
-/
import Derived.Test.YteebglgbeijolaaSep
import Derived.Maps.OwnSet
import Derived.DeepKeys4
namespace Go.Proofs.Yteebglgbeijolaa
open Go.RowKit Go.Maps

def kv (s a t : Int) : Value := .agg #[.int .i64 s, .int .i64 a, .int .i64 t]
def kwf (s a t : Int) : Prop := (Lit.int .i64 s).wf = true ∧ (Lit.int .i64 a).wf = true ∧ (Lit.int .i64 t).wf = true
theorem wf_of {n : Int} (h0 : -9223372036854775808 ≤ n) (h1 : n ≤ 9223372036854775807) : (Lit.int .i64 n).wf = true := by
  simp [Lit.wf, IntKind.min, IntKind.max, IntKind.signed, IntKind.bits]
  omega

set_option maxRecDepth 20000 in
theorem holdWide : (match Try.prog.underlying 180 with | some (.array _ _) | some (.struct _) => true | _ => false) = true := by rw [Try.underlying180]
set_option maxRecDepth 20000 in
theorem holdLaw : Keyed Try.prog 180 := Keyed.of_law (deep_law_laid laidOut (m := 2) (by omega) (of_decide_eq_true (by kernel_rfl)) (by kernel_rfl) holdWide)
theorem holdCells : Try.prog.cellsOf 180 = 3 := by kernel_rfl
theorem holdType : Try.prog.keyType 180 = true := by kernel_rfl
theorem holdDepth : ∃ d, Try.prog.types.size + 1 = d + 1 + 1 := ⟨Try.prog.types.size - 1, by have h : 0 < Try.prog.types.size := of_decide_eq_true (by kernel_rfl); omega⟩

theorem intLits (d : Nat) (n : Int) (h : (Lit.int .i64 n).wf = true) : Try.prog.keyLits (d + 1) 2 [.int .i64 n] = some [.int .i64 n] := by
  unfold Program.keyLits
  rw [Try.underlying2]
  simp [h]
theorem keyOf_kv {s a t : Int} (h : kwf s a t) : ∃ kl, keyOf Try.prog 180 (kv s a t) = some kl := by
  obtain ⟨d, hd⟩ := holdDepth
  obtain ⟨h0, h1, h2⟩ := h
  have hc : Try.prog.cellsOf 2 = 1 := by kernel_rfl
  have hf : (kv s a t).formed Try.prog 180 = true := by simp [kv, Value.formed, Try.underlying180, holdCells]
  have hl : Try.prog.keyLits (Try.prog.types.size + 1) 180 (kv s a t).cells.toList = some [.int .i64 s, .int .i64 a, .int .i64 t] := by
    rw [hd]
    unfold Program.keyLits
    rw [Try.underlying180]
    simp [kv, Value.cells, holdCells, hc, List.range, List.range.loop, intLits d s h0, intLits d a h1, intLits d t h2]
  unfold keyOf
  rw [Try.underlying180]
  dsimp only
  rw [if_pos (by rw [holdType, hf]; rfl), hl]
  exact ⟨_, rfl⟩
set_option maxRecDepth 20000 in
theorem intLits_inv {d : Nat} {c : Value} {l : List Lit} (h : Try.prog.keyLits (d + 1) 2 [c] = some l) : ∃ n, c = .int .i64 n ∧ (Lit.int .i64 n).wf = true := by
  unfold Program.keyLits at h
  rw [Try.underlying2] at h
  cases c <;> simp at h
  obtain ⟨⟨rfl, hw⟩, _⟩ := h
  exact ⟨_, rfl, hw⟩
set_option maxRecDepth 20000 in
theorem kv_of_key {v : Value} {kl : Lit} (h : keyOf Try.prog 180 v = some kl) : ∃ s a t, v = kv s a t ∧ kwf s a t := by
  obtain ⟨xs, L, rfl, hl, _⟩ := keyOf_top holdWide h
  obtain ⟨d, hd⟩ := holdDepth
  have hc : Try.prog.cellsOf 2 = 1 := by kernel_rfl
  rw [hd] at hl
  unfold Program.keyLits at hl
  rw [Try.underlying180] at hl
  simp only [holdCells, hc] at hl
  split at hl
  · rename_i h3
    obtain ⟨l⟩ := xs
    match l, h3 with
    | [c0, c1, c2], _ =>
      simp [List.range, List.range.loop] at hl
      cases e0 : Try.prog.keyLits (d + 1) 2 [c0] with
      | none => simp [e0] at hl
      | some l0 =>
        cases e1 : Try.prog.keyLits (d + 1) 2 [c1] with
        | none => simp [e0, e1] at hl
        | some l1 =>
          cases e2 : Try.prog.keyLits (d + 1) 2 [c2] with
          | none => simp [e0, e1, e2] at hl
          | some l2 =>
            obtain ⟨n0, rfl, w0⟩ := intLits_inv e0
            obtain ⟨n1, rfl, w1⟩ := intLits_inv e1
            obtain ⟨n2, rfl, w2⟩ := intLits_inv e2
            exact ⟨n0, n1, n2, rfl, w0, w1, w2⟩
  · cases hl
theorem kv_inj {s a t s' a' t' : Int} (h : kv s a t = kv s' a' t') : s = s' ∧ a = a' ∧ t = t' := by
  simpa [kv] using h

/-- block b is a map that holds f, key by key, and has had at most n entries -/
def Book (w : World) (b n : Nat) (f : Int → Int → Int → Option Int) : Prop :=
  ∃ D : DataW Unit, w.ownsMap Try.prog 180 (plainElem Try.prog 2) b n D ∧
    ∀ s a t kl, keyOf Try.prog 180 (kv s a t) = some kl → Maps.has D kl = (f s a t).isSome ∧ D.atKey kl (.lit (.int .i64 0)) = .lit (.int .i64 ((f s a t).getD 0))

def upd3 (f : Int → Int → Int → Option Int) (s a t : Int) (v : Option Int) : Int → Int → Int → Option Int := fun s' a' t' => if s' = s ∧ a' = a ∧ t' = t then v else f s' a' t'

theorem book_made (w : World) : Book (w.alloc (.map #[] 0)) w.heap.size 0 (fun _ _ _ => none) :=
  ⟨_, World.ownsMap_made w _ _ _, fun _ _ _ _ _ => ⟨rfl, rfl⟩⟩
theorem Book.lt {w : World} {b n : Nat} {f : Int → Int → Int → Option Int} (h : Book w b n f) : b < w.heap.size := by
  obtain ⟨D, hD, _⟩ := h; exact hD.lt
theorem Book.kept {w w' : World} {b n : Nat} {f : Int → Int → Int → Option Int} {row : Option Nat} (h : Book w b n f) (hg : w.grownBy w' row) (hne : some b ≠ row) : Book w' b n f := by
  obtain ⟨D, hD, h1⟩ := h; exact ⟨D, hD.kept hg hne, h1⟩
theorem Book.below {w w' : World} {b n : Nat} {f : Int → Int → Int → Option Int} (h : Book w b n f) (hb : Below w.heap.size w w') : Book w' b n f := h.kept (grown_of_below hb) (by simp)
theorem Book.mono {w : World} {b n n' : Nat} {f : Int → Int → Int → Option Int} (h : Book w b n f) (hn : n ≤ n') : Book w b n' f := by
  obtain ⟨D, hD, h1⟩ := h; exact ⟨D, hD.mono hn, h1⟩
theorem Book.cast {w : World} {b n : Nat} {f g : Int → Int → Int → Option Int} (h : Book w b n f) (hf : ∀ s a t, kwf s a t → g s a t = f s a t) : Book w b n g := by
  obtain ⟨D, hD, h1⟩ := h
  refine ⟨D, hD, fun s a t kl hk => ?_⟩
  obtain ⟨s', a', t', e, hw⟩ := kv_of_key hk
  obtain ⟨rfl, rfl, rfl⟩ := kv_inj e
  rw [hf _ _ _ hw]
  exact h1 _ _ _ _ hk
theorem Book.turned {w w' : World} {b n : Nat} {f : Int → Int → Int → Option Int} (h : Book w b n f) {F : Nat → Prop} (hm : Mod F w w') (hF : ¬ F b) : Book w' b n f := by
  obtain ⟨D, ⟨es, clock, hb, h2⟩, h1⟩ := h
  refine ⟨D, ⟨es, clock, ?_, h2⟩, h1⟩
  have hlt : b < w.heap.size := by
    rcases Nat.lt_or_ge b w.heap.size with h | h
    · exact h
    · rw [Array.getElem?_eq_none h] at hb; cases hb
  rw [hm.block b hlt hF]
  exact hb

theorem zero64 (w : World) : (zeroValue 2).run Try.prog w = .ok (.int .i64 0) w := by kernel_rfl
theorem Book.look {w : World} {b n : Nat} {f : Int → Int → Int → Option Int} (h : Book w b n f) {s a t : Int} (hw : kwf s a t) :
    (Instr.lookup 141 (.map (some b)) (kv s a t) false).run Try.prog w = .ok (.int .i64 ((f s a t).getD 0)) w ∧ (Lit.int .i64 ((f s a t).getD 0)).wf = true := by
  obtain ⟨D, hD, h1⟩ := h
  obtain ⟨kl, hk⟩ := keyOf_kv hw
  obtain ⟨c, hrun, hat, hwc⟩ := hD.lookup_int holdLaw Try.underlying141 Try.underlying2 (zero64 w) hk
  have := (h1 s a t kl hk).2
  rw [hat] at this
  simp at this
  rw [← this]
  exact ⟨hrun, hwc⟩
theorem Book.put {w : World} {b n : Nat} {f : Int → Int → Int → Option Int} (h : Book w b n f) {s a t v : Int} (hw : kwf s a t) (hv : (Lit.int .i64 v).wf = true) (hn : n < maxLen) :
    ∃ w', (Instr.mapUpdate 141 (.map (some b)) (kv s a t) (.int .i64 v)).run Try.prog w = .ok () w' ∧ Book w' b (n + 1) (upd3 f s a t (some v)) ∧ w.grownBy w' (some b) := by
  obtain ⟨D, hD, h1⟩ := h
  obtain ⟨kl, hk⟩ := keyOf_kv hw
  obtain ⟨w', hrun, hD', hg⟩ := hD.update holdLaw Try.underlying141 hn hk (plainElem_int Try.underlying2 hv)
  refine ⟨w', hrun, ⟨_, hD', fun s' a' t' kl' hk' => ?_⟩, hg⟩
  unfold upd3
  by_cases e : kl' = kl
  · subst e
    have := holdLaw.inj hk' hk
    obtain ⟨rfl, rfl, rfl⟩ := kv_inj this
    rw [if_pos ⟨rfl, rfl, rfl⟩]
    exact ⟨has_put_same hD.isMap (holdLaw.key hk) _, atKey_put_same hD.isMap (holdLaw.key hk) _ _⟩
  · rw [if_neg (by
      rintro ⟨rfl, rfl, rfl⟩
      rw [hk] at hk'
      exact e (by simpa using hk'.symm)), has_put_other e, atKey_put_other e]
    exact h1 s' a' t' kl' hk'
theorem Book.del {w : World} {b n : Nat} {f : Int → Int → Int → Option Int} (h : Book w b n f) {s a t : Int} (hw : kwf s a t) (ty : TypeId) :
    ∃ w', (Builtin.delete_ #[141, 180] ty #[.map (some b), kv s a t]).run Try.prog w = .ok (.tuple #[]) w' ∧ Book w' b n (upd3 f s a t none) ∧ w.grownBy w' (some b) := by
  obtain ⟨D, hD, h1⟩ := h
  obtain ⟨kl, hk⟩ := keyOf_kv hw
  obtain ⟨w', hrun, hD', hg⟩ := hD.drop holdLaw Try.underlying141 hk ty
  refine ⟨w', hrun, ⟨_, hD', fun s' a' t' kl' hk' => ?_⟩, hg.grown⟩
  unfold upd3
  by_cases e : kl' = kl
  · subst e
    have := holdLaw.inj hk' hk
    obtain ⟨rfl, rfl, rfl⟩ := kv_inj this
    rw [if_pos ⟨rfl, rfl, rfl⟩]
    exact ⟨has_del_same, atKey_del_same _⟩
  · rw [if_neg (by
      rintro ⟨rfl, rfl, rfl⟩
      rw [hk] at hk'
      exact e (by simpa using hk'.symm)), has_del_other e, atKey_del_other e]
    exact h1 s' a' t' kl' hk'

end Go.Proofs.Yteebglgbeijolaa

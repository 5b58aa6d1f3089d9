import Derived.Test.YtdfapehonegeeaaBndUnpackWritesLaw7
import Derived.Test.YtdfapehonegeeaaBndUnpackWritesLaw8
import Derived.Test.YtdfapehonegeeaaBndUnpackWritesLaw4
import Derived.Test.YtdfapehonegeeaaBndUnpackWritesLaw1
import Derived.Deep.RegionHeld3

/-
  Bytes read as writes.
-/
namespace Go.Proofs.Ytdfapehonegeeaa
open Go.RowKit
set_option linter.unusedSectionVars false
variable [DecidableEq Wri] [Inhabited Wri] [DecidableEq BytesR] [Inhabited BytesR] [DecidableEq Rw] [Inhabited Rw] [DecidableEq TabR] [Inhabited TabR]
set_option linter.unusedVariables false
set_option linter.unusedSimpArgs false

/-- the text at the beginning of bytes, and what stands behind it -/
def textL : List Byte → Option (ByteArray × List Byte)
  | [] => none
  | b :: r => if b.val ≤ r.length then some (bstr (r.take b.val), r.drop b.val) else none
def writeL : List Byte → Option (Wri × List Byte)
  | [] => none
  | m :: r => match textL r with
    | none => none
    | some (k, r2) => if 1 < m.val then none else if m.val = 1 then some (⟨k, ⟨#[]⟩, true⟩, r2) else match textL r2 with
      | none => none
      | some (v, r3) => some (⟨k, v, false⟩, r3)
def writesF : Nat → List Byte → Option (List Wri)
  | 0, _ => none
  | n + 1, d => if d.length = 0 then some [] else match writeL d with
    | none => none
    | some (x, r) => (writesF n r).map (x :: ·)
def writesL (d : List Byte) : Option (List Wri) := writesF (d.length + 1) d

theorem textL_len {d r : List Byte} {s : ByteArray} (h : textL d = some (s, r)) : r.length + 1 + s.size = d.length ∧ s.size ≤ 255 := by
  cases d with
  | nil => cases h
  | cons b q =>
    unfold textL at h
    dsimp only at h
    split at h
    · simp only [Option.some.injEq, Prod.mk.injEq] at h
      obtain ⟨rfl, rfl⟩ := h
      have hb := b.isLt
      rw [size_bstr, List.length_take, List.length_drop, List.length_cons]
      omega
    · cases h
theorem textL_drop {d r : List Byte} {s : ByteArray} (h : textL d = some (s, r)) : r = d.drop (1 + s.size) := by
  cases d with
  | nil => cases h
  | cons b q =>
    unfold textL at h
    dsimp only at h
    split at h
    · rename_i hb
      simp only [Option.some.injEq, Prod.mk.injEq] at h
      obtain ⟨rfl, rfl⟩ := h
      rw [size_bstr, List.length_take, Nat.min_eq_left hb, Nat.add_comm, List.drop_succ_cons]
    · cases h
/-- how many bytes a write takes -/
def wrN (x : Wri) : Nat := 1 + (1 + x.key.size) + (if x.gone = true then 0 else 1 + x.val.size)
theorem writeL_len {d r : List Byte} {x : Wri} (h : writeL d = some (x, r)) : r.length + wrN x = d.length ∧ x.key.size ≤ 255 ∧ x.val.size ≤ 255 := by
  cases d with
  | nil => cases h
  | cons m q =>
    unfold writeL at h
    dsimp only at h
    cases h1 : textL q with
    | none => rw [h1] at h; cases h
    | some p =>
      obtain ⟨k, r2⟩ := p
      rw [h1] at h
      dsimp only at h
      have g1 := textL_len h1
      by_cases hm : 1 < m.val
      · rw [if_pos hm] at h; cases h
      · rw [if_neg hm] at h
        by_cases hm1 : m.val = 1
        · rw [if_pos hm1] at h
          simp only [Option.some.injEq, Prod.mk.injEq] at h
          obtain ⟨rfl, rfl⟩ := h
          have e0 : (⟨#[]⟩ : ByteArray).size = 0 := rfl
          dsimp only [wrN]
          rw [List.length_cons, if_pos rfl, e0]
          omega
        · rw [if_neg hm1] at h
          cases h2 : textL r2 with
          | none => rw [h2] at h; cases h
          | some p2 =>
            obtain ⟨v, r3⟩ := p2
            rw [h2] at h
            dsimp only at h
            simp only [Option.some.injEq, Prod.mk.injEq] at h
            obtain ⟨rfl, rfl⟩ := h
            have g2 := textL_len h2
            dsimp only [wrN]
            rw [List.length_cons, if_neg (by decide)]
            omega
theorem writesF_any : ∀ (n m : Nat) (d : List Byte), d.length < n → d.length < m → writesF n d = writesF m d
  | 0, _, _, h, _ => absurd h (Nat.not_lt_zero _)
  | _, 0, _, _, h => absurd h (Nat.not_lt_zero _)
  | n + 1, m + 1, d, h1, h2 => by
    unfold writesF
    split
    · rfl
    · cases hw : writeL d with
      | none => rfl
      | some p =>
        obtain ⟨x, r⟩ := p
        have := (writeL_len hw).1
        have hp : 0 < wrN x := by unfold wrN; omega
        dsimp only
        rw [writesF_any n m r (by omega) (by omega)]
theorem writesL_nil : writesL [] = some [] := rfl
theorem writesL_none {d : List Byte} (h0 : d.length ≠ 0) (h : writeL d = none) : writesL d = none := by
  unfold writesL writesF
  rw [if_neg h0, h]
theorem writesL_some {d r : List Byte} {x : Wri} (h0 : d.length ≠ 0) (h : writeL d = some (x, r)) : writesL d = (writesL r).map (x :: ·) := by
  have hl := (writeL_len h).1
  have hp : 0 < wrN x := by unfold wrN; omega
  unfold writesL
  rw [writesF, if_neg h0, h]
  dsimp only
  rw [writesF_any d.length (r.length + 1) r (by omega) (by omega)]
theorem writesL_len : ∀ (n : Nat) (d : List Byte), d.length < n → ∀ ws, writesL d = some ws → (ws.map wrN).sum = d.length ∧ ∀ x ∈ ws, x.key.size ≤ 255 ∧ x.val.size ≤ 255
  | 0, _, h, _, _ => absurd h (Nat.not_lt_zero _)
  | n + 1, d, hn, ws, h => by
    by_cases h0 : d.length = 0
    · have e : d = [] := List.eq_nil_of_length_eq_zero h0
      subst e
      rw [writesL_nil] at h
      simp only [Option.some.injEq] at h
      subst h
      exact ⟨rfl, fun x hx => absurd hx (List.not_mem_nil)⟩
    · cases hw : writeL d with
      | none => rw [writesL_none h0 hw] at h; cases h
      | some p =>
        obtain ⟨x, r⟩ := p
        rw [writesL_some h0 hw] at h
        have hl := writeL_len hw
        have hp : 0 < wrN x := by unfold wrN; omega
        cases hr : writesL r with
        | none => rw [hr] at h; cases h
        | some ws2 =>
          rw [hr] at h
          simp only [Option.map_some, Option.some.injEq] at h
          subst h
          obtain ⟨g1, g2⟩ := writesL_len n r (by omega) ws2 hr
          refine ⟨by rw [List.map_cons, List.sum_cons, g1]; omega, fun y hy => ?_⟩
          rcases List.mem_cons.1 hy with rfl | hy
          · exact hl.2
          · exact g2 y hy
/-- what was read so far, and what is read behind it -/
def WrSo (d : List Byte) (k : Nat) (out : List Wri) : Prop := k ≤ d.length ∧ writesL d = (writesL (d.drop k)).map (out ++ ·) ∧ out.length ≤ k ∧ ∀ x ∈ out, x.key.size ≤ 255 ∧ x.val.size ≤ 255
theorem wrSo_start (d : List Byte) : WrSo d 0 [] := ⟨by omega, by simp, by simp, fun x hx => absurd hx (List.not_mem_nil)⟩
theorem wrSo_step {d r : List Byte} {k : Nat} {out : List Wri} {x : Wri} (h : WrSo d k out) (hk : k < d.length) (hw : writeL (d.drop k) = some (x, r)) : r = d.drop (k + wrN x) ∧ WrSo d (k + wrN x) (out ++ [x]) := by
  have hl := writeL_len hw
  have hr : r = d.drop (k + wrN x) := by
    have e : ∀ {q r : List Byte} {y : Wri}, writeL q = some (y, r) → r = q.drop (wrN y) := by
      intro q r y hq
      cases q with
      | nil => cases hq
      | cons m q =>
        unfold writeL at hq
        dsimp only at hq
        cases h1 : textL q with
        | none => rw [h1] at hq; cases hq
        | some p =>
          obtain ⟨k, r2⟩ := p
          rw [h1] at hq
          dsimp only at hq
          have g1 := textL_drop h1
          by_cases hm : 1 < m.val
          · rw [if_pos hm] at hq; cases hq
          · rw [if_neg hm] at hq
            by_cases hm1 : m.val = 1
            · rw [if_pos hm1] at hq
              simp only [Option.some.injEq, Prod.mk.injEq] at hq
              obtain ⟨rfl, rfl⟩ := hq
              dsimp only [wrN]
              rw [if_pos rfl, g1, Nat.add_zero, Nat.add_comm 1 (1 + k.size), List.drop_succ_cons]
            · rw [if_neg hm1] at hq
              cases h2 : textL r2 with
              | none => rw [h2] at hq; cases hq
              | some p2 =>
                obtain ⟨v, r3⟩ := p2
                rw [h2] at hq
                dsimp only at hq
                simp only [Option.some.injEq, Prod.mk.injEq] at hq
                obtain ⟨rfl, rfl⟩ := hq
                have g2 := textL_drop h2
                dsimp only [wrN]
                rw [if_neg (by decide), g2, g1, List.drop_drop, show 1 + (1 + k.size) + (1 + v.size) = (1 + k.size + (1 + v.size)) + 1 by omega, List.drop_succ_cons]
    rw [e hw, List.drop_drop]
  obtain ⟨h1, h2, h3, h4⟩ := h
  have hp : 0 < wrN x := by unfold wrN; omega
  rw [List.length_drop] at hl
  refine ⟨hr, by omega, ?_, by rw [List.length_append, List.length_singleton]; omega, fun y hy => ?_⟩
  · rw [h2, writesL_some (by rw [List.length_drop]; omega) hw, hr, Option.map_map]
    congr 1
    funext q
    simp
  · rcases List.mem_append.1 hy with hy | hy
    · exact h4 y hy
    · rw [List.mem_singleton] at hy
      subst hy
      exact hl.2
theorem wrSo_bad {d : List Byte} {k : Nat} {out : List Wri} (h : WrSo d k out) (hk : k < d.length) (hw : writeL (d.drop k) = none) : writesL d = none := by
  rw [h.2.1, writesL_none (by rw [List.length_drop]; omega) hw]
  rfl
theorem wrSo_end {d : List Byte} {out : List Wri} (h : WrSo d d.length out) : writesL d = some out := by
  rw [h.2.1, List.drop_length, writesL_nil]
  simp

/-- what the bytes of a batch say -/
def unwV (d : List Byte) : Int := IntKind.i64.wrap (hiN (d.take 8))
def unwD (d : List Byte) : TabR :=
  if d.length < 8 then ⟨5, []⟩ else match writesL (d.drop 8) with
    | none => ⟨5, []⟩
    | some ws => if inR (unwV d) 1 1000000 = true ∧ wrF ws = 0 then ⟨0, ws.map (wrRow (unwV d))⟩ else ⟨5, []⟩

theorem rowFault_size {x : Rw} (h : rowFault x = 0) : x.key.size ≤ 20 ∧ x.val.size ≤ 100 := by
  unfold rowFault at h
  split at h
  · omega
  · split at h
    · omega
    · omega
theorem wrP_wrN {x : Wri} (h : rowFault (wrRow 1 x) = 0) : (wrP x).flatten.length = wrN x := by
  obtain ⟨h1, h2⟩ := rowFault_size h
  dsimp only [wrRow] at h1 h2
  have e : ∀ s : ByteArray, s.size ≤ 200 → (textD s).bytes.length = 1 + s.size := fun s hs => by
    unfold textD
    rw [if_pos hs]
    simp only [List.length_append, length_strB, List.length_cons, List.length_nil]
    try omega
  unfold wrP wrN
  split
  · simp only [List.flatten_cons, List.flatten_nil, List.length_append, List.length_cons, List.length_nil]
    rw [e _ (by omega)]
    omega
  · simp only [List.flatten_cons, List.flatten_nil, List.length_append, List.length_cons, List.length_nil]
    rw [e _ (by omega), e _ (by omega)]
    omega
theorem packB_wrN {v : Int} {ws : List Wri} (h : ∀ x ∈ ws, rowFault (wrRow 1 x) = 0) : (packB v ws).length = 8 + (ws.map wrN).sum := by
  have e : (ws.flatMap wrP).flatten.length = (ws.map wrN).sum := by
    induction ws with
    | nil => rfl
    | cons x r ih =>
      rw [List.flatMap_cons, List.flatten_append, List.length_append, List.map_cons, List.sum_cons, wrP_wrN (h x List.mem_cons_self), ih (fun y hy => h y (List.mem_cons_of_mem _ hy))]
  unfold packB packP
  rw [List.flatten_append, List.length_append, e]
  simp only [List.flatten_cons, List.flatten_nil, List.append_nil, length_hiB]
theorem wrF_rows {ws : List Wri} (h : wrF ws = 0) : ∀ x ∈ ws, rowFault (wrRow 1 x) = 0 := by
  intro x hx
  obtain ⟨j, hj, e⟩ := List.mem_iff_getElem.1 hx
  have h1 := (wrF_inv h).2.2.1 j hj
  unfold wrAt at h1
  have e2 : ws.getD j default = x := by simp [List.getD, hj, e]
  rw [e2] at h1
  split at h1
  · rename_i h2; exact absurd h1 h2
  · rename_i h2; simpa using h2
/-- more bytes than a record may have say nothing -/
theorem unwD_long {d : List Byte} (h : 500 < d.length) : unwD d = ⟨5, []⟩ := by
  unfold unwD
  rw [if_neg (by omega)]
  cases hw : writesL (d.drop 8) with
  | none => rfl
  | some ws =>
    dsimp only
    rw [if_neg]
    rintro ⟨_, hf⟩
    have h1 := (writesL_len _ _ (Nat.lt_succ_self _) ws hw).1
    have h2 := packB_wrN (v := 1) (wrF_rows hf)
    have h3 := (wrF_inv hf).2.2.2
    rw [List.length_drop] at h1
    omega
theorem unwD_short {d : List Byte} (h : d.length < 8) : unwD d = ⟨5, []⟩ := if_pos h
theorem unwD_none {d : List Byte} (h8 : 8 ≤ d.length) (h : writesL (d.drop 8) = none) : unwD d = ⟨5, []⟩ := by
  unfold unwD
  rw [if_neg (by omega), h]
theorem unwD_bad {d : List Byte} {ws : List Wri} (h8 : 8 ≤ d.length) (h : writesL (d.drop 8) = some ws) (hc : ¬ (inR (unwV d) 1 1000000 = true ∧ wrF ws = 0)) : unwD d = ⟨5, []⟩ := by
  unfold unwD
  rw [if_neg (by omega), h]
  exact if_neg hc
theorem unwD_good {d : List Byte} {ws : List Wri} (h8 : 8 ≤ d.length) (h : writesL (d.drop 8) = some ws) (hc : inR (unwV d) 1 1000000 = true ∧ wrF ws = 0) : unwD d = ⟨0, ws.map (wrRow (unwV d))⟩ := by
  unfold unwD
  rw [if_neg (by omega), h]
  exact if_pos hc

end Go.Proofs.Ytdfapehonegeeaa

/-
  A piece of a row of bytes.
-/
namespace Go.Proofs.Ytdfapehonegeeaa
open Go.RowKit

theorem addP (b o i : Nat) : (Addr.mk b o none).add i = ⟨b, o + i, none⟩ := by
  by_cases h : i = 0
  · subst h; simp [Addr.add]
  · simp [Addr.add, h]

theorem bytes_cut {w : World} {a : Option Addr} {cap : Nat} {xs : List Byte} (hx : BytesV w (.slice a xs.length cap) xs) (l h : Nat) (h1 : l ≤ h) (h2 : h ≤ xs.length) :
    BytesV w (.slice (if cap = l then a else a.map (·.add (l * 1))) (h - l) (cap - l)) ((xs.drop l).take (h - l)) := by
  obtain ⟨a', cap', e, g1, g2, g3⟩ := hx
  simp only [Value.slice.injEq, true_and] at e
  obtain ⟨rfl, rfl⟩ := e
  have hl : ((xs.drop l).take (h - l)).length = h - l := by rw [List.length_take, List.length_drop]; omega
  refine ⟨_, _, by rw [hl], by omega, by omega, fun i hi => ?_⟩
  rw [hl] at hi
  obtain ⟨b, o, rfl, hc⟩ := g3 (l + i) (by omega)
  refine ⟨b, o + l, ?_, ?_⟩
  · rw [if_neg (by omega)]
    simp only [Option.map_some, Nat.mul_one]
    rw [addP]
  · rw [show o + l + i = o + (l + i) by omega, hc]
    simp [List.getD, hi]

theorem cellsB : (sizeOf (Try.prog.elem 22)).run Try.prog = fun w => .ok 1 w := by
  have he : Try.prog.elem 22 = 5 := by kernel_rfl
  obtain ⟨i0, hi, hz0, hz1, hz2⟩ := info_parts infoByte
  funext w
  simp [sizeOf, typeInfo, he, hi, hz1]
theorem undB : Try.prog.underlying 22 = some (.slice (Try.prog.elem 22)) := by kernel_rfl

theorem cutB {a : Option Addr} {n cap : Nat} (l h : Int) (h0 : 0 ≤ l) (h1 : l ≤ h) (h2 : h ≤ n) (hn : n ≤ cap) :
    ∃ a' c', (∀ w : World, (Instr.sliceAt 22 (.slice a n cap) (some (.int .i64 l)) (some (.int .i64 h)) none).run Try.prog w = .ok (.slice a' (h - l).toNat c') w) ∧
      ∀ (w : World) (xs : List Byte), xs.length = n → BytesV w (.slice a n cap) xs → BytesV w (.slice a' (h - l).toNat c') ((xs.drop l.toNat).take (h - l).toNat) := by
  refine ⟨if cap = l.toNat then a else a.map (·.add (l.toNat * 1)), cap - l.toNat, fun w => ?_, fun w xs e hx => ?_⟩
  · rw [run_sliceAt_slice (h := undB), run_slice_lh (ht := undB) (h0 := h0) (h1 := h1) (h2 := by omega), cellsB]
    simp only [Result.andThen, sliced]
    rw [show h.toNat - l.toNat = (h - l).toNat by omega]
  · subst e
    have := bytes_cut hx l.toNat h.toNat (by omega) (by omega)
    rw [show h.toNat - l.toNat = (h - l).toNat by omega] at this
    exact this
theorem cutH {a : Option Addr} {n cap : Nat} (h : Int) (h0 : 0 ≤ h) (h2 : h ≤ n) (hn : n ≤ cap) :
    ∃ a' c', (∀ w : World, (Instr.sliceAt 22 (.slice a n cap) none (some (.int .i64 h)) none).run Try.prog w = .ok (.slice a' h.toNat c') w) ∧
      ∀ (w : World) (xs : List Byte), xs.length = n → BytesV w (.slice a n cap) xs → BytesV w (.slice a' h.toNat c') (xs.take h.toNat) := by
  refine ⟨if cap = 0 then a else a.map (·.add (0 * 1)), cap - 0, fun w => ?_, fun w xs e hx => ?_⟩
  · rw [run_sliceAt_slice (h := undB), run_slice_h (ht := undB) (h0 := h0) (h2 := by omega), cellsB]
    simp only [Result.andThen, sliced]
    rw [Nat.sub_zero]
  · subst e
    have := bytes_cut hx 0 h.toNat (by omega) (by omega)
    rw [Nat.sub_zero, List.drop_zero] at this
    exact this
theorem cutL {a : Option Addr} {n cap : Nat} (l : Int) (h0 : 0 ≤ l) (h2 : l ≤ n) (hn : n ≤ cap) :
    ∃ a' c', (∀ w : World, (Instr.sliceAt 22 (.slice a n cap) (some (.int .i64 l)) none none).run Try.prog w = .ok (.slice a' (n - l.toNat) c') w) ∧
      ∀ (w : World) (xs : List Byte), xs.length = n → BytesV w (.slice a n cap) xs → BytesV w (.slice a' (n - l.toNat) c') (xs.drop l.toNat) := by
  refine ⟨if cap = l.toNat then a else a.map (·.add (l.toNat * 1)), cap - l.toNat, fun w => ?_, fun w xs e hx => ?_⟩
  · rw [run_sliceAt_slice (h := undB), run_slice_l (ht := undB) (h0 := h0) (h1 := h2), cellsB]
    simp only [Result.andThen, sliced]
  · subst e
    have := bytes_cut hx l.toNat xs.length (by omega) (by omega)
    rw [show (xs.drop l.toNat).take (xs.length - l.toNat) = xs.drop l.toNat from List.take_of_length_le (by rw [List.length_drop]; omega)] at this
    exact this

end Go.Proofs.Ytdfapehonegeeaa

/-
  A region that draws its order and ends in one store (number t): what is asked of the world (S) need not hold behind that store.
-/
namespace Go.Proofs.Ytdfapehonegeeaa
open Go.RowKit

section
variable {P : Program} {ops : Array Oper} {Q : Exit → Act → World → Prop} {md : Region.Mode} {S : World → Prop} {t : Nat}

/-- whatever order is picked, S holds behind every operation but number t -/
def wpUpto (P : Program) (md : Region.Mode) (ops : Array Oper) (Q : Exit → Act → World → Prop) (S : World → Prop) (t : Nat) : Nat → Array Bool → Act → World → Prop
  | 0, listed, a, w => Region.ready md ops listed = [] ∧ Q .normal a w
  | f + 1, listed, a, w => (Region.ready md ops listed = [] → Q .normal a w) ∧ ∀ i ∈ Region.ready md ops listed, wpOp P ops Q i (fun a' w' => (i ≠ t → S w') ∧ wpUpto P md ops Q S t f (listed.setIfInBounds i true) a' w') a w

theorem upto_any : ∀ (f : Nat) (listed : Array Bool) (a : Act) (w : World), wpUpto P md ops Q S t f listed a w → wpAny P md ops Q f listed a w
  | 0, _, _, _, h => h
  | f + 1, _, _, _, h => ⟨h.1, fun i hi => wpOp_mono (fun _ _ h' => upto_any f _ _ _ h'.2) (h.2 i hi)⟩

/-- does number t wait for number i? -/
def waitsFor (md : Region.Mode) (ops : Array Oper) (t i : Nat) : Bool :=
  match ops[t]? with
  | some o => o.after.any (fun e => Region.binds md e && e.on == i)
  | none => false

theorem upto_first {i : Nat} {oi : Oper} {v : Value} (hi : ops[i]? = some oi) (hsel : Region.noSelect ops = true) (hw : waitsFor md ops t i = true)
    (hQ : ∀ c a w, Q (.panic c) (a.put oi.dst v) w → Q (.panic c) a w) :
    ∀ (f : Nat) (listed : Array Bool) (a : Act) (w : World),
      (∀ j oj, ops[j]? = some oj → j ≠ i → listed.getD j true = false → (∀ e ∈ oj.after, Region.binds md e = true → e.on ≠ i) → oi.apart ops oj = true) →
      i ∈ Region.ready md ops listed → YieldsIf P ops S oi v a → S w →
      wpUpto P md ops Q S t f (listed.setIfInBounds i true) (a.put oi.dst v) w → wpUpto P md ops Q S t (f + 1) listed a w := by
  intro f
  induction f with
  | zero =>
    intro listed a w _ hr hy hS H
    refine ⟨fun h => (by rw [h] at hr; cases hr), fun j hj => ?_⟩
    by_cases hji : j = i
    · subst hji
      exact hy.wpOp hi hS ⟨fun _ => hS, H⟩
    · have hm := ready_mono hj hji
      rw [H.1] at hm
      cases hm
  | succ f ih =>
    intro listed a w hfree hr hy hS H
    refine ⟨fun h => (by rw [h] at hr; cases hr), fun j hj => ?_⟩
    by_cases hji : j = i
    · subst hji
      exact hy.wpOp hi hS ⟨fun _ => hS, H⟩
    · obtain ⟨hjun, oj, hoj, hall⟩ := mem_ready.1 hj
      have hun := (mem_ready.1 hr).1
      have hnl : ¬ listed.getD i false = true := by
        intro h1
        rcases Nat.lt_or_ge i listed.size with h' | h'
        · simp [h'] at hun h1
          rw [hun] at h1
          cases h1
        · simp [Array.getElem?_eq_none h'] at h1
      have hnot : ∀ e ∈ oj.after, Region.binds md e = true → e.on ≠ i := fun e he hb heq => hnl (by rw [← heq]; exact hall e he hb)
      have hjt : j ≠ t := by
        rintro rfl
        unfold waitsFor at hw
        rw [hoj] at hw
        obtain ⟨e, he, hb⟩ := Array.any_eq_true'.1 hw
        simp only [Bool.and_eq_true, beq_iff_eq] at hb
        exact hnot e he hb.1 hb.2
      have h1 := H.2 j (ready_mono hj hji)
      have h2 := wpOp_putIf hoj (hfree j oj hoj hji hjun hnot) (fun cs b => Region.noSelect_spec hsel i oi cs b hi) (fun cs b => Region.noSelect_spec hsel j oj cs b hoj) hQ hy h1
      refine wpOp_mono (fun a' w' h3 => ⟨h3.2.1, ih (listed.setIfInBounds j true) a' w' ?_ (ready_mono hr (Ne.symm hji)) h3.1 (h3.2.1 hjt) ?_⟩) h2
      · intro k ok hk hki hunk hno
        refine hfree k ok hk hki ?_ hno
        by_cases hjk : j = k
        · subst hjk; exact hjun
        · rw [getD_set_ne true hjk] at hunk; exact hunk
      · rw [Array.setIfInBounds_comm _ _ hji]
        exact h3.2.2

/-- number i is taken first -/
theorem upto_take {i : Nat} {oi : Oper} {v : Value} {f : Nat} {listed : Array Bool} {a : Act} {w : World} (hi : ops[i]? = some oi) (hsel : Region.noSelect ops = true) (hw : waitsFor md ops t i = true)
    (hf : Region.free md ops listed i = true) (hr : (Region.ready md ops listed).contains i = true) (hQ : ∀ c a w, Q (.panic c) (a.put oi.dst v) w → Q (.panic c) a w)
    (hwd : Region.wanted oi (yielded ops a.tmps) = true) (hS : S w) (hy : ∀ w, S w → (execOp a.eval oi).run P w = .ok (.value v) w)
    (h : wpUpto P md ops Q S t f (listed.setIfInBounds i true) (a.put oi.dst v) w) : wpUpto P md ops Q S t (f + 1) listed a w :=
  upto_first hi hsel hw hQ f listed a w (Region.free_spec hi hf) (by simpa using hr) (Or.inl ⟨hwd, hy⟩) hS h

/-- one alone may come up -/
theorem upto_step {i : Nat} {o : Oper} {f : Nat} {listed : Array Bool} {a : Act} {w : World} (hr : Region.ready md ops listed = [i]) (hi : ops[i]? = some o)
    (h : ∀ K : Act → World → Prop, (∀ a' w', (i ≠ t → S w') → wpUpto P md ops Q S t f (listed.setIfInBounds i true) a' w' → K a' w') → if Region.wanted o (yielded ops a.tmps) = true then Oper.wp P o a w K Q else K (a.put o.dst undef) w) :
    wpUpto P md ops Q S t (f + 1) listed a w := by
  refine ⟨fun h0 => (by rw [hr] at h0; cases h0), fun j hj => ?_⟩
  rw [hr] at hj
  have e : j = i := by simpa using hj
  subst e
  have h1 := h (fun a' w' => (j ≠ t → S w') ∧ wpUpto P md ops Q S t f (listed.setIfInBounds j true) a' w') (fun _ _ p q => ⟨p, q⟩)
  unfold wpOp
  simp only [hi]
  split
  · rename_i hw
    rw [if_pos hw] at h1
    exact .inl h1
  · rename_i hw
    rw [if_neg hw] at h1
    exact h1

theorem upto_done {listed : Array Bool} {a : Act} {w : World} {f : Nat} (hr : Region.ready md ops listed = []) (h : Q .normal a w) : wpUpto P md ops Q S t f listed a w := by
  cases f with
  | zero => exact ⟨hr, h⟩
  | succ f => exact ⟨fun _ => h, by rw [hr]; simp⟩

theorem region_upto {id : Nat} {a : Act} {w : World} (S : World → Prop) (t : Nat) (hm : P.follows .mixedOrders = true) (hS : S w.drew) (h : S w.drew → wpUpto P .any ops Q S t ops.size (Array.replicate ops.size false) a w.drew) : (Code.region id ops true).wp P Q a w :=
  wp_region_any hm (upto_any _ _ _ _ (h hS))
end

end Go.Proofs.Ytdfapehonegeeaa


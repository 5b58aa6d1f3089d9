import Derived.Test.YtdfapehonegeeaaGreatPrnFlushEngineLaw5
import Derived.Test.YtdfapehonegeeaaGreatPrnFlushEngineLaw6
import Derived.Test.YtdfapehonegeeaaGreatPrnFlushEngineLaw1
import Derived.RangeFuncNested
import Derived.RangeFuncBound
import Derived.RangeFuncCalls
import Derived.RangeFuncLeaves
import Derived.Shelf.Abstract
import Derived.Lib.Bytealg
import Derived.Lib.Walk

/-
  Bytes read as writes.
-/
namespace Go.Proofs.YtdfapehonegeeaaGreat
open Go.RowKit
set_option linter.unusedSectionVars false
variable [DecidableEq Wri] [Inhabited Wri] [DecidableEq BytesR] [Inhabited BytesR] [DecidableEq Rw] [Inhabited Rw] [DecidableEq TabR] [Inhabited TabR]
set_option linter.unusedVariables false
set_option linter.unusedSimpArgs false

def textL : List Byte → Option (ByteArray × List Byte)
  | [] => none
  | b :: r => if b.val ≤ r.length then some (bstr (r.take b.val), r.drop b.val) else none
def writeL : List Byte → Option (Wri × List Byte)
  | [] => none
  | m :: r => match textL r with
    | none => none
    | some (k, r2) => if 1 < m.val then none else if m.val = 1 then some (⟨k, ⟨#[]⟩, true⟩, r2) else match textL r2 with
      | none => none
      | some (v, r3) => some (⟨k, v, false⟩, r3)
def writesF : Nat → List Byte → Option (List Wri)
  | 0, _ => none
  | n + 1, d => if d.length = 0 then some [] else match writeL d with
    | none => none
    | some (x, r) => (writesF n r).map (x :: ·)
def writesL (d : List Byte) : Option (List Wri) := writesF (d.length + 1) d
theorem textL_len {d r : List Byte} {s : ByteArray} (h : textL d = some (s, r)) : r.length + 1 + s.size = d.length ∧ s.size ≤ 255 := by
  cases d with
  | nil => cases h
  | cons b q =>
    unfold textL at h
    dsimp only at h
    split at h
    · simp only [Option.some.injEq, Prod.mk.injEq] at h
      obtain ⟨rfl, rfl⟩ := h
      have hb := b.isLt
      rw [size_bstr, List.length_take, List.length_drop, List.length_cons]
      omega
    · cases h
theorem textL_drop {d r : List Byte} {s : ByteArray} (h : textL d = some (s, r)) : r = d.drop (1 + s.size) := by
  cases d with
  | nil => cases h
  | cons b q =>
    unfold textL at h
    dsimp only at h
    split at h
    · rename_i hb
      simp only [Option.some.injEq, Prod.mk.injEq] at h
      obtain ⟨rfl, rfl⟩ := h
      rw [size_bstr, List.length_take, Nat.min_eq_left hb, Nat.add_comm, List.drop_succ_cons]
    · cases h
def wrN (x : Wri) : Nat := 1 + (1 + x.key.size) + (if x.gone = true then 0 else 1 + x.val.size)
theorem writeL_len {d r : List Byte} {x : Wri} (h : writeL d = some (x, r)) : r.length + wrN x = d.length ∧ x.key.size ≤ 255 ∧ x.val.size ≤ 255 := by
  cases d with
  | nil => cases h
  | cons m q =>
    unfold writeL at h
    dsimp only at h
    cases h1 : textL q with
    | none => rw [h1] at h; cases h
    | some p =>
      obtain ⟨k, r2⟩ := p
      rw [h1] at h
      dsimp only at h
      have g1 := textL_len h1
      by_cases hm : 1 < m.val
      · rw [if_pos hm] at h; cases h
      · rw [if_neg hm] at h
        by_cases hm1 : m.val = 1
        · rw [if_pos hm1] at h
          simp only [Option.some.injEq, Prod.mk.injEq] at h
          obtain ⟨rfl, rfl⟩ := h
          have e0 : (⟨#[]⟩ : ByteArray).size = 0 := rfl
          dsimp only [wrN]
          rw [List.length_cons, if_pos rfl, e0]
          omega
        · rw [if_neg hm1] at h
          cases h2 : textL r2 with
          | none => rw [h2] at h; cases h
          | some p2 =>
            obtain ⟨v, r3⟩ := p2
            rw [h2] at h
            dsimp only at h
            simp only [Option.some.injEq, Prod.mk.injEq] at h
            obtain ⟨rfl, rfl⟩ := h
            have g2 := textL_len h2
            dsimp only [wrN]
            rw [List.length_cons, if_neg (by decide)]
            omega
theorem writesF_any : ∀ (n m : Nat) (d : List Byte), d.length < n → d.length < m → writesF n d = writesF m d
  | 0, _, _, h, _ => absurd h (Nat.not_lt_zero _)
  | _, 0, _, _, h => absurd h (Nat.not_lt_zero _)
  | n + 1, m + 1, d, h1, h2 => by
    unfold writesF
    split
    · rfl
    · cases hw : writeL d with
      | none => rfl
      | some p =>
        obtain ⟨x, r⟩ := p
        have := (writeL_len hw).1
        have hp : 0 < wrN x := by unfold wrN; omega
        dsimp only
        rw [writesF_any n m r (by omega) (by omega)]
theorem writesL_nil : writesL [] = some [] := rfl
theorem writesL_none {d : List Byte} (h0 : d.length ≠ 0) (h : writeL d = none) : writesL d = none := by
  unfold writesL writesF
  rw [if_neg h0, h]
theorem writesL_some {d r : List Byte} {x : Wri} (h0 : d.length ≠ 0) (h : writeL d = some (x, r)) : writesL d = (writesL r).map (x :: ·) := by
  have hl := (writeL_len h).1
  have hp : 0 < wrN x := by unfold wrN; omega
  unfold writesL
  rw [writesF, if_neg h0, h]
  dsimp only
  rw [writesF_any d.length (r.length + 1) r (by omega) (by omega)]
theorem writesL_len : ∀ (n : Nat) (d : List Byte), d.length < n → ∀ ws, writesL d = some ws → (ws.map wrN).sum = d.length ∧ ∀ x ∈ ws, x.key.size ≤ 255 ∧ x.val.size ≤ 255
  | 0, _, h, _, _ => absurd h (Nat.not_lt_zero _)
  | n + 1, d, hn, ws, h => by
    by_cases h0 : d.length = 0
    · have e : d = [] := List.eq_nil_of_length_eq_zero h0
      subst e
      rw [writesL_nil] at h
      simp only [Option.some.injEq] at h
      subst h
      exact ⟨rfl, fun x hx => absurd hx (List.not_mem_nil)⟩
    · cases hw : writeL d with
      | none => rw [writesL_none h0 hw] at h; cases h
      | some p =>
        obtain ⟨x, r⟩ := p
        rw [writesL_some h0 hw] at h
        have hl := writeL_len hw
        have hp : 0 < wrN x := by unfold wrN; omega
        cases hr : writesL r with
        | none => rw [hr] at h; cases h
        | some ws2 =>
          rw [hr] at h
          simp only [Option.map_some, Option.some.injEq] at h
          subst h
          obtain ⟨g1, g2⟩ := writesL_len n r (by omega) ws2 hr
          refine ⟨by rw [List.map_cons, List.sum_cons, g1]; omega, fun y hy => ?_⟩
          rcases List.mem_cons.1 hy with rfl | hy
          · exact hl.2
          · exact g2 y hy
def WrSo (d : List Byte) (k : Nat) (out : List Wri) : Prop := k ≤ d.length ∧ writesL d = (writesL (d.drop k)).map (out ++ ·) ∧ out.length ≤ k ∧ ∀ x ∈ out, x.key.size ≤ 255 ∧ x.val.size ≤ 255
theorem wrSo_start (d : List Byte) : WrSo d 0 [] := ⟨by omega, by simp, by simp, fun x hx => absurd hx (List.not_mem_nil)⟩
theorem wrSo_step {d r : List Byte} {k : Nat} {out : List Wri} {x : Wri} (h : WrSo d k out) (hk : k < d.length) (hw : writeL (d.drop k) = some (x, r)) : r = d.drop (k + wrN x) ∧ WrSo d (k + wrN x) (out ++ [x]) := by
  have hl := writeL_len hw
  have hr : r = d.drop (k + wrN x) := by
    have e : ∀ {q r : List Byte} {y : Wri}, writeL q = some (y, r) → r = q.drop (wrN y) := by
      intro q r y hq
      cases q with
      | nil => cases hq
      | cons m q =>
        unfold writeL at hq
        dsimp only at hq
        cases h1 : textL q with
        | none => rw [h1] at hq; cases hq
        | some p =>
          obtain ⟨k, r2⟩ := p
          rw [h1] at hq
          dsimp only at hq
          have g1 := textL_drop h1
          by_cases hm : 1 < m.val
          · rw [if_pos hm] at hq; cases hq
          · rw [if_neg hm] at hq
            by_cases hm1 : m.val = 1
            · rw [if_pos hm1] at hq
              simp only [Option.some.injEq, Prod.mk.injEq] at hq
              obtain ⟨rfl, rfl⟩ := hq
              dsimp only [wrN]
              rw [if_pos rfl, g1, Nat.add_zero, Nat.add_comm 1 (1 + k.size), List.drop_succ_cons]
            · rw [if_neg hm1] at hq
              cases h2 : textL r2 with
              | none => rw [h2] at hq; cases hq
              | some p2 =>
                obtain ⟨v, r3⟩ := p2
                rw [h2] at hq
                dsimp only at hq
                simp only [Option.some.injEq, Prod.mk.injEq] at hq
                obtain ⟨rfl, rfl⟩ := hq
                have g2 := textL_drop h2
                dsimp only [wrN]
                rw [if_neg (by decide), g2, g1, List.drop_drop, show 1 + (1 + k.size) + (1 + v.size) = (1 + k.size + (1 + v.size)) + 1 by omega, List.drop_succ_cons]
    rw [e hw, List.drop_drop]
  obtain ⟨h1, h2, h3, h4⟩ := h
  have hp : 0 < wrN x := by unfold wrN; omega
  rw [List.length_drop] at hl
  refine ⟨hr, by omega, ?_, by rw [List.length_append, List.length_singleton]; omega, fun y hy => ?_⟩
  · rw [h2, writesL_some (by rw [List.length_drop]; omega) hw, hr, Option.map_map]
    congr 1
    funext q
    simp
  · rcases List.mem_append.1 hy with hy | hy
    · exact h4 y hy
    · rw [List.mem_singleton] at hy
      subst hy
      exact hl.2
theorem wrSo_bad {d : List Byte} {k : Nat} {out : List Wri} (h : WrSo d k out) (hk : k < d.length) (hw : writeL (d.drop k) = none) : writesL d = none := by
  rw [h.2.1, writesL_none (by rw [List.length_drop]; omega) hw]
  rfl
theorem wrSo_end {d : List Byte} {out : List Wri} (h : WrSo d d.length out) : writesL d = some out := by
  rw [h.2.1, List.drop_length, writesL_nil]
  simp
def unwV (d : List Byte) : Int := IntKind.i64.wrap (hiN (d.take 8))
def unwD (d : List Byte) : TabR :=
  if d.length < 8 then ⟨5, []⟩ else match writesL (d.drop 8) with
    | none => ⟨5, []⟩
    | some ws => if inR (unwV d) 1 1000000 = true ∧ wrF ws = 0 then ⟨0, ws.map (wrRow (unwV d))⟩ else ⟨5, []⟩
theorem rowFault_size {x : Rw} (h : rowFault x = 0) : x.key.size ≤ 20 ∧ x.val.size ≤ 100 := by
  unfold rowFault at h
  split at h
  · omega
  · split at h
    · omega
    · omega
theorem wrP_wrN {x : Wri} (h : rowFault (wrRow 1 x) = 0) : (wrP x).flatten.length = wrN x := by
  obtain ⟨h1, h2⟩ := rowFault_size h
  dsimp only [wrRow] at h1 h2
  have e : ∀ s : ByteArray, s.size ≤ 200 → (textD s).bytes.length = 1 + s.size := fun s hs => by
    unfold textD
    rw [if_pos hs]
    simp only [List.length_append, length_strB, List.length_cons, List.length_nil]
    try omega
  unfold wrP wrN
  split
  · simp only [List.flatten_cons, List.flatten_nil, List.length_append, List.length_cons, List.length_nil]
    rw [e _ (by omega)]
    omega
  · simp only [List.flatten_cons, List.flatten_nil, List.length_append, List.length_cons, List.length_nil]
    rw [e _ (by omega), e _ (by omega)]
    omega
theorem packB_wrN {v : Int} {ws : List Wri} (h : ∀ x ∈ ws, rowFault (wrRow 1 x) = 0) : (packB v ws).length = 8 + (ws.map wrN).sum := by
  have e : (ws.flatMap wrP).flatten.length = (ws.map wrN).sum := by
    induction ws with
    | nil => rfl
    | cons x r ih =>
      rw [List.flatMap_cons, List.flatten_append, List.length_append, List.map_cons, List.sum_cons, wrP_wrN (h x List.mem_cons_self), ih (fun y hy => h y (List.mem_cons_of_mem _ hy))]
  unfold packB packP
  rw [List.flatten_append, List.length_append, e]
  simp only [List.flatten_cons, List.flatten_nil, List.append_nil, length_hiB]
theorem wrF_rows {ws : List Wri} (h : wrF ws = 0) : ∀ x ∈ ws, rowFault (wrRow 1 x) = 0 := by
  intro x hx
  obtain ⟨j, hj, e⟩ := List.mem_iff_getElem.1 hx
  have h1 := (wrF_inv h).2.2.1 j hj
  unfold wrAt at h1
  have e2 : ws.getD j default = x := by simp [List.getD, hj, e]
  rw [e2] at h1
  split at h1
  · rename_i h2; exact absurd h1 h2
  · rename_i h2; simpa using h2
theorem unwD_long {d : List Byte} (h : 500 < d.length) : unwD d = ⟨5, []⟩ := by
  unfold unwD
  rw [if_neg (by omega)]
  cases hw : writesL (d.drop 8) with
  | none => rfl
  | some ws =>
    dsimp only
    rw [if_neg]
    rintro ⟨_, hf⟩
    have h1 := (writesL_len _ _ (Nat.lt_succ_self _) ws hw).1
    have h2 := packB_wrN (v := 1) (wrF_rows hf)
    have h3 := (wrF_inv hf).2.2.2
    rw [List.length_drop] at h1
    omega
theorem unwD_short {d : List Byte} (h : d.length < 8) : unwD d = ⟨5, []⟩ := if_pos h
theorem unwD_none {d : List Byte} (h8 : 8 ≤ d.length) (h : writesL (d.drop 8) = none) : unwD d = ⟨5, []⟩ := by
  unfold unwD
  rw [if_neg (by omega), h]
theorem unwD_bad {d : List Byte} {ws : List Wri} (h8 : 8 ≤ d.length) (h : writesL (d.drop 8) = some ws) (hc : ¬ (inR (unwV d) 1 1000000 = true ∧ wrF ws = 0)) : unwD d = ⟨5, []⟩ := by
  unfold unwD
  rw [if_neg (by omega), h]
  exact if_neg hc
theorem unwD_good {d : List Byte} {ws : List Wri} (h8 : 8 ≤ d.length) (h : writesL (d.drop 8) = some ws) (hc : inR (unwV d) 1 1000000 = true ∧ wrF ws = 0) : unwD d = ⟨0, ws.map (wrRow (unwV d))⟩ := by
  unfold unwD
  rw [if_neg (by omega), h]
  exact if_pos hc
end Go.Proofs.YtdfapehonegeeaaGreat

/-
  Ranges over functions whose iterators change memory of their own, and call other rounds: contracts with the set of blocks that the iterator may change.
-/
namespace Go.Proofs.YtdfapehonegeeaaGreat
open Go.RowKit

def Stb {β : Type} (J : β → World → (Nat → Prop) → Prop) : Prop :=
  ∀ s W W' X X', J s W X → Mod X W W' → (∀ b, X b → X' b) → (∀ b, X' b → (X b ∨ W.heap.size ≤ b) ∧ b < W'.heap.size) → J s W' X'
abbrev Kp (R X : Nat → Prop) (W W' : World) : Prop := Mod (fun k => ¬ (R k ∨ X k)) W W'
def Seqx {α : Type} (P : Program) (g : Nat) (lb : Array Value) (enc : α → Value) (xs : List α) (R : Nat → Prop) (w : World) : Prop :=
  ∀ (l : Nat) (J Jx : List α → World → (Nat → Prop) → Prop) (W : World) (X : Nat → Prop), Mod (fun k => ¬ R k) w W → (∀ b, X b → b < W.heap.size) → Stb J → Stb Jx →
    (∀ pre x W1 X1, J pre W1 X1 → (∀ b, X b → X1 b) → (∀ b, X1 b → b < W1.heap.size) → pre ++ [x] <+: xs → YieldAt Fence.wide 0 P l #[enc x] W1 fun e W' =>
      (e = .returned (.bool true) ∧ J (pre ++ [x]) W' X1 ∧ Kp R X1 W1 W') ∨ (e = .returned (.bool false) ∧ Jx (pre ++ [x]) W' X1 ∧ Kp R X1 W1 W')) →
    J [] W X →
    CallsIn Fence.wide 0 P g (#[.func (.yield l) #[] #[]] ++ lb) W fun e W' => (∃ v, e = .returned v) ∧ ∃ X', (∀ b, X b → X' b) ∧ (J xs W' X' ∨ ∃ pre, pre <+: xs ∧ Jx pre W' X')
def postX {α : Type} (R X : Nat → Prop) (I : List α → World → (Nat → Prop) → Prop) (Ix : Code → List α → World → (Nat → Prop) → Prop) (ys : List α) (W : World) : Exit → Act → World → Prop
  | .normal, _, W' => Kp R X W W' ∧ I ys W' X
  | .ret, _, W' => Kp R X W W' ∧ Ix .ret ys W' X
  | .exit id, _, W' => Kp R X W W' ∧ Ix (.exit id) ys W' X
  | .goto t, _, W' => Kp R X W W' ∧ Ix (.goto t) ys W' X
  | .panic _, _, _ => False
  | .outgrown, _, _ => False
theorem mod_put (W : World) (l : Nat) (o : Obj) : Mod (fun b => b = l) W (W.putObj l o) :=
  ⟨rfl, rfl, rfl, by simp [World.putObj], fun _ _ hn => World.putObj_heap_other hn⟩
theorem mod_alloc (F : Nat → Prop) (W : World) (o : Obj) : Mod F W (W.alloc o) := (Mod.refl F W).alloc o
set_option maxHeartbeats 1000000 in
theorem wp_rangeX {α : Type} {P : Program} {g : Operand} {p : Tmp} {assign body : Code} {Q : Exit → Act → World → Prop} {a : Act} {w : World}
    {gf : Nat} {lb : Array Value} (hg : a.eval g = .func (.func gf) #[] lb) (eg : ∀ args w, (callFunc gf args).run P w = .ok (.enter gf args) w)
    {enc : α → Value} {xs : List α} {R : Nat → Prop} (hseq : Seqx P gf lb enc xs R w) (hR : ∀ b, R b → b < w.heap.size)
    (I : List α → World → (Nat → Prop) → Prop) (Ix : Code → List α → World → (Nat → Prop) → Prop) (hI : Stb I) (hIx : ∀ c, Stb (Ix c)) (X0 : Nat → Prop) (hX0 : ∀ b, X0 b → b < w.heap.size) (h0 : I [] w X0)
    (Ax : α → Act → World → (Nat → Prop) → Prop) (hAx : ∀ x a', Stb (fun (_ : Unit) => Ax x a'))
    (hassign : ∀ (l : Nat) (pre : List α) (x : α) (W : World) (X : Nat → Prop) (K : Act → World → Prop), I pre W X → X l → (∀ b, X b → b < W.heap.size) → (∀ a' W', Mod (fun _ => False) W W' → Ax x a' W' X → K a' W') →
      assign.wpIn (Fence.wide.inRound l) 0 P (Exit.then K (fun _ _ _ => False)) { tmps := (#[p].zip #[enc x]).foldl (fun t (p, v) => t.setIfInBounds p v) a.tmps, defers := [] } W)
    (hbody : ∀ (l : Nat) (pre : List α) (x : α) (a' : Act) (W : World) (X : Nat → Prop), X l → (∀ b, X b → b < W.heap.size) → I pre W X → Ax x a' W X → pre ++ [x] <+: xs → body.wpIn (Fence.wide.inRound l) 0 P (postX R X I Ix (pre ++ [x]) W) a' W)
    (hdone : ∀ (D : Nat) (W : World) (X : Nat → Prop), w.heap.size ≤ D → X D → I xs W X → W.heap[D]? = some (.deferred (some [])) → Q .normal { a with defers := { target := .collected D, args := #[] } :: a.defers } W)
    (hstop : ∀ (D : Nat) (c : Code) (pre : List α) (W : World) (X : Nat → Prop), w.heap.size ≤ D → X D → pre <+: xs → Ix c pre W X → W.heap[D]? = some (.deferred (some [])) → c.wpIn Fence.wide 0 P Q { a with defers := { target := .collected D, args := #[] } :: a.defers } W) :
    (Code.rangeFunc g #[p] assign body).wpIn Fence.wide 0 P Q a w := by
  refine wpIn_rangeFunc ?_
  intro fn hfn
  rw [show Fence.wide.round = none from rfl]
  obtain ⟨rec, hrec⟩ : ∃ rec : LoopState → Option Code → Loop, rec = fun st pe => { state := st, pending := pe, fn, tmps := a.tmps, params := #[p], assign, body, defers := w.heap.size } := ⟨_, rfl⟩
  obtain ⟨W1, hW1⟩ : ∃ W1, (w.alloc (.deferred (some []))).alloc (.loop (rec .ready none)) = W1 := ⟨_, rfl⟩
  have hz1 : W1.heap.size = w.heap.size + 2 := by rw [← hW1]; simp
  have hL1 : W1.heap[w.heap.size + 1]? = some (.loop (rec .ready none)) := by
    rw [← hW1]
    have h := World.alloc_heap_new (w.alloc (.deferred (some []))) (.loop (rec .ready none))
    rwa [World.size_alloc] at h
  have hK1 : W1.heap[w.heap.size]? = some (.deferred (some [])) := by
    rw [← hW1]
    exact (Below.heap_alloc _ _ _ (by simp)).trans (World.alloc_heap_new w _)
  have hM1 : ∀ F, Mod F w W1 := fun F => by rw [← hW1]; exact (mod_alloc F w _).alloc _
  refine ⟨w.heap.size + 1, [{ target := .collected w.heap.size, args := #[] }], W1, { target := .fn (.func gf) lb, args := #[.func (.yield (w.heap.size + 1)) #[] #[]] }, W1, gf,
    #[.func (.yield (w.heap.size + 1)) #[] #[]] ++ lb, W1, ?_, ?_, ?_, ?_, (fun h => (by cases h)), ?_⟩
  · rw [← hW1, hrec]
    exact run_enterLoop_outer _ _ _ _ _
  · simp only [resolve, hg]
    simp [go_sem]
  · intro f' _
    trivial
  · simp [invoke, go_sem, eg]
  obtain ⟨N, hN⟩ : ∃ N, N = w.heap.size := ⟨_, rfl⟩
  rw [← hN] at hL1 hK1 hz1 ⊢
  have key : ∀ (st : LoopState) (pe : Option Code) (G : World → (Nat → Prop) → Prop), (∀ W W' X X', G W X → Mod X W W' → (∀ b, X b → X' b) → (∀ b, X' b → (X b ∨ W.heap.size ≤ b) ∧ b < W'.heap.size) → G W' X') →
      ∀ (W W' : World) (X X' : Nat → Prop), ((∃ Y, G W Y ∧ (∀ b, X b → Y b) ∧ (∀ b, Y b → b < W.heap.size) ∧ Y (N + 1) ∧ Y N) ∧ W.heap[N + 1]? = some (.loop (rec st pe)) ∧ W.heap[N]? = some (.deferred (some [])) ∧ ¬ X (N + 1) ∧ ¬ X N) →
        Mod X W W' → (∀ b, X b → X' b) → (∀ b, X' b → (X b ∨ W.heap.size ≤ b) ∧ b < W'.heap.size) →
        ((∃ Y, G W' Y ∧ (∀ b, X' b → Y b) ∧ (∀ b, Y b → b < W'.heap.size) ∧ Y (N + 1) ∧ Y N) ∧ W'.heap[N + 1]? = some (.loop (rec st pe)) ∧ W'.heap[N]? = some (.deferred (some [])) ∧ ¬ X' (N + 1) ∧ ¬ X' N) := by
    rintro st pe G hG W W' X X' ⟨⟨Y, hg0, hXY, hYa, hYl, hYd⟩, hl, hk, hnl, hnd⟩ hm hXX hXn
    have hlt : N + 1 < W.heap.size := (Array.getElem?_eq_some_iff.1 hl).1
    have hsz := hm.size
    refine ⟨⟨fun b => Y b ∨ X' b, hG W W' Y _ hg0 (hm.mono hXY) (fun b h => .inl h) (fun b h => ?_), fun b h => .inr h, fun b h => ?_, .inl hYl, .inl hYd⟩,
      (hm.block _ hlt hnl).trans hl, (hm.block _ (by omega) hnd).trans hk, fun h => ?_, fun h => ?_⟩
    · rcases h with h | h
      · exact ⟨.inl h, by have := hYa b h; omega⟩
      · have h2 := hXn b h
        exact ⟨h2.1.imp (hXY b) id, h2.2⟩
    · rcases h with h | h
      · have := hYa b h
        omega
      · exact (hXn b h).2
    · rcases (hXn _ h).1 with h | h
      · exact hnl h
      · omega
    · rcases (hXn _ h).1 with h | h
      · exact hnd h
      · omega
  refine (hseq (N + 1)
    (fun pre W X => (∃ Y, I pre W Y ∧ (∀ b, X b → Y b) ∧ (∀ b, Y b → b < W.heap.size) ∧ Y (N + 1) ∧ Y N) ∧ W.heap[N + 1]? = some (.loop (rec .ready none)) ∧ W.heap[N]? = some (.deferred (some [])) ∧ ¬ X (N + 1) ∧ ¬ X N)
    (fun pre W X => ∃ c, (∃ Y, Ix c pre W Y ∧ (∀ b, X b → Y b) ∧ (∀ b, Y b → b < W.heap.size) ∧ Y (N + 1) ∧ Y N) ∧ W.heap[N + 1]? = some (.loop (rec .done (some c))) ∧ W.heap[N]? = some (.deferred (some [])) ∧ ¬ X (N + 1) ∧ ¬ X N)
    W1 (fun _ => False) (hM1 _) (fun _ h => h.elim) (fun s W W' X X' h => key .ready none (I s) (hI s) W W' X X' h)
    (fun s W W' X X' ⟨c, h⟩ hm h1 h2 => ⟨c, key .done (some c) (Ix c s) (hIx c s) W W' X X' h hm h1 h2⟩)
    ?_ ⟨⟨fun b => X0 b ∨ b = N ∨ b = N + 1, hI _ _ _ X0 _ h0 (hM1 _) (fun b h => .inl h) (fun b h => ?_), fun _ h => h.elim, fun b h => ?_, .inr (.inr rfl), .inr (.inl rfl)⟩, hL1, hK1, fun h => h, fun h => h⟩).mono ?_
  rotate_left
  · rw [hz1]
    rcases h with h | rfl | rfl
    · exact ⟨.inl h, by have := hX0 b h; omega⟩
    · exact ⟨.inr (by omega), by omega⟩
    · exact ⟨.inr (by omega), by omega⟩
  · rw [hz1]
    rcases h with h | rfl | rfl
    · have := hX0 b h
      omega
    · omega
    · omega
  · rintro e W2 ⟨⟨v, rfl⟩, X', _, (⟨⟨Y, hi, hXY, hYa, hYl, hYd⟩, hl, hk, hnl, hnd⟩ | ⟨pre, hpre, c, ⟨Y, hi, hXY, hYa, hYl, hYd⟩, hl, hk, hnl, hnd⟩)⟩
    all_goals
      have hlt : N + 1 < W2.heap.size := (Array.getElem?_eq_some_iff.1 hl).1
      have hput : ∀ o, Mod Y W2 (W2.putObj (N + 1) o) := fun o => (mod_put W2 (N + 1) o).mono (fun b h => by rw [h]; exact hYl)
      have hal : ∀ o b, Y b → (Y b ∨ W2.heap.size ≤ b) ∧ b < (W2.putObj (N + 1) o).heap.size := fun o b h => ⟨.inl h, by have := hYa b h; have := (hput o).size; omega⟩
    · refine ⟨none, _, by have := run_endLoop (P := P) hl (by rw [hrec]; simp); rw [hrec] at this; exact this, ?_⟩
      exact hdone N _ Y (by omega) hYd (hI _ _ _ _ _ hi (hput _) (fun _ h => h) (hal _)) ((World.putObj_heap_other (by omega)).trans hk)
    · refine ⟨some c, _, by have := run_endLoop (P := P) hl (by rw [hrec]; simp); rw [hrec] at this; exact this, ?_⟩
      exact hstop N c pre _ Y (by omega) hYd hpre (hIx c _ _ _ _ _ hi (hput _) (fun _ h => h) (hal _)) ((World.putObj_heap_other (by omega)).trans hk)
  · rintro pre x W X1 ⟨⟨Y, hi, hXY, hYa, hYl, hYd⟩, hl, hk, hnl, hnd⟩ _ _ hpre
    have hy := run_yield (P := P) (args := #[enc x]) hl (by rw [hrec]; rfl)
    rw [hrec] at hy
    refine ⟨fn, _, assign, body, hy, roundIn_of_wpIn hfn (hassign _ pre x W Y _ hi hYl hYa ?_)⟩
    clear hy
    intro a' Wa hma hax
    have hsa := hma.size
    have hlt0 : N + 1 < W.heap.size := (Array.getElem?_eq_some_iff.1 hl).1
    have hla : Wa.heap[N + 1]? = some (.loop (rec .ready none)) := (hma.block _ hlt0 (fun h => h)).trans hl
    have hka : Wa.heap[N]? = some (.deferred (some [])) := (hma.block _ (by omega) (fun h => h)).trans hk
    have hia : I pre Wa Y := hI _ _ _ _ _ hi (hma.mono (fun _ h => h.elim)) (fun _ h => h) (fun b h => ⟨.inl h, by have := hYa b h; omega⟩)
    refine ⟨_, run_beginRound hla (by rw [hrec]), ?_⟩
    obtain ⟨Wb, hWb⟩ : ∃ Wb, Wa.putObj (N + 1) (.loop { rec .ready none with state := .busy }) = Wb := ⟨_, rfl⟩
    have hmb : Mod (fun b => b = N + 1) Wa Wb := by rw [← hWb]; exact mod_put _ _ _
    have hsb := hmb.size
    have hlb : Wb.heap[N + 1]? = some (.loop { rec .ready none with state := .busy }) := by rw [← hWb]; exact World.putObj_heap_same (by omega)
    have hkb : Wb.heap[N]? = some (.deferred (some [])) := (hmb.block _ (by omega) (by omega)).trans hka
    have hmY : Mod Y Wa Wb := hmb.mono (fun b h => by rw [h]; exact hYl)
    have halb : ∀ b, Y b → (Y b ∨ Wa.heap.size ≤ b) ∧ b < Wb.heap.size := fun b h => ⟨.inl h, by have := hYa b h; omega⟩
    rw [hWb]
    refine wpIn_mono (hbody _ pre x a' Wb Y hYl (fun b h => (halb b h).2) (hI _ _ _ _ _ hia hmY (fun _ h => h) halb) (hAx x a' () _ _ _ _ hax hmY (fun _ h => h) halb) hpre) ?_
    have fin : ∀ (G : World → (Nat → Prop) → Prop), (∀ W W' X X', G W X → Mod X W W' → (∀ b, X b → X' b) → (∀ b, X' b → (X b ∨ W.heap.size ≤ b) ∧ b < W'.heap.size) → G W' X') → ∀ (jump : Option Code) (W3 : World), Kp R Y Wb W3 → G W3 Y →
        ∃ W4, (Instr.endRound (N + 1) jump).run P W3 = .ok (.bool jump.isNone) W4 ∧ Kp R X1 W W4 ∧
          ((∃ Y, G W4 Y ∧ (∀ b, X1 b → Y b) ∧ (∀ b, Y b → b < W4.heap.size) ∧ Y (N + 1) ∧ Y N) ∧ W4.heap[N + 1]? = some (.loop (rec (if jump.isNone then .ready else .done) jump)) ∧ W4.heap[N]? = some (.deferred (some [])) ∧ ¬ X1 (N + 1) ∧ ¬ X1 N) := by
      intro G hG jump W3 hk3 hg3
      have hs3 := hk3.size
      have hl3 : W3.heap[N + 1]? = some (.loop { rec .ready none with state := .busy }) := (hk3.block _ (by omega) (fun h => h (.inr hYl))).trans hlb
      have hkd3 : W3.heap[N]? = some (.deferred (some [])) := (hk3.block _ (by omega) (fun h => h (.inr hYd))).trans hkb
      have hrun := run_endRound (P := P) jump hl3
      obtain ⟨W4, hW4⟩ : ∃ W4, W3.putObj (N + 1) (.loop (rec (if jump.isNone then .ready else .done) jump)) = W4 := ⟨_, rfl⟩
      have hm4 : Mod (fun b => b = N + 1) W3 W4 := by rw [← hW4]; exact mod_put _ _ _
      have hs4 := hm4.size
      have hnR : ¬ (R (N + 1) ∨ X1 (N + 1)) := by
        rintro (h | h)
        · have := hR _ h
          omega
        · exact hnl h
      refine ⟨W4, by rw [← hW4, hrec]; rw [hrec] at hrun; exact hrun, ?_, ⟨Y, hG _ _ _ _ hg3 (hm4.mono (fun b h => by rw [h]; exact hYl)) (fun _ h => h) (fun b h => ⟨.inl h, by have := hYa b h; omega⟩), hXY, fun b h => by have := hYa b h; omega, hYl, hYd⟩, by rw [← hW4]; exact World.putObj_heap_same (by omega), (hm4.block _ (by omega) (by omega)).trans hkd3, hnl, hnd⟩
      have k1 : Kp R X1 W Wa := hma.mono (fun _ h => h.elim)
      have k2 : Kp R X1 Wa Wb := hmb.mono (fun b h => by rw [h]; exact hnR)
      have k3 : Kp R X1 Wb W3 := hk3.mono (fun b h => fun hn => h (Or.imp id (hXY b) hn))
      have k4 : Kp R X1 W3 W4 := hm4.mono (fun b h => by rw [h]; exact hnR)
      exact ((k1.trans k2).trans k3).trans k4
    rintro e a3 W3 hp
    cases e with
    | normal =>
      obtain ⟨hk3, hi3⟩ := hp
      obtain ⟨W4, hr, hkp, hj⟩ := fin (I (pre ++ [x])) (hI _) none W3 hk3 hi3
      exact ⟨_, W4, hr, .inl ⟨rfl, hj, hkp⟩⟩
    | ret =>
      obtain ⟨hk3, hi3⟩ := hp
      obtain ⟨W4, hr, hkp, hj⟩ := fin (Ix .ret (pre ++ [x])) (hIx _ _) (some .ret) W3 hk3 hi3
      exact ⟨_, W4, hr, .inr ⟨rfl, ⟨_, hj⟩, hkp⟩⟩
    | exit id =>
      obtain ⟨hk3, hi3⟩ := hp
      obtain ⟨W4, hr, hkp, hj⟩ := fin (Ix (.exit id) (pre ++ [x])) (hIx _ _) (some (.exit id)) W3 hk3 hi3
      exact ⟨_, W4, hr, .inr ⟨rfl, ⟨_, hj⟩, hkp⟩⟩
    | goto t =>
      obtain ⟨hk3, hi3⟩ := hp
      obtain ⟨W4, hr, hkp, hj⟩ := fin (Ix (.goto t) (pre ++ [x])) (hIx _ _) (some (.goto t)) W3 hk3 hi3
      exact ⟨_, W4, hr, .inr ⟨rfl, ⟨_, hj⟩, hkp⟩⟩
    | panic ch => exact hp.elim
    | outgrown => exact hp.elim
end Go.Proofs.YtdfapehonegeeaaGreat

/-
  The order of rows, on both sides. (Written by program: tab_gen2.py.)
-/
namespace Go.Proofs.YtdfapehonegeeaaGreat
open Go.RowKit
set_option linter.unusedSectionVars false
variable [DecidableEq Rw] [Inhabited Rw]
attribute [local go_sem ↓] Go.wp_at_zero Go.wp_at_succ

theorem bdrN {B : Nat} {w Y : World} (h : Below B w Y) (n : Nat) : Below B w (Y.drewN n) := h.trans ⟨rfl, rfl, rfl, Nat.le_refl _, fun _ _ => rfl⟩
def cmpB (a b : ByteArray) : Int := Lib.compareBytes a.data.toList b.data.toList
def cmpI (x y : Int) : Int := if x < y then -1 else if y < x then 1 else 0
def orI (x y : Int) : Int := if x = 0 then y else x
def cmpR (a b : Rw) : Int := orI (cmpB a.key b.key) (cmpI b.ver a.ver)
theorem compareBytes_zero : ∀ a b : List UInt8, Lib.compareBytes a b = 0 ↔ a = b
  | [], [] => by simp [Lib.compareBytes]
  | [], _ :: _ => by simp [Lib.compareBytes]
  | _ :: _, [] => by simp [Lib.compareBytes]
  | x :: a, y :: b => by
    unfold Lib.compareBytes
    by_cases h1 : x < y
    · rw [if_pos h1]
      have : ¬ x = y := fun e => by subst e; exact UInt8.lt_irrefl x h1
      simp [this]
    · rw [if_neg h1]
      by_cases h2 : y < x
      · rw [if_pos h2]
        have : ¬ x = y := fun e => by subst e; exact UInt8.lt_irrefl x h2
        simp [this]
      · rw [if_neg h2, compareBytes_zero a b]
        have : x = y := UInt8.le_antisymm (UInt8.not_lt.1 h2) (UInt8.not_lt.1 h1)
        simp [this]
theorem bytesLess_cmp : ∀ a b : List UInt8, Op.bytesLess a b = decide (Lib.compareBytes a b < 0)
  | [], [] => by simp [Lib.compareBytes, Op.bytesLess]
  | [], _ :: _ => by simp [Lib.compareBytes, Op.bytesLess]
  | _ :: _, [] => by simp [Lib.compareBytes, Op.bytesLess]
  | x :: a, y :: b => by
    unfold Lib.compareBytes Op.bytesLess
    by_cases h1 : x < y
    · rw [if_pos h1]
      simp [h1]
    · rw [if_neg h1]
      by_cases h2 : y < x
      · rw [if_pos h2]
        have : ¬ x = y := fun e => by subst e; exact UInt8.lt_irrefl x h2
        simp [this, h1]
      · rw [if_neg h2, bytesLess_cmp a b]
        have : x = y := UInt8.le_antisymm (UInt8.not_lt.1 h2) (UInt8.not_lt.1 h1)
        simp [this]
theorem cmpB_zero (a b : ByteArray) : cmpB a b = 0 ↔ a = b := by
  unfold cmpB
  rw [compareBytes_zero]
  exact ⟨fun h => by cases a; cases b; simp only at h; rw [Array.toList_inj.1 h], fun h => by rw [h]⟩
theorem cmpB_neg (a b : ByteArray) : Op.bytesLess a.toList b.toList = decide (cmpB a b < 0) := by
  unfold cmpB
  rw [bytesLess_cmp, ByteArray.toList_eq, ByteArray.toList_eq]
def ahead (a b : Rw) : Bool := decide (cmpR a b < 0)
theorem ahead_key {a b : Rw} (h : a.key ≠ b.key) : ahead a b = Op.bytesLess a.key.toList b.key.toList := by
  unfold ahead cmpR orI
  rw [if_neg (fun e => h ((cmpB_zero _ _).1 e))]
  rw [cmpB_neg]
theorem ahead_ver {a b : Rw} (h : a.key = b.key) : ahead a b = decide (b.ver < a.ver) := by
  unfold ahead cmpR orI
  rw [if_pos ((cmpB_zero _ _).2 h)]
  unfold cmpI
  by_cases h1 : b.ver < a.ver
  · simp [h1]
  · rw [if_neg h1]
    split <;> simp [h1]
set_option maxHeartbeats 400000 in
theorem l5Ahead_any (x y : Rw) (w : World) :
    Calls Tryz.prog 102 #[rowV x, rowV y] w fun e w' => e = .returned (.bool (ahead x y)) ∧ Below w.heap.size w w' := by
  by_cases h : x.key = y.key
  · rw [ahead_ver h]
    have h' : (x.key.toList == y.key.toList) = true := by rw [h]; simp
    unfold rowV
    go_enter Tryz.func102, Tryz.ntmps102
    go_wp2
    go_ret
    exact ⟨rfl, balloc (balloc (Below.refl _ _) _) _⟩
  · rw [ahead_key h]
    have h' : (x.key.toList == y.key.toList) = false := by rw [beq_eq_false_iff_ne, Ne, tl_inj]; exact h
    unfold rowV
    go_enter Tryz.func102, Tryz.ntmps102
    go_wp2
    go_ret
    exact ⟨rfl, balloc (balloc (Below.refl _ _) _) _⟩
theorem isNaN_any (x : Int) (w : World) :
    Calls Tryz.prog 160 #[.int .i64 x] w fun e w' => e = .returned (.bool false) ∧ w' = w := by
  go_enter Tryz.func160, Tryz.ntmps160
  go_wp2
  go_ret
  exact ⟨rfl, rfl⟩
set_option maxHeartbeats 1000000 in
theorem cmpCompare_any (x y : Int) (w : World) :
    Calls Tryz.prog 128 #[.int .i64 x, .int .i64 y] w fun e w' => e = .returned (.int .i64 (cmpI x y)) ∧ w' = w := by
  go_enter Tryz.func128, Tryz.ntmps128
  go_wp2_with (go_at_call 160; refine (isNaN_any _ _).mono ?_; rintro e w' ⟨rfl, rfl⟩)
  all_goals (go_ret; refine ⟨?_, rfl⟩; unfold cmpI; (repeat' split) <;> first | rfl | (exfalso; omega))
set_option maxRecDepth 100000 in
set_option maxHeartbeats 1000000 in
theorem compareString_any (a b : ByteArray) (w : World) :
    Calls Tryz.prog 159 #[.string a, .string b] w fun e w' => e = .returned (.int .i64 (cmpB a b)) ∧ w' = w := by
  go_enter Tryz.func159, Tryz.ntmps159
  go_wp2
  rw [run_callFunc_extern Tryz.func174 (by kernel_rfl) (by kernel_rfl) (by kernel_rfl) (e := Extern.BytealgCompare.compare) (by kernel_rfl), Lib.run_compareString]
  simp only [Result.andThen]
  rw [Oper.upon_value]
  go_wp2
  go_ret
  exact ⟨rfl, rfl⟩
set_option maxHeartbeats 1000000 in
theorem stringsCompare_any (a b : ByteArray) (w : World) :
    Calls Tryz.prog 127 #[.string a, .string b] w fun e w' => e = .returned (.int .i64 (cmpB a b)) ∧ w' = w := by
  go_enter Tryz.func127, Tryz.ntmps127
  go_wp2_with (go_at_call 159; refine (compareString_any _ _ _).mono ?_; rintro e w' ⟨rfl, rfl⟩)
  go_ret
  exact ⟨rfl, rfl⟩
set_option maxHeartbeats 1000000 in
theorem cmpOr_any (b : Nat) (x y : Int) (w : World) (h0 : w.cell? ⟨b, 0, none⟩ = some (.int .i64 x)) (h1 : w.cell? ⟨b, 1, none⟩ = some (.int .i64 y)) :
    Calls Tryz.prog 126 #[.slice (some ⟨b, 0, none⟩) 2 2] w fun e w' => e = .returned (.int .i64 (orI x y)) ∧ w' = w := by
  go_enter Tryz.func126, Tryz.ntmps126
  go_wp2
  go_loopw [8] (fun i w' => ∃ k : Nat, k ≤ 2 ∧ i = .int .i64 k ∧ w' = w ∧ (0 < k → x = 0) ∧ (1 < k → y = 0)) (fun i _ => 2 - (intOf i).toNat)
  case atStart => exact ⟨0, by omega, rfl, rfl, by omega, by omega⟩
  case round =>
    obtain ⟨k, hk, rfl, rfl, p0, p1⟩ := hrel
    rcases (show k = 0 ∨ k = 1 ∨ k = 2 by omega) with rfl | rfl | rfl
    · by_cases hx : x = 0
      · subst hx
        go_wp2
        exact ⟨⟨1, by omega, by go_num, by simp⟩, by simp [intOf]⟩
      · go_wp2
        go_ret
        refine ⟨?_, rfl⟩
        unfold orI
        rw [if_neg hx]
        rfl
    · have hx := p0 (by omega)
      subst hx
      by_cases hy : y = 0
      · subst hy
        go_wp2
        exact ⟨⟨2, by omega, by go_num, by simp⟩, by simp [intOf]⟩
      · go_wp2
        go_ret
        refine ⟨?_, rfl⟩
        unfold orI
        rw [if_pos rfl]
        rfl
    · have hx := p0 (by omega)
      have hy := p1 (by omega)
      subst hx hy
      go_wp2
      go_ret
      exact ⟨rfl, rfl⟩
set_option maxHeartbeats 1000000 in
theorem compareRows_any (x y : Rw) (w : World) :
    Calls Tryz.prog 75 #[rowV x, rowV y] w fun e w' => e = .returned (.int .i64 (cmpR x y)) ∧ Below w.heap.size w w' := by
  unfold rowV
  go_enter Tryz.func75, Tryz.ntmps75
  go_wp2
  go_region_held3 (fun w' => Below w.heap.size w w' ∧ w'.cell? ⟨w.heap.size, 0, none⟩ = some (.string x.key) ∧ w'.cell? ⟨w.heap.size, 1, none⟩ = some (.int .i64 x.ver) ∧ w'.cell? ⟨w.heap.size + 1, 0, none⟩ = some (.string y.key) ∧ w'.cell? ⟨w.heap.size + 1, 1, none⟩ = some (.int .i64 y.ver))
    ((refine ⟨?_, ?_, ?_, ?_, ?_⟩; (repeat (first | exact Below.refl _ _ | assumption | refine Below.drew ?_ | refine balloc ?_ _)); all_goals simp [go_sem]))
    (first | (go_at_call 127; refine (stringsCompare_any _ _ _).mono ?_; rintro e w' ⟨rfl, rfl⟩) | (go_at_call 128; refine (cmpCompare_any _ _ _).mono ?_; rintro e w' ⟨rfl, rfl⟩) | (go_at_call 126; refine (cmpOr_any _ (cmpB x.key y.key) (cmpI y.ver x.ver) _ ?_ ?_).mono ?_; simp [go_sem]; simp [go_sem]; rintro e w' ⟨rfl, rfl⟩))
  all_goals
    rename_i hH
    have hB := hH.1
    clear hH
    go_wp2
    go_ret
    exact ⟨rfl, hB⟩
def tabAt (xs : List Rw) (k : Nat) : Int :=
  if rowFault (xs.getD k default) ≠ 0 then rowFault (xs.getD k default) else if 0 < k ∧ ahead (xs.getD (k - 1) default) (xs.getD k default) = false then 1 else 0
def tabF (xs : List Rw) : Int :=
  if 200 < xs.length then 2 else (((List.range xs.length).map (tabAt xs)).find? (fun c => decide (c ≠ 0))).getD 0
theorem tabF_at {xs : List Rw} {k : Nat} (hn : xs.length ≤ 200) (hk : k < xs.length) (h : ∀ j, j < k → tabAt xs j = 0) (hc : tabAt xs k ≠ 0) : tabF xs = tabAt xs k := by
  unfold tabF
  rw [if_neg (by omega)]
  have e : (List.range xs.length).map (tabAt xs) = (List.range k).map (tabAt xs) ++ tabAt xs k :: (List.range (xs.length - k - 1)).map (fun i => tabAt xs (k + 1 + i)) := by
    apply List.ext_getElem
    · simp; omega
    intro i h1 h2
    simp only [List.getElem_map, List.getElem_range, List.getElem_append, List.length_map, List.length_range]
    split
    · rfl
    · rename_i hik
      obtain ⟨d, rfl⟩ : ∃ d, i = k + d := ⟨i - k, by omega⟩
      cases d with
      | zero => simp
      | succ d => simp [show k + (d + 1) - k = d + 1 by omega, Nat.add_comm, Nat.add_left_comm]
  rw [e, List.find?_append]
  have e2 : ((List.range k).map (tabAt xs)).find? (fun c => decide (c ≠ 0)) = none := by
    rw [List.find?_eq_none]
    intro c hc'
    obtain ⟨j, hj, rfl⟩ := List.mem_map.1 hc'
    simp [h j (List.mem_range.1 hj)]
  rw [e2, Option.none_or, List.find?_cons_of_pos (by simpa using hc)]
  rfl
theorem tabF_zero {xs : List Rw} (hn : xs.length ≤ 200) (h : ∀ j, j < xs.length → tabAt xs j = 0) : tabF xs = 0 := by
  unfold tabF
  rw [if_neg (by omega)]
  have e2 : ((List.range xs.length).map (tabAt xs)).find? (fun c => decide (c ≠ 0)) = none := by
    rw [List.find?_eq_none]
    intro c hc'
    obtain ⟨j, hj, rfl⟩ := List.mem_map.1 hc'
    simp [h j (List.mem_range.1 hj)]
  rw [e2]
  rfl
theorem tabF_all {xs : List Rw} (h : tabF xs = 0) : xs.length ≤ 200 ∧ ∀ j, j < xs.length → tabAt xs j = 0 := by
  unfold tabF at h
  split at h
  · cases h
  · refine ⟨by omega, fun j hj => ?_⟩
    cases hf : ((List.range xs.length).map (tabAt xs)).find? (fun c => decide (c ≠ 0)) with
    | none =>
      rw [List.find?_eq_none] at hf
      have := hf (tabAt xs j) (List.mem_map.2 ⟨j, List.mem_range.2 hj, rfl⟩)
      simpa using this
    | some c =>
      rw [hf] at h
      have := List.find?_some hf
      simp at this h
      exact absurd h this
set_option maxHeartbeats 2000000 in
theorem specTableFault_any (x : Value) (xs : List Rw) (w : World) (hx : RowsV w x xs) :
    Calls Tryz.prog 43 #[x] w fun e w' => e = .returned (.int .i64 (tabF xs)) ∧ Below w.heap.size w w' := by
  obtain ⟨ax, cx, rfl, hcx, hmx, hx⟩ := hx
  unfold maxLen at hmx
  by_cases hn : 200 < xs.length
  · have e : tabF xs = 2 := by unfold tabF; rw [if_pos hn]
    rw [e]
    clear e hx
    generalize xs.length = n at *
    have h1 : (200 : Int) < n := by omega
    go_enter Tryz.func43, Tryz.ntmps43
    go_wp2
    go_ret
    exact ⟨rfl, Below.refl _ _⟩
  have HZ : Hid ((∀ j, j < xs.length → tabAt xs j = 0) → tabF xs = 0) := tabF_zero (by omega)
  have HC : Hid (∀ k, k < xs.length → (∀ j, j < k → tabAt xs j = 0) → tabAt xs k ≠ 0 → tabF xs = tabAt xs k) := fun k hk h hc => tabF_at (by omega) hk h hc
  generalize xs.length = n at *
  have h1 : ¬ (200 : Int) < n := by omega
  go_enter Tryz.func43, Tryz.ntmps43
  go_wp2
  go_loopw [3] (fun i w' => ∃ k : Nat, k ≤ n ∧ i = .int .i64 k ∧ Hid (∀ j, j < k → tabAt xs j = 0) ∧ Below w.heap.size w w') (fun i _ => n - (intOf i).toNat)
  case atStart => exact ⟨0, Nat.zero_le _, rfl, fun j h => absurd h (Nat.not_lt_zero _), Below.refl _ _⟩
  case round =>
    obtain ⟨k, hk, rfl, HP, hbl⟩ := hrel
    by_cases hlt : k < n
    · obtain ⟨bx, ox, rfl, h2⟩ := hx k hlt
      have HC2 : Hid (tabAt xs k ≠ 0 → tabF xs = tabAt xs k) := fun hc => HC.out k hlt HP.out hc
      have HK : Hid (tabAt xs k = if rowFault (xs.getD k default) ≠ 0 then rowFault (xs.getD k default) else if 0 < k ∧ ahead (xs.getD (k - 1) default) (xs.getD k default) = false then 1 else 0) := rfl
      have HX : Hid (∀ i, i < n → ∃ b o, some (⟨bx, ox, none⟩ : Addr) = some ⟨b, o, none⟩ ∧ rowCells w b (o + i * 4) (xs.getD i default)) := hx
      obtain ⟨l, hl⟩ : ∃ l, l = xs.getD k default := ⟨_, rfl⟩
      rw [← hl] at h2 HK
      clear hl hx HC HZ
      obtain ⟨a0, a1, a2, a3⟩ := rowCells_below hbl h2
      go_wp2_with fail
      refine (specRowFault_any l _).mono ?_
      rintro e wa ⟨rfl, hba⟩
      have hB := bstep hbl hba
      by_cases hf : rowFault l = 0
      · rw [hf]
        have HK2 : Hid (tabAt xs k = if 0 < k ∧ ahead (xs.getD (k - 1) default) l = false then 1 else 0) := by
          rw [Hid, HK.out, if_neg (by simp [hf])]
        clear hf HK a0 a1 a2 a3
        by_cases hk0 : k = 0
        · subst hk0
          go_wp2
          go_quiet (fail)
          go_wp2
          refine ⟨⟨1, by omega, by go_num, fun j hj => ?_, bdrN hB _⟩, by simp [intOf]; omega⟩
          have : j = 0 := by omega
          subst this
          rw [HK2.out]
          simp
        · obtain ⟨m, hm⟩ : ∃ m, k - 1 = m := ⟨_, rfl⟩
          obtain ⟨bp, op, ep, h3⟩ := HX.out m (by omega)
          simp only [Option.some.injEq, Addr.mk.injEq, and_true] at ep
          obtain ⟨rfl, rfl⟩ := ep
          rw [hm] at HK2
          obtain ⟨l2, hl2⟩ : ∃ l, l = xs.getD m default := ⟨_, rfl⟩
          rw [← hl2] at h3 HK2
          clear hl2 HX
          have HM : Hid (0 < k) := by rw [Hid]; omega
          have hi1 : (0 : Int) < (k : Int) := by omega
          have hi0 : decide (0 < k) = true := decide_eq_true (by omega)
          have hi2 : IntKind.i64.wrap ((k : Int) - 1) = (m : Int) := by rw [IntKind.wrap_i64]; omega
          have hi3 : (m : Int) < n := by omega
          have hi4 : (0 : Int) ≤ m := by omega
          have hi5 : (0 : Int) ≤ k := by omega
          have hi6 : (k : Int) < n := by omega
          clear hm hk0
          have r1 := rowCells_below hB h2
          have r2 := rowCells_below hB h3
          have HT : Hid (∀ b, ahead l2 l = b → tabAt xs k = if b = false then 1 else 0) := fun b hb => by
            rw [HK2.out, hb]
            have := HM.out
            simp [this]
          clear HK2 h2 h3
          cases hah : ahead l2 l
          all_goals
            have HT2 : Hid _ := HT.out _ hah
            go_wp2
            go_region_held3 (fun w' => Below wa.heap.size wa w' ∧ (w'.cell? ⟨bx, ox + m * 4, none⟩ = some (.string l2.key) ∧ w'.cell? ⟨bx, ox + m * 4 + 1, none⟩ = some (.int .i64 l2.ver) ∧ w'.cell? ⟨bx, ox + m * 4 + 2, none⟩ = some (.string l2.val) ∧ w'.cell? ⟨bx, ox + m * 4 + 3, none⟩ = some (.bool l2.gone)) ∧ (w'.cell? ⟨bx, ox + k * 4, none⟩ = some (.string l.key) ∧ w'.cell? ⟨bx, ox + k * 4 + 1, none⟩ = some (.int .i64 l.ver) ∧ w'.cell? ⟨bx, ox + k * 4 + 2, none⟩ = some (.string l.val) ∧ w'.cell? ⟨bx, ox + k * 4 + 3, none⟩ = some (.bool l.gone))) ((refine rowKeep2 ?_ r2 r1; repeat (first | exact Below.refl _ _ | assumption | refine Below.drew ?_ | refine balloc ?_ _ | refine bstep ?_ (by assumption)))) (first | (go_at_call 102; refine (l5Ahead_any l2 l _).mono ?_; rintro e w' ⟨rfl, hb1⟩; rw [hah]))
            rename_i hH
            have hB2 := bstep hB hH.1
            clear hH
            go_wp2
          · go_ret
            have hC := HC2.out (by rw [HT2.out]; simp)
            rw [HT2.out] at hC
            refine ⟨?_, hB2⟩
            rw [hC]
            rfl
          · refine ⟨⟨k + 1, by omega, by go_num, fun j hj => ?_, hB2⟩, by simp [intOf]; omega⟩
            by_cases hj2 : j < k
            · exact HP.out j hj2
            · have : j = k := by omega
              subst this
              rw [HT2.out]
              simp
      · have hf' : ((rowFault l : Int) == 0) = false := by rw [beq_eq_false_iff_ne]; exact hf
        have hK := HK.out
        rw [if_pos hf] at hK
        have hC := HC2.out (by rw [hK]; exact hf)
        have HE : Hid (tabF xs = rowFault l) := hC.trans hK
        clear hK hC
        go_wp2
        go_ret
        refine ⟨?_, hB⟩
        rw [HE.out]
        rfl
    · have hkn : k = n := by omega
      subst hkn
      have HE : Hid (tabF xs = 0) := HZ.out HP.out
      go_wp2
      go_ret
      refine ⟨?_, hbl⟩
      rw [HE.out]
      rfl
end Go.Proofs.YtdfapehonegeeaaGreat

/-
  The program's TableFault. (src.py writes the template.)
-/
namespace Go.Proofs.YtdfapehonegeeaaGreat
open Go.RowKit
set_option linter.unusedSectionVars false
variable [DecidableEq Rw] [Inhabited Rw]
set_option linter.unusedVariables false
attribute [local go_sem ↓] Go.wp_at_zero Go.wp_at_succ

theorem run_store_func (P : Program) (w : World) (a : Addr) (m : Mode) (f : Fn) (r b : Array Value) : (store a (.func f r b) m).run P w = stored P w a (.func f r b) m := run_store P w a _ m rfl
attribute [local go_sem] run_store_func

def cmpF : Value := .func (.func 75) #[] #[]
set_option maxHeartbeats 400000 in
theorem tableOf_any (a : Option Addr) (n c : Nat) (w : World) :
    Calls Tryz.prog 76 #[.slice a n c] w fun e w' => e = .returned (.agg #[.slice a n c, cmpF]) ∧ Below w.heap.size w w' := by
  go_enter Tryz.func76, Tryz.ntmps76
  go_wp2
  exact bodyPost_ret (v := .agg #[.slice a n c, cmpF]) (by simp [results, Tryz.results76, go_sem, cmpF]) rfl ⟨rfl, balloc (Below.refl _ _) _⟩
set_option maxHeartbeats 1000000 in
theorem ends_nil (a : Option Addr) (c : Nat) (y : Rw) (w : World) :
    Calls Tryz.prog 149 #[.agg #[.slice a 0 c, cmpF], rowV y] w fun e w' => e = .returned (.bool true) ∧ Below w.heap.size w w' := by
  unfold rowV cmpF
  go_enter Tryz.func149, Tryz.ntmps149
  go_wp2
  go_quiet (fail)
  go_wp2
  go_ret
  exact ⟨rfl, bdrN (balloc (balloc (Below.refl _ _) _) _) _⟩
theorem endsKeep {w w' : World} {b o b' o' : Nat} {x y : Rw} {a1 a2 : Addr} {u1 u2 : Value} (hb : Below w.heap.size w w') (h : rowCells w b o x) (h' : rowCells w b' o' y) (g1 : w.cell? a1 = some u1) (g2 : w.cell? a2 = some u2) :
    Below w.heap.size w w' ∧ (w'.cell? ⟨b, o, none⟩ = some (.string x.key) ∧ w'.cell? ⟨b, o + 1, none⟩ = some (.int .i64 x.ver) ∧ w'.cell? ⟨b, o + 2, none⟩ = some (.string x.val) ∧ w'.cell? ⟨b, o + 3, none⟩ = some (.bool x.gone)) ∧ (w'.cell? ⟨b', o', none⟩ = some (.string y.key) ∧ w'.cell? ⟨b', o' + 1, none⟩ = some (.int .i64 y.ver) ∧ w'.cell? ⟨b', o' + 2, none⟩ = some (.string y.val) ∧ w'.cell? ⟨b', o' + 3, none⟩ = some (.bool y.gone)) ∧ w'.cell? a1 = some u1 ∧ w'.cell? a2 = some u2 :=
  ⟨hb, rowCells_below hb h, rowCells_below hb h', cell_keep hb g1, cell_keep hb g2⟩
set_option maxHeartbeats 1000000 in
theorem ends_any (b o n m c : Nat) (x y : Rw) (w : World) (hn : n = m + 1) (hc : n ≤ c) (hm : n ≤ 200) (hx : rowCells w b (o + m * 4) x) :
    Calls Tryz.prog 149 #[.agg #[.slice (some ⟨b, o, none⟩) n c, cmpF], rowV y] w fun e w' => e = .returned (.bool (ahead x y)) ∧ Below w.heap.size w w' := by
  unfold rowV cmpF
  have hlt : b < w.heap.size := World.block_lt_of_cell? _ _ hx.1
  have hi1 : IntKind.i64.wrap ((n : Int) - 1) = (m : Int) := by rw [IntKind.wrap_i64]; omega
  have hi3 : decide ((m : Int) < 0) = false := decide_eq_false (by omega)
  have hi4 : (0 : Int) ≤ m := by omega
  have hi5 : (m : Int) < n := by omega
  have eg := enters_of Tryz.func75 (by kernel_rfl) rfl
  clear hn
  go_enter Tryz.func149, Tryz.ntmps149
  go_wp2
  obtain ⟨W0, hW0⟩ : ∃ W0, (w.alloc (.cells #[.slice (some ⟨b, o, none⟩) n c, .func (.func 75) #[] #[]] 105)).alloc (.cells #[.string y.key, .int .i64 y.ver, .string y.val, .bool y.gone] 76) = W0 := ⟨_, rfl⟩
  have hB0 : Below w.heap.size w W0 := by rw [← hW0]; exact balloc (balloc (Below.refl _ _) _) _
  have r1 : rowCells W0 b (o + m * 4) x := rowCells_below hB0 hx
  have r2 : rowCells W0 (w.heap.size + 1) 0 y := by rw [← hW0]; unfold rowCells; simp [go_sem]
  have q0 : W0.cell? ⟨w.heap.size, 0, none⟩ = some (.slice (some ⟨b, o, none⟩) n c) := by rw [← hW0]; simp [go_sem]
  have q1 : W0.cell? ⟨w.heap.size, 1, none⟩ = some (.func (.func 75) #[] #[]) := by rw [← hW0]; simp [go_sem]
  rw [hW0]
  clear hW0 hx
  go_region_held3 (fun w' => Below W0.heap.size W0 w' ∧ (w'.cell? ⟨b, o + m * 4, none⟩ = some (.string x.key) ∧ w'.cell? ⟨b, o + m * 4 + 1, none⟩ = some (.int .i64 x.ver) ∧ w'.cell? ⟨b, o + m * 4 + 2, none⟩ = some (.string x.val) ∧ w'.cell? ⟨b, o + m * 4 + 3, none⟩ = some (.bool x.gone)) ∧ (w'.cell? ⟨w.heap.size + 1, 0, none⟩ = some (.string y.key) ∧ w'.cell? ⟨w.heap.size + 1, 0 + 1, none⟩ = some (.int .i64 y.ver) ∧ w'.cell? ⟨w.heap.size + 1, 0 + 2, none⟩ = some (.string y.val) ∧ w'.cell? ⟨w.heap.size + 1, 0 + 3, none⟩ = some (.bool y.gone)) ∧ w'.cell? ⟨w.heap.size, 0, none⟩ = some (.slice (some ⟨b, o, none⟩) n c) ∧ w'.cell? ⟨w.heap.size, 1, none⟩ = some (.func (.func 75) #[] #[]))
    ((refine endsKeep ?_ r1 r2 q0 q1; repeat (first | exact Below.refl _ _ | assumption | refine Below.drew ?_ | refine balloc ?_ _ | refine bstep ?_ (by assumption))))
    (first | (go_at_call 75; refine (compareRows_any x y _).mono ?_; rintro e w' ⟨rfl, hb1⟩))
  rename_i hH
  have hB := bstep hB0 hH.1
  clear hH
  go_wp2
  go_ret
  exact ⟨rfl, hB⟩
theorem tableField (a : Option Addr) (n c : Nat) (w : World) : (Instr.field 111 (.agg #[.slice a n c, .func (.func 75) #[] #[]]) 0).run Tryz.prog w = .ok (.agg #[.slice a n c, .func (.func 75) #[] #[]]) w := by kernel_rfl
theorem tabKeep {w w' : World} {b o : Nat} {y : Rw} (hb : Below w.heap.size w w') (h' : rowCells w b o y) :
    Below w.heap.size w w' ∧ w'.cell? ⟨b, o, none⟩ = some (.string y.key) ∧ w'.cell? ⟨b, o + 1, none⟩ = some (.int .i64 y.ver) ∧ w'.cell? ⟨b, o + 2, none⟩ = some (.string y.val) ∧ w'.cell? ⟨b, o + 3, none⟩ = some (.bool y.gone) :=
  ⟨hb, rowCells_below hb h'⟩
set_option maxHeartbeats 2000000 in
theorem implTableFault_any (x : Value) (xs : List Rw) (w : World) (hx : RowsV w x xs) :
    Calls Tryz.prog 108 #[x] w fun e w' => e = .returned (.int .i64 (tabF xs)) ∧ Below w.heap.size w w' := by
  obtain ⟨ax, cx, rfl, hcx, hmx, hx⟩ := hx
  unfold maxLen at hmx
  by_cases hn : 200 < xs.length
  · have e : tabF xs = 2 := by unfold tabF; rw [if_pos hn]
    rw [e]
    clear e hx
    generalize xs.length = n at *
    have h1 : (200 : Int) < n := by omega
    go_enter Tryz.func108, Tryz.ntmps108
    go_wp2
    go_ret
    exact ⟨rfl, Below.refl _ _⟩
  have HZ : Hid ((∀ j, j < xs.length → tabAt xs j = 0) → tabF xs = 0) := tabF_zero (by omega)
  have HC : Hid (∀ k, k < xs.length → (∀ j, j < k → tabAt xs j = 0) → tabAt xs k ≠ 0 → tabF xs = tabAt xs k) := fun k hk h hc => tabF_at (by omega) hk h hc
  generalize xs.length = n at *
  have h1 : ¬ (200 : Int) < n := by omega
  go_enter Tryz.func108, Tryz.ntmps108
  go_wp2
  go_loopw [11] (fun i w' => ∃ k : Nat, k ≤ n ∧ i = .int .i64 k ∧ Hid (∀ j, j < k → tabAt xs j = 0) ∧ Below w.heap.size w w') (fun i _ => n - (intOf i).toNat)
  case atStart => exact ⟨0, Nat.zero_le _, rfl, fun j h => absurd h (Nat.not_lt_zero _), Below.refl _ _⟩
  case round =>
    obtain ⟨k, hk, rfl, HP, hbl⟩ := hrel
    by_cases hlt : k < n
    · obtain ⟨bx, ox, rfl, h2⟩ := hx k hlt
      have HC2 : Hid (tabAt xs k ≠ 0 → tabF xs = tabAt xs k) := fun hc => HC.out k hlt HP.out hc
      have HK : Hid (tabAt xs k = if rowFault (xs.getD k default) ≠ 0 then rowFault (xs.getD k default) else if 0 < k ∧ ahead (xs.getD (k - 1) default) (xs.getD k default) = false then 1 else 0) := rfl
      have HX : Hid (∀ i, i < n → ∃ b o, some (⟨bx, ox, none⟩ : Addr) = some ⟨b, o, none⟩ ∧ rowCells w b (o + i * 4) (xs.getD i default)) := hx
      obtain ⟨l, hl⟩ : ∃ l, l = xs.getD k default := ⟨_, rfl⟩
      rw [← hl] at h2 HK
      clear hl hx HC HZ
      obtain ⟨a0, a1, a2, a3⟩ := rowCells_below hbl h2
      go_wp2_with fail
      refine (implRowFault_any l _).mono ?_
      rintro e wa ⟨rfl, hba⟩
      have r0 : rowCells wa wr.heap.size 0 l := rowCells_below hba (by unfold rowCells; simp [go_sem])
      have hB : Below w.heap.size w wa := by (repeat (first | exact Below.refl _ _ | assumption | refine Below.drew ?_ | refine balloc ?_ _ | refine bset ?_ (by simp; omega) _ | refine bset ?_ (by simp) _ | refine bstep ?_ (by assumption)))
      clear hba
      by_cases hf : rowFault l = 0
      · rw [hf]
        have HK2 : Hid (tabAt xs k = if 0 < k ∧ ahead (xs.getD (k - 1) default) l = false then 1 else 0) := by
          rw [Hid, HK.out, if_neg (by simp [hf])]
        clear hf HK a0 a1 a2 a3
        have hi5 : (0 : Int) ≤ k := by omega
        have hi6 : (k : Int) ≤ cx := by omega
        have hfd := tableField
        by_cases hk0 : k = 0
        · subst hk0
          go_wp2
          go_region_held3 (fun w' => Below wa.heap.size wa w' ∧ w'.cell? ⟨wr.heap.size, 0, none⟩ = some (.string l.key) ∧ w'.cell? ⟨wr.heap.size, 0 + 1, none⟩ = some (.int .i64 l.ver) ∧ w'.cell? ⟨wr.heap.size, 0 + 2, none⟩ = some (.string l.val) ∧ w'.cell? ⟨wr.heap.size, 0 + 3, none⟩ = some (.bool l.gone)) ((refine tabKeep ?_ r0; repeat (first | exact Below.refl _ _ | assumption | refine Below.drew ?_ | refine balloc ?_ _ | refine bstep ?_ (by assumption))))
            (first | (go_at_call 76; refine (tableOf_any _ _ _ _).mono ?_; rintro e wt ⟨rfl, hbt⟩; unfold cmpF) | (go_at_call 149; refine (ends_nil _ _ l _).mono ?_; rintro e w' ⟨rfl, hb1⟩))
          rename_i hH
          have hB2 := bstep hB hH.1
          clear hH
          go_wp2
          refine ⟨⟨1, by omega, by go_num, fun j hj => ?_, hB2⟩, by simp [intOf]; omega⟩
          have : j = 0 := by omega
          subst this
          rw [HK2.out]
          simp
        · obtain ⟨m, hm⟩ : ∃ m, k - 1 = m := ⟨_, rfl⟩
          obtain ⟨bp, op, ep, h3⟩ := HX.out m (by omega)
          simp only [Option.some.injEq, Addr.mk.injEq, and_true] at ep
          obtain ⟨rfl, rfl⟩ := ep
          rw [hm] at HK2
          obtain ⟨l2, hl2⟩ : ∃ l, l = xs.getD m default := ⟨_, rfl⟩
          rw [← hl2] at h3 HK2
          have HM : Hid (0 < k) := by rw [Hid]; omega
          have hkm : k = m + 1 := by omega
          have HKM : Hid (k = m + 1) := hkm
          have hk200 : k ≤ 200 := by omega
          have hkcx : k ≤ cx := by omega
          clear hl2 HX hm hk0 hkm
          have r2 := rowCells_below hB h3
          have HT : Hid (∀ b, ahead l2 l = b → tabAt xs k = if b = false then 1 else 0) := fun b hb => by
            rw [HK2.out, hb]
            have := HM.out
            simp [this]
          clear HK2 h2 h3
          cases hah : ahead l2 l
          all_goals
            have HT2 : Hid _ := HT.out _ hah
            go_wp2
            go_region_held3 (fun w' => Below wa.heap.size wa w' ∧ w'.cell? ⟨wr.heap.size, 0, none⟩ = some (.string l.key) ∧ w'.cell? ⟨wr.heap.size, 0 + 1, none⟩ = some (.int .i64 l.ver) ∧ w'.cell? ⟨wr.heap.size, 0 + 2, none⟩ = some (.string l.val) ∧ w'.cell? ⟨wr.heap.size, 0 + 3, none⟩ = some (.bool l.gone)) ((refine tabKeep ?_ r0; repeat (first | exact Below.refl _ _ | assumption | refine Below.drew ?_ | refine balloc ?_ _ | refine bstep ?_ (by assumption))))
              (first | (go_at_call 76; refine (tableOf_any _ _ _ _).mono ?_; rintro e wt ⟨rfl, hbt⟩; unfold cmpF) | (go_at_call 149; refine (ends_any _ _ k m _ l2 l _ HKM.out hkcx hk200 (rowCells_below (by repeat (first | exact Below.refl _ _ | assumption | refine Below.drew ?_ | refine balloc ?_ _ | refine bstep ?_ (by assumption))) r2)).mono ?_; rintro e w' ⟨rfl, hb1⟩; rw [hah]))
            rename_i hH
            have hB2 := bstep hB hH.1
            clear hH
            go_wp2
          · go_ret
            have hC := HC2.out (by rw [HT2.out]; simp)
            rw [HT2.out] at hC
            refine ⟨?_, hB2⟩
            rw [hC]
            rfl
          · refine ⟨⟨k + 1, by omega, by go_num, fun j hj => ?_, hB2⟩, by simp [intOf]; omega⟩
            by_cases hj2 : j < k
            · exact HP.out j hj2
            · have : j = k := by omega
              subst this
              rw [HT2.out]
              simp
      · have hf' : ((rowFault l : Int) == 0) = false := by rw [beq_eq_false_iff_ne]; exact hf
        have hK := HK.out
        rw [if_pos hf] at hK
        have hC := HC2.out (by rw [hK]; exact hf)
        have HE : Hid (tabF xs = rowFault l) := hC.trans hK
        clear hK hC
        go_wp2
        go_ret
        refine ⟨?_, hB⟩
        rw [HE.out]
        rfl
    · have hkn : k = n := by omega
      subst hkn
      have HE : Hid (tabF xs = 0) := HZ.out HP.out
      go_wp2
      go_ret
      refine ⟨?_, hbl⟩
      rw [HE.out]
      rfl
end Go.Proofs.YtdfapehonegeeaaGreat


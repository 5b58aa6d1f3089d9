import Derived.Test.YteebglgbeijolaaPrnTablesLaw4
import Derived.Test.YteebglgbeijolaaPrnTablesLaw1
import Derived.RangeFuncNested
import Derived.RangeFuncBound
import Derived.RangeFuncCalls
import Derived.RangeFuncLeaves
import Derived.Shelf.Abstract
import Derived.Deep.RegionHeld3
import Derived.Deep.DrawnRows
import Derived.BigQuiet

/-
  The specification's draws: one of a list, some bytes, bytes with something turned.
-/
namespace Go.Proofs.Yteebglgbeijolaa
open Go.RowKit
set_option linter.unusedSectionVars false
variable [DecidableEq Logg] [Inhabited Logg] [DecidableEq LoggR] [Inhabited LoggR] [DecidableEq BytesR] [Inhabited BytesR] [DecidableEq RecsR] [Inhabited RecsR] [DecidableEq Leg] [Inhabited Leg]
set_option linter.unusedSimpArgs false
attribute [local go_sem ↓] Go.wp_at_zero Go.wp_at_succ

theorem Mod.trans2 {F G : Nat → Prop} {w w1 w2 : World} (h : Mod F w w1) (k : Mod G w1 w2) (hG : ∀ b, G b → b < w.heap.size → F b) : Mod F w w2 :=
  ⟨k.os.trans h.os, k.tape.trans h.tape, k.output.trans h.output, Nat.le_trans h.size k.size, fun i hi hn => (k.block i (Nat.lt_of_lt_of_le hi h.size) (fun e => hn (hG i e hi))).trans (h.block i hi hn)⟩
theorem Mod.transB {F : Nat → Prop} {w w1 w2 : World} (h : Mod F w w1) (k : Below w1.heap.size w1 w2) : Mod F w w2 := h.trans (Mod.of_below k)
theorem src_new {w : World} {a : Option Addr} {cap : Nat} {xs : List Byte} {T : TypeId} (h : BytesV w (.slice a xs.length cap) xs) (hn : xs.length ≤ 2097152) : Src w.heap.size (w.alloc (.cells #[.slice a xs.length cap, .int .i64 0] T)) w.heap.size a xs.length cap 0 := by
  obtain ⟨a', cap', e, g1, g2, g3⟩ := h
  simp only [Value.slice.injEq, true_and] at e
  obtain ⟨rfl, rfl⟩ := e
  refine ⟨Nat.le_refl _, by simp, by simp [go_sem], by simp [go_sem], fun o => by simp [go_sem], g1, g2, hn, fun i hi => ?_⟩
  obtain ⟨b, o, e, hc⟩ := g3 i hi
  have hl := World.block_lt_of_cell? _ _ hc
  dsimp only at hl
  exact ⟨b, o, _, e, hl, by omega, by have := (xs.getD i 0).isLt; omega, cell_keep (balloc (Below.refl _ _) _) hc⟩
set_option maxHeartbeats 400000 in
theorem l1Source_any (x : Value) (xs : List Byte) (w : World) (hx : BytesV w x xs) (hn : xs.length ≤ 2097152) :
    Calls Try.prog 47 #[x] w fun e w' => ∃ a cap, e = .returned (.pointer (some ⟨w.heap.size, 0, none⟩)) ∧ Src w.heap.size w' w.heap.size a xs.length cap 0 ∧ Below w.heap.size w w' := by
  have hX := hx
  obtain ⟨a, cap, rfl, _⟩ := hx
  go_enter Try.func47, Try.ntmps47
  go_wp2
  go_ret
  exact ⟨a, cap, rfl, src_new hX hn, by (repeat (first | exact Below.refl _ _ | assumption | refine Below.drew ?_ | refine balloc ?_ _ | refine bset ?_ (by simp; omega) _ | refine bset ?_ (by simp) _ | refine bstep ?_ (by assumption)))⟩
set_option maxHeartbeats 1000000 in
theorem l1Pick_any (B : Nat) (w : World) (bs : Nat) (a : Option Addr) (k cap t : Nat) (g c : Nat) (ys : List Int) (h : Src B w bs a k cap t) (ht : t ≤ 100000) (hg : g ≠ bs) (hn1 : 1 ≤ ys.length) (hn2 : ys.length ≤ 200)
    (hy : ∀ i, i < ys.length → w.cell? ⟨g, i, none⟩ = some (.int .i64 (ys.getD i 0))) :
    Calls Try.prog 49 #[.pointer (some ⟨bs, 0, none⟩), .slice (some ⟨g, 0, none⟩) ys.length c] w fun e w' => ∃ r : Int, e = .returned (.int .i64 r) ∧ r ∈ ys ∧ Src B w' bs a k cap (t + 1) ∧ Mod (fun b => b = bs) w w' := by
  have HY : Hid (∀ i, i < ys.length → w.cell? ⟨g, i, none⟩ = some (.int .i64 (ys.getD i 0))) := hy
  clear hy
  go_enter Try.func49, Try.ntmps49
  go_wp2_with fail
  refine (l1Next_any B w bs a k cap t ys.length h ht (by omega) (by omega)).mono ?_
  rintro e w1 ⟨m, rfl, r1, hs1, hm1⟩
  have hm : m < ys.length := by omega
  have hcell := hm1.cell (HY.out m hm) (by simpa using hg)
  obtain ⟨y, hye⟩ : ∃ y, y = ys.getD m 0 := ⟨_, rfl⟩
  rw [← hye] at hcell
  have HE : Hid (y = ys.getD m 0) := hye
  clear hye
  go_wp2
  go_ret
  refine ⟨y, rfl, ?_, hs1, hm1⟩
  rw [HE.out]
  have e : ys.getD m 0 = ys[m] := by simp [List.getD, hm]
  rw [e]
  exact List.getElem_mem hm
set_option maxHeartbeats 400000 in
theorem l1Chance_any (B : Nat) (w : World) (bs : Nat) (a : Option Addr) (k cap t : Nat) (n : Int) (h : Src B w bs a k cap t) (ht : t ≤ 100000) (hn1 : 1 ≤ n) (hn2 : n ≤ 100000) :
    Calls Try.prog 64 #[.pointer (some ⟨bs, 0, none⟩), .int .i64 n] w fun e w' => ∃ r : Bool, e = .returned (.bool r) ∧ Src B w' bs a k cap (t + 1) ∧ Mod (fun b => b = bs) w w' := by
  go_enter Try.func64, Try.ntmps64
  go_wp2_with fail
  refine (l1Next_any B w bs a k cap t n h ht hn1 hn2).mono ?_
  rintro e w1 ⟨m, rfl, r1, hs1, hm1⟩
  go_wp2
  go_ret
  exact ⟨_, rfl, hs1, hm1⟩
end Go.Proofs.Yteebglgbeijolaa

/-
  Ranges over functions whose iterators change memory of their own, and call other rounds: contracts with the set of blocks that the iterator may change.
-/
namespace Go.Proofs.Yteebglgbeijolaa
open Go.RowKit

def Stb {β : Type} (J : β → World → (Nat → Prop) → Prop) : Prop :=
  ∀ s W W' X X', J s W X → Mod X W W' → (∀ b, X b → X' b) → (∀ b, X' b → (X b ∨ W.heap.size ≤ b) ∧ b < W'.heap.size) → J s W' X'
abbrev Kp (R X : Nat → Prop) (W W' : World) : Prop := Mod (fun k => ¬ (R k ∨ X k)) W W'
def Seqx {α : Type} (P : Program) (g : Nat) (lb : Array Value) (enc : α → Value) (xs : List α) (R : Nat → Prop) (w : World) : Prop :=
  ∀ (l : Nat) (J Jx : List α → World → (Nat → Prop) → Prop) (W : World) (X : Nat → Prop), Mod (fun k => ¬ R k) w W → (∀ b, X b → b < W.heap.size) → Stb J → Stb Jx →
    (∀ pre x W1 X1, J pre W1 X1 → (∀ b, X b → X1 b) → (∀ b, X1 b → b < W1.heap.size) → pre ++ [x] <+: xs → YieldAt Fence.wide 0 P l #[enc x] W1 fun e W' =>
      (e = .returned (.bool true) ∧ J (pre ++ [x]) W' X1 ∧ Kp R X1 W1 W') ∨ (e = .returned (.bool false) ∧ Jx (pre ++ [x]) W' X1 ∧ Kp R X1 W1 W')) →
    J [] W X →
    CallsIn Fence.wide 0 P g (#[.func (.yield l) #[] #[]] ++ lb) W fun e W' => (∃ v, e = .returned v) ∧ ∃ X', (∀ b, X b → X' b) ∧ (J xs W' X' ∨ ∃ pre, pre <+: xs ∧ Jx pre W' X')
def postX {α : Type} (R X : Nat → Prop) (I : List α → World → (Nat → Prop) → Prop) (Ix : Code → List α → World → (Nat → Prop) → Prop) (ys : List α) (W : World) : Exit → Act → World → Prop
  | .normal, _, W' => Kp R X W W' ∧ I ys W' X
  | .ret, _, W' => Kp R X W W' ∧ Ix .ret ys W' X
  | .exit id, _, W' => Kp R X W W' ∧ Ix (.exit id) ys W' X
  | .goto t, _, W' => Kp R X W W' ∧ Ix (.goto t) ys W' X
  | .panic _, _, _ => False
  | .outgrown, _, _ => False
theorem mod_put (W : World) (l : Nat) (o : Obj) : Mod (fun b => b = l) W (W.putObj l o) :=
  ⟨rfl, rfl, rfl, by simp [World.putObj], fun _ _ hn => World.putObj_heap_other hn⟩
theorem mod_alloc (F : Nat → Prop) (W : World) (o : Obj) : Mod F W (W.alloc o) := (Mod.refl F W).alloc o
set_option maxHeartbeats 1000000 in
theorem wp_rangeX {α : Type} {P : Program} {g : Operand} {p : Tmp} {assign body : Code} {Q : Exit → Act → World → Prop} {a : Act} {w : World}
    {gf : Nat} {lb : Array Value} (hg : a.eval g = .func (.func gf) #[] lb) (eg : ∀ args w, (callFunc gf args).run P w = .ok (.enter gf args) w)
    {enc : α → Value} {xs : List α} {R : Nat → Prop} (hseq : Seqx P gf lb enc xs R w) (hR : ∀ b, R b → b < w.heap.size)
    (I : List α → World → (Nat → Prop) → Prop) (Ix : Code → List α → World → (Nat → Prop) → Prop) (hI : Stb I) (hIx : ∀ c, Stb (Ix c)) (X0 : Nat → Prop) (hX0 : ∀ b, X0 b → b < w.heap.size) (h0 : I [] w X0)
    (Ax : α → Act → World → (Nat → Prop) → Prop) (hAx : ∀ x a', Stb (fun (_ : Unit) => Ax x a'))
    (hassign : ∀ (l : Nat) (pre : List α) (x : α) (W : World) (X : Nat → Prop) (K : Act → World → Prop), I pre W X → X l → (∀ b, X b → b < W.heap.size) → (∀ a' W', Mod (fun _ => False) W W' → Ax x a' W' X → K a' W') →
      assign.wpIn (Fence.wide.inRound l) 0 P (Exit.then K (fun _ _ _ => False)) { tmps := (#[p].zip #[enc x]).foldl (fun t (p, v) => t.setIfInBounds p v) a.tmps, defers := [] } W)
    (hbody : ∀ (l : Nat) (pre : List α) (x : α) (a' : Act) (W : World) (X : Nat → Prop), X l → (∀ b, X b → b < W.heap.size) → I pre W X → Ax x a' W X → pre ++ [x] <+: xs → body.wpIn (Fence.wide.inRound l) 0 P (postX R X I Ix (pre ++ [x]) W) a' W)
    (hdone : ∀ (D : Nat) (W : World) (X : Nat → Prop), w.heap.size ≤ D → X D → I xs W X → W.heap[D]? = some (.deferred (some [])) → Q .normal { a with defers := { target := .collected D, args := #[] } :: a.defers } W)
    (hstop : ∀ (D : Nat) (c : Code) (pre : List α) (W : World) (X : Nat → Prop), w.heap.size ≤ D → X D → pre <+: xs → Ix c pre W X → W.heap[D]? = some (.deferred (some [])) → c.wpIn Fence.wide 0 P Q { a with defers := { target := .collected D, args := #[] } :: a.defers } W) :
    (Code.rangeFunc g #[p] assign body).wpIn Fence.wide 0 P Q a w := by
  refine wpIn_rangeFunc ?_
  intro fn hfn
  rw [show Fence.wide.round = none from rfl]
  obtain ⟨rec, hrec⟩ : ∃ rec : LoopState → Option Code → Loop, rec = fun st pe => { state := st, pending := pe, fn, tmps := a.tmps, params := #[p], assign, body, defers := w.heap.size } := ⟨_, rfl⟩
  obtain ⟨W1, hW1⟩ : ∃ W1, (w.alloc (.deferred (some []))).alloc (.loop (rec .ready none)) = W1 := ⟨_, rfl⟩
  have hz1 : W1.heap.size = w.heap.size + 2 := by rw [← hW1]; simp
  have hL1 : W1.heap[w.heap.size + 1]? = some (.loop (rec .ready none)) := by
    rw [← hW1]
    have h := World.alloc_heap_new (w.alloc (.deferred (some []))) (.loop (rec .ready none))
    rwa [World.size_alloc] at h
  have hK1 : W1.heap[w.heap.size]? = some (.deferred (some [])) := by
    rw [← hW1]
    exact (Below.heap_alloc _ _ _ (by simp)).trans (World.alloc_heap_new w _)
  have hM1 : ∀ F, Mod F w W1 := fun F => by rw [← hW1]; exact (mod_alloc F w _).alloc _
  refine ⟨w.heap.size + 1, [{ target := .collected w.heap.size, args := #[] }], W1, { target := .fn (.func gf) lb, args := #[.func (.yield (w.heap.size + 1)) #[] #[]] }, W1, gf,
    #[.func (.yield (w.heap.size + 1)) #[] #[]] ++ lb, W1, ?_, ?_, ?_, ?_, (fun h => (by cases h)), ?_⟩
  · rw [← hW1, hrec]
    exact run_enterLoop_outer _ _ _ _ _
  · simp only [resolve, hg]
    simp [go_sem]
  · intro f' _
    trivial
  · simp [invoke, go_sem, eg]
  obtain ⟨N, hN⟩ : ∃ N, N = w.heap.size := ⟨_, rfl⟩
  rw [← hN] at hL1 hK1 hz1 ⊢
  have key : ∀ (st : LoopState) (pe : Option Code) (G : World → (Nat → Prop) → Prop), (∀ W W' X X', G W X → Mod X W W' → (∀ b, X b → X' b) → (∀ b, X' b → (X b ∨ W.heap.size ≤ b) ∧ b < W'.heap.size) → G W' X') →
      ∀ (W W' : World) (X X' : Nat → Prop), ((∃ Y, G W Y ∧ (∀ b, X b → Y b) ∧ (∀ b, Y b → b < W.heap.size) ∧ Y (N + 1) ∧ Y N) ∧ W.heap[N + 1]? = some (.loop (rec st pe)) ∧ W.heap[N]? = some (.deferred (some [])) ∧ ¬ X (N + 1) ∧ ¬ X N) →
        Mod X W W' → (∀ b, X b → X' b) → (∀ b, X' b → (X b ∨ W.heap.size ≤ b) ∧ b < W'.heap.size) →
        ((∃ Y, G W' Y ∧ (∀ b, X' b → Y b) ∧ (∀ b, Y b → b < W'.heap.size) ∧ Y (N + 1) ∧ Y N) ∧ W'.heap[N + 1]? = some (.loop (rec st pe)) ∧ W'.heap[N]? = some (.deferred (some [])) ∧ ¬ X' (N + 1) ∧ ¬ X' N) := by
    rintro st pe G hG W W' X X' ⟨⟨Y, hg0, hXY, hYa, hYl, hYd⟩, hl, hk, hnl, hnd⟩ hm hXX hXn
    have hlt : N + 1 < W.heap.size := (Array.getElem?_eq_some_iff.1 hl).1
    have hsz := hm.size
    refine ⟨⟨fun b => Y b ∨ X' b, hG W W' Y _ hg0 (hm.mono hXY) (fun b h => .inl h) (fun b h => ?_), fun b h => .inr h, fun b h => ?_, .inl hYl, .inl hYd⟩,
      (hm.block _ hlt hnl).trans hl, (hm.block _ (by omega) hnd).trans hk, fun h => ?_, fun h => ?_⟩
    · rcases h with h | h
      · exact ⟨.inl h, by have := hYa b h; omega⟩
      · have h2 := hXn b h
        exact ⟨h2.1.imp (hXY b) id, h2.2⟩
    · rcases h with h | h
      · have := hYa b h
        omega
      · exact (hXn b h).2
    · rcases (hXn _ h).1 with h | h
      · exact hnl h
      · omega
    · rcases (hXn _ h).1 with h | h
      · exact hnd h
      · omega
  refine (hseq (N + 1)
    (fun pre W X => (∃ Y, I pre W Y ∧ (∀ b, X b → Y b) ∧ (∀ b, Y b → b < W.heap.size) ∧ Y (N + 1) ∧ Y N) ∧ W.heap[N + 1]? = some (.loop (rec .ready none)) ∧ W.heap[N]? = some (.deferred (some [])) ∧ ¬ X (N + 1) ∧ ¬ X N)
    (fun pre W X => ∃ c, (∃ Y, Ix c pre W Y ∧ (∀ b, X b → Y b) ∧ (∀ b, Y b → b < W.heap.size) ∧ Y (N + 1) ∧ Y N) ∧ W.heap[N + 1]? = some (.loop (rec .done (some c))) ∧ W.heap[N]? = some (.deferred (some [])) ∧ ¬ X (N + 1) ∧ ¬ X N)
    W1 (fun _ => False) (hM1 _) (fun _ h => h.elim) (fun s W W' X X' h => key .ready none (I s) (hI s) W W' X X' h)
    (fun s W W' X X' ⟨c, h⟩ hm h1 h2 => ⟨c, key .done (some c) (Ix c s) (hIx c s) W W' X X' h hm h1 h2⟩)
    ?_ ⟨⟨fun b => X0 b ∨ b = N ∨ b = N + 1, hI _ _ _ X0 _ h0 (hM1 _) (fun b h => .inl h) (fun b h => ?_), fun _ h => h.elim, fun b h => ?_, .inr (.inr rfl), .inr (.inl rfl)⟩, hL1, hK1, fun h => h, fun h => h⟩).mono ?_
  rotate_left
  · rw [hz1]
    rcases h with h | rfl | rfl
    · exact ⟨.inl h, by have := hX0 b h; omega⟩
    · exact ⟨.inr (by omega), by omega⟩
    · exact ⟨.inr (by omega), by omega⟩
  · rw [hz1]
    rcases h with h | rfl | rfl
    · have := hX0 b h
      omega
    · omega
    · omega
  · rintro e W2 ⟨⟨v, rfl⟩, X', _, (⟨⟨Y, hi, hXY, hYa, hYl, hYd⟩, hl, hk, hnl, hnd⟩ | ⟨pre, hpre, c, ⟨Y, hi, hXY, hYa, hYl, hYd⟩, hl, hk, hnl, hnd⟩)⟩
    all_goals
      have hlt : N + 1 < W2.heap.size := (Array.getElem?_eq_some_iff.1 hl).1
      have hput : ∀ o, Mod Y W2 (W2.putObj (N + 1) o) := fun o => (mod_put W2 (N + 1) o).mono (fun b h => by rw [h]; exact hYl)
      have hal : ∀ o b, Y b → (Y b ∨ W2.heap.size ≤ b) ∧ b < (W2.putObj (N + 1) o).heap.size := fun o b h => ⟨.inl h, by have := hYa b h; have := (hput o).size; omega⟩
    · refine ⟨none, _, by have := run_endLoop (P := P) hl (by rw [hrec]; simp); rw [hrec] at this; exact this, ?_⟩
      exact hdone N _ Y (by omega) hYd (hI _ _ _ _ _ hi (hput _) (fun _ h => h) (hal _)) ((World.putObj_heap_other (by omega)).trans hk)
    · refine ⟨some c, _, by have := run_endLoop (P := P) hl (by rw [hrec]; simp); rw [hrec] at this; exact this, ?_⟩
      exact hstop N c pre _ Y (by omega) hYd hpre (hIx c _ _ _ _ _ hi (hput _) (fun _ h => h) (hal _)) ((World.putObj_heap_other (by omega)).trans hk)
  · rintro pre x W X1 ⟨⟨Y, hi, hXY, hYa, hYl, hYd⟩, hl, hk, hnl, hnd⟩ _ _ hpre
    have hy := run_yield (P := P) (args := #[enc x]) hl (by rw [hrec]; rfl)
    rw [hrec] at hy
    refine ⟨fn, _, assign, body, hy, roundIn_of_wpIn hfn (hassign _ pre x W Y _ hi hYl hYa ?_)⟩
    clear hy
    intro a' Wa hma hax
    have hsa := hma.size
    have hlt0 : N + 1 < W.heap.size := (Array.getElem?_eq_some_iff.1 hl).1
    have hla : Wa.heap[N + 1]? = some (.loop (rec .ready none)) := (hma.block _ hlt0 (fun h => h)).trans hl
    have hka : Wa.heap[N]? = some (.deferred (some [])) := (hma.block _ (by omega) (fun h => h)).trans hk
    have hia : I pre Wa Y := hI _ _ _ _ _ hi (hma.mono (fun _ h => h.elim)) (fun _ h => h) (fun b h => ⟨.inl h, by have := hYa b h; omega⟩)
    refine ⟨_, run_beginRound hla (by rw [hrec]), ?_⟩
    obtain ⟨Wb, hWb⟩ : ∃ Wb, Wa.putObj (N + 1) (.loop { rec .ready none with state := .busy }) = Wb := ⟨_, rfl⟩
    have hmb : Mod (fun b => b = N + 1) Wa Wb := by rw [← hWb]; exact mod_put _ _ _
    have hsb := hmb.size
    have hlb : Wb.heap[N + 1]? = some (.loop { rec .ready none with state := .busy }) := by rw [← hWb]; exact World.putObj_heap_same (by omega)
    have hkb : Wb.heap[N]? = some (.deferred (some [])) := (hmb.block _ (by omega) (by omega)).trans hka
    have hmY : Mod Y Wa Wb := hmb.mono (fun b h => by rw [h]; exact hYl)
    have halb : ∀ b, Y b → (Y b ∨ Wa.heap.size ≤ b) ∧ b < Wb.heap.size := fun b h => ⟨.inl h, by have := hYa b h; omega⟩
    rw [hWb]
    refine wpIn_mono (hbody _ pre x a' Wb Y hYl (fun b h => (halb b h).2) (hI _ _ _ _ _ hia hmY (fun _ h => h) halb) (hAx x a' () _ _ _ _ hax hmY (fun _ h => h) halb) hpre) ?_
    have fin : ∀ (G : World → (Nat → Prop) → Prop), (∀ W W' X X', G W X → Mod X W W' → (∀ b, X b → X' b) → (∀ b, X' b → (X b ∨ W.heap.size ≤ b) ∧ b < W'.heap.size) → G W' X') → ∀ (jump : Option Code) (W3 : World), Kp R Y Wb W3 → G W3 Y →
        ∃ W4, (Instr.endRound (N + 1) jump).run P W3 = .ok (.bool jump.isNone) W4 ∧ Kp R X1 W W4 ∧
          ((∃ Y, G W4 Y ∧ (∀ b, X1 b → Y b) ∧ (∀ b, Y b → b < W4.heap.size) ∧ Y (N + 1) ∧ Y N) ∧ W4.heap[N + 1]? = some (.loop (rec (if jump.isNone then .ready else .done) jump)) ∧ W4.heap[N]? = some (.deferred (some [])) ∧ ¬ X1 (N + 1) ∧ ¬ X1 N) := by
      intro G hG jump W3 hk3 hg3
      have hs3 := hk3.size
      have hl3 : W3.heap[N + 1]? = some (.loop { rec .ready none with state := .busy }) := (hk3.block _ (by omega) (fun h => h (.inr hYl))).trans hlb
      have hkd3 : W3.heap[N]? = some (.deferred (some [])) := (hk3.block _ (by omega) (fun h => h (.inr hYd))).trans hkb
      have hrun := run_endRound (P := P) jump hl3
      obtain ⟨W4, hW4⟩ : ∃ W4, W3.putObj (N + 1) (.loop (rec (if jump.isNone then .ready else .done) jump)) = W4 := ⟨_, rfl⟩
      have hm4 : Mod (fun b => b = N + 1) W3 W4 := by rw [← hW4]; exact mod_put _ _ _
      have hs4 := hm4.size
      have hnR : ¬ (R (N + 1) ∨ X1 (N + 1)) := by
        rintro (h | h)
        · have := hR _ h
          omega
        · exact hnl h
      refine ⟨W4, by rw [← hW4, hrec]; rw [hrec] at hrun; exact hrun, ?_, ⟨Y, hG _ _ _ _ hg3 (hm4.mono (fun b h => by rw [h]; exact hYl)) (fun _ h => h) (fun b h => ⟨.inl h, by have := hYa b h; omega⟩), hXY, fun b h => by have := hYa b h; omega, hYl, hYd⟩, by rw [← hW4]; exact World.putObj_heap_same (by omega), (hm4.block _ (by omega) (by omega)).trans hkd3, hnl, hnd⟩
      have k1 : Kp R X1 W Wa := hma.mono (fun _ h => h.elim)
      have k2 : Kp R X1 Wa Wb := hmb.mono (fun b h => by rw [h]; exact hnR)
      have k3 : Kp R X1 Wb W3 := hk3.mono (fun b h => fun hn => h (Or.imp id (hXY b) hn))
      have k4 : Kp R X1 W3 W4 := hm4.mono (fun b h => by rw [h]; exact hnR)
      exact ((k1.trans k2).trans k3).trans k4
    rintro e a3 W3 hp
    cases e with
    | normal =>
      obtain ⟨hk3, hi3⟩ := hp
      obtain ⟨W4, hr, hkp, hj⟩ := fin (I (pre ++ [x])) (hI _) none W3 hk3 hi3
      exact ⟨_, W4, hr, .inl ⟨rfl, hj, hkp⟩⟩
    | ret =>
      obtain ⟨hk3, hi3⟩ := hp
      obtain ⟨W4, hr, hkp, hj⟩ := fin (Ix .ret (pre ++ [x])) (hIx _ _) (some .ret) W3 hk3 hi3
      exact ⟨_, W4, hr, .inr ⟨rfl, ⟨_, hj⟩, hkp⟩⟩
    | exit id =>
      obtain ⟨hk3, hi3⟩ := hp
      obtain ⟨W4, hr, hkp, hj⟩ := fin (Ix (.exit id) (pre ++ [x])) (hIx _ _) (some (.exit id)) W3 hk3 hi3
      exact ⟨_, W4, hr, .inr ⟨rfl, ⟨_, hj⟩, hkp⟩⟩
    | goto t =>
      obtain ⟨hk3, hi3⟩ := hp
      obtain ⟨W4, hr, hkp, hj⟩ := fin (Ix (.goto t) (pre ++ [x])) (hIx _ _) (some (.goto t)) W3 hk3 hi3
      exact ⟨_, W4, hr, .inr ⟨rfl, ⟨_, hj⟩, hkp⟩⟩
    | panic ch => exact hp.elim
    | outgrown => exact hp.elim
end Go.Proofs.Yteebglgbeijolaa

/-
  Texts, in small.
-/
namespace Go.Proofs.Yteebglgbeijolaa
open Go.RowKit

theorem tl_inj (a b : ByteArray) : (a.toList = b.toList) = (a = b) := by
  rw [ByteArray.toList_eq, ByteArray.toList_eq]
  exact propext ⟨fun h => by cases a; cases b; simp only at h; rw [Array.toList_inj.1 h], fun h => by rw [h]⟩
theorem tl_empty (a : ByteArray) : a.toList.isEmpty = decide (a.size = 0) := by
  rw [ByteArray.toList_eq]
  obtain ⟨⟨l⟩⟩ := a
  cases l <;> simp [ByteArray.size]
theorem tl_nil (a : ByteArray) : (a.toList = []) = (a.size = 0) := by
  have h := tl_empty a
  rw [← List.isEmpty_iff, h]
  simp
end Go.Proofs.Yteebglgbeijolaa

/-
  A row of a table: the law's own copy, comparison, count; RowFault on both sides.
-/
namespace Go.Proofs.Yteebglgbeijolaa
open Go.RowKit
set_option linter.unusedSectionVars false
attribute [local go_sem ↓] Go.wp_at_zero Go.wp_at_succ
set_option linter.unusedSimpArgs false

structure Rw where
  key : ByteArray
  ver : Int
  val : ByteArray
  gone : Bool
variable [DecidableEq Rw] [Inhabited Rw]

def rowV (x : Rw) : Value := .agg #[.string x.key, .int .i64 x.ver, .string x.val, .bool x.gone]
def inR (a lo hi : Int) : Bool := decide (lo ≤ a ∧ a ≤ hi)
theorem l1InR_any (a lo hi : Int) (w : World) :
    Calls Try.prog 103 #[.int .i64 a, .int .i64 lo, .int .i64 hi] w fun e w' => e = .returned (.bool (inR a lo hi)) ∧ w' = w := by
  go_enter Try.func103, Try.ntmps103
  go_wp2
  all_goals
    go_ret
    exact ⟨by unfold inR; simp_all <;> omega, rfl⟩
theorem withinR_any (a lo hi : Int) (w : World) :
    Calls Try.prog 102 #[.int .i64 a, .int .i64 lo, .int .i64 hi] w fun e w' => e = .returned (.bool (inR a lo hi)) ∧ w' = w := by
  go_enter Try.func102, Try.ntmps102
  go_wp2
  all_goals
    go_ret
    exact ⟨by unfold inR; simp_all <;> omega, rfl⟩
def rowFault (x : Rw) : Int :=
  if x.key.size < 1 ∨ 20 < x.key.size ∨ (x.gone = true ∧ 0 < x.val.size) then 1 else if 100 < x.val.size then 2 else if inR x.ver 1 1000000 then 0 else 3
set_option maxHeartbeats 400000 in
theorem specRowFault_any (x : Rw) (w : World) :
    Calls Try.prog 118 #[rowV x] w fun e w' => e = .returned (.int .i64 (rowFault x)) ∧ Below w.heap.size w w' := by
  obtain ⟨a, b, c, d⟩ := x
  unfold rowV
  cases d <;> cases hin : inR b 1 1000000
  all_goals
    go_enter Try.func118, Try.ntmps118
    go_wp2_with (go_at_call 103; refine (l1InR_any _ _ _ _).mono ?_; rintro e w' ⟨rfl, rfl⟩; rw [hin])
    all_goals
      go_ret
      refine ⟨?_, balloc (Below.refl _ _) _⟩
      refine congrArg (fun z => Ending.returned (Value.int .i64 z)) ?_
      try simp only [tl_nil, tl_empty, Bool.not_eq_true', Bool.not_eq_false', decide_eq_true_eq, decide_eq_false_iff_not] at *
      unfold rowFault
      simp only [hin, true_and, false_and, or_false, Bool.false_eq_true, if_true, if_false]
      repeat (first | rfl | (exfalso; omega) | rw [if_pos (by omega)] | rw [if_neg (by omega)])
set_option maxHeartbeats 400000 in
theorem implRowFault_any (x : Rw) (w : World) :
    Calls Try.prog 80 #[rowV x] w fun e w' => e = .returned (.int .i64 (rowFault x)) ∧ Below w.heap.size w w' := by
  obtain ⟨a, b, c, d⟩ := x
  unfold rowV
  cases d <;> cases hin : inR b 1 1000000
  all_goals
    go_enter Try.func80, Try.ntmps80
    go_wp2_with (go_at_call 102; refine (withinR_any _ _ _ _).mono ?_; rintro e w' ⟨rfl, rfl⟩; rw [hin])
    all_goals
      go_ret
      refine ⟨?_, balloc (Below.refl _ _) _⟩
      refine congrArg (fun z => Ending.returned (Value.int .i64 z)) ?_
      try simp only [tl_nil, tl_empty, Bool.not_eq_true', Bool.not_eq_false', decide_eq_true_eq, decide_eq_false_iff_not] at *
      unfold rowFault
      simp only [hin, true_and, false_and, or_false, Bool.false_eq_true, if_true, if_false]
      repeat (first | rfl | (exfalso; omega) | rw [if_pos (by omega)] | rw [if_neg (by omega)])
end Go.Proofs.Yteebglgbeijolaa


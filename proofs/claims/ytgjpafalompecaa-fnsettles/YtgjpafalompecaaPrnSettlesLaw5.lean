import Derived.Test.YtgjpafalompecaaPrnSettlesLaw1
import Derived.RangeFuncNested
import Derived.RangeFuncBound
import Derived.RangeFuncCalls
import Derived.RangeFuncLeaves
import Derived.Shelf.Abstract
import Derived.Test.YtgjpafalompecaaPrnSettlesLaw2
import Derived.WalkKit
import Derived.OwnWalkIn
import Derived.TacticsInMore
import Derived.LoopNIn
import Derived.LoopIn
import Derived.Maps.OwnIn
import Derived.Maps.AppendAt
import Derived.Test.YtgjpafalompecaaPrnSettlesLaw4
import Derived.Shelf.SlSortCmp.WholeK

/-
  Ranges over functions whose iterators change memory of their own, and call other rounds: contracts with the set of blocks that the iterator may change.
-/
namespace Go.Proofs.Ytgjpafalompecaa
open Go.RowKit

def Stb {β : Type} (J : β → World → (Nat → Prop) → Prop) : Prop :=
  ∀ s W W' X X', J s W X → Mod X W W' → (∀ b, X b → X' b) → (∀ b, X' b → (X b ∨ W.heap.size ≤ b) ∧ b < W'.heap.size) → J s W' X'
abbrev Kp (R X : Nat → Prop) (W W' : World) : Prop := Mod (fun k => ¬ (R k ∨ X k)) W W'
def postX {α : Type} (R X : Nat → Prop) (I : List α → World → (Nat → Prop) → Prop) (Ix : Code → List α → World → (Nat → Prop) → Prop) (ys : List α) (W : World) : Exit → Act → World → Prop
  | .normal, _, W' => Kp R X W W' ∧ I ys W' X
  | .ret, _, W' => Kp R X W W' ∧ Ix .ret ys W' X
  | .exit id, _, W' => Kp R X W W' ∧ Ix (.exit id) ys W' X
  | .goto t, _, W' => Kp R X W W' ∧ Ix (.goto t) ys W' X
  | .panic _, _, _ => False
  | .outgrown, _, _ => False
theorem mod_put (W : World) (l : Nat) (o : Obj) : Mod (fun b => b = l) W (W.putObj l o) :=
  ⟨rfl, rfl, rfl, by simp [World.putObj], fun _ _ hn => World.putObj_heap_other hn⟩
theorem mod_alloc (F : Nat → Prop) (W : World) (o : Obj) : Mod F W (W.alloc o) := (Mod.refl F W).alloc o
end Go.Proofs.Ytgjpafalompecaa

/-
  Ranges over functions whose order is their own.
-/
namespace Go.Proofs.Ytgjpafalompecaa
open Go.RowKit

def Seqy {α : Type} (P : Program) (g : Nat) (lb : Array Value) (enc : α → Value) (Ok Dn : List α → Prop) (R : Nat → Prop) (w : World) : Prop :=
  ∀ (l : Nat) (J Jx : List α → World → (Nat → Prop) → Prop) (W : World) (X : Nat → Prop), Mod (fun k => ¬ R k) w W → (∀ b, X b → b < W.heap.size) → Stb J → Stb Jx →
    (∀ pre x W1 X1, J pre W1 X1 → (∀ b, X b → X1 b) → (∀ b, X1 b → b < W1.heap.size) → Ok (pre ++ [x]) → YieldAt Fence.wide 0 P l #[enc x] W1 fun e W' =>
      (e = .returned (.bool true) ∧ J (pre ++ [x]) W' X1 ∧ Kp R X1 W1 W') ∨ (e = .returned (.bool false) ∧ Jx (pre ++ [x]) W' X1 ∧ Kp R X1 W1 W')) →
    J [] W X →
    CallsIn Fence.wide 0 P g (#[.func (.yield l) #[] #[]] ++ lb) W fun e W' => (∃ v, e = .returned v) ∧ ∃ X', (∀ b, X b → X' b) ∧ ((∃ ys, Dn ys ∧ J ys W' X') ∨ ∃ pre, Ok pre ∧ Jx pre W' X')
set_option maxHeartbeats 1000000 in
theorem wp_rangeY {α : Type} {P : Program} {g : Operand} {p : Tmp} {assign body : Code} {Q : Exit → Act → World → Prop} {a : Act} {w : World}
    {gf : Nat} {lb : Array Value} (hg : a.eval g = .func (.func gf) #[] lb) (eg : ∀ args w, (callFunc gf args).run P w = .ok (.enter gf args) w)
    {enc : α → Value} {Ok Dn : List α → Prop} {R : Nat → Prop} (hseq : Seqy P gf lb enc Ok Dn R w) (hR : ∀ b, R b → b < w.heap.size)
    (I : List α → World → (Nat → Prop) → Prop) (Ix : Code → List α → World → (Nat → Prop) → Prop) (hI : Stb I) (hIx : ∀ c, Stb (Ix c)) (X0 : Nat → Prop) (hX0 : ∀ b, X0 b → b < w.heap.size) (h0 : I [] w X0)
    (Ax : α → Act → World → (Nat → Prop) → Prop) (hAx : ∀ x a', Stb (fun (_ : Unit) => Ax x a'))
    (hassign : ∀ (l : Nat) (pre : List α) (x : α) (W : World) (X : Nat → Prop) (K : Act → World → Prop), I pre W X → X l → (∀ b, X b → b < W.heap.size) → (∀ a' W', Mod (fun _ => False) W W' → Ax x a' W' X → K a' W') →
      assign.wpIn (Fence.wide.inRound l) 0 P (Exit.then K (fun _ _ _ => False)) { tmps := (#[p].zip #[enc x]).foldl (fun t (p, v) => t.setIfInBounds p v) a.tmps, defers := [] } W)
    (hbody : ∀ (l : Nat) (pre : List α) (x : α) (a' : Act) (W : World) (X : Nat → Prop), X l → (∀ b, X b → b < W.heap.size) → I pre W X → Ax x a' W X → Ok (pre ++ [x]) → body.wpIn (Fence.wide.inRound l) 0 P (postX R X I Ix (pre ++ [x]) W) a' W)
    (hdone : ∀ (D : Nat) (W : World) (X : Nat → Prop), w.heap.size ≤ D → X D → ∀ ys, Dn ys → I ys W X → W.heap[D]? = some (.deferred (some [])) → Q .normal { a with defers := { target := .collected D, args := #[] } :: a.defers } W)
    (hstop : ∀ (D : Nat) (c : Code) (pre : List α) (W : World) (X : Nat → Prop), w.heap.size ≤ D → X D → Ok pre → Ix c pre W X → W.heap[D]? = some (.deferred (some [])) → c.wpIn Fence.wide 0 P Q { a with defers := { target := .collected D, args := #[] } :: a.defers } W) :
    (Code.rangeFunc g #[p] assign body).wpIn Fence.wide 0 P Q a w := by
  refine wpIn_rangeFunc ?_
  intro fn hfn
  rw [show Fence.wide.round = none from rfl]
  obtain ⟨rec, hrec⟩ : ∃ rec : LoopState → Option Code → Loop, rec = fun st pe => { state := st, pending := pe, fn, tmps := a.tmps, params := #[p], assign, body, defers := w.heap.size } := ⟨_, rfl⟩
  obtain ⟨W1, hW1⟩ : ∃ W1, (w.alloc (.deferred (some []))).alloc (.loop (rec .ready none)) = W1 := ⟨_, rfl⟩
  have hz1 : W1.heap.size = w.heap.size + 2 := by rw [← hW1]; simp
  have hL1 : W1.heap[w.heap.size + 1]? = some (.loop (rec .ready none)) := by
    rw [← hW1]
    have h := World.alloc_heap_new (w.alloc (.deferred (some []))) (.loop (rec .ready none))
    rwa [World.size_alloc] at h
  have hK1 : W1.heap[w.heap.size]? = some (.deferred (some [])) := by
    rw [← hW1]
    exact (Below.heap_alloc _ _ _ (by simp)).trans (World.alloc_heap_new w _)
  have hM1 : ∀ F, Mod F w W1 := fun F => by rw [← hW1]; exact (mod_alloc F w _).alloc _
  refine ⟨w.heap.size + 1, [{ target := .collected w.heap.size, args := #[] }], W1, { target := .fn (.func gf) lb, args := #[.func (.yield (w.heap.size + 1)) #[] #[]] }, W1, gf,
    #[.func (.yield (w.heap.size + 1)) #[] #[]] ++ lb, W1, ?_, ?_, ?_, ?_, (fun h => (by cases h)), ?_⟩
  · rw [← hW1, hrec]
    exact run_enterLoop_outer _ _ _ _ _
  · simp only [resolve, hg]
    simp [go_sem]
  · intro f' _
    trivial
  · simp [invoke, go_sem, eg]
  obtain ⟨N, hN⟩ : ∃ N, N = w.heap.size := ⟨_, rfl⟩
  rw [← hN] at hL1 hK1 hz1 ⊢
  have key : ∀ (st : LoopState) (pe : Option Code) (G : World → (Nat → Prop) → Prop), (∀ W W' X X', G W X → Mod X W W' → (∀ b, X b → X' b) → (∀ b, X' b → (X b ∨ W.heap.size ≤ b) ∧ b < W'.heap.size) → G W' X') →
      ∀ (W W' : World) (X X' : Nat → Prop), ((∃ Y, G W Y ∧ (∀ b, X b → Y b) ∧ (∀ b, Y b → b < W.heap.size) ∧ Y (N + 1) ∧ Y N) ∧ W.heap[N + 1]? = some (.loop (rec st pe)) ∧ W.heap[N]? = some (.deferred (some [])) ∧ ¬ X (N + 1) ∧ ¬ X N) →
        Mod X W W' → (∀ b, X b → X' b) → (∀ b, X' b → (X b ∨ W.heap.size ≤ b) ∧ b < W'.heap.size) →
        ((∃ Y, G W' Y ∧ (∀ b, X' b → Y b) ∧ (∀ b, Y b → b < W'.heap.size) ∧ Y (N + 1) ∧ Y N) ∧ W'.heap[N + 1]? = some (.loop (rec st pe)) ∧ W'.heap[N]? = some (.deferred (some [])) ∧ ¬ X' (N + 1) ∧ ¬ X' N) := by
    rintro st pe G hG W W' X X' ⟨⟨Y, hg0, hXY, hYa, hYl, hYd⟩, hl, hk, hnl, hnd⟩ hm hXX hXn
    have hlt : N + 1 < W.heap.size := (Array.getElem?_eq_some_iff.1 hl).1
    have hsz := hm.size
    refine ⟨⟨fun b => Y b ∨ X' b, hG W W' Y _ hg0 (hm.mono hXY) (fun b h => .inl h) (fun b h => ?_), fun b h => .inr h, fun b h => ?_, .inl hYl, .inl hYd⟩,
      (hm.block _ hlt hnl).trans hl, (hm.block _ (by omega) hnd).trans hk, fun h => ?_, fun h => ?_⟩
    · rcases h with h | h
      · exact ⟨.inl h, by have := hYa b h; omega⟩
      · have h2 := hXn b h
        exact ⟨h2.1.imp (hXY b) id, h2.2⟩
    · rcases h with h | h
      · have := hYa b h
        omega
      · exact (hXn b h).2
    · rcases (hXn _ h).1 with h | h
      · exact hnl h
      · omega
    · rcases (hXn _ h).1 with h | h
      · exact hnd h
      · omega
  refine (hseq (N + 1)
    (fun pre W X => (∃ Y, I pre W Y ∧ (∀ b, X b → Y b) ∧ (∀ b, Y b → b < W.heap.size) ∧ Y (N + 1) ∧ Y N) ∧ W.heap[N + 1]? = some (.loop (rec .ready none)) ∧ W.heap[N]? = some (.deferred (some [])) ∧ ¬ X (N + 1) ∧ ¬ X N)
    (fun pre W X => ∃ c, (∃ Y, Ix c pre W Y ∧ (∀ b, X b → Y b) ∧ (∀ b, Y b → b < W.heap.size) ∧ Y (N + 1) ∧ Y N) ∧ W.heap[N + 1]? = some (.loop (rec .done (some c))) ∧ W.heap[N]? = some (.deferred (some [])) ∧ ¬ X (N + 1) ∧ ¬ X N)
    W1 (fun _ => False) (hM1 _) (fun _ h => h.elim) (fun s W W' X X' h => key .ready none (I s) (hI s) W W' X X' h)
    (fun s W W' X X' ⟨c, h⟩ hm h1 h2 => ⟨c, key .done (some c) (Ix c s) (hIx c s) W W' X X' h hm h1 h2⟩)
    ?_ ⟨⟨fun b => X0 b ∨ b = N ∨ b = N + 1, hI _ _ _ X0 _ h0 (hM1 _) (fun b h => .inl h) (fun b h => ?_), fun _ h => h.elim, fun b h => ?_, .inr (.inr rfl), .inr (.inl rfl)⟩, hL1, hK1, fun h => h, fun h => h⟩).mono ?_
  rotate_left
  · rw [hz1]
    rcases h with h | rfl | rfl
    · exact ⟨.inl h, by have := hX0 b h; omega⟩
    · exact ⟨.inr (by omega), by omega⟩
    · exact ⟨.inr (by omega), by omega⟩
  · rw [hz1]
    rcases h with h | rfl | rfl
    · have := hX0 b h
      omega
    · omega
    · omega
  · rintro e W2 ⟨⟨v, rfl⟩, X', _, (⟨ys, hys, ⟨Y, hi, hXY, hYa, hYl, hYd⟩, hl, hk, hnl, hnd⟩ | ⟨pre, hpre, c, ⟨Y, hi, hXY, hYa, hYl, hYd⟩, hl, hk, hnl, hnd⟩)⟩
    all_goals
      have hlt : N + 1 < W2.heap.size := (Array.getElem?_eq_some_iff.1 hl).1
      have hput : ∀ o, Mod Y W2 (W2.putObj (N + 1) o) := fun o => (mod_put W2 (N + 1) o).mono (fun b h => by rw [h]; exact hYl)
      have hal : ∀ o b, Y b → (Y b ∨ W2.heap.size ≤ b) ∧ b < (W2.putObj (N + 1) o).heap.size := fun o b h => ⟨.inl h, by have := hYa b h; have := (hput o).size; omega⟩
    · refine ⟨none, _, by have := run_endLoop (P := P) hl (by rw [hrec]; simp); rw [hrec] at this; exact this, ?_⟩
      exact hdone N _ Y (by omega) hYd ys hys (hI _ _ _ _ _ hi (hput _) (fun _ h => h) (hal _)) ((World.putObj_heap_other (by omega)).trans hk)
    · refine ⟨some c, _, by have := run_endLoop (P := P) hl (by rw [hrec]; simp); rw [hrec] at this; exact this, ?_⟩
      exact hstop N c pre _ Y (by omega) hYd hpre (hIx c _ _ _ _ _ hi (hput _) (fun _ h => h) (hal _)) ((World.putObj_heap_other (by omega)).trans hk)
  · rintro pre x W X1 ⟨⟨Y, hi, hXY, hYa, hYl, hYd⟩, hl, hk, hnl, hnd⟩ _ _ hpre
    have hy := run_yield (P := P) (args := #[enc x]) hl (by rw [hrec]; rfl)
    rw [hrec] at hy
    refine ⟨fn, _, assign, body, hy, roundIn_of_wpIn hfn (hassign _ pre x W Y _ hi hYl hYa ?_)⟩
    clear hy
    intro a' Wa hma hax
    have hsa := hma.size
    have hlt0 : N + 1 < W.heap.size := (Array.getElem?_eq_some_iff.1 hl).1
    have hla : Wa.heap[N + 1]? = some (.loop (rec .ready none)) := (hma.block _ hlt0 (fun h => h)).trans hl
    have hka : Wa.heap[N]? = some (.deferred (some [])) := (hma.block _ (by omega) (fun h => h)).trans hk
    have hia : I pre Wa Y := hI _ _ _ _ _ hi (hma.mono (fun _ h => h.elim)) (fun _ h => h) (fun b h => ⟨.inl h, by have := hYa b h; omega⟩)
    refine ⟨_, run_beginRound hla (by rw [hrec]), ?_⟩
    obtain ⟨Wb, hWb⟩ : ∃ Wb, Wa.putObj (N + 1) (.loop { rec .ready none with state := .busy }) = Wb := ⟨_, rfl⟩
    have hmb : Mod (fun b => b = N + 1) Wa Wb := by rw [← hWb]; exact mod_put _ _ _
    have hsb := hmb.size
    have hlb : Wb.heap[N + 1]? = some (.loop { rec .ready none with state := .busy }) := by rw [← hWb]; exact World.putObj_heap_same (by omega)
    have hkb : Wb.heap[N]? = some (.deferred (some [])) := (hmb.block _ (by omega) (by omega)).trans hka
    have hmY : Mod Y Wa Wb := hmb.mono (fun b h => by rw [h]; exact hYl)
    have halb : ∀ b, Y b → (Y b ∨ Wa.heap.size ≤ b) ∧ b < Wb.heap.size := fun b h => ⟨.inl h, by have := hYa b h; omega⟩
    rw [hWb]
    refine wpIn_mono (hbody _ pre x a' Wb Y hYl (fun b h => (halb b h).2) (hI _ _ _ _ _ hia hmY (fun _ h => h) halb) (hAx x a' () _ _ _ _ hax hmY (fun _ h => h) halb) hpre) ?_
    have fin : ∀ (G : World → (Nat → Prop) → Prop), (∀ W W' X X', G W X → Mod X W W' → (∀ b, X b → X' b) → (∀ b, X' b → (X b ∨ W.heap.size ≤ b) ∧ b < W'.heap.size) → G W' X') → ∀ (jump : Option Code) (W3 : World), Kp R Y Wb W3 → G W3 Y →
        ∃ W4, (Instr.endRound (N + 1) jump).run P W3 = .ok (.bool jump.isNone) W4 ∧ Kp R X1 W W4 ∧
          ((∃ Y, G W4 Y ∧ (∀ b, X1 b → Y b) ∧ (∀ b, Y b → b < W4.heap.size) ∧ Y (N + 1) ∧ Y N) ∧ W4.heap[N + 1]? = some (.loop (rec (if jump.isNone then .ready else .done) jump)) ∧ W4.heap[N]? = some (.deferred (some [])) ∧ ¬ X1 (N + 1) ∧ ¬ X1 N) := by
      intro G hG jump W3 hk3 hg3
      have hs3 := hk3.size
      have hl3 : W3.heap[N + 1]? = some (.loop { rec .ready none with state := .busy }) := (hk3.block _ (by omega) (fun h => h (.inr hYl))).trans hlb
      have hkd3 : W3.heap[N]? = some (.deferred (some [])) := (hk3.block _ (by omega) (fun h => h (.inr hYd))).trans hkb
      have hrun := run_endRound (P := P) jump hl3
      obtain ⟨W4, hW4⟩ : ∃ W4, W3.putObj (N + 1) (.loop (rec (if jump.isNone then .ready else .done) jump)) = W4 := ⟨_, rfl⟩
      have hm4 : Mod (fun b => b = N + 1) W3 W4 := by rw [← hW4]; exact mod_put _ _ _
      have hs4 := hm4.size
      have hnR : ¬ (R (N + 1) ∨ X1 (N + 1)) := by
        rintro (h | h)
        · have := hR _ h
          omega
        · exact hnl h
      refine ⟨W4, by rw [← hW4, hrec]; rw [hrec] at hrun; exact hrun, ?_, ⟨Y, hG _ _ _ _ hg3 (hm4.mono (fun b h => by rw [h]; exact hYl)) (fun _ h => h) (fun b h => ⟨.inl h, by have := hYa b h; omega⟩), hXY, fun b h => by have := hYa b h; omega, hYl, hYd⟩, by rw [← hW4]; exact World.putObj_heap_same (by omega), (hm4.block _ (by omega) (by omega)).trans hkd3, hnl, hnd⟩
      have k1 : Kp R X1 W Wa := hma.mono (fun _ h => h.elim)
      have k2 : Kp R X1 Wa Wb := hmb.mono (fun b h => by rw [h]; exact hnR)
      have k3 : Kp R X1 Wb W3 := hk3.mono (fun b h => fun hn => h (Or.imp id (hXY b) hn))
      have k4 : Kp R X1 W3 W4 := hm4.mono (fun b h => by rw [h]; exact hnR)
      exact ((k1.trans k2).trans k3).trans k4
    rintro e a3 W3 hp
    cases e with
    | normal =>
      obtain ⟨hk3, hi3⟩ := hp
      obtain ⟨W4, hr, hkp, hj⟩ := fin (I (pre ++ [x])) (hI _) none W3 hk3 hi3
      exact ⟨_, W4, hr, .inl ⟨rfl, hj, hkp⟩⟩
    | ret =>
      obtain ⟨hk3, hi3⟩ := hp
      obtain ⟨W4, hr, hkp, hj⟩ := fin (Ix .ret (pre ++ [x])) (hIx _ _) (some .ret) W3 hk3 hi3
      exact ⟨_, W4, hr, .inr ⟨rfl, ⟨_, hj⟩, hkp⟩⟩
    | exit id =>
      obtain ⟨hk3, hi3⟩ := hp
      obtain ⟨W4, hr, hkp, hj⟩ := fin (Ix (.exit id) (pre ++ [x])) (hIx _ _) (some (.exit id)) W3 hk3 hi3
      exact ⟨_, W4, hr, .inr ⟨rfl, ⟨_, hj⟩, hkp⟩⟩
    | goto t =>
      obtain ⟨hk3, hi3⟩ := hp
      obtain ⟨W4, hr, hkp, hj⟩ := fin (Ix (.goto t) (pre ++ [x])) (hIx _ _) (some (.goto t)) W3 hk3 hi3
      exact ⟨_, W4, hr, .inr ⟨rfl, ⟨_, hj⟩, hkp⟩⟩
    | panic ch => exact hp.elim
    | outgrown => exact hp.elim
end Go.Proofs.Ytgjpafalompecaa

/-
  slices.Collect over an iterator of keys whose order is its own. (Out of Clt's text.)
-/
namespace Go.Proofs.Ytgjpafalompecaa
open Go.RowKit Go.Shelf
set_option linter.unusedVariables false
set_option linter.unusedSimpArgs false
attribute [local go_sem] Oper.semAt_some

theorem Mod.frz {F : Nat → Prop} {w w' : World} (h : Mod F w w') {a : Addr} (hl : a.block < w.heap.size) (hn : ¬ F a.block) : w'.frozen? a = w.frozen? a := World.frozen?_of_block (h.block a.block hl hn)
abbrev K3 := Int × Int × Int
def encK (x : K3) : Value := kv x.1 x.2.1 x.2.2
def keyC (x : K3) : List Value := [.int .i64 x.1, .int .i64 x.2.1, .int .i64 x.2.2]
def keysC (xs : List K3) : List Value := xs.flatMap keyC
theorem keysC_snoc (xs : List K3) (l : K3) : keysC (xs ++ [l]) = keysC xs ++ keyC l := by simp [keysC]
theorem keyC_one (l : K3) : ∀ u ∈ keyC l, u.oneCell' = true := by
  intro u hu
  simp only [keyC, List.mem_cons, List.not_mem_nil, or_false] at hu
  rcases hu with rfl | rfl | rfl <;> rfl
def keyCells (w : World) (b o : Nat) (x : K3) : Prop := w.cell? ⟨b, o, none⟩ = some (.int .i64 x.1) ∧ w.cell? ⟨b, o + 1, none⟩ = some (.int .i64 x.2.1) ∧ w.cell? ⟨b, o + 2, none⟩ = some (.int .i64 x.2.2)
theorem keyC_cells {w : World} {b o : Nat} {l : K3} (h : keyCells w b o l) : ∀ j u, (keyC l)[j]? = some u → w.cell? ((⟨b, o, none⟩ : Addr).add j) = some u := by
  obtain ⟨h0, h1, h2⟩ := h
  intro j u hj
  match j, hj with
  | 0, hj => simp [keyC] at hj; subst hj; simpa [Addr.add] using h0
  | 1, hj => simp [keyC] at hj; subst hj; simpa [Addr.add] using h1
  | 2, hj => simp [keyC] at hj; subst hj; simpa [Addr.add] using h2
  | j + 3, hj => simp [keyC] at hj
theorem infoKey3 : (Try.prog.info? 64).map (fun i => (i.zero, i.size, i.bytes)) = some (some (.agg #[.int .i64 0, .int .i64 0, .int .i64 0]), 3, 24) := by kernel_rfl
def KeyBox (lo : Nat) (mk : Nat → Act) (x : K3) (a' : Act) (W : World) (Y : Nat → Prop) : Prop := ∃ B, lo ≤ B ∧ B < W.heap.size ∧ keyCells W B 0 x ∧ ¬ Y B ∧ a' = mk B
theorem KeyBox_stb (lo : Nat) (mk : Nat → Act) (x : K3) (a' : Act) : Stb (fun (_ : Unit) => KeyBox lo mk x a') := by
  rintro _ W W' Y Y' ⟨B, hlo, hB, hr, hY, e⟩ hm hYY hYn
  have hs := hm.size
  refine ⟨B, hlo, by omega, ⟨hm.cell hr.1 hY, hm.cell hr.2.1 hY, hm.cell hr.2.2 hY⟩, fun h => ?_, e⟩
  rcases (hYn B h).1 with h3 | h3
  · exact hY h3
  · omega
def KclC (C : List Value) (k T L0 : Nat) (w W : World) (Y : Nat → Prop) (v : Value) : Prop :=
  W.cell? ⟨T, 0, none⟩ = some v ∧ W.ownsRow L0 64 3 v k C ∧ (∀ b, v.ownBlock = some b → ¬ Y b) ∧ (∀ b, b ≤ T → ¬ Y b) ∧ L0 ≤ W.heap.size ∧ W.frozen? ⟨T, 0, none⟩ = false ∧ Below T w W
theorem KclC_mod {C : List Value} {k T L0 : Nat} {w W W' : World} {Y Y' F : Nat → Prop} {v : Value} (hTL : T < L0) (h : KclC C k T L0 w W Y v) (hm : Mod F W W') (hF : ∀ b, b ≤ T → ¬ F b) (hFv : ∀ b, v.ownBlock = some b → ¬ F b)
    (hY : ∀ b, b ≤ T → ¬ Y' b) (hYv : ∀ b, v.ownBlock = some b → ¬ Y' b) : KclC C k T L0 w W' Y' v := by
  obtain ⟨h1, h2, h3, h4, h5, h9, h10⟩ := h
  have hs := hm.size
  refine ⟨hm.cell h1 (hF _ (Nat.le_refl _)), hm.owns h2 hFv, hYv, hY, by omega, (hm.frz (a := ⟨T, 0, none⟩) (by dsimp only; omega) (hF _ (by dsimp only; omega))).trans h9, ?_⟩
  exact ⟨hm.os.trans h10.os, hm.tape.trans h10.tape, hm.output.trans h10.output, Nat.le_trans h10.size hs, fun b hb => (hm.block b (by omega) (hF b (by omega))).trans (h10.block b hb)⟩
def KclI (T L0 : Nat) (w : World) (pre : List K3) (W : World) (Y : Nat → Prop) : Prop := ∃ v, KclC (keysC pre) pre.length T L0 w W Y v
theorem KclI_stb {T L0 : Nat} {w : World} (hTL : T < L0) : Stb (KclI T L0 w) := by
  rintro pre W W' Y Y' ⟨v, h⟩ hm hYY hYn
  have h' := h
  obtain ⟨h1, h2, h3, h4, h5, h9, h10⟩ := h'
  refine ⟨v, KclC_mod hTL h hm h4 h3 (fun b hb h2 => ?_) (fun b hb hy => ?_)⟩
  · rcases (hYn b h2).1 with h3 | h3
    · exact h4 b hb h3
    · omega
  · rcases (hYn b hy).1 with h | h
    · exact h3 b hb h
    · have := (h2.lt b hb).2
      omega
theorem KclC_mid {C : List Value} {k T L0 : Nat} {w W w5 : World} {Y : Nat → Prop} {v : Value} {o : Obj} (hTL : T < L0) (h : KclC C k T L0 w W Y v) (hg : (W.alloc o).grownBy w5 v.ownBlock) :
    w5.cell? ⟨T, 0, none⟩ = some v ∧ w5.frozen? ⟨T, 0, none⟩ = false ∧ Mod (fun b => v.ownBlock = some b) W w5 := by
  obtain ⟨h1, h2, h3, h4, h5, h9, h10⟩ := h
  have hm : Mod (fun b => v.ownBlock = some b) W w5 := (mod_alloc _ W o).trans (Mod.of_grown hg)
  have hn : ¬ v.ownBlock = some T := fun e => by have := (h2.lt T e).1; omega
  exact ⟨hm.cell h1 hn, (hm.frz (a := ⟨T, 0, none⟩) (by dsimp only; omega) hn).trans h9, hm⟩
theorem KclC_app {C news : List Value} {k m T L0 : Nat} {w W w5 : World} {Y : Nat → Prop} {v v' : Value} {o : Obj} (hTL : T < L0) (h : KclC C k T L0 w W Y v) (hg : (W.alloc o).grownBy w5 v.ownBlock)
    (ho : w5.ownsRow L0 64 3 v' (k + m) (C ++ news)) (hv : v'.ownBlock = v.ownBlock ∨ v'.ownBlock = some (W.alloc o).heap.size) (hYa : ∀ b, Y b → b < W.heap.size) :
    KclC (C ++ news) (k + m) T L0 w (w5.setCell ⟨T, 0, none⟩ v') Y v' ∧ Mod (fun b => b = T ∨ v.ownBlock = some b) W (w5.setCell ⟨T, 0, none⟩ v') := by
  obtain ⟨c1, c2, hm⟩ := KclC_mid hTL h hg
  obtain ⟨h1, h2, h3, h4, h5, h9, h10⟩ := h
  have hset : Mod (fun b => b = T) w5 (w5.setCell ⟨T, 0, none⟩ v') := Mod.of_set w5 ⟨T, 0, none⟩ v'
  have hM : Mod (fun b => b = T ∨ v.ownBlock = some b) W (w5.setCell ⟨T, 0, none⟩ v') := (hm.mono (fun b h => .inr h)).trans (hset.mono (fun b h => .inl h))
  have hlow : ∀ b, b < T → ¬ (b = T ∨ v.ownBlock = some b) := by
    rintro b hb (h | h)
    · omega
    · have := (h2.lt b h).1
      omega
  have hs := hM.size
  refine ⟨⟨set_same c1, owns_setCell ho (by dsimp only; exact hTL) _, fun b hb hy => ?_, h4, by omega, by rw [World.frozen?_setCell]; exact c2,
    ⟨hM.os.trans h10.os, hM.tape.trans h10.tape, hM.output.trans h10.output, Nat.le_trans h10.size hs, fun b hb => (hM.block b (by omega) (hlow b (by omega))).trans (h10.block b hb)⟩⟩, hM⟩
  rcases hv with hv | hv
  · rw [hv] at hb
    exact h3 b hb hy
  · rw [hv] at hb
    cases hb
    have := hYa _ hy
    simp at this
    omega
def NoK (c : Code) (pre : List K3) (W : World) (Y : Nat → Prop) : Prop := False
theorem NoK_stb (c : Code) : Stb (NoK c) := fun _ _ _ _ _ h _ _ _ => h
theorem seqy_mod {α : Type} {P : Program} {g : Nat} {lb : Array Value} {enc : α → Value} {Ok Dn : List α → Prop} {R : Nat → Prop} {w w' : World} (h : Seqy P g lb enc Ok Dn R w) (hm : Mod (fun k => ¬ R k) w w') : Seqy P g lb enc Ok Dn R w' :=
  fun l J Jx W X h1 h2 h3 h4 h5 h6 => h l J Jx W X (hm.trans h1) h2 h3 h4 h5 h6
set_option maxRecDepth 100000 in
set_option maxHeartbeats 4000000 in
theorem appendSeqK_any (gf : Nat) (lb : Array Value) (Ok Dn : List K3 → Prop) (R : Nat → Prop) (w : World) (eg : ∀ args w, (callFunc gf args).run Try.prog w = .ok (.enter gf args) w) (hseq : Seqy Try.prog gf lb encK Ok Dn R w) (hR : ∀ b, R b → b < w.heap.size) (hlen : ∀ ys, Ok ys → ys.length ≤ 200) :
    Calls Try.prog 77 #[.slice none 0 0, .func (.func gf) #[] lb] w fun e w' => ∃ v xs, e = .returned v ∧ Dn xs ∧ w'.ownsRow w.heap.size 64 3 v xs.length (keysC xs) ∧ Below w.heap.size w w' := by
  obtain ⟨i0, hi, hz0, hz1, hz2⟩ := info_parts infoKey3
  refine (callsIn_wide (n := 0)).1 ?_
  refine callsIn_of_wp_marks Try.func77 rfl trivial ?_ rfl
  simp only [Try.ntmps77, List.size_toArray, List.length_cons, List.length_nil, Nat.reduceAdd, Nat.reduceSub, Array.replicate_succ, Array.replicate_zero, List.push_toArray, List.append_toArray, List.nil_append, List.cons_append]
  gi_wp2
  have acc : KclC (keysC []) 0 w.heap.size (w.heap.size + 1) w (w.alloc (.cells #[.slice none 0 0] 82)) (fun _ => False) (.slice none 0 0) :=
    ⟨by simp [go_sem], World.ownsRow_nil _ _ _ _, fun _ _ h => h, fun _ _ h => h, by simp, by simp [go_sem], by (repeat (first | exact Below.refl _ _ | assumption | refine Below.drew ?_ | refine balloc ?_ _ | refine bset ?_ (by simp; omega) _ | refine bset ?_ (by simp) _ | refine bstep ?_ (by assumption)))⟩
  have hseq2 := seqy_mod hseq (mod_alloc (fun k => ¬ R k) w (.cells #[.slice none 0 0] 82))
  have hRa : ∀ b, R b → b < (w.alloc (.cells #[.slice none 0 0] 82)).heap.size := fun b h => by have := hR b h; simp; omega
  have HR : Hid (∀ b, R b → b < w.heap.size) := hR
  have HLE : Hid (∀ ys, Ok ys → ys.length ≤ 200) := hlen
  have hsz : (w.alloc (.cells #[.slice none 0 0] 82)).heap.size = w.heap.size + 1 := by simp
  have HSZ : Hid ((w.alloc (.cells #[.slice none 0 0] 82)).heap.size = w.heap.size + 1) := hsz
  clear hsz hR hseq
  generalize w.alloc (.cells #[.slice none 0 0] 82) = W0 at *
  obtain ⟨T, hTT⟩ : ∃ T, w.heap.size = T := ⟨_, rfl⟩
  have HTT : Hid (w.heap.size = T) := hTT
  rw [hTT] at acc HR HSZ ⊢
  clear hTT
  obtain ⟨L0, hL0⟩ : ∃ L, T + 1 = L := ⟨_, rfl⟩
  rw [hL0] at acc HSZ
  have hTL : T < L0 := by omega
  refine wp_rangeY (gf := gf) rfl eg hseq2 hRa (KclI T L0 w) NoK (KclI_stb hTL) NoK_stb (fun _ => False) (fun _ h => h.elim) ⟨_, acc⟩
    (fun x => KeyBox L0 (fun B => { tmps := #[.slice none 0 0, .func (.func gf) #[] lb, .pointer (some ⟨T, 0, none⟩), undef, .slice none 0 0, .pointer (some ⟨B, 0, none⟩), .func (.func gf) #[] lb, .agg #[.int .i64 x.1, .int .i64 x.2.1, .int .i64 x.2.2], undef, undef, undef, undef, undef], defers := [] }) x)
    (fun x a' => KeyBox_stb _ _ x a') ?assign ?body ?done ?stop
  case assign =>
    rintro l2 pre x W3 Y K ⟨_, ha⟩ hYl hYa hK
    unfold encK kv
    gi_wp2
    refine hK _ _ (mod_alloc _ _ _) ⟨W3.heap.size, ha.2.2.2.2.1, by simp, by unfold keyCells; simp [go_sem], fun h => ?_, rfl⟩
    have := hYa _ h
    omega
  case body =>
    rintro l2 pre x a' W3 Y hYl hYa ⟨vv, ha⟩ ⟨B, hlo, hB, hr, hYB, rfl⟩ hpre
    have hle : pre.length ≤ 200 := by have := HLE.out _ hpre; rw [List.length_append] at this; omega
    obtain ⟨r0, r1, r2⟩ := hr
    simp only [Nat.zero_add] at r1 r2
    have HP : Hid ((pre ++ [x]).length = pre.length + 1 ∧ keysC (pre ++ [x]) = keysC pre ++ keyC x) := ⟨by simp, keysC_snoc _ _⟩
    have ha' := ha
    obtain ⟨a1, a2, a3, a4, a5, a9, a10⟩ := ha
    obtain ⟨ys, hys⟩ : ∃ ys, keysC pre = ys := ⟨_, rfl⟩
    obtain ⟨m, hm⟩ : ∃ m, pre.length = m := ⟨_, rfl⟩
    rw [hys, hm] at a2 HP ha'
    rw [hm] at hle
    clear hys hm
    obtain ⟨av, cv, rfl⟩ := owns_form a2
    have hzT := World.block_lt_of_cell? _ _ a1
    dsimp only at hzT
    gi_wp2_with (gi_at_builtin; refine wpListIn_append_own_at _ rfl _ _ 82 rfl L0 64 i0 _ 3 24 Try.underlying82 hi hz0 hz1 hz2 rfl (by decide) _ _ _ rfl (a2.alloc _) ⟨W3.heap.size, 0, none⟩ 1 1 (keyC x) rfl rfl ?c1 (keyC_one x) ?c3 ?c4 ?c5 ?_)
    case c1 => exact keyC_cells (b := W3.heap.size) (o := 0) ⟨by simp [go_sem], by simp [go_sem], by simp [go_sem]⟩
    case c3 => unfold maxLen; omega
    case c4 => omega
    case c5 => simp; omega
    intro v' w5 hown' hgrow _ hown
    obtain ⟨g', cap', rfl⟩ := ownsRow_succ hown'
    obtain ⟨b1, b9, _⟩ := KclC_mid hTL ha' hgrow
    obtain ⟨hnew, hM⟩ := KclC_app hTL ha' hgrow hown' (by rw [World.size_alloc]; exact hown) hYa
    gi_wp2
    refine ⟨hM.mono (fun b h => ?_), .slice (some ⟨g', 0, none⟩) (m + 1) cap', ?_⟩
    · rcases h with rfl | h
      · rintro (h2 | h2)
        · have := HR.out _ h2
          omega
        · exact a4 _ (Nat.le_refl _) h2
      · have := (a2.lt b h).1
        rintro (h2 | h2)
        · have := HR.out _ h2
          omega
        · exact a3 b h h2
    · rw [HP.out.1, HP.out.2]
      exact hnew
  case done =>
    rintro D W3 Y hD hYD xs hDn ⟨vv, ha⟩ hdef
    obtain ⟨a1, a2, a3, a4, a5, a9, a10⟩ := ha
    obtain ⟨av, cv, rfl⟩ := owns_form a2
    have hsD := HSZ.out
    gi_wp2
    refine ⟨by simp, .inl ⟨_, _, rfl, run_takeDeferred hdef, ?_⟩⟩
    refine ⟨.slice av xs.length cv, by simp [results, Try.results77, go_sem], ?_⟩
    have mp : Mod (fun b => b = D) W3 (W3.putObj D (.deferred none)) := mod_put _ _ _
    have hTT := HTT.out
    rw [hTT]
    refine ⟨_, xs, rfl, hDn, owns_base (mp.owns a2 (fun b hb e => a3 b hb (by rw [e]; exact hYD))) (by omega), ?_⟩
    exact ⟨mp.os.trans a10.os, mp.tape.trans a10.tape, mp.output.trans a10.output, Nat.le_trans a10.size mp.size, fun b hb => (mp.block b (by have := a10.size; omega) (by omega)).trans (a10.block b hb)⟩
  case stop =>
    rintro D c pre W3 Y hD hYD hpre h hdef
    exact h.elim
set_option maxHeartbeats 1000000 in
theorem collectK_any (gf : Nat) (lb : Array Value) (Ok Dn : List K3 → Prop) (R : Nat → Prop) (w : World) (eg : ∀ args w, (callFunc gf args).run Try.prog w = .ok (.enter gf args) w) (hseq : Seqy Try.prog gf lb encK Ok Dn R w) (hR : ∀ b, R b → b < w.heap.size) (hlen : ∀ ys, Ok ys → ys.length ≤ 200) :
    Calls Try.prog 64 #[.func (.func gf) #[] lb] w fun e w' => ∃ v xs, e = .returned v ∧ Dn xs ∧ w'.ownsRow w.heap.size 64 3 v xs.length (keysC xs) ∧ Below w.heap.size w w' := by
  have hc := appendSeqK_any gf lb Ok Dn R w eg hseq hR hlen
  clear eg hseq
  go_enter Try.func64, Try.ntmps64
  go_wp2_with fail
  refine hc.mono ?_
  rintro e w1 ⟨v, xs, rfl, hDn, ho, hb⟩
  obtain ⟨av, cv, rfl⟩ := owns_form ho
  clear hc
  go_wp2
  go_ret
  exact ⟨_, xs, rfl, hDn, ho, hb⟩
end Go.Proofs.Ytgjpafalompecaa

/-
  slices.SortFunc over keys of a book: what it asks of compareKeys.
-/
namespace Go.Proofs.Ytgjpafalompecaa
open Go.RowKit Go.Sort Go.Shelf
set_option linter.unusedSectionVars false
variable [DecidableEq Rw] [Inhabited Rw] [DecidableEq Bal] [Inhabited Bal] [DecidableEq Ledg] [Inhabited Ledg] [DecidableEq Leg] [Inhabited Leg]
set_option linter.unusedVariables false
set_option linter.unusedSimpArgs false

def cfK (x y : K3) : Int := cmpTo (k3 x.1 x.2.1 x.2.2) (k3 y.1 y.2.1 y.2.2) 3
theorem ltK_iff (x y : K3) : ltOf cfK x y = true ↔ x.1 < y.1 ∨ (x.1 = y.1 ∧ (x.2.1 < y.2.1 ∨ (x.2.1 = y.2.1 ∧ x.2.2 < y.2.2))) := by
  obtain ⟨a, b, c⟩ := x
  obtain ⟨a', b', c'⟩ := y
  unfold ltOf cfK
  simp only [cmpTo, decide_eq_true_eq, show k3 a b c 0 = a from rfl, show k3 a b c 1 = b from rfl, show k3 a b c 2 = c from rfl, show k3 a' b' c' 0 = a' from rfl, show k3 a' b' c' 1 = b' from rfl, show k3 a' b' c' 2 = c' from rfl, if_true]
  unfold cmpI
  by_cases h0 : a < a'
  · simp [h0]
  · by_cases h1 : a' < a
    · simp [h0, h1]
      omega
    · have e0 : a = a' := by omega
      subst e0
      by_cases h2 : b < b'
      · simp [h2]
      · by_cases h3 : b' < b
        · simp [h2, h3]
          omega
        · have e1 : b = b' := by omega
          subst e1
          by_cases h4 : c < c'
          · simp [h4]
          · by_cases h5 : c' < c
            · simp [h4, h5]
            · simp [h4, h5]
theorem swoK : SWO (ltOf cfK) where
  irrefl x := by
    rw [← Bool.not_eq_true, ltK_iff]
    omega
  trans x y z h1 h2 := by
    rw [ltK_iff] at *
    omega
  ntrans x y z h1 h2 := by
    rw [← Bool.not_eq_true, ltK_iff] at *
    omega
theorem cmpLaysK (blk off size : Nat) (w : World) : CmpLays Try.prog 47 #[] keyC 3 cfK blk off size w := by
  intro m os dk _ x y
  refine (compareKeys_any x.1 x.2.1 x.2.2 y.1 y.2.1 y.2.2 _).mono ?_
  rintro e w' ⟨rfl, rfl⟩
  refine ⟨rfl, 1, #[.cells #[.int .i64 x.1, .int .i64 x.2.1, .int .i64 x.2.2] 64, .cells #[.int .i64 y.1, .int .i64 y.2.1, .int .i64 y.2.2] 64], ?_⟩
  rw [alloc_eq_grow, alloc_eq_grow, grow_grow]
  rfl
end Go.Proofs.Ytgjpafalompecaa


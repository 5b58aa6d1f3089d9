import Derived.Test.YtackhljepbhpgaaGreatPrnSettledAtLaw8
import Derived.WalkKit
import Derived.OwnWalkIn
import Derived.TacticsInMore
import Derived.LoopNIn
import Derived.LoopIn
import Derived.Maps.OwnIn
import Derived.Maps.AppendAt
import Derived.RegionTactic
import Derived.ChangeAlike
import Derived.BigRegion
import Derived.Carry
import Derived.Deep.RegionHeld3
import Derived.Deep.DrawnRows
import Derived.BigQuiet
import Derived.Deep.QuietTactic
set_option maxHeartbeats 4000000
set_option linter.unusedVariables false
set_option linter.unusedSimpArgs false
set_option linter.unusedSectionVars false

namespace Go.Proofs.YtackhljepbhpgaaGreat
open Go.RowKit

def Seqy {α : Type} (P : Program) (g : Nat) (lb : Array Value) (enc : α → Value) (Ok Dn : List α → Prop) (R : Nat → Prop) (w : World) : Prop :=
 ∀ (l : Nat) (J Jx : List α → World → (Nat → Prop) → Prop) (W : World) (X : Nat → Prop), Mod (fun k => ¬ R k) w W → (∀ b, X b → b < W.heap.size) → Stb J → Stb Jx →
  (∀ pre x W1 X1, J pre W1 X1 → (∀ b, X b → X1 b) → (∀ b, X1 b → b < W1.heap.size) → Ok (pre ++ [x]) → YieldAt Fence.wide 0 P l #[enc x] W1 fun e W' =>
   (e = .returned (.bool true) ∧ J (pre ++ [x]) W' X1 ∧ Kp R X1 W1 W') ∨ (e = .returned (.bool false) ∧ Jx (pre ++ [x]) W' X1 ∧ Kp R X1 W1 W')) →
  J [] W X →
  CallsIn Fence.wide 0 P g (#[.func (.yield l) #[] #[]] ++ lb) W fun e W' => (∃ v, e = .returned v) ∧ ∃ X', (∀ b, X b → X' b) ∧ ((∃ ys, Dn ys ∧ J ys W' X') ∨ ∃ pre, Ok pre ∧ Jx pre W' X')
theorem wp_rangeY {α : Type} {P : Program} {g : Operand} {p : Tmp} {assign body : Code} {Q : Exit → Act → World → Prop} {a : Act} {w : World}
  {gf : Nat} {lb : Array Value} (hg : a.eval g = .func (.func gf) #[] lb) (eg : ∀ args w, (callFunc gf args).run P w = .ok (.enter gf args) w)
  {enc : α → Value} {Ok Dn : List α → Prop} {R : Nat → Prop} (hseq : Seqy P gf lb enc Ok Dn R w) (hR : ∀ b, R b → b < w.heap.size)
  (I : List α → World → (Nat → Prop) → Prop) (Ix : Code → List α → World → (Nat → Prop) → Prop) (hI : Stb I) (hIx : ∀ c, Stb (Ix c)) (X0 : Nat → Prop) (hX0 : ∀ b, X0 b → b < w.heap.size) (h0 : I [] w X0)
  (Ax : α → Act → World → (Nat → Prop) → Prop) (hAx : ∀ x a', Stb (fun (_ : Unit) => Ax x a'))
  (hassign : ∀ (l : Nat) (pre : List α) (x : α) (W : World) (X : Nat → Prop) (K : Act → World → Prop), I pre W X → X l → (∀ b, X b → b < W.heap.size) → (∀ a' W', Mod (fun _ => False) W W' → Ax x a' W' X → K a' W') →
   assign.wpIn (Fence.wide.inRound l) 0 P (Exit.then K (fun _ _ _ => False)) { tmps := (#[p].zip #[enc x]).foldl (fun t (p, v) => t.setIfInBounds p v) a.tmps, defers := [] } W)
  (hbody : ∀ (l : Nat) (pre : List α) (x : α) (a' : Act) (W : World) (X : Nat → Prop), X l → (∀ b, X b → b < W.heap.size) → I pre W X → Ax x a' W X → Ok (pre ++ [x]) → body.wpIn (Fence.wide.inRound l) 0 P (postX R X I Ix (pre ++ [x]) W) a' W)
  (hdone : ∀ (D : Nat) (W : World) (X : Nat → Prop), w.heap.size ≤ D → X D → ∀ ys, Dn ys → I ys W X → W.heap[D]? = some (.deferred (some [])) → Q .normal { a with defers := { target := .collected D, args := #[] } :: a.defers } W)
  (hstop : ∀ (D : Nat) (c : Code) (pre : List α) (W : World) (X : Nat → Prop), w.heap.size ≤ D → X D → Ok pre → Ix c pre W X → W.heap[D]? = some (.deferred (some [])) → c.wpIn Fence.wide 0 P Q { a with defers := { target := .collected D, args := #[] } :: a.defers } W) :
  (Code.rangeFunc g #[p] assign body).wpIn Fence.wide 0 P Q a w := by
 refine wpIn_rangeFunc ?_
 intro fn hfn
 rw [show Fence.wide.round = none from rfl]
 obtain ⟨rec, hrec⟩ : ∃ rec : LoopState → Option Code → Loop, rec = fun st pe => { state := st, pending := pe, fn, tmps := a.tmps, params := #[p], assign, body, defers := w.heap.size } := ⟨_, rfl⟩
 obtain ⟨W1, hW1⟩ : ∃ W1, (w.alloc (.deferred (some []))).alloc (.loop (rec .ready none)) = W1 := ⟨_, rfl⟩
 have hz1 : W1.heap.size = w.heap.size + 2 := by rw [← hW1]; simp
 have hL1 : W1.heap[w.heap.size + 1]? = some (.loop (rec .ready none)) := by
  rw [← hW1]
  have h := World.alloc_heap_new (w.alloc (.deferred (some []))) (.loop (rec .ready none))
  rwa [World.size_alloc] at h
 have hK1 : W1.heap[w.heap.size]? = some (.deferred (some [])) := by
  rw [← hW1]
  exact (Below.heap_alloc _ _ _ (by simp)).trans (World.alloc_heap_new w _)
 have hM1 : ∀ F, Mod F w W1 := fun F => by rw [← hW1]; exact (mod_alloc F w _).alloc _
 refine ⟨w.heap.size + 1, [{ target := .collected w.heap.size, args := #[] }], W1, { target := .fn (.func gf) lb, args := #[.func (.yield (w.heap.size + 1)) #[] #[]] }, W1, gf,
  #[.func (.yield (w.heap.size + 1)) #[] #[]] ++ lb, W1, ?_, ?_, ?_, ?_, (fun h => (by cases h)), ?_⟩
 ·
  rw [← hW1, hrec]
  exact run_enterLoop_outer _ _ _ _ _
 ·
  simp only [resolve, hg]
  simp [go_sem]
 ·
  intro f' _
  trivial
 ·
  simp [invoke, go_sem, eg]
 obtain ⟨N, hN⟩ : ∃ N, N = w.heap.size := ⟨_, rfl⟩
 rw [← hN] at hL1 hK1 hz1 ⊢
 have key : ∀ (st : LoopState) (pe : Option Code) (G : World → (Nat → Prop) → Prop), (∀ W W' X X', G W X → Mod X W W' → (∀ b, X b → X' b) → (∀ b, X' b → (X b ∨ W.heap.size ≤ b) ∧ b < W'.heap.size) → G W' X') →
   ∀ (W W' : World) (X X' : Nat → Prop), ((∃ Y, G W Y ∧ (∀ b, X b → Y b) ∧ (∀ b, Y b → b < W.heap.size) ∧ Y (N + 1) ∧ Y N) ∧ W.heap[N + 1]? = some (.loop (rec st pe)) ∧ W.heap[N]? = some (.deferred (some [])) ∧ ¬ X (N + 1) ∧ ¬ X N) →
    Mod X W W' → (∀ b, X b → X' b) → (∀ b, X' b → (X b ∨ W.heap.size ≤ b) ∧ b < W'.heap.size) →
    ((∃ Y, G W' Y ∧ (∀ b, X' b → Y b) ∧ (∀ b, Y b → b < W'.heap.size) ∧ Y (N + 1) ∧ Y N) ∧ W'.heap[N + 1]? = some (.loop (rec st pe)) ∧ W'.heap[N]? = some (.deferred (some [])) ∧ ¬ X' (N + 1) ∧ ¬ X' N) := by
  rintro st pe G hG W W' X X' ⟨⟨Y, hg0, hXY, hYa, hYl, hYd⟩, hl, hk, hnl, hnd⟩ hm hXX hXn
  have hlt : N + 1 < W.heap.size := (Array.getElem?_eq_some_iff.1 hl).1
  have hsz := hm.size
  refine ⟨⟨fun b => Y b ∨ X' b, hG W W' Y _ hg0 (hm.mono hXY) (fun b h => .inl h) (fun b h => ?_), fun b h => .inr h, fun b h => ?_, .inl hYl, .inl hYd⟩,
   (hm.block _ hlt hnl).trans hl, (hm.block _ (by omega) hnd).trans hk, fun h => ?_, fun h => ?_⟩
  ·
   rcases h with h | h
   ·
    exact ⟨.inl h, by have := hYa b h; omega⟩
   ·
    have h2 := hXn b h
    exact ⟨h2.1.imp (hXY b) id, h2.2⟩
  ·
   rcases h with h | h
   ·
    have := hYa b h
    omega
   ·
    exact (hXn b h).2
  ·
   rcases (hXn _ h).1 with h | h
   ·
    exact hnl h
   ·
    omega
  ·
   rcases (hXn _ h).1 with h | h
   ·
    exact hnd h
   ·
    omega
 refine (hseq (N + 1)
  (fun pre W X => (∃ Y, I pre W Y ∧ (∀ b, X b → Y b) ∧ (∀ b, Y b → b < W.heap.size) ∧ Y (N + 1) ∧ Y N) ∧ W.heap[N + 1]? = some (.loop (rec .ready none)) ∧ W.heap[N]? = some (.deferred (some [])) ∧ ¬ X (N + 1) ∧ ¬ X N)
  (fun pre W X => ∃ c, (∃ Y, Ix c pre W Y ∧ (∀ b, X b → Y b) ∧ (∀ b, Y b → b < W.heap.size) ∧ Y (N + 1) ∧ Y N) ∧ W.heap[N + 1]? = some (.loop (rec .done (some c))) ∧ W.heap[N]? = some (.deferred (some [])) ∧ ¬ X (N + 1) ∧ ¬ X N)
  W1 (fun _ => False) (hM1 _) (fun _ h => h.elim) (fun s W W' X X' h => key .ready none (I s) (hI s) W W' X X' h)
  (fun s W W' X X' ⟨c, h⟩ hm h1 h2 => ⟨c, key .done (some c) (Ix c s) (hIx c s) W W' X X' h hm h1 h2⟩)
  ?_ ⟨⟨fun b => X0 b ∨ b = N ∨ b = N + 1, hI _ _ _ X0 _ h0 (hM1 _) (fun b h => .inl h) (fun b h => ?_), fun _ h => h.elim, fun b h => ?_, .inr (.inr rfl), .inr (.inl rfl)⟩, hL1, hK1, fun h => h, fun h => h⟩).mono ?_
 rotate_left
 ·
  rw [hz1]
  rcases h with h | rfl | rfl
  ·
   exact ⟨.inl h, by have := hX0 b h; omega⟩
  ·
   exact ⟨.inr (by omega), by omega⟩
  ·
   exact ⟨.inr (by omega), by omega⟩
 ·
  rw [hz1]
  rcases h with h | rfl | rfl
  ·
   have := hX0 b h
   omega
  ·
   omega
  ·
   omega
 ·
  rintro e W2 ⟨⟨v, rfl⟩, X', _, (⟨ys, hys, ⟨Y, hi, hXY, hYa, hYl, hYd⟩, hl, hk, hnl, hnd⟩ | ⟨pre, hpre, c, ⟨Y, hi, hXY, hYa, hYl, hYd⟩, hl, hk, hnl, hnd⟩)⟩
  all_goals
   have hlt : N + 1 < W2.heap.size := (Array.getElem?_eq_some_iff.1 hl).1
   have hput : ∀ o, Mod Y W2 (W2.putObj (N + 1) o) := fun o => (mod_put W2 (N + 1) o).mono (fun b h => by rw [h]; exact hYl)
   have hal : ∀ o b, Y b → (Y b ∨ W2.heap.size ≤ b) ∧ b < (W2.putObj (N + 1) o).heap.size := fun o b h => ⟨.inl h, by have := hYa b h; have := (hput o).size; omega⟩
  ·
   refine ⟨none, _, by have := run_endLoop (P := P) hl (by rw [hrec]; simp); rw [hrec] at this; exact this, ?_⟩
   exact hdone N _ Y (by omega) hYd ys hys (hI _ _ _ _ _ hi (hput _) (fun _ h => h) (hal _)) ((World.putObj_heap_other (by omega)).trans hk)
  ·
   refine ⟨some c, _, by have := run_endLoop (P := P) hl (by rw [hrec]; simp); rw [hrec] at this; exact this, ?_⟩
   exact hstop N c pre _ Y (by omega) hYd hpre (hIx c _ _ _ _ _ hi (hput _) (fun _ h => h) (hal _)) ((World.putObj_heap_other (by omega)).trans hk)
 ·
  rintro pre x W X1 ⟨⟨Y, hi, hXY, hYa, hYl, hYd⟩, hl, hk, hnl, hnd⟩ _ _ hpre
  have hy := run_yield (P := P) (args := #[enc x]) hl (by rw [hrec]; rfl)
  rw [hrec] at hy
  refine ⟨fn, _, assign, body, hy, roundIn_of_wpIn hfn (hassign _ pre x W Y _ hi hYl hYa ?_)⟩
  clear hy
  intro a' Wa hma hax
  have hsa := hma.size
  have hlt0 : N + 1 < W.heap.size := (Array.getElem?_eq_some_iff.1 hl).1
  have hla : Wa.heap[N + 1]? = some (.loop (rec .ready none)) := (hma.block _ hlt0 (fun h => h)).trans hl
  have hka : Wa.heap[N]? = some (.deferred (some [])) := (hma.block _ (by omega) (fun h => h)).trans hk
  have hia : I pre Wa Y := hI _ _ _ _ _ hi (hma.mono (fun _ h => h.elim)) (fun _ h => h) (fun b h => ⟨.inl h, by have := hYa b h; omega⟩)
  refine ⟨_, run_beginRound hla (by rw [hrec]), ?_⟩
  obtain ⟨Wb, hWb⟩ : ∃ Wb, Wa.putObj (N + 1) (.loop { rec .ready none with state := .busy }) = Wb := ⟨_, rfl⟩
  have hmb : Mod (fun b => b = N + 1) Wa Wb := by rw [← hWb]; exact mod_put _ _ _
  have hsb := hmb.size
  have hlb : Wb.heap[N + 1]? = some (.loop { rec .ready none with state := .busy }) := by rw [← hWb]; exact World.putObj_heap_same (by omega)
  have hkb : Wb.heap[N]? = some (.deferred (some [])) := (hmb.block _ (by omega) (by omega)).trans hka
  have hmY : Mod Y Wa Wb := hmb.mono (fun b h => by rw [h]; exact hYl)
  have halb : ∀ b, Y b → (Y b ∨ Wa.heap.size ≤ b) ∧ b < Wb.heap.size := fun b h => ⟨.inl h, by have := hYa b h; omega⟩
  rw [hWb]
  refine wpIn_mono (hbody _ pre x a' Wb Y hYl (fun b h => (halb b h).2) (hI _ _ _ _ _ hia hmY (fun _ h => h) halb) (hAx x a' () _ _ _ _ hax hmY (fun _ h => h) halb) hpre) ?_
  have fin : ∀ (G : World → (Nat → Prop) → Prop), (∀ W W' X X', G W X → Mod X W W' → (∀ b, X b → X' b) → (∀ b, X' b → (X b ∨ W.heap.size ≤ b) ∧ b < W'.heap.size) → G W' X') → ∀ (jump : Option Code) (W3 : World), Kp R Y Wb W3 → G W3 Y →
    ∃ W4, (Instr.endRound (N + 1) jump).run P W3 = .ok (.bool jump.isNone) W4 ∧ Kp R X1 W W4 ∧
     ((∃ Y, G W4 Y ∧ (∀ b, X1 b → Y b) ∧ (∀ b, Y b → b < W4.heap.size) ∧ Y (N + 1) ∧ Y N) ∧ W4.heap[N + 1]? = some (.loop (rec (if jump.isNone then .ready else .done) jump)) ∧ W4.heap[N]? = some (.deferred (some [])) ∧ ¬ X1 (N + 1) ∧ ¬ X1 N) := by
   intro G hG jump W3 hk3 hg3
   have hs3 := hk3.size
   have hl3 : W3.heap[N + 1]? = some (.loop { rec .ready none with state := .busy }) := (hk3.block _ (by omega) (fun h => h (.inr hYl))).trans hlb
   have hkd3 : W3.heap[N]? = some (.deferred (some [])) := (hk3.block _ (by omega) (fun h => h (.inr hYd))).trans hkb
   have hrun := run_endRound (P := P) jump hl3
   obtain ⟨W4, hW4⟩ : ∃ W4, W3.putObj (N + 1) (.loop (rec (if jump.isNone then .ready else .done) jump)) = W4 := ⟨_, rfl⟩
   have hm4 : Mod (fun b => b = N + 1) W3 W4 := by rw [← hW4]; exact mod_put _ _ _
   have hs4 := hm4.size
   have hnR : ¬ (R (N + 1) ∨ X1 (N + 1)) := by
    rintro (h | h)
    ·
     have := hR _ h
     omega
    ·
     exact hnl h
   refine ⟨W4, by rw [← hW4, hrec]; rw [hrec] at hrun; exact hrun, ?_, ⟨Y, hG _ _ _ _ hg3 (hm4.mono (fun b h => by rw [h]; exact hYl)) (fun _ h => h) (fun b h => ⟨.inl h, by have := hYa b h; omega⟩), hXY, fun b h => by have := hYa b h; omega, hYl, hYd⟩, by rw [← hW4]; exact World.putObj_heap_same (by omega), (hm4.block _ (by omega) (by omega)).trans hkd3, hnl, hnd⟩
   have k1 : Kp R X1 W Wa := hma.mono (fun _ h => h.elim)
   have k2 : Kp R X1 Wa Wb := hmb.mono (fun b h => by rw [h]; exact hnR)
   have k3 : Kp R X1 Wb W3 := hk3.mono (fun b h => fun hn => h (Or.imp id (hXY b) hn))
   have k4 : Kp R X1 W3 W4 := hm4.mono (fun b h => by rw [h]; exact hnR)
   exact ((k1.trans k2).trans k3).trans k4
  rintro e a3 W3 hp
  cases e with
  | normal =>
   obtain ⟨hk3, hi3⟩ := hp
   obtain ⟨W4, hr, hkp, hj⟩ := fin (I (pre ++ [x])) (hI _) none W3 hk3 hi3
   exact ⟨_, W4, hr, .inl ⟨rfl, hj, hkp⟩⟩
  | ret =>
   obtain ⟨hk3, hi3⟩ := hp
   obtain ⟨W4, hr, hkp, hj⟩ := fin (Ix .ret (pre ++ [x])) (hIx _ _) (some .ret) W3 hk3 hi3
   exact ⟨_, W4, hr, .inr ⟨rfl, ⟨_, hj⟩, hkp⟩⟩
  | exit id =>
   obtain ⟨hk3, hi3⟩ := hp
   obtain ⟨W4, hr, hkp, hj⟩ := fin (Ix (.exit id) (pre ++ [x])) (hIx _ _) (some (.exit id)) W3 hk3 hi3
   exact ⟨_, W4, hr, .inr ⟨rfl, ⟨_, hj⟩, hkp⟩⟩
  | goto t =>
   obtain ⟨hk3, hi3⟩ := hp
   obtain ⟨W4, hr, hkp, hj⟩ := fin (Ix (.goto t) (pre ++ [x])) (hIx _ _) (some (.goto t)) W3 hk3 hi3
   exact ⟨_, W4, hr, .inr ⟨rfl, ⟨_, hj⟩, hkp⟩⟩
  | panic ch => exact hp.elim
  | outgrown => exact hp.elim
end Go.Proofs.YtackhljepbhpgaaGreat

namespace Go.Proofs.YtackhljepbhpgaaGreat
open Go.RowKit Go.Shelf
attribute [local go_sem] Oper.semAt_some

theorem Mod.frz {F : Nat → Prop} {w w' : World} (h : Mod F w w') {a : Addr} (hl : a.block < w.heap.size) (hn : ¬ F a.block) : w'.frozen? a = w.frozen? a := World.frozen?_of_block (h.block a.block hl hn)
abbrev K3 := Int × Int × Int
theorem seqy_mod {α : Type} {P : Program} {g : Nat} {lb : Array Value} {enc : α → Value} {Ok Dn : List α → Prop} {R : Nat → Prop} {w w' : World} (h : Seqy P g lb enc Ok Dn R w) (hm : Mod (fun k => ¬ R k) w w') : Seqy P g lb enc Ok Dn R w' :=
 fun l J Jx W X h1 h2 h3 h4 h5 h6 => h l J Jx W X (hm.trans h1) h2 h3 h4 h5 h6
end Go.Proofs.YtackhljepbhpgaaGreat

namespace Go.Proofs.YtackhljepbhpgaaGreat
open Go.RowKit
variable [DecidableEq Bal] [Inhabited Bal] [DecidableEq Ledg] [Inhabited Ledg] [DecidableEq Leg] [Inhabited Leg]

def getB (a t : Int) : List Bal → Option Int
 | [] => none
 | x :: r => if x.ac = a ∧ x.ast = t then some x.am else getB a t r
theorem hasB_get (a t : Int) : ∀ xs : List Bal, hasB a t xs = (getB a t xs).getD 0
 | [] => rfl
 | x :: r => by
  simp only [hasB, getB]
  split
  ·
   rfl
  ·
   exact hasB_get a t r
theorem getB_append (a t : Int) : ∀ (l r : List Bal), getB a t (l ++ r) = (getB a t l).or (getB a t r)
 | [], r => by simp [getB]
 | x :: l, r => by
  simp only [List.cons_append, getB]
  split
  ·
   simp
  ·
   exact getB_append a t l r
theorem getB_none {a t : Int} : ∀ {xs : List Bal}, (∀ k, k < xs.length → ¬ ((xs.getD k default).ac = a ∧ (xs.getD k default).ast = t)) → getB a t xs = none
 | [], _ => rfl
 | x :: r, h => by
  have h0 := h 0 (by simp)
  simp only [List.getD_cons_zero] at h0
  simp only [getB, if_neg h0]
  exact getB_none (fun k hk => by have := h (k + 1) (by simpa using hk); simpa only [List.getD_cons_succ] using this)
theorem take_bal (xs : List Bal) (k : Nat) (h : k < xs.length) : xs.take (k + 1) = xs.take k ++ [xs.getD k default] := by
 rw [List.take_add_one]; simp [List.getD, h]
theorem rising {xs : List Bal} (h : BalsOk xs) {i : Nat} : ∀ {j : Nat}, i < j → j < xs.length → (xs.getD i default).ac * 3 + (xs.getD i default).ast < (xs.getD j default).ac * 3 + (xs.getD j default).ast
 | 0, hij, _ => by omega
 | j + 1, hij, hj => by
  have h1 := h.ord j hj
  have hb := behind_iff (b := xs.getD (j + 1) default) (a := xs.getD j default) (balOk_key (h.ok _ hj)) (balOk_key (h.ok _ (by omega)))
  have h2 : (xs.getD j default).ac * 3 + (xs.getD j default).ast < (xs.getD (j + 1) default).ac * 3 + (xs.getD (j + 1) default).ast := by
   refine Int.not_le.1 (fun h => ?_)
   rw [hb.2 h] at h1; cases h1
  by_cases e : i = j
  ·
   subst e; exact h2
  ·
   have := rising h (i := i) (j := j) (by omega) (by omega)
   omega
theorem getD_takeB {xs : List Bal} {k j : Nat} (h : j < k) : (xs.take k).getD j default = xs.getD j default := by
 simp [List.getD, h]
theorem getB_fresh {xs : List Bal} (h : BalsOk xs) {j : Nat} (hj : j < xs.length) : getB (xs.getD j default).ac (xs.getD j default).ast (xs.take j) = none := by
 apply getB_none
 intro k hk
 have hk' : k < j := by rw [List.length_take] at hk; omega
 rw [getD_takeB hk']
 have := rising h hk' hj
 rintro ⟨e1, e2⟩
 rw [e1, e2] at this
 omega
def bookP (g : List (List Bal)) (i j : Nat) (s a t : Int) : Option Int := if 0 ≤ s ∧ s < i then getB a t (g.getD s.toNat default) else if s = i then getB a t ((g.getD i default).take j) else none
def bookF (g : List (List Bal)) (s a t : Int) : Option Int := if 0 ≤ s ∧ s < g.length then getB a t (g.getD s.toNat default) else none
theorem bookP_start (g : List (List Bal)) (s a t : Int) : bookP g 0 0 s a t = none := by
 unfold bookP
 rw [if_neg (by omega)]
 split
 ·
  rfl
 ·
  rfl
theorem bookP_step {g : List (List Bal)} {i j : Nat} (h : BalsOk (g.getD i default)) (hj : j < (g.getD i default).length) (s a t : Int) :
  bookP g i (j + 1) s a t = upd3 (bookP g i j) i ((g.getD i default).getD j default).ac ((g.getD i default).getD j default).ast (some ((g.getD i default).getD j default).am) s a t := by
 have hf := getB_fresh h hj
 unfold upd3 bookP
 rw [take_bal _ _ hj, getB_append]
 by_cases hs : 0 ≤ s ∧ s < (i : Int)
 ·
  rw [if_pos hs, if_neg (by rintro ⟨rfl, _⟩; omega), if_pos hs]
 ·
  rw [if_neg hs, if_neg hs]
  by_cases e : s = i
  ·
   rw [if_pos e, if_pos e]
   by_cases e2 : a = ((g.getD i default).getD j default).ac ∧ t = ((g.getD i default).getD j default).ast
   ·
    rw [if_pos ⟨e, e2.1, e2.2⟩, e2.1, e2.2, hf]
    simp [getB]
   ·
    rw [if_neg (fun h => e2 h.2)]
    simp only [getB]
    rw [if_neg (fun h => e2 ⟨h.1.symm, h.2.symm⟩)]
    simp
  ·
   rw [if_neg e, if_neg e, if_neg (fun h => e h.1)]
theorem bookP_next (g : List (List Bal)) (i : Nat) (s a t : Int) : bookP g (i + 1) 0 s a t = bookP g i (g.getD i default).length s a t := by
 unfold bookP
 rw [List.take_length]
 by_cases e : s = i
 ·
  subst e
  rw [if_pos (by omega), if_neg (by omega), if_pos rfl]
  simp
 ·
  by_cases hs : 0 ≤ s ∧ s < (i : Int)
  ·
   rw [if_pos (by omega), if_pos hs]
  ·
   rw [if_neg (by omega), if_neg hs, if_neg e]
   split
   ·
    rfl
   ·
    rfl
theorem bookP_end (g : List (List Bal)) (s a t : Int) : bookF g s a t = bookP g g.length 0 s a t := by
 unfold bookP bookF
 split
 ·
  rfl
 ·
  split
  ·
   rfl
  ·
   rfl
end Go.Proofs.YtackhljepbhpgaaGreat

namespace Go.Proofs.YtackhljepbhpgaaGreat
open Go.RowKit
theorem keepN6 {w w' : World} {a0 : Addr} {x0 : Value} {a1 : Addr} {x1 : Value} {a2 : Addr} {x2 : Value} {a3 : Addr} {x3 : Value} {a4 : Addr} {x4 : Value} {a5 : Addr} {x5 : Value} (hb : Below w.heap.size w w') (g0 : w.cell? a0 = some x0) (g1 : w.cell? a1 = some x1) (g2 : w.cell? a2 = some x2) (g3 : w.cell? a3 = some x3) (g4 : w.cell? a4 = some x4) (g5 : w.cell? a5 = some x5) : Below w.heap.size w w' ∧ w'.cell? a0 = some x0 ∧ w'.cell? a1 = some x1 ∧ w'.cell? a2 = some x2 ∧ w'.cell? a3 = some x3 ∧ w'.cell? a4 = some x4 ∧ w'.cell? a5 = some x5 :=
 ⟨hb, cK hb g0, cK hb g1, cK hb g2, cK hb g3, cK hb g4, cK hb g5⟩
theorem keepS4 {w W W' : World} {a1 a2 a3 a4 : Addr} {v1 v2 v3 v4 : Value} (h : Below w.heap.size w W ∧ W.cell? a1 = some v1 ∧ W.cell? a2 = some v2 ∧ W.cell? a3 = some v3 ∧ W.cell? a4 = some v4) (hb : Below W.heap.size W W') : Below w.heap.size w W' ∧ W'.cell? a1 = some v1 ∧ W'.cell? a2 = some v2 ∧ W'.cell? a3 = some v3 ∧ W'.cell? a4 = some v4 :=
 ⟨bS h.1 hb, cK hb (h.2.1), cK hb (h.2.2.1), cK hb (h.2.2.2.1), cK hb (h.2.2.2.2)⟩
theorem keepS4g {w W W' : World} {a1 a2 a3 a4 : Addr} {v1 v2 v3 v4 : Value} {b : Nat} (h : Below w.heap.size w W ∧ W.cell? a1 = some v1 ∧ W.cell? a2 = some v2 ∧ W.cell? a3 = some v3 ∧ W.cell? a4 = some v4) (hg : W.grownBy W' (some b)) (hl : w.heap.size ≤ b) (n1 : some a1.block ≠ some b) (n2 : some a2.block ≠ some b) (n3 : some a3.block ≠ some b) (n4 : some a4.block ≠ some b) : Below w.heap.size w W' ∧ W'.cell? a1 = some v1 ∧ W'.cell? a2 = some v2 ∧ W'.cell? a3 = some v3 ∧ W'.cell? a4 = some v4 :=
 ⟨h.1.grown hg h.1.size (fun k e => by cases e; exact hl), hg.cell (h.2.1) n1, hg.cell (h.2.2.1) n2, hg.cell (h.2.2.2.1) n3, hg.cell (h.2.2.2.2) n4⟩
theorem keepS5 {w W W' : World} {a1 a2 a3 a4 a5 : Addr} {v1 v2 v3 v4 v5 : Value} (h : Below w.heap.size w W ∧ W.cell? a1 = some v1 ∧ W.cell? a2 = some v2 ∧ W.cell? a3 = some v3 ∧ W.cell? a4 = some v4 ∧ W.cell? a5 = some v5) (hb : Below W.heap.size W W') : Below w.heap.size w W' ∧ W'.cell? a1 = some v1 ∧ W'.cell? a2 = some v2 ∧ W'.cell? a3 = some v3 ∧ W'.cell? a4 = some v4 ∧ W'.cell? a5 = some v5 :=
 ⟨bS h.1 hb, cK hb (h.2.1), cK hb (h.2.2.1), cK hb (h.2.2.2.1), cK hb (h.2.2.2.2.1), cK hb (h.2.2.2.2.2)⟩
end Go.Proofs.YtackhljepbhpgaaGreat

namespace Go.Proofs.YtackhljepbhpgaaGreat
open Go.RowKit
variable [DecidableEq Bal] [Inhabited Bal] [DecidableEq Ledg] [Inhabited Ledg] [DecidableEq Leg] [Inhabited Leg]
attribute [local go_sem ↓] Go.wp_at_zero Go.wp_at_succ

theorem keyOf_any (s a t : Int) (w : World) : Calls Tryz.prog 223 #[.int .i64 s, .int .i64 a, .int .i64 t] w fun e w' => e = .returned (kv s a t) ∧ Below w.heap.size w w' := by
 go_enter Tryz.func223, Tryz.ntmps223
 go_wp2
 refine bodyPost_ret (v := .agg #[.int .i64 s, .int .i64 a, .int .i64 t]) (by simp [results, Tryz.results223, go_sem]) rfl ⟨rfl, qBq⟩
structure BkC (W : World) (B n : Nat) : Prop where
 res : W.heap[B + 1]? = some (.cells #[.int .i64 0, .map none] 217)
 bk : W.heap[B + 1 + 1 + 1]? = some (.cells #[.int .i64 n, .map (some (B + 1 + 1))] 217)
theorem lt_of_get {W : World} {b : Nat} {o : Obj} (h : W.heap[b]? = some o) : b < W.heap.size := by
 rcases Nat.lt_or_ge b W.heap.size with h' | h'
 ·
  exact h'
 ·
  rw [Array.getElem?_eq_none h'] at h; cases h
theorem heap_new {w : World} {o : Obj} {b : Nat} (h : b = w.heap.size) : (w.alloc o).heap[b]? = some o := by rw [h]; exact (MapKept.heap_alloc w o).1
theorem heap_old {w : World} {o : Obj} {b : Nat} (h : b < w.heap.size) : (w.alloc o).heap[b]? = w.heap[b]? := (MapKept.heap_alloc w o).2 b h
theorem BkC.below {W W' : World} {B n : Nat} (h : BkC W B n) (hb : Below W.heap.size W W') : BkC W' B n :=
 ⟨(hb.block _ (lt_of_get h.res)).trans h.res, (hb.block _ (lt_of_get h.bk)).trans h.bk⟩
theorem BkC.grown {W W' : World} {B n : Nat} (h : BkC W B n) (hg : W.grownBy W' (some (B + 1 + 1))) : BkC W' B n :=
 ⟨(hg.block _ (lt_of_get h.res) (by simp)).trans h.res, (hg.block _ (lt_of_get h.bk) (by simp)).trans h.bk⟩
theorem cellOf {W : World} {b t : Nat} {cs : Array Value} (h : W.heap[b]? = some (.cells cs t)) (i : Nat) : W.cell? ⟨b, i, none⟩ = cs[i]? := by
 simp [World.cell?, h]
theorem unfrozen {W : World} {b t : Nat} {cs : Array Value} (h : W.heap[b]? = some (.cells cs t)) (i : Nat) : W.frozen? ⟨b, i, none⟩ = false := by
 simp [World.frozen?, h]
theorem bookOf_any (x : Value) (g : Ledg) (w : World) (hx : ledgR.V w x g) (h0 : ledFault g = 0) :
  Calls Tryz.prog 195 #[x] w fun e w' => ∃ b, e = .returned (.agg #[.int .i64 g.shards.length, .map (some b)]) ∧ w.heap.size ≤ b ∧ Book w' b 54 (bookF g.shards) ∧ Below w.heap.size w w' := by
 obtain ⟨hl1, hl3, hok⟩ := ledOk_of h0
 obtain ⟨u, rfl, ax, cx, rfl, hcx, hmx, hxx⟩ := hx
 unfold maxLen at hmx
 have HOK : Hid (∀ k, k < g.shards.length → BalsOk (g.shards.getD k default)) := hok
 clear hok h0
 generalize hn' : g.shards.length = n at *
 have HN : Hid (g.shards.length = n) := hn'
 clear hn'
 have hmm := @run_makeMap Tryz.prog
 go_enter Tryz.func195, Tryz.ntmps195
 go_wp2
 go_loopw [16] (fun i w' => ∃ k : Nat, k ≤ n ∧ i = .int .i64 k ∧ Book w' (w.heap.size + 1 + 1) (k * 18) (bookP g.shards k 0) ∧ BkC w' w.heap.size n ∧ Below w.heap.size w w') (fun i _ => n - (intOf i).toNat)
 case atStart =>
  refine ⟨0, Nat.zero_le _, rfl, ?_, ⟨?_, ?_⟩, qBq⟩
  ·
   have h1 := book_made ((w.alloc (Obj.cells #[Value.slice ax n cx] 258)).alloc (Obj.cells #[Value.int IntKind.i64 0, Value.map none] 217))
   simp only [World.size_alloc] at h1
   exact (h1.below (bA (Below.refl _ _) _)).cast (fun s a t _ => bookP_start _ _ _ _)
  ·
   exact (heap_old (by simp)).trans ((heap_old (by simp)).trans (heap_new (by simp)))
  ·
   exact heap_new (by simp)
 case round =>
  obtain ⟨k, hk, rfl, hB, hC, hbl⟩ := hrel
  by_cases hlt : k < n
  ·
   obtain ⟨bx, ox, u, rfl, _, hc, hu⟩ := hxx k hlt
   have c1 := cK hbl (cells1 hc)
   have hb0 : BalsOk (g.shards.getD k default) := HOK.out k hlt
   have HB0 : Hid (BalsOk (g.shards.getD k default)) := hb0
   clear hc hxx hb0
   obtain ⟨l, hl⟩ : ∃ l, l = g.shards.getD k default := ⟨_, rfl⟩
   rw [← hl] at hu
   have HL : Hid (l = g.shards.getD k default) := hl
   clear hl
   obtain ⟨a', c', rfl, hcc, hmc, hu⟩ := hu
   unfold maxLen at hmc
   have hl18 : l.length ≤ 18 := by rw [HL.out]; exact HB0.out.len
   generalize hm' : l.length = m at *
   have HM : Hid (l.length = m) := hm'
   clear hm'
   go_wp2
   go_loopw [23] (fun i w' => ∃ j : Nat, j ≤ m ∧ i = .int .i64 j ∧ Book w' (w.heap.size + 1 + 1) (k * 18 + j) (bookP g.shards k j) ∧ BkC w' w.heap.size n ∧ Below w.heap.size w w') (fun i _ => m - (intOf i).toNat)
   case atStart => exact ⟨0, Nat.zero_le _, rfl, hB, hC, hbl⟩
   case round =>
    obtain ⟨j, hj, rfl, hB3, hC3, hb3⟩ := hrel
    by_cases hlt3 : j < m
    ·
     obtain ⟨b5, o5, rfl, g1⟩ := hu j hlt3
     obtain ⟨q, hq⟩ : ∃ q, q = l.getD j default := ⟨_, rfl⟩
     rw [← hq] at g1
     have HQ : Hid (q = l.getD j default) := hq
     have hqok : balOk q = true := by rw [hq, HL.out]; exact HB0.out.ok j (by rw [← HL.out, HM.out]; exact hlt3)
     clear hq hu
     obtain ⟨⟨⟨p1, p2⟩, p3, p4⟩, p5, p6⟩ := balOk_iff.1 hqok
     have hw : kwf k q.ac q.ast := ⟨wf_of (by omega) (by omega), wf_of (by omega) (by omega), wf_of (by omega) (by omega)⟩
     have hv : (Lit.int .i64 q.am).wf = true := wf_of (by omega) (by omega)
     obtain ⟨e1, e2, e3⟩ := balCells_below hb3 g1
     have hlx : w.heap.size + 1 + 1 < wr.heap.size := hB3.lt
     have h0 : Below w.heap.size w (wr.alloc (.cells #[.int .i64 q.ac, .int .i64 q.ast, .int .i64 q.am] 199)) ∧ (wr.alloc (.cells #[.int .i64 q.ac, .int .i64 q.ast, .int .i64 q.am] 199)).cell? ⟨w.heap.size + 1 + 1 + 1, 1, none⟩ = some (.map (some (w.heap.size + 1 + 1))) ∧ (wr.alloc (.cells #[.int .i64 q.ac, .int .i64 q.ast, .int .i64 q.am] 199)).cell? ⟨wr.heap.size, 0, none⟩ = some (.int .i64 q.ac) ∧ (wr.alloc (.cells #[.int .i64 q.ac, .int .i64 q.ast, .int .i64 q.am] 199)).cell? ⟨wr.heap.size, 1, none⟩ = some (.int .i64 q.ast) ∧ (wr.alloc (.cells #[.int .i64 q.ac, .int .i64 q.ast, .int .i64 q.am] 199)).cell? ⟨wr.heap.size, 2, none⟩ = some (.int .i64 q.am) :=
      ⟨qBq, cK (bA (Below.refl _ _) _) ((cellOf hC3.bk 1).trans rfl), by simp [go_sem], by simp [go_sem], by simp [go_sem]⟩
     have hBW := hB3.below (bA (Below.refl _ _) (.cells #[.int .i64 q.ac, .int .i64 q.ast, .int .i64 q.am] 199))
     have hCW := hC3.below (bA (Below.refl _ _) (.cells #[.int .i64 q.ac, .int .i64 q.ast, .int .i64 q.am] 199))
     have hnm : k * 18 + j < maxLen := by unfold maxLen; omega
     have y1 : some (w.heap.size + 1 + 1 + 1) ≠ some (w.heap.size + 1 + 1) := by simp
     have y2 : some wr.heap.size ≠ some (w.heap.size + 1 + 1) := by simp; omega
     have y3 : w.heap.size ≤ w.heap.size + 1 + 1 := by omega
     go_wp2
     generalize hW : wr.alloc (.cells #[.int .i64 q.ac, .int .i64 q.ast, .int .i64 q.am] 199) = W at *
     clear hW e1 e2 e3 g1 hB3 hC3 hb3 c1
     go_region_held3 (fun w' => Below w.heap.size w w' ∧ w'.cell? ⟨w.heap.size + 1 + 1 + 1, 1, none⟩ = some (.map (some (w.heap.size + 1 + 1))) ∧ w'.cell? ⟨wr.heap.size, 0, none⟩ = some (.int .i64 q.ac) ∧ w'.cell? ⟨wr.heap.size, 1, none⟩ = some (.int .i64 q.ast) ∧ w'.cell? ⟨wr.heap.size, 2, none⟩ = some (.int .i64 q.am))
      ((first | exact keepS4 h0 (Below.drew (Below.refl _ _)) | exact hS3 | exact hS4))
      (first | (go_at_call 223; refine (keyOf_any _ _ _ _).mono ?_; rintro e w3 ⟨rfl, hb5⟩; have hS3 := keepS4 (keepS4 h0 (Below.drew (Below.refl _ _))) hb5; obtain ⟨w4, hrun, hB4, hg4⟩ := ((hBW.below (Below.drew (Below.refl _ _))).below hb5).put hw hv hnm; have hS4 := keepS4g hS3 hg4 y3 y1 y2 y2 y2))
     have hC4 := ((hCW.below (Below.drew (Below.refl _ _))).below hb5).grown hg4
     have hbw := hS4.1
     clear hrun hS3 hS4
     go_wp2
     refine ⟨⟨j + 1, by omega, by go_num, ?_, hC4, hbw⟩, by simp [intOf]; omega⟩
     refine hB4.cast (fun s a t _ => ?_)
     rw [bookP_step HB0.out (by rw [← HL.out, HM.out]; exact hlt3), ← HL.out, ← HQ.out]
    ·
     go_wp2
     have hjm : j = m := by omega
     subst hjm
     refine ⟨⟨k + 1, by omega, by go_num, ?_, hC3, hb3⟩, by simp [intOf]; omega⟩
     refine (hB3.mono (by omega)).cast (fun s a t _ => ?_)
     rw [bookP_next, ← HL.out, HM.out]
  ·
   have hkn : k = n := by omega
   subst hkn
   have d0 := cellOf hC.bk 0
   have d1 := cellOf hC.bk 1
   have r0 := cellOf hC.res 0
   have r1 := cellOf hC.res 1
   have f0 := unfrozen hC.res 0
   have f1 := unfrozen hC.res 1
   simp at d0 d1 r0 r1
   go_wp2
   refine bodyPost_ret (v := .agg #[.int .i64 k, .map (some (w.heap.size + 1 + 1))]) ?_ rfl ⟨w.heap.size + 1 + 1, rfl, by omega, ?_, qBq⟩
   ·
    simp [results, Tryz.results195, go_sem, r0, r1]
   ·
    refine Book.cast (((hB.turned (Mod.of_set _ _ _) (by simp)).turned (Mod.of_set _ _ _) (by simp)).mono (by omega)) (fun s a t _ => ?_)
    rw [bookP_end, HN.out]
theorem l2Key_any (a s : Int) (w : World) : Calls Tryz.prog 216 #[.int .i64 a, .int .i64 s] w fun e w' => e = .returned (.bool (keyOk a s)) ∧ w' = w := by
 unfold keyOk
 cases h1 : inB a 0 5
 all_goals
  go_enter Tryz.func216, Tryz.ntmps216
  go_wp2_with (go_at_call 75; refine (l1In_any _ _ _ _).mono ?_; rintro e w' ⟨rfl, rfl⟩)
  go_ret
  exact ⟨by simp, rfl⟩
theorem isBalance_any (x : Bal) (w : World) : Calls Tryz.prog 231 #[.agg #[.int .i64 x.ac, .int .i64 x.ast, .int .i64 x.am]] w fun e w' => e = .returned (.bool (balOk x)) ∧ Below w.heap.size w w' := by
 unfold balOk keyOk
 cases h1 : inB x.ac 0 5
 ·
  go_enter Tryz.func231, Tryz.ntmps231
  go_wp2_with (go_at_call 229; refine (isAccount_any _ _).mono ?_; rintro e w' ⟨rfl, rfl⟩)
  go_ret
  exact ⟨by simp, bA (Below.refl _ _) _⟩
 cases h2 : inB x.ast 0 2
 all_goals
  go_enter Tryz.func231, Tryz.ntmps231
  go_wp2_with (first | (go_at_call 229; refine (isAccount_any _ _).mono ?_; rintro e w' ⟨rfl, rfl⟩) | (go_at_call 230; refine (isAsset_any _ _).mono ?_; rintro e w' ⟨rfl, rfl⟩) | (go_at_call 101; refine (within_any _ _ _ _).mono ?_; rintro e w' ⟨rfl, rfl⟩))
  go_ret
  exact ⟨by simp, bA (Below.refl _ _) _⟩
theorem standsBehind_any (x y : Bal) (w : World) : Calls Tryz.prog 232 #[.agg #[.int .i64 x.ac, .int .i64 x.ast, .int .i64 x.am], .agg #[.int .i64 y.ac, .int .i64 y.ast, .int .i64 y.am]] w fun e w' => e = .returned (.bool (behind x y)) ∧ Below w.heap.size w w' := by
 unfold behind
 go_enter Tryz.func232, Tryz.ntmps232
 go_wp2
 all_goals
  go_ret
  exact ⟨by simp_all, bA (bA (Below.refl _ _) _) _⟩
theorem balAt_bad {xs : List Bal} {k : Nat} (h : balOk (xs.getD k default) = false) : balAt xs k = 3 := by unfold balAt; rw [h]; rfl
theorem balAt_first {xs : List Bal} (h : balOk (xs.getD 0 default) = true) : balAt xs 0 = 0 := by simp only [balAt, h]; simp
theorem balAt_next {xs : List Bal} {k : Nat} (h : balOk (xs.getD (k + 1) default) = true) : balAt xs (k + 1) = if behind (xs.getD (k + 1) default) (xs.getD k default) = false then 1 else 0 := by
 simp only [balAt, h, if_true, Nat.add_sub_cancel]
 simp
theorem balFault_hit {xs : List Bal} {k : Nat} {c : Int} (h18 : xs.length ≤ 18) (hk : k < xs.length) (h : scanI (balAt xs) k = 0) (hc : balAt xs k = c) (h0 : c ≠ 0) : balFault xs = c := by
 rw [balFault, if_neg (by omega), scanI_hit h (by rw [hc]; exact h0) _ hk, hc]
theorem balAt_ok {xs : List Bal} {k : Nat} (h : balAt xs k = 0) : balOk (xs.getD k default) = true := by
 cases e : balOk (xs.getD k default) with
 | true => rfl
 | false => rw [balAt_bad e] at h; omega
theorem specBalFault_any (x : Value) (xs : List Bal) (w : World) (hx : balsR.V w x xs) :
  Calls Tryz.prog 177 #[x] w fun e w' => e = .returned (.int .i64 (balFault xs)) ∧ Below w.heap.size w w' := by
 obtain ⟨ax, cx, rfl, hcx, hmx, hx⟩ := hx
 unfold maxLen at hmx
 by_cases h18 : 18 < xs.length
 ·
  have e : balFault xs = 2 := by simp [balFault, h18]
  rw [e]
  go_enter Tryz.func177, Tryz.ntmps177
  go_wp2; go_ret
  exact ⟨rfl, Below.refl _ _⟩
 generalize hn' : xs.length = n at *
 have HN : Hid (xs.length = n) := hn'
 clear hn'
 go_enter Tryz.func177, Tryz.ntmps177
 go_wp2
 go_loopw [3] (fun i w' => ∃ k : Nat, k ≤ n ∧ i = .int .i64 k ∧ scanI (balAt xs) k = 0 ∧ Below w.heap.size w w') (fun i _ => n - (intOf i).toNat)
 case atStart => exact ⟨0, Nat.zero_le _, rfl, rfl, Below.refl _ _⟩
 case round =>
  obtain ⟨k, hk, rfl, hs, hbl⟩ := hrel
  have HS : Hid (scanI (balAt xs) k = 0) := hs
  clear hs
  by_cases hlt : k < n
  ·
   obtain ⟨bx, ox, rfl, g1⟩ := hx k hlt
   obtain ⟨l, hl⟩ : ∃ l, l = xs.getD k default := ⟨_, rfl⟩
   rw [← hl] at g1
   have HL : Hid (l = xs.getD k default) := hl
   clear hl
   obtain ⟨a1, a2, a3⟩ := balCells_below hbl g1
   cases h1 : keyOk l.ac l.ast
   ·
    clear hx
    go_wp2_with (first | (go_at_call 216; refine (l2Key_any _ _ _).mono ?_; rintro e w' ⟨rfl, rfl⟩) | (go_at_call 75; refine (l1In_any _ _ _ _).mono ?_; rintro e w' ⟨rfl, rfl⟩))
    go_ret
    refine ⟨?_, bA hbl _⟩
    rw [balFault_hit (k := k) (c := 3) (by rw [HN.out]; omega) (by rw [HN.out]; exact hlt) HS.out (balAt_bad (by rw [← HL.out]; simp [balOk, h1])) (by omega)]
    rfl
   cases h2 : inB l.am 1 1000000000000
   ·
    clear hx
    go_wp2_with (first | (go_at_call 216; refine (l2Key_any _ _ _).mono ?_; rintro e w' ⟨rfl, rfl⟩) | (go_at_call 75; refine (l1In_any _ _ _ _).mono ?_; rintro e w' ⟨rfl, rfl⟩))
    go_ret
    refine ⟨?_, bA hbl _⟩
    rw [balFault_hit (k := k) (c := 3) (by rw [HN.out]; omega) (by rw [HN.out]; exact hlt) HS.out (balAt_bad (by rw [← HL.out]; simp [balOk, h2])) (by omega)]
    rfl
   have hok : balOk (xs.getD k default) = true := by rw [← HL.out]; simp [balOk, h1, h2]
   cases k with
   | zero =>
    clear hx
    simp only [Nat.zero_mul, Nat.add_zero] at a1 a2 a3
    go_wp2_with (first | (go_at_call 216; refine (l2Key_any _ _ _).mono ?_; rintro e w' ⟨rfl, rfl⟩) | (go_at_call 75; refine (l1In_any _ _ _ _).mono ?_; rintro e w' ⟨rfl, rfl⟩))
    go_quiet (fail)
    go_wp2
    exact ⟨⟨1, by omega, by go_num, scanI_succ HS.out (balAt_first hok), bdrewN (bA hbl _) _⟩, by simp [intOf]; omega⟩
   | succ m =>
    obtain ⟨b', o', he, g2⟩ := hx m (by omega)
    simp only [Option.some.injEq, Addr.mk.injEq, and_true] at he
    obtain ⟨rfl, rfl⟩ := he
    have hok' : balOk (xs.getD m default) = true := balAt_ok (scanI_zero HS.out m (by omega))
    obtain ⟨o, ho⟩ : ∃ o, o = xs.getD m default := ⟨_, rfl⟩
    rw [← ho] at g2 hok'
    have HO : Hid (o = xs.getD m default) := ho
    clear ho hx
    obtain ⟨d1, d2, d3⟩ := balCells_below hbl g2
    obtain ⟨⟨⟨p1, p2⟩, p3, p4⟩, p5, p6⟩ := balOk_iff.1 hok'
    obtain ⟨⟨q1, q2⟩, q3, q4⟩ := keyOk_iff.1 h1
    have i1 : (m : Int) < (n : Int) := by omega
    have z5 : bx < wr.heap.size := wL wr _ d1
    have i2 : m < n := by omega
    have v1 : IntKind.i64.wrap (m : Int) = m := wrapId (by omega) (by omega)
    have v2 : IntKind.i64.wrap (l.ac * 3) = l.ac * 3 := wrapId (by omega) (by omega)
    have v3 : IntKind.i64.wrap (l.ac * 3 + l.ast) = l.ac * 3 + l.ast := wrapId (by omega) (by omega)
    have v4 : IntKind.i64.wrap (o.ac * 3) = o.ac * 3 := wrapId (by omega) (by omega)
    have v5 : IntKind.i64.wrap (o.ac * 3 + o.ast) = o.ac * 3 + o.ast := wrapId (by omega) (by omega)
    have hbi := behind_iff (b := l) (a := o) h1 (balOk_key hok')
    have HBI : Hid (behind l o = false ↔ l.ac * 3 + l.ast ≤ o.ac * 3 + o.ast) := hbi
    clear hbi
    go_wp2_with (first | (go_at_call 216; refine (l2Key_any _ _ _).mono ?_; rintro e w' ⟨rfl, rfl⟩) | (go_at_call 75; refine (l1In_any _ _ _ _).mono ?_; rintro e w' ⟨rfl, rfl⟩))
    go_quiet (fail)
    go_wp2
    ·
     rename_i hle
     go_ret
     refine ⟨?_, bdrewN (bA hbl _) _⟩
     have hb0 : balAt xs (m + 1) = 1 := by rw [balAt_next hok, ← HL.out, ← HO.out, if_pos (HBI.out.2 hle)]
     rw [balFault_hit (k := m + 1) (c := 1) (by rw [HN.out]; omega) (by rw [HN.out]; exact hlt) HS.out hb0 (by omega)]
     rfl
    ·
     rename_i hle
     refine ⟨⟨m + 1 + 1, by omega, by go_num, scanI_succ HS.out ?_, bdrewN (bA hbl _) _⟩, by simp [intOf]; omega⟩
     rw [balAt_next hok, ← HL.out, ← HO.out, if_neg (fun e => by have := HBI.out.1 e; omega)]
  ·
   go_wp2; go_ret
   have hkn : k = n := by omega
   subst hkn
   refine ⟨?_, hbl⟩
   rw [balFault, if_neg (by rw [HN.out]; omega), HN.out, HS.out]
   rfl
theorem implBalFault_any (x : Value) (xs : List Bal) (w : World) (hx : balsR.V w x xs) :
  Calls Tryz.prog 219 #[x] w fun e w' => e = .returned (.int .i64 (balFault xs)) ∧ Below w.heap.size w w' := by
 obtain ⟨ax, cx, rfl, hcx, hmx, hx⟩ := hx
 unfold maxLen at hmx
 by_cases h18 : 18 < xs.length
 ·
  have e : balFault xs = 2 := by simp [balFault, h18]
  rw [e]
  go_enter Tryz.func219, Tryz.ntmps219
  go_wp2; go_ret
  exact ⟨rfl, Below.refl _ _⟩
 generalize hn' : xs.length = n at *
 have HN : Hid (xs.length = n) := hn'
 clear hn'
 go_enter Tryz.func219, Tryz.ntmps219
 go_wp2
 go_loopw [10] (fun i w' => ∃ k : Nat, k ≤ n ∧ i = .int .i64 k ∧ scanI (balAt xs) k = 0 ∧ Below w.heap.size w w') (fun i _ => n - (intOf i).toNat)
 case atStart => exact ⟨0, Nat.zero_le _, rfl, rfl, Below.refl _ _⟩
 case round =>
  obtain ⟨k, hk, rfl, hs, hbl⟩ := hrel
  have HS : Hid (scanI (balAt xs) k = 0) := hs
  clear hs
  by_cases hlt : k < n
  ·
   obtain ⟨bx, ox, rfl, g1⟩ := hx k hlt
   obtain ⟨l, hl⟩ : ∃ l, l = xs.getD k default := ⟨_, rfl⟩
   rw [← hl] at g1
   have HL : Hid (l = xs.getD k default) := hl
   clear hl
   obtain ⟨a1, a2, a3⟩ := balCells_below hbl g1
   cases hok : balOk l
   ·
    clear hx
    go_wp2_with (go_at_call 231; refine (isBalance_any l _).mono ?_; rintro e w' ⟨rfl, hb⟩)
    go_ret
    refine ⟨?_, bS (bA hbl _) hb⟩
    rw [balFault_hit (k := k) (c := 3) (by rw [HN.out]; omega) (by rw [HN.out]; exact hlt) HS.out (balAt_bad (by rw [← HL.out]; exact hok)) (by omega)]
    rfl
   have hok2 : balOk (xs.getD k default) = true := by rw [← HL.out]; exact hok
   cases k with
   | zero =>
    clear hx
    simp only [Nat.zero_mul, Nat.add_zero] at a1 a2 a3
    go_wp2_with (go_at_call 231; refine (isBalance_any l _).mono ?_; rintro e w' ⟨rfl, hb⟩)
    go_quiet (fail)
    go_wp2
    exact ⟨⟨1, by omega, by go_num, scanI_succ HS.out (balAt_first hok2), bdrewN (bS (bA hbl _) hb) _⟩, by simp [intOf]; omega⟩
   | succ m =>
    obtain ⟨b', o', he, g2⟩ := hx m (by omega)
    simp only [Option.some.injEq, Addr.mk.injEq, and_true] at he
    obtain ⟨rfl, rfl⟩ := he
    obtain ⟨o, ho⟩ : ∃ o, o = xs.getD m default := ⟨_, rfl⟩
    rw [← ho] at g2
    have HO : Hid (o = xs.getD m default) := ho
    clear ho hx
    obtain ⟨d1, d2, d3⟩ := balCells_below hbl g2
    have i1 : (m : Int) < (n : Int) := by omega
    have v1 : IntKind.i64.wrap (m : Int) = m := wrapId (by omega) (by omega)
    go_wp2_with (go_at_call 231; refine (isBalance_any l _).mono ?_; rintro e w' ⟨rfl, hb⟩)
    have hB := bS (bA hbl _) hb
    have g3 := balCells_below hB g2
    have g4 : balCells w' wr.heap.size 0 l := ⟨cK hb (by simp [go_sem]), cK hb (by simp [go_sem]), cK hb (by simp [go_sem])⟩
    clear hb d1 d2 d3 a1 a2 a3 g1 g2
    have z5 : bx < w'.heap.size := wL w' _ g3.1
    have z6 : wr.heap.size < w'.heap.size := wL w' _ g4.1
    go_region_held3 (fun w'' => Below w'.heap.size w' w'' ∧ (w''.cell? ⟨wr.heap.size, 0, none⟩ = some (.int .i64 l.ac) ∧ w''.cell? ⟨wr.heap.size, 1, none⟩ = some (.int .i64 l.ast) ∧ w''.cell? ⟨wr.heap.size, 2, none⟩ = some (.int .i64 l.am)) ∧ (w''.cell? ⟨bx, ox + m * 3, none⟩ = some (.int .i64 o.ac) ∧ w''.cell? ⟨bx, ox + m * 3 + 1, none⟩ = some (.int .i64 o.ast) ∧ w''.cell? ⟨bx, ox + m * 3 + 2, none⟩ = some (.int .i64 o.am)))
     ((refine balKeep2 ?_ g4 g3; repeat (first | exact bR _ _ | assumption | refine bD ?_ | refine bA ?_ _ | refine bS ?_ (by assumption))))
     (first | (go_at_call 232; refine (standsBehind_any l o _).mono ?_; rintro e w3 ⟨rfl, hb3⟩))
    rename_i hH
    have hB3 := bS hB hH.1
    clear hH
    cases hbe : behind l o
    ·
     go_wp2; go_ret
     refine ⟨?_, hB3⟩
     have hb0 : balAt xs (m + 1) = 1 := by rw [balAt_next hok2, ← HL.out, ← HO.out, if_pos hbe]
     rw [balFault_hit (k := m + 1) (c := 1) (by rw [HN.out]; omega) (by rw [HN.out]; exact hlt) HS.out hb0 (by omega)]
     rfl
    ·
     go_wp2
     refine ⟨⟨m + 1 + 1, by omega, by go_num, scanI_succ HS.out ?_, hB3⟩, by simp [intOf]; omega⟩
     rw [balAt_next hok2, ← HL.out, ← HO.out, if_neg (by rw [hbe]; simp)]
  ·
   go_wp2; go_ret
   have hkn : k = n := by omega
   subst hkn
   refine ⟨?_, hbl⟩
   rw [balFault, if_neg (by rw [HN.out]; omega), HN.out, HS.out]
   rfl
theorem l2Has_any (x : Value) (xs : List Bal) (a s : Int) (w : World) (hx : balsR.V w x xs) :
  Calls Tryz.prog 217 #[x, .int .i64 a, .int .i64 s] w fun e w' => e = .returned (.int .i64 (hasB a s xs)) ∧ w' = w := by
 obtain ⟨ax, cx, rfl, hcx, hmx, hx⟩ := hx
 unfold maxLen at hmx
 generalize hn' : xs.length = n at *
 have HN : Hid (xs.length = n) := hn'
 clear hn'
 go_enter Tryz.func217, Tryz.ntmps217
 go_wp2
 go_loopw [7] (fun i w' => ∃ k : Nat, k ≤ n ∧ i = .int .i64 k ∧ hasB a s (xs.drop k) = hasB a s xs ∧ w' = w) (fun i _ => n - (intOf i).toNat)
 case atStart => exact ⟨0, Nat.zero_le _, rfl, rfl, rfl⟩
 case round =>
  obtain ⟨k, hk, rfl, hs, rfl⟩ := hrel
  have HS : Hid (hasB a s (xs.drop k) = hasB a s xs) := hs
  clear hs
  by_cases hlt : k < n
  ·
   obtain ⟨bx, ox, rfl, g1⟩ := hx k hlt
   have HD : Hid (hasB a s (xs.drop k) = if (xs.getD k default).ac = a ∧ (xs.getD k default).ast = s then (xs.getD k default).am else hasB a s (xs.drop (k + 1))) := hasB_drop (by rw [HN.out]; exact hlt)
   obtain ⟨l, hl⟩ : ∃ l, l = xs.getD k default := ⟨_, rfl⟩
   rw [← hl] at g1 HD
   clear hl hx
   obtain ⟨a1, a2, a3⟩ := g1
   go_wp2
   ·
    rename_i e1 e2
    go_ret
    refine ⟨?_, rfl⟩
    rw [← HS.out, HD.out, if_pos ⟨e1, by simpa using e2⟩]
    rfl
   ·
    rename_i e1 e2
    refine ⟨⟨k + 1, by omega, by go_num, ?_, trivial⟩, by simp [intOf]; omega⟩
    rw [← HS.out, HD.out, if_neg (fun h => by simp_all)]
   ·
    rename_i e1
    refine ⟨⟨k + 1, by omega, by go_num, ?_, trivial⟩, by simp [intOf]; omega⟩
    rw [← HS.out, HD.out, if_neg (fun h => by simp_all)]
  ·
   go_wp2; go_ret
   refine ⟨?_, rfl⟩
   rw [← HS.out, List.drop_eq_nil_of_le (by rw [HN.out]; omega)]
   rfl
variable [DecidableEq Cont] [Inhabited Cont]
def canV (v : Int) : Int := if v < 0 then 6 else if 1000000000000 < v then 3 else 0
def canB (xs : List Bal) (l : Leg) : Int := canV (hasB l.ac l.ast xs + l.am)
def canL (f : Int → Int → Int → Option Int) (l : Leg) : Int := canV ((f l.sh l.ac l.ast).getD 0 + l.am)
def smallB (xs : List Bal) : Prop := ∀ a t, 0 ≤ hasB a t xs ∧ hasB a t xs ≤ 1000000000000
theorem hasB_le {a t : Int} : ∀ {xs : List Bal}, (∀ k, k < xs.length → balOk (xs.getD k default) = true) → 0 ≤ hasB a t xs ∧ hasB a t xs ≤ 1000000000000
 | [], _ => by simp [hasB]
 | x :: r, h => by
  simp only [hasB]
  split
  ·
   have := (balOk_iff.1 (h 0 (by simp))).2
   simp only [List.getD_cons_zero] at this
   omega
  ·
   exact hasB_le (fun k hk => by have := h (k + 1) (by simpa using hk); simpa only [List.getD_cons_succ] using this)
theorem smallB_of {xs : List Bal} (h : BalsOk xs) : smallB xs := fun _ _ => hasB_le h.ok
theorem legKeep {w w' : World} {b o : Nat} {l : Leg} (hb : Below w.heap.size w w') (h : legCells w b o l) :
  Below w.heap.size w w' ∧ w'.cell? ⟨b, o, none⟩ = some (.int .i64 l.sh) ∧ w'.cell? ⟨b, o + 1, none⟩ = some (.int .i64 l.ac) ∧ w'.cell? ⟨b, o + 2, none⟩ = some (.int .i64 l.ast) ∧ w'.cell? ⟨b, o + 3, none⟩ = some (.int .i64 l.am) :=
 ⟨hb, legCells_below hb h⟩
theorem l2Legs_any (x y : Value) (xs : List Bal) (ls : List Leg) (w : World) (hx : balsR.V w x xs) (hy : legsR.V w y ls) (hs : smallB xs) (ha : small ls) :
  Calls Tryz.prog 182 #[x, y] w fun e w' => e = .returned (.int .i64 (scanI (fun k => canB xs (ls.getD k default)) ls.length)) ∧ Below w.heap.size w w' := by
 have hX := hx
 obtain ⟨ax, cx, rfl⟩ := bals_form hx
 obtain ⟨ay, cy, rfl, hcy, hmy, hy⟩ := hy
 unfold maxLen at hmy
 have HA : Hid (small ls) := ha
 have HSM : Hid (smallB xs) := hs
 clear ha hs hx
 generalize hn' : ls.length = n at *
 have HN : Hid (ls.length = n) := hn'
 clear hn'
 go_enter Tryz.func182, Tryz.ntmps182
 go_wp2
 go_loopw [5] (fun i w' => ∃ k : Nat, k ≤ n ∧ i = .int .i64 k ∧ scanI (fun k => canB xs (ls.getD k default)) k = 0 ∧ Below w.heap.size w w') (fun i _ => n - (intOf i).toNat)
 case atStart => exact ⟨0, Nat.zero_le _, rfl, rfl, Below.refl _ _⟩
 case round =>
  obtain ⟨k, hk, rfl, hs, hbl⟩ := hrel
  have HS : Hid (scanI (fun k => canB xs (ls.getD k default)) k = 0) := hs
  clear hs
  by_cases hlt : k < n
  ·
   obtain ⟨bx, ox, rfl, g1⟩ := hy k hlt
   have hsm := HA.out k (by rw [HN.out]; exact hlt)
   obtain ⟨l, hl⟩ : ∃ l, l = ls.getD k default := ⟨_, rfl⟩
   rw [← hl] at g1 hsm
   have HL : Hid (l = ls.getD k default) := hl
   clear hl hy
   have hhs := HSM.out l.ac l.ast
   have g2 := legCells_below hbl g1
   obtain ⟨a1, a2, a3, a4⟩ := g2
   have hXr := balsR.below hX hbl
   obtain ⟨v, hv⟩ : ∃ v, v = hasB l.ac l.ast xs := ⟨_, rfl⟩
   rw [← hv] at hhs
   have HV : Hid (v = hasB l.ac l.ast xs) := hv
   have v1 : IntKind.i64.wrap (v + l.am) = v + l.am := wrapId (by omega) (by omega)
   have i1 : (k : Int) < (n : Int) := by omega
   have HAT : Hid (canB xs (ls.getD k default) = canV (v + l.am)) := by show _ = _; rw [← HL.out, canB, HV.out]
   clear hsm hhs
   have g3 : legCells wr bx (ox + k * 4) l := ⟨a1, a2, a3, a4⟩
   go_wp2
   go_region_held3 (fun w' => Below wr.heap.size wr w' ∧ w'.cell? ⟨bx, ox + k * 4, none⟩ = some (.int .i64 l.sh) ∧ w'.cell? ⟨bx, ox + k * 4 + 1, none⟩ = some (.int .i64 l.ac) ∧ w'.cell? ⟨bx, ox + k * 4 + 2, none⟩ = some (.int .i64 l.ast) ∧ w'.cell? ⟨bx, ox + k * 4 + 3, none⟩ = some (.int .i64 l.am))
    ((refine legKeep ?_ g3; (repeat (first | exact bR _ _ | assumption | refine bD ?_ | refine bA ?_ _ | refine bS ?_ (by assumption)))))
    (first | (go_at_call 217; refine (l2Has_any _ xs l.ac l.ast _ (balsR.below hXr (Below.drew (Below.refl _ _)))).mono ?_; rw [← hv]; rintro e w3 ⟨rfl, rfl⟩))
   rename_i hH
   have hB := bS hbl hH.1
   clear hH
   rw [← hv, v1]
   clear hv v1
   generalize v + l.am = z at *
   go_wp2
   ·
    rename_i c1
    go_ret
    refine ⟨?_, hB⟩
    rw [scanI_hit HS.out (by rw [HAT.out, canV, if_pos c1]; omega) _ hlt, HAT.out, canV, if_pos c1]
    rfl
   ·
    rename_i c1 c2
    go_ret
    refine ⟨?_, hB⟩
    rw [scanI_hit HS.out (by rw [HAT.out, canV, if_neg (by omega), if_pos c2]; omega) _ hlt, HAT.out, canV, if_neg (by omega), if_pos c2]
    rfl
   ·
    rename_i c1 c2
    refine ⟨⟨k + 1, by omega, by go_num, scanI_succ HS.out ?_, hB⟩, by simp [intOf]; omega⟩
    rw [HAT.out, canV, if_neg (by omega), if_neg (by omega)]
  ·
   go_wp2; go_ret
   have hkn : k = n := by omega
   subst hkn
   refine ⟨?_, hbl⟩
   rw [HS.out]
   rfl
theorem hasB_book {g : Ledg} {l : Leg} (h0 : 0 ≤ l.sh) (h : l.sh < g.shards.length) : canB (g.shards.getD l.sh.toNat default) l = canL (bookF g.shards) l := by
 rw [canB, canL, hasB_get, bookF, if_pos ⟨h0, h⟩]
theorem canF_small {g : Ledg} (h : ledFault g = 0) : ∀ k, k < g.shards.length → smallB (g.shards.getD k default) := fun k hk => smallB_of ((ledOk_of h).2.2 k hk)
end Go.Proofs.YtackhljepbhpgaaGreat


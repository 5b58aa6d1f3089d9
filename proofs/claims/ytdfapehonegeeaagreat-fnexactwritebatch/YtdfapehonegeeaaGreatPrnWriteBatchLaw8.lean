import Derived.Test.YtdfapehonegeeaaGreatPrnWriteBatchLaw7
import Derived.WalkKit
import Derived.OwnWalkIn
import Derived.TacticsInMore
import Derived.LoopNIn
import Derived.LoopIn
import Derived.Test.YtdfapehonegeeaaGreatPrnWriteBatchLaw1
import Derived.Deep.RegionHeld3

/-
  slices.Values over the rows of a table.
-/
namespace Go.Proofs.YtdfapehonegeeaaGreat
open Go.RowKit Go.Shelf
set_option linter.unusedSectionVars false
variable [DecidableEq Rw] [Inhabited Rw]
set_option linter.unusedVariables false
attribute [local go_sem] Oper.semAt_some

def TabAt (R : Nat → Prop) (W : World) (v : Value) (xs : List Rw) : Prop :=
  ∃ a cap, v = .slice a xs.length cap ∧ xs.length ≤ cap ∧ cap ≤ maxLen ∧ ∀ i, i < xs.length → ∃ b o, a = some ⟨b, o, none⟩ ∧ R b ∧ rowCells W b (o + i * 4) (xs.getD i default)
theorem rowCells_mod {F : Nat → Prop} {w w' : World} {b o : Nat} {x : Rw} (hm : Mod F w w') (hb : ¬ F b) (h : rowCells w b o x) : rowCells w' b o x :=
  ⟨hm.cell h.1 hb, hm.cell h.2.1 hb, hm.cell h.2.2.1 hb, hm.cell h.2.2.2 hb⟩
theorem TabAt.mod {R F : Nat → Prop} {w w' : World} {v : Value} {xs : List Rw} (h : TabAt R w v xs) (hm : Mod F w w') (hF : ∀ b, R b → ¬ F b) : TabAt R w' v xs := by
  obtain ⟨a, cap, e, h1, h2, h3⟩ := h
  refine ⟨a, cap, e, h1, h2, fun i hi => ?_⟩
  obtain ⟨b, o, ha, hb, hc⟩ := h3 i hi
  exact ⟨b, o, ha, hb, rowCells_mod hm (hF b hb) hc⟩
theorem TabAt.of {R : Nat → Prop} {w : World} {v : Value} {xs : List Rw} (h : RowsV w v xs) (hR : ∀ b, b < w.heap.size → R b) : TabAt R w v xs := by
  obtain ⟨a, cap, e, h1, h2, h3⟩ := h
  refine ⟨a, cap, e, h1, h2, fun i hi => ?_⟩
  obtain ⟨b, o, ha, hc⟩ := h3 i hi
  exact ⟨b, o, ha, hR b (World.block_lt_of_cell? _ _ hc.1), hc⟩
theorem TabAt.wide {R R' : Nat → Prop} {w : World} {v : Value} {xs : List Rw} (h : TabAt R w v xs) (hR : ∀ b, R b → R' b) : TabAt R' w v xs := by
  obtain ⟨a, cap, e, h1, h2, h3⟩ := h
  refine ⟨a, cap, e, h1, h2, fun i hi => ?_⟩
  obtain ⟨b, o, ha, hb, hc⟩ := h3 i hi
  exact ⟨b, o, ha, hR b hb, hc⟩
theorem take_snoc {α : Type} [Inhabited α] (xs : List α) {k : Nat} (hk : k < xs.length) : xs.take k ++ [xs.getD k default] = xs.take (k + 1) := by
  rw [List.take_add_one, List.getElem?_eq_getElem hk]
  simp [List.getD, hk]
set_option maxRecDepth 100000 in
set_option maxHeartbeats 2000000 in
theorem values_seq (Bs : Nat) (v : Value) (xs : List Rw) (R : Nat → Prop) (w : World) (hB : w.cell? ⟨Bs, 0, none⟩ = some v) (hRB : R Bs) (hT : TabAt R w v xs) (hn : xs.length ≤ 200) :
    Seqx Tryz.prog 161 #[.pointer (some ⟨Bs, 0, none⟩)] rowV xs R w := by
  intro l J Jx W X hm hXa hJ hJx hY h0
  have hBW := hm.cell hB (fun h => h hRB)
  have hTW := hT.mod hm (fun b hb h => h hb)
  clear hB hT
  obtain ⟨a, cap, rfl, hc1, hc2, hrow⟩ := hTW
  unfold maxLen at hc2
  have HP : Hid (∀ k, k < xs.length → xs.take k ++ [xs.getD k default] = xs.take (k + 1)) := fun k hk => take_snoc xs hk
  have HA : Hid (∀ k, xs.take k <+: xs) := fun k => List.take_prefix _ _
  have HE : Hid (xs.take xs.length = xs) := List.take_length
  generalize hN : xs.length = n at *
  have HN : Hid (xs.length = n) := hN
  clear hN
  refine callsIn_of_wp Tryz.func161 rfl trivial ?_ rfl
  simp only [Tryz.ntmps161, List.size_toArray, List.length_cons, List.length_nil, Nat.reduceAdd, Nat.reduceSub, Array.replicate_succ, Array.replicate_zero, List.push_toArray, List.append_toArray, List.nil_append, List.cons_append]
  gi_wp2
  gi_loopw [7] (fun i wr => ∃ k : Nat, k ≤ n ∧ i = .int .i64 k ∧ Hid (J (xs.take k) wr X) ∧ Hid (∀ b, X b → b < wr.heap.size) ∧ Mod (fun b => ¬ R b) W wr) (fun i _ => n - (intOf i).toNat)
  case atStart => exact ⟨0, Nat.zero_le _, rfl, (show J [] W X from h0), hXa, Mod.refl _ _⟩
  case round =>
    obtain ⟨k, hk, rfl, HJ, HXa, hmr⟩ := hrel
    by_cases hlt : k < n
    · obtain ⟨b, o, rfl, hRb, hc⟩ := hrow k hlt
      obtain ⟨q, hq⟩ : ∃ q, q = xs.getD k default := ⟨_, rfl⟩
      have hP := HP.out k hlt
      rw [← hq] at hc hP
      have HPk : Hid (xs.take k ++ [q] = xs.take (k + 1)) := hP
      obtain ⟨c0, c1, c2, c3⟩ := rowCells_mod hmr (fun h => h hRb) hc
      have hJ2 : J (xs.take k) (wr.alloc (.cells #[.string q.key, .int .i64 q.ver, .string q.val, .bool q.gone] 76)) X :=
        hJ _ _ _ _ _ HJ.out (mod_alloc _ _ _) (fun _ h => h) (fun b h => ⟨.inl h, by have := HXa.out b h; simp; omega⟩)
      obtain ⟨fn, tmps, assign, body, hy, hR2⟩ := hY _ q _ X hJ2 (fun _ h => h) (fun b h => by have := HXa.out b h; simp; omega) (by rw [hP]; exact HA.out _)
      unfold rowV at hy
      clear hP hq hrow hc
      gi_wp2
      refine ⟨rfl, hR2.mono ?_⟩
      rintro e W3 (⟨rfl, hJ3, hk3⟩ | ⟨rfl, hJx3, hk3⟩)
      · gi_wp2
        go_roundw
        case rel =>
          have hs := hk3.size
          simp only [World.size_alloc] at hs
          refine ⟨k + 1, by omega, by simp, ?_, fun b h => ?_, (hmr.alloc _).trans (hk3.mono (fun b h hr => h (.inl hr)))⟩
          · rw [Hid, ← HPk.out]
            exact hJ3
          · have := HXa.out b h
            omega
        case measure => simp [intOf]; omega
      · gi_wp2
        refine bodyPost_ret (results_none rfl _ _ _) rfl ?_
        exact ⟨⟨_, rfl⟩, X, fun _ h => h, .inr ⟨_, by rw [HPk.out]; exact HA.out _, hJx3⟩⟩
    · obtain rfl : k = n := by omega
      gi_wp2
      go_end0
      refine ⟨⟨_, rfl⟩, X, fun _ h => h, .inl ?_⟩
      have hj := HJ.out
      rw [HE.out] at hj
      exact hj
end Go.Proofs.YtdfapehonegeeaaGreat

/-
  What counts at a version: lastAt, as an iterator.
-/
namespace Go.Proofs.YtdfapehonegeeaaGreat
open Go.RowKit Go.Shelf
set_option linter.unusedSectionVars false
variable [DecidableEq Rw] [Inhabited Rw]
set_option linter.unusedVariables false
attribute [local go_sem] Oper.semAt_some
attribute [local go_sem] run_store_func

set_option maxHeartbeats 1000000 in
theorem values_any (a : Option Addr) (n c : Nat) (w : World) :
    Calls Tryz.prog 129 #[.slice a n c] w fun e w' => e = .returned (.func (.func 161) #[] #[.pointer (some ⟨w.heap.size, 0, none⟩)]) ∧ w' = w.alloc (.cells #[.slice a n c] 32) := by
  go_enter Tryz.func129, Tryz.ntmps129
  go_wp2
  go_ret
  exact ⟨rfl, rfl⟩
set_option maxHeartbeats 1000000 in
theorem all_any (a : Option Addr) (n c : Nat) (w : World) :
    Calls Tryz.prog 77 #[.agg #[.slice a n c, cmpF]] w fun e w' => e = .returned (.func (.func 161) #[] #[.pointer (some ⟨w.heap.size + 1, 0, none⟩)]) ∧
      w' = (w.alloc (.cells #[.slice a n c, cmpF] 105)).alloc (.cells #[.slice a n c] 32) := by
  unfold cmpF
  go_enter Tryz.func77, Tryz.ntmps77
  go_wp2_with (go_at_call 129; refine (values_any _ _ _ _).mono ?_; rintro e w' ⟨rfl, rfl⟩)
  go_ret
  exact ⟨by simp, rfl⟩
theorem Mod.frozen {F : Nat → Prop} {w w' : World} (h : Mod F w w') {a : Addr} (ha : a.block < w.heap.size) (hn : ¬ F a.block) : w'.frozen? a = w.frozen? a := by
  have := h.block a.block ha hn
  unfold World.frozen?
  rw [this]
def RowBox (lo : Nat) (mk : Nat → Act) (x : Rw) (a' : Act) (W : World) (Y : Nat → Prop) : Prop := ∃ B, lo ≤ B ∧ B < W.heap.size ∧ rowCells W B 0 x ∧ ¬ Y B ∧ a' = mk B
theorem RowBox_stb (lo : Nat) (mk : Nat → Act) (x : Rw) (a' : Act) : Stb (fun (_ : Unit) => RowBox lo mk x a') := by
  rintro _ W W' Y Y' ⟨B, hlo, hB, hr, hY, e⟩ hm hYY hYn
  have hs := hm.size
  refine ⟨B, hlo, by omega, rowCells_mod hm hY hr, fun h => ?_, e⟩
  rcases (hYn B h).1 with h3 | h3
  · exact hY h3
  · omega
end Go.Proofs.YtdfapehonegeeaaGreat

/-
  Tables, in mathematics: keys rise; what counts at a version; what is read.
-/
namespace Go.Proofs.YtdfapehonegeeaaGreat
open Go.RowKit
set_option linter.unusedSectionVars false
variable [DecidableEq Rw] [Inhabited Rw]
set_option linter.unusedVariables false

theorem u8_cases (x y : UInt8) : x < y ∨ x = y ∨ y < x := by
  rcases Nat.lt_trichotomy x.toNat y.toNat with h | h | h
  · exact .inl (UInt8.lt_iff_toNat_lt.2 h)
  · exact .inr (.inl (UInt8.toNat_inj.1 h))
  · exact .inr (.inr (UInt8.lt_iff_toNat_lt.2 h))
theorem u8_asymm {x y : UInt8} (h : x < y) : ¬ y < x := fun k => by
  rw [UInt8.lt_iff_toNat_lt] at h k
  omega
theorem u8_trans {x y z : UInt8} (h : x < y) (k : y < z) : x < z := by
  rw [UInt8.lt_iff_toNat_lt] at h k ⊢
  omega
theorem cb_lt {x y : UInt8} {a b : List UInt8} (h : x < y) : Lib.compareBytes (x :: a) (y :: b) = -1 := by
  unfold Lib.compareBytes
  rw [if_pos h]
theorem cb_gt {x y : UInt8} {a b : List UInt8} (h : y < x) : Lib.compareBytes (x :: a) (y :: b) = 1 := by
  unfold Lib.compareBytes
  rw [if_neg (u8_asymm h), if_pos h]
theorem cb_eq {x : UInt8} {a b : List UInt8} : Lib.compareBytes (x :: a) (x :: b) = Lib.compareBytes a b := by
  conv => lhs; unfold Lib.compareBytes
  rw [if_neg (UInt8.lt_irrefl x), if_neg (UInt8.lt_irrefl x)]
theorem cb_trans : ∀ a b c : List UInt8, Lib.compareBytes a b ≤ 0 → Lib.compareBytes b c ≤ 0 → Lib.compareBytes a c ≤ 0
  | [], _, [] => fun _ _ => by simp [Lib.compareBytes]
  | [], _, _ :: _ => fun _ _ => by simp [Lib.compareBytes]
  | _ :: _, [], _ => fun h _ => by simp [Lib.compareBytes] at h
  | _ :: _, _ :: _, [] => fun _ h => by simp [Lib.compareBytes] at h
  | x :: a, y :: b, z :: c => fun h k => by
    rcases u8_cases x y with h1 | rfl | h1
    · rcases u8_cases y z with k1 | rfl | k1
      · rw [cb_lt (u8_trans h1 k1)]
        omega
      · rw [cb_lt h1]
        omega
      · rw [cb_gt k1] at k
        omega
    · rcases u8_cases x z with k1 | rfl | k1
      · rw [cb_lt k1]
        omega
      · rw [cb_eq] at h k ⊢
        exact cb_trans a b c h k
      · rw [cb_gt k1] at k
        omega
    · rw [cb_gt h1] at h
      omega
theorem cb_anti : ∀ a b : List UInt8, Lib.compareBytes a b ≤ 0 → Lib.compareBytes b a ≤ 0 → a = b
  | [], [] => fun _ _ => rfl
  | [], _ :: _ => fun _ h => by simp [Lib.compareBytes] at h
  | _ :: _, [] => fun h _ => by simp [Lib.compareBytes] at h
  | x :: a, y :: b => fun h k => by
    rcases u8_cases x y with h1 | rfl | h1
    · rw [cb_gt h1] at k
      omega
    · rw [cb_eq] at h k
      rw [cb_anti a b h k]
    · rw [cb_gt h1] at h
      omega
def kle (a b : ByteArray) : Prop := cmpB a b ≤ 0
theorem kle_trans {a b c : ByteArray} (h : kle a b) (k : kle b c) : kle a c := cb_trans _ _ _ h k
theorem kle_anti {a b : ByteArray} (h : kle a b) (k : kle b a) : a = b := by
  have e := cb_anti _ _ h k
  exact (cmpB_zero a b).1 ((compareBytes_zero _ _).2 e)
theorem kle_ahead {a b : Rw} (h : ahead a b = true) : kle a.key b.key := by
  unfold ahead cmpR orI at h
  unfold kle
  simp only [decide_eq_true_eq] at h
  split at h <;> omega
theorem tabAt_zero {xs : List Rw} {j : Nat} (h : tabAt xs j = 0) : rowFault (xs.getD j default) = 0 ∧ (0 < j → ahead (xs.getD (j - 1) default) (xs.getD j default) = true) := by
  unfold tabAt at h
  split at h
  · rename_i h1
    exact absurd h h1
  · rename_i h1
    refine ⟨by simpa using h1, fun hj => ?_⟩
    split at h
    · omega
    · rename_i h2
      cases ha : ahead (xs.getD (j - 1) default) (xs.getD j default)
      · exact absurd ⟨hj, ha⟩ h2
      · rfl
theorem rowFault_zero {x : Rw} (h : rowFault x = 0) : 1 ≤ x.key.size ∧ 1 ≤ x.ver ∧ x.ver ≤ 1000000 := by
  unfold rowFault at h
  split at h
  · omega
  · rename_i h1
    split at h
    · omega
    · split at h
      · rename_i h3
        unfold inR at h3
        simp at h3
        omega
      · omega
end Go.Proofs.YtdfapehonegeeaaGreat

/-
  A region that draws its order and ends in one store (number t): what is asked of the world (S) need not hold behind that store.
-/
namespace Go.Proofs.YtdfapehonegeeaaGreat
open Go.RowKit

section
variable {P : Program} {ops : Array Oper} {Q : Exit → Act → World → Prop} {md : Region.Mode} {S : World → Prop} {t : Nat}

def wpUpto (P : Program) (md : Region.Mode) (ops : Array Oper) (Q : Exit → Act → World → Prop) (S : World → Prop) (t : Nat) : Nat → Array Bool → Act → World → Prop
  | 0, listed, a, w => Region.ready md ops listed = [] ∧ Q .normal a w
  | f + 1, listed, a, w => (Region.ready md ops listed = [] → Q .normal a w) ∧ ∀ i ∈ Region.ready md ops listed, wpOp P ops Q i (fun a' w' => (i ≠ t → S w') ∧ wpUpto P md ops Q S t f (listed.setIfInBounds i true) a' w') a w
theorem upto_any : ∀ (f : Nat) (listed : Array Bool) (a : Act) (w : World), wpUpto P md ops Q S t f listed a w → wpAny P md ops Q f listed a w
  | 0, _, _, _, h => h
  | f + 1, _, _, _, h => ⟨h.1, fun i hi => wpOp_mono (fun _ _ h' => upto_any f _ _ _ h'.2) (h.2 i hi)⟩
def waitsFor (md : Region.Mode) (ops : Array Oper) (t i : Nat) : Bool :=
  match ops[t]? with
  | some o => o.after.any (fun e => Region.binds md e && e.on == i)
  | none => false
theorem upto_first {i : Nat} {oi : Oper} {v : Value} (hi : ops[i]? = some oi) (hsel : Region.noSelect ops = true) (hw : waitsFor md ops t i = true)
    (hQ : ∀ c a w, Q (.panic c) (a.put oi.dst v) w → Q (.panic c) a w) :
    ∀ (f : Nat) (listed : Array Bool) (a : Act) (w : World),
      (∀ j oj, ops[j]? = some oj → j ≠ i → listed.getD j true = false → (∀ e ∈ oj.after, Region.binds md e = true → e.on ≠ i) → oi.apart ops oj = true) →
      i ∈ Region.ready md ops listed → YieldsIf P ops S oi v a → S w →
      wpUpto P md ops Q S t f (listed.setIfInBounds i true) (a.put oi.dst v) w → wpUpto P md ops Q S t (f + 1) listed a w := by
  intro f
  induction f with
  | zero =>
    intro listed a w _ hr hy hS H
    refine ⟨fun h => (by rw [h] at hr; cases hr), fun j hj => ?_⟩
    by_cases hji : j = i
    · subst hji
      exact hy.wpOp hi hS ⟨fun _ => hS, H⟩
    · have hm := ready_mono hj hji
      rw [H.1] at hm
      cases hm
  | succ f ih =>
    intro listed a w hfree hr hy hS H
    refine ⟨fun h => (by rw [h] at hr; cases hr), fun j hj => ?_⟩
    by_cases hji : j = i
    · subst hji
      exact hy.wpOp hi hS ⟨fun _ => hS, H⟩
    · obtain ⟨hjun, oj, hoj, hall⟩ := mem_ready.1 hj
      have hun := (mem_ready.1 hr).1
      have hnl : ¬ listed.getD i false = true := by
        intro h1
        rcases Nat.lt_or_ge i listed.size with h' | h'
        · simp [h'] at hun h1
          rw [hun] at h1
          cases h1
        · simp [Array.getElem?_eq_none h'] at h1
      have hnot : ∀ e ∈ oj.after, Region.binds md e = true → e.on ≠ i := fun e he hb heq => hnl (by rw [← heq]; exact hall e he hb)
      have hjt : j ≠ t := by
        rintro rfl
        unfold waitsFor at hw
        rw [hoj] at hw
        obtain ⟨e, he, hb⟩ := Array.any_eq_true'.1 hw
        simp only [Bool.and_eq_true, beq_iff_eq] at hb
        exact hnot e he hb.1 hb.2
      have h1 := H.2 j (ready_mono hj hji)
      have h2 := wpOp_putIf hoj (hfree j oj hoj hji hjun hnot) (fun cs b => Region.noSelect_spec hsel i oi cs b hi) (fun cs b => Region.noSelect_spec hsel j oj cs b hoj) hQ hy h1
      refine wpOp_mono (fun a' w' h3 => ⟨h3.2.1, ih (listed.setIfInBounds j true) a' w' ?_ (ready_mono hr (Ne.symm hji)) h3.1 (h3.2.1 hjt) ?_⟩) h2
      · intro k ok hk hki hunk hno
        refine hfree k ok hk hki ?_ hno
        by_cases hjk : j = k
        · subst hjk; exact hjun
        · rw [getD_set_ne true hjk] at hunk; exact hunk
      · rw [Array.setIfInBounds_comm _ _ hji]
        exact h3.2.2
theorem upto_take {i : Nat} {oi : Oper} {v : Value} {f : Nat} {listed : Array Bool} {a : Act} {w : World} (hi : ops[i]? = some oi) (hsel : Region.noSelect ops = true) (hw : waitsFor md ops t i = true)
    (hf : Region.free md ops listed i = true) (hr : (Region.ready md ops listed).contains i = true) (hQ : ∀ c a w, Q (.panic c) (a.put oi.dst v) w → Q (.panic c) a w)
    (hwd : Region.wanted oi (yielded ops a.tmps) = true) (hS : S w) (hy : ∀ w, S w → (execOp a.eval oi).run P w = .ok (.value v) w)
    (h : wpUpto P md ops Q S t f (listed.setIfInBounds i true) (a.put oi.dst v) w) : wpUpto P md ops Q S t (f + 1) listed a w :=
  upto_first hi hsel hw hQ f listed a w (Region.free_spec hi hf) (by simpa using hr) (Or.inl ⟨hwd, hy⟩) hS h
theorem upto_step {i : Nat} {o : Oper} {f : Nat} {listed : Array Bool} {a : Act} {w : World} (hr : Region.ready md ops listed = [i]) (hi : ops[i]? = some o)
    (h : ∀ K : Act → World → Prop, (∀ a' w', (i ≠ t → S w') → wpUpto P md ops Q S t f (listed.setIfInBounds i true) a' w' → K a' w') → if Region.wanted o (yielded ops a.tmps) = true then Oper.wp P o a w K Q else K (a.put o.dst undef) w) :
    wpUpto P md ops Q S t (f + 1) listed a w := by
  refine ⟨fun h0 => (by rw [hr] at h0; cases h0), fun j hj => ?_⟩
  rw [hr] at hj
  have e : j = i := by simpa using hj
  subst e
  have h1 := h (fun a' w' => (j ≠ t → S w') ∧ wpUpto P md ops Q S t f (listed.setIfInBounds j true) a' w') (fun _ _ p q => ⟨p, q⟩)
  unfold wpOp
  simp only [hi]
  split
  · rename_i hw
    rw [if_pos hw] at h1
    exact .inl h1
  · rename_i hw
    rw [if_neg hw] at h1
    exact h1
theorem upto_done {listed : Array Bool} {a : Act} {w : World} {f : Nat} (hr : Region.ready md ops listed = []) (h : Q .normal a w) : wpUpto P md ops Q S t f listed a w := by
  cases f with
  | zero => exact ⟨hr, h⟩
  | succ f => exact ⟨fun _ => h, by rw [hr]; simp⟩
theorem region_upto {id : Nat} {a : Act} {w : World} (S : World → Prop) (t : Nat) (hm : P.follows .mixedOrders = true) (hS : S w.drew) (h : S w.drew → wpUpto P .any ops Q S t ops.size (Array.replicate ops.size false) a w.drew) : (Code.region id ops true).wp P Q a w :=
  wp_region_any hm (upto_any _ _ _ _ (h hS))
end

end Go.Proofs.YtdfapehonegeeaaGreat


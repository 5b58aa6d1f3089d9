import Derived.Test.YtdfapehonegeeaaBndUnpackWritesLaw16
import Derived.Test.YtdfapehonegeeaaBndUnpackWritesLaw8
import Derived.Test.YtdfapehonegeeaaBndUnpackWritesLaw5
import Derived.Test.YtdfapehonegeeaaBndUnpackWritesLaw3
import Derived.Test.YtdfapehonegeeaaBndUnpackWritesLaw9
import Derived.Maps.OwnIn
import Derived.Maps.AppendAt

/-
  Tables, in mathematics: keys rise; what counts at a version; what is read.
-/
namespace Go.Proofs.Ytdfapehonegeeaa
open Go.RowKit
set_option linter.unusedSectionVars false
variable [DecidableEq Rw] [Inhabited Rw]
set_option linter.unusedVariables false

theorem u8_cases (x y : UInt8) : x < y ∨ x = y ∨ y < x := by
  rcases Nat.lt_trichotomy x.toNat y.toNat with h | h | h
  · exact .inl (UInt8.lt_iff_toNat_lt.2 h)
  · exact .inr (.inl (UInt8.toNat_inj.1 h))
  · exact .inr (.inr (UInt8.lt_iff_toNat_lt.2 h))
theorem u8_asymm {x y : UInt8} (h : x < y) : ¬ y < x := fun k => by
  rw [UInt8.lt_iff_toNat_lt] at h k
  omega
theorem u8_trans {x y z : UInt8} (h : x < y) (k : y < z) : x < z := by
  rw [UInt8.lt_iff_toNat_lt] at h k ⊢
  omega
theorem cb_lt {x y : UInt8} {a b : List UInt8} (h : x < y) : Lib.compareBytes (x :: a) (y :: b) = -1 := by
  unfold Lib.compareBytes
  rw [if_pos h]
theorem cb_gt {x y : UInt8} {a b : List UInt8} (h : y < x) : Lib.compareBytes (x :: a) (y :: b) = 1 := by
  unfold Lib.compareBytes
  rw [if_neg (u8_asymm h), if_pos h]
theorem cb_eq {x : UInt8} {a b : List UInt8} : Lib.compareBytes (x :: a) (x :: b) = Lib.compareBytes a b := by
  conv => lhs; unfold Lib.compareBytes
  rw [if_neg (UInt8.lt_irrefl x), if_neg (UInt8.lt_irrefl x)]
theorem cb_trans : ∀ a b c : List UInt8, Lib.compareBytes a b ≤ 0 → Lib.compareBytes b c ≤ 0 → Lib.compareBytes a c ≤ 0
  | [], _, [] => fun _ _ => by simp [Lib.compareBytes]
  | [], _, _ :: _ => fun _ _ => by simp [Lib.compareBytes]
  | _ :: _, [], _ => fun h _ => by simp [Lib.compareBytes] at h
  | _ :: _, _ :: _, [] => fun _ h => by simp [Lib.compareBytes] at h
  | x :: a, y :: b, z :: c => fun h k => by
    rcases u8_cases x y with h1 | rfl | h1
    · rcases u8_cases y z with k1 | rfl | k1
      · rw [cb_lt (u8_trans h1 k1)]
        omega
      · rw [cb_lt h1]
        omega
      · rw [cb_gt k1] at k
        omega
    · rcases u8_cases x z with k1 | rfl | k1
      · rw [cb_lt k1]
        omega
      · rw [cb_eq] at h k ⊢
        exact cb_trans a b c h k
      · rw [cb_gt k1] at k
        omega
    · rw [cb_gt h1] at h
      omega
theorem cb_anti : ∀ a b : List UInt8, Lib.compareBytes a b ≤ 0 → Lib.compareBytes b a ≤ 0 → a = b
  | [], [] => fun _ _ => rfl
  | [], _ :: _ => fun _ h => by simp [Lib.compareBytes] at h
  | _ :: _, [] => fun h _ => by simp [Lib.compareBytes] at h
  | x :: a, y :: b => fun h k => by
    rcases u8_cases x y with h1 | rfl | h1
    · rw [cb_gt h1] at k
      omega
    · rw [cb_eq] at h k
      rw [cb_anti a b h k]
    · rw [cb_gt h1] at h
      omega
theorem cb_refl (a : List UInt8) : Lib.compareBytes a a = 0 := (compareBytes_zero a a).2 rfl

/-- not behind -/
def kle (a b : ByteArray) : Prop := cmpB a b ≤ 0
theorem kle_trans {a b c : ByteArray} (h : kle a b) (k : kle b c) : kle a c := cb_trans _ _ _ h k
theorem kle_anti {a b : ByteArray} (h : kle a b) (k : kle b a) : a = b := by
  have e := cb_anti _ _ h k
  exact (cmpB_zero a b).1 ((compareBytes_zero _ _).2 e)
theorem kle_refl (a : ByteArray) : kle a a := by unfold kle; rw [(cmpB_zero a a).2 rfl]; omega
theorem kle_nil (b : ByteArray) : kle ⟨#[]⟩ b := by
  unfold kle cmpB
  obtain ⟨⟨l⟩⟩ := b
  cases l <;> simp [Lib.compareBytes]
theorem kle_ahead {a b : Rw} (h : ahead a b = true) : kle a.key b.key := by
  unfold ahead cmpR orI at h
  unfold kle
  simp only [decide_eq_true_eq] at h
  split at h <;> omega

/-- what a table without a fault is -/
structure Sorted (xs : List Rw) : Prop where
  rise : xs.Pairwise (fun a b => kle a.key b.key)
  full : ∀ x ∈ xs, x.key ≠ ⟨#[]⟩
  vers : ∀ x ∈ xs, 1 ≤ x.ver ∧ x.ver ≤ 1000000

theorem tabAt_zero {xs : List Rw} {j : Nat} (h : tabAt xs j = 0) : rowFault (xs.getD j default) = 0 ∧ (0 < j → ahead (xs.getD (j - 1) default) (xs.getD j default) = true) := by
  unfold tabAt at h
  split at h
  · rename_i h1
    exact absurd h h1
  · rename_i h1
    refine ⟨by simpa using h1, fun hj => ?_⟩
    split at h
    · omega
    · rename_i h2
      cases ha : ahead (xs.getD (j - 1) default) (xs.getD j default)
      · exact absurd ⟨hj, ha⟩ h2
      · rfl
theorem rowFault_zero {x : Rw} (h : rowFault x = 0) : 1 ≤ x.key.size ∧ 1 ≤ x.ver ∧ x.ver ≤ 1000000 := by
  unfold rowFault at h
  split at h
  · omega
  · rename_i h1
    split at h
    · omega
    · split at h
      · rename_i h3
        unfold inR at h3
        simp at h3
        omega
      · omega
theorem sorted_of {xs : List Rw} (h : tabF xs = 0) : Sorted xs := by
  obtain ⟨hn, hat⟩ := tabF_all h
  have hmem : ∀ x ∈ xs, rowFault x = 0 := by
    intro x hx
    obtain ⟨i, hi, rfl⟩ := List.mem_iff_getElem.1 hx
    have := (tabAt_zero (hat i hi)).1
    simpa [List.getD, hi] using this
  refine ⟨?_, fun x hx e => ?_, fun x hx => (rowFault_zero (hmem x hx)).2⟩
  · rw [List.pairwise_iff_getElem]
    have key : ∀ d i, (hd : i + d + 1 < xs.length) → kle (xs.getD i default).key (xs.getD (i + d + 1) default).key := by
      intro d
      induction d with
      | zero =>
        intro i hd
        have := (tabAt_zero (hat (i + 1) (by omega))).2 (by omega)
        exact kle_ahead this
      | succ d ih =>
        intro i hd
        have h1 := ih i (by omega)
        have h2 := (tabAt_zero (hat (i + (d + 1) + 1) (by omega))).2 (by omega)
        exact kle_trans h1 (kle_ahead h2)
    intro i j hi hj hij
    have := key (j - i - 1) i (by omega)
    rw [show i + (j - i - 1) + 1 = j by omega] at this
    simpa [List.getD, hi, hj] using this
  · have := (rowFault_zero (hmem x hx)).1
    rw [e] at this
    simp [ByteArray.size] at this

/-- what counts, from the front on -/
def lastG (v : Int) : ByteArray → List Rw → List Rw
  | _, [] => []
  | t, x :: r => if v < x.ver ∨ x.key = t then lastG v t r else x :: lastG v x.key r
theorem foldl_lastG (v : Int) : ∀ (xs : List Rw) (t : ByteArray) (out : List Rw), (xs.foldl (stepL v) (t, out)).2 = out ++ lastG v t xs
  | [], t, out => by simp [lastG]
  | x :: r, t, out => by
    rw [List.foldl_cons]
    by_cases h : v < x.ver ∨ x.key = t
    · have e : stepL v (t, out) x = (t, out) := by unfold stepL; rw [if_pos h]
      rw [e, foldl_lastG v r t out]
      conv => rhs; unfold lastG
      rw [if_pos h]
    · have e : stepL v (t, out) x = (x.key, out ++ [x]) := by unfold stepL; rw [if_neg h]
      rw [e, foldl_lastG v r x.key (out ++ [x])]
      conv => rhs; unfold lastG
      rw [if_neg h]
      simp
theorem lastL_eq (v : Int) (xs : List Rw) : lastL v xs = lastG v ⟨#[]⟩ xs := by
  unfold lastL lastS
  rw [foldl_lastG]
  rfl
theorem lastG_mem {v : Int} : ∀ {xs : List Rw} {t : ByteArray} {y : Rw}, y ∈ lastG v t xs → y ∈ xs ∧ y.ver ≤ v
  | [], _, _, h => by simp [lastG] at h
  | x :: r, t, y, h => by
    unfold lastG at h
    split at h
    · have := lastG_mem h
      exact ⟨List.mem_cons_of_mem _ this.1, this.2⟩
    · rename_i h1
      rcases List.mem_cons.1 h with rfl | h
      · exact ⟨List.mem_cons_self .., by omega⟩
      · have := lastG_mem h
        exact ⟨List.mem_cons_of_mem _ this.1, this.2⟩
theorem lastG_ne {v : Int} : ∀ {xs : List Rw} {t : ByteArray}, xs.Pairwise (fun a b => kle a.key b.key) → (∀ x ∈ xs, kle t x.key) → ∀ y ∈ lastG v t xs, y.key ≠ t
  | [], _, _, _, _, h => by simp [lastG] at h
  | x :: r, t, hp, ht, y, h => by
    rw [List.pairwise_cons] at hp
    unfold lastG at h
    split at h
    · exact lastG_ne hp.2 (fun z hz => ht z (List.mem_cons_of_mem _ hz)) y h
    · rename_i h1
      rcases List.mem_cons.1 h with rfl | h
      · exact fun e => h1 (.inr e)
      · have h2 := lastG_ne hp.2 (fun z hz => hp.1 z hz) y h
        intro e
        have h3 := hp.1 y (lastG_mem h).1
        rw [e] at h3
        exact h1 (.inr (kle_anti h3 (ht x (List.mem_cons_self ..))))
theorem lastG_apart {v : Int} : ∀ {xs : List Rw} {t : ByteArray}, xs.Pairwise (fun a b => kle a.key b.key) → (lastG v t xs).Pairwise (fun a b => a.key ≠ b.key)
  | [], _, _ => by simp [lastG]
  | x :: r, t, hp => by
    rw [List.pairwise_cons] at hp
    unfold lastG
    split
    · exact lastG_apart hp.2
    · rw [List.pairwise_cons]
      exact ⟨fun y hy e => lastG_ne hp.2 (fun z hz => hp.1 z hz) y hy e.symm, lastG_apart hp.2⟩

/-- the row that is read -/
def getAt (xs : List Rw) (k : ByteArray) (v : Int) : Option Rw := xs.find? (fun r => decide (r.key = k ∧ r.ver ≤ v))
theorem lastG_find {v : Int} {k : ByteArray} : ∀ {xs : List Rw} {t : ByteArray}, t ≠ k → (lastG v t xs).find? (fun r => decide (r.key = k)) = getAt xs k v
  | [], _, _ => by simp [lastG, getAt]
  | x :: r, t, ht => by
    unfold lastG getAt
    by_cases h1 : v < x.ver ∨ x.key = t
    · rw [if_pos h1, List.find?_cons_of_neg, lastG_find ht]
      · rfl
      · simp only [decide_eq_true_eq]
        rintro ⟨h2, h3⟩
        rcases h1 with h1 | h1
        · omega
        · exact ht (h1.symm.trans h2)
    · rw [if_neg h1]
      by_cases h2 : x.key = k
      · rw [List.find?_cons_of_pos (by simp [h2]), List.find?_cons_of_pos (by simp [h2]; omega)]
      · rw [List.find?_cons_of_neg (by simp [h2]), List.find?_cons_of_neg (by simp [h2]), lastG_find h2]
        rfl
theorem living_find {k : ByteArray} : ∀ {L : List Rw}, L.Pairwise (fun a b => a.key ≠ b.key) → (living L).find? (fun r => decide (r.key = k)) = (L.find? (fun r => decide (r.key = k))).filter (fun r => !r.gone)
  | [], _ => rfl
  | x :: L, hp => by
    rw [List.pairwise_cons] at hp
    unfold living
    by_cases h : x.key = k
    · rw [List.find?_cons_of_pos (by simp [h])]
      cases hg : x.gone
      · rw [List.filter_cons_of_pos (by simp [hg]), List.find?_cons_of_pos (by simp [h])]
        simp [Option.filter, hg]
      · rw [List.filter_cons_of_neg (by simp [hg])]
        simp only [Option.filter, hg]
        rw [List.find?_eq_none.2]
        · rfl
        · intro y hy
          have := hp.1 y (List.mem_filter.1 hy).1
          simp only [decide_eq_true_eq]
          exact fun e => this (h.trans e.symm)
    · rw [List.find?_cons_of_neg (by simp [h])]
      rw [← living_find hp.2]
      cases hg : x.gone
      · rw [List.filter_cons_of_pos (by simp [hg]), List.find?_cons_of_neg (by simp [h])]
        rfl
      · rw [List.filter_cons_of_neg (by simp [hg])]
        rfl
theorem living_last {xs : List Rw} (hs : Sorted xs) (v : Int) (k : ByteArray) : (living (lastL v xs)).find? (fun r => decide (r.key = k)) = (getAt xs k v).filter (fun r => !r.gone) := by
  rw [lastL_eq, living_find (lastG_apart hs.rise)]
  by_cases hk : (⟨#[]⟩ : ByteArray) = k
  · have e1 : (lastG v ⟨#[]⟩ xs).find? (fun r => decide (r.key = k)) = none := by
      rw [List.find?_eq_none]
      intro y hy
      have := hs.full y (lastG_mem hy).1
      simp only [decide_eq_true_eq]
      exact fun e => this (e.trans hk.symm)
    have e2 : getAt xs k v = none := by
      unfold getAt
      rw [List.find?_eq_none]
      intro y hy
      have := hs.full y hy
      simp only [decide_eq_true_eq]
      exact fun e => this (e.1.trans hk.symm)
    rw [e1, e2]
  · rw [lastG_find hk]

end Go.Proofs.Ytdfapehonegeeaa

/-
  One row more behind rows, in a region that draws its order.
-/
namespace Go.Proofs.Ytdfapehonegeeaa
open Go.RowKit
set_option linter.unusedSectionVars false
variable [DecidableEq Rw] [Inhabited Rw] [DecidableEq TabR] [Inhabited TabR]
set_option linter.unusedVariables false
set_option linter.unusedSimpArgs false
attribute [local go_sem ↓] Go.wp_at_zero Go.wp_at_succ

theorem rwsC_snoc (xs : List Rw) (l : Rw) : rwsC (xs ++ [l]) = rwsC xs ++ rowC l := by simp [rwsC]
theorem rowC_one (l : Rw) : ∀ u ∈ rowC l, u.oneCell' = true := by
  intro u hu
  simp only [rowC, List.mem_cons, List.not_mem_nil, or_false] at hu
  rcases hu with rfl | rfl | rfl | rfl <;> rfl
theorem rowC_cells {w : World} {b o : Nat} {l : Rw} (h : rowCells w b o l) : ∀ j u, (rowC l)[j]? = some u → w.cell? ((⟨b, o, none⟩ : Addr).add j) = some u := by
  obtain ⟨h0, h1, h2, h3⟩ := h
  intro j u hj
  match j, hj with
  | 0, hj => simp [rowC] at hj; subst hj; simpa [Addr.add] using h0
  | 1, hj => simp [rowC] at hj; subst hj; simpa [Addr.add] using h1
  | 2, hj => simp [rowC] at hj; subst hj; simpa [Addr.add] using h2
  | 3, hj => simp [rowC] at hj; subst hj; simpa [Addr.add] using h3
  | j + 4, hj => simp [rowC] at hj

theorem step_pushRow (Y : World) {ops : Array Oper} {o : Oper} {a : Act} {K : Act → World → Prop} {Q : Exit → Act → World → Prop} {E : Prop} (hgd : o.guard = none) (s x : Operand)
    (ho : o.op = .call { callee := .builtin .append, args := #[s, x], argTypes := #[26, 26] })
    (base : Nat) (v : Value) (out : List Rw) (hs : a.eval s = v) (l : Rw) (u : Value) (hx : a.eval x = u) (hown : Y.ownsRow base 32 4 v out.length (rwsC out)) (hsrc : AppAny Y u 1 (rowC l)) (hlen : out.length ≤ 1048576) (hbase : base ≤ Y.heap.size)
    (h : ∀ v' w', w'.ownsRow base 32 4 v' (out ++ [l]).length (rwsC (out ++ [l])) → Y.grownBy w' v.ownBlock → (∀ W : World, Below base W Y → Below base W w') → K (a.put o.dst v') w') :
    if Region.wanted o (yielded ops a.tmps) = true then Oper.wp Try.prog o a Y K Q else E := by
  obtain ⟨i0, hi, hz0, hz1, hz2⟩ := info_parts infoRw
  refine step_appAny Y hgd s x 26 ho base 32 i0 _ 4 48 Try.underlying26 hi hz0 hz1 hz2 rfl (by decide) v out.length (rwsC out) hs u 1 (rowC l) hx hown hsrc rfl (rowC_one l) (by unfold maxLen; omega) (by omega) hbase ?_
  intro v' w' h1 h2 h3
  refine h v' w' ?_ h2 h3
  rw [List.length_append, rwsC_snoc]
  exact h1

theorem tabRR_nil (w : World) (base : Nat) (c : Int) : ∃ F, tabRR.O w base F (.agg #[.int .i64 c, .slice none 0 0]) ⟨c, []⟩ :=
  ⟨_, _, _, rfl, ⟨⟨World.ownsRow_nil _ _ _ _, rfl⟩, fun i hi => by simp at hi⟩, fun _ => Iff.rfl⟩
theorem tabRR_of {w : World} {base : Nat} {v : Value} {c : Int} {ys : List Rw} (h : w.ownsRow base 32 4 v ys.length (rwsC ys)) (hf : Fit ys) : ∃ F, tabRR.O w base F (.agg #[.int .i64 c, v]) ⟨c, ys⟩ :=
  ⟨_, _, _, rfl, ⟨⟨h, rfl⟩, hf⟩, fun _ => Iff.rfl⟩

end Go.Proofs.Ytdfapehonegeeaa

/-
  slices.Collect and slices.AppendSeq over iterators of rows.
-/
namespace Go.Proofs.Ytdfapehonegeeaa
open Go.RowKit Go.Shelf
set_option linter.unusedSectionVars false
variable [DecidableEq Rw] [Inhabited Rw] [DecidableEq TabR] [Inhabited TabR]
set_option linter.unusedVariables false
set_option linter.unusedSimpArgs false
attribute [local go_sem] Oper.semAt_some
attribute [local go_sem] run_store_func

/-- a list that is gathered in the box T, its memory from L0 on -/
def CltC (C : List Value) (k T L0 : Nat) (w W : World) (Y : Nat → Prop) (v : Value) : Prop :=
  W.cell? ⟨T, 0, none⟩ = some v ∧ W.ownsRow L0 32 4 v k C ∧ (∀ b, v.ownBlock = some b → ¬ Y b) ∧ (∀ b, b ≤ T → ¬ Y b) ∧ L0 ≤ W.heap.size ∧ W.frozen? ⟨T, 0, none⟩ = false ∧ Below T w W
theorem CltC_mod {C : List Value} {k T L0 : Nat} {w W W' : World} {Y Y' F : Nat → Prop} {v : Value} (hTL : T < L0) (h : CltC C k T L0 w W Y v) (hm : Mod F W W') (hF : ∀ b, b ≤ T → ¬ F b) (hFv : ∀ b, v.ownBlock = some b → ¬ F b)
    (hY : ∀ b, b ≤ T → ¬ Y' b) (hYv : ∀ b, v.ownBlock = some b → ¬ Y' b) : CltC C k T L0 w W' Y' v := by
  obtain ⟨h1, h2, h3, h4, h5, h9, h10⟩ := h
  have hs := hm.size
  refine ⟨hm.cell h1 (hF _ (Nat.le_refl _)), hm.owns h2 hFv, hYv, hY, by omega, (hm.frozen (a := ⟨T, 0, none⟩) (by dsimp only; omega) (hF _ (by dsimp only; omega))).trans h9, ?_⟩
  exact ⟨hm.os.trans h10.os, hm.tape.trans h10.tape, hm.output.trans h10.output, Nat.le_trans h10.size hs, fun b hb => (hm.block b (by omega) (hF b (by omega))).trans (h10.block b hb)⟩
def CltI (T L0 : Nat) (w : World) (pre : List Rw) (W : World) (Y : Nat → Prop) : Prop := ∃ v, CltC (rwsC pre) pre.length T L0 w W Y v
theorem CltI_stb {T L0 : Nat} {w : World} (hTL : T < L0) : Stb (CltI T L0 w) := by
  rintro pre W W' Y Y' ⟨v, h⟩ hm hYY hYn
  have h' := h
  obtain ⟨h1, h2, h3, h4, h5, h9, h10⟩ := h'
  refine ⟨v, CltC_mod hTL h hm h4 h3 (fun b hb h2 => ?_) (fun b hb hy => ?_)⟩
  · rcases (hYn b h2).1 with h3 | h3
    · exact h4 b hb h3
    · omega
  · rcases (hYn b hy).1 with h | h
    · exact h3 b hb h
    · have := (h2.lt b hb).2
      omega
theorem CltC_mid {C : List Value} {k T L0 : Nat} {w W w5 : World} {Y : Nat → Prop} {v : Value} {o : Obj} (hTL : T < L0) (h : CltC C k T L0 w W Y v) (hg : (W.alloc o).grownBy w5 v.ownBlock) :
    w5.cell? ⟨T, 0, none⟩ = some v ∧ w5.frozen? ⟨T, 0, none⟩ = false ∧ Mod (fun b => v.ownBlock = some b) W w5 := by
  obtain ⟨h1, h2, h3, h4, h5, h9, h10⟩ := h
  have hm : Mod (fun b => v.ownBlock = some b) W w5 := (mod_alloc _ W o).trans (Mod.of_grown hg)
  have hn : ¬ v.ownBlock = some T := fun e => by have := (h2.lt T e).1; omega
  exact ⟨hm.cell h1 hn, (hm.frozen (a := ⟨T, 0, none⟩) (by dsimp only; omega) hn).trans h9, hm⟩
theorem CltC_app {C news : List Value} {k m T L0 : Nat} {w W w5 : World} {Y : Nat → Prop} {v v' : Value} {o : Obj} (hTL : T < L0) (h : CltC C k T L0 w W Y v) (hg : (W.alloc o).grownBy w5 v.ownBlock)
    (ho : w5.ownsRow L0 32 4 v' (k + m) (C ++ news)) (hv : v'.ownBlock = v.ownBlock ∨ v'.ownBlock = some (W.alloc o).heap.size) (hYa : ∀ b, Y b → b < W.heap.size) :
    CltC (C ++ news) (k + m) T L0 w (w5.setCell ⟨T, 0, none⟩ v') Y v' ∧ Mod (fun b => b = T ∨ v.ownBlock = some b) W (w5.setCell ⟨T, 0, none⟩ v') := by
  obtain ⟨c1, c2, hm⟩ := CltC_mid hTL h hg
  obtain ⟨h1, h2, h3, h4, h5, h9, h10⟩ := h
  have hset : Mod (fun b => b = T) w5 (w5.setCell ⟨T, 0, none⟩ v') := Mod.of_set w5 ⟨T, 0, none⟩ v'
  have hM : Mod (fun b => b = T ∨ v.ownBlock = some b) W (w5.setCell ⟨T, 0, none⟩ v') := (hm.mono (fun b h => .inr h)).trans (hset.mono (fun b h => .inl h))
  have hlow : ∀ b, b < T → ¬ (b = T ∨ v.ownBlock = some b) := by
    rintro b hb (h | h)
    · omega
    · have := (h2.lt b h).1
      omega
  have hs := hM.size
  refine ⟨⟨set_same c1, owns_setCell ho (by dsimp only; exact hTL) _, fun b hb hy => ?_, h4, by omega, by rw [World.frozen?_setCell]; exact c2,
    ⟨hM.os.trans h10.os, hM.tape.trans h10.tape, hM.output.trans h10.output, Nat.le_trans h10.size hs, fun b hb => (hM.block b (by omega) (hlow b (by omega))).trans (h10.block b hb)⟩⟩, hM⟩
  rcases hv with hv | hv
  · rw [hv] at hb
    exact h3 b hb hy
  · rw [hv] at hb
    cases hb
    have := hYa _ hy
    simp at this
    omega
def NoR (c : Code) (pre : List Rw) (W : World) (Y : Nat → Prop) : Prop := False
theorem NoR_stb (c : Code) : Stb (NoR c) := fun _ _ _ _ _ h _ _ _ => h

theorem seqx_mod {α : Type} {P : Program} {g : Nat} {lb : Array Value} {enc : α → Value} {xs : List α} {R : Nat → Prop} {w w' : World} (h : Seqx P g lb enc xs R w) (hm : Mod (fun k => ¬ R k) w w') : Seqx P g lb enc xs R w' :=
  fun l J Jx W X h1 h2 h3 h4 h5 h6 => h l J Jx W X (hm.trans h1) h2 h3 h4 h5 h6

set_option maxRecDepth 100000 in
set_option maxHeartbeats 4000000 in
theorem appendSeq_any (gf : Nat) (lb : Array Value) (xs : List Rw) (R : Nat → Prop) (w : World) (eg : ∀ args w, (callFunc gf args).run Try.prog w = .ok (.enter gf args) w) (hseq : Seqx Try.prog gf lb rowV xs R w) (hR : ∀ b, R b → b < w.heap.size) (hlen : xs.length ≤ 200) :
    Calls Try.prog 117 #[.slice none 0 0, .func (.func gf) #[] lb] w fun e w' => ∃ v, e = .returned v ∧ w'.ownsRow w.heap.size 32 4 v xs.length (rwsC xs) ∧ Below w.heap.size w w' := by
  obtain ⟨i0, hi, hz0, hz1, hz2⟩ := info_parts infoRw
  refine (callsIn_wide (n := 0)).1 ?_
  refine callsIn_of_wp_marks Try.func117 rfl trivial ?_ rfl
  simp only [Try.ntmps117, List.size_toArray, List.length_cons, List.length_nil, Nat.reduceAdd, Nat.reduceSub, Array.replicate_succ, Array.replicate_zero, List.push_toArray, List.append_toArray, List.nil_append, List.cons_append]
  gi_wp2
  have acc : CltC (rwsC []) 0 w.heap.size (w.heap.size + 1) w (w.alloc (.cells #[.slice none 0 0] 26)) (fun _ => False) (.slice none 0 0) :=
    ⟨by simp [go_sem], World.ownsRow_nil _ _ _ _, fun _ _ h => h, fun _ _ h => h, by simp, by simp [go_sem], by (repeat (first | exact Below.refl _ _ | assumption | refine Below.drew ?_ | refine balloc ?_ _ | refine bset ?_ (by simp; omega) _ | refine bset ?_ (by simp) _ | refine bstep ?_ (by assumption)))⟩
  have hseq2 := seqx_mod hseq (mod_alloc (fun k => ¬ R k) w (.cells #[.slice none 0 0] 26))
  have hRa : ∀ b, R b → b < (w.alloc (.cells #[.slice none 0 0] 26)).heap.size := fun b h => by have := hR b h; simp; omega
  have HR : Hid (∀ b, R b → b < w.heap.size) := hR
  have HLE : Hid (∀ ys, ys <+: xs → ys.length ≤ 200) := fun ys hy => Nat.le_trans hy.length_le hlen
  have hsz : (w.alloc (.cells #[.slice none 0 0] 26)).heap.size = w.heap.size + 1 := by simp
  have HSZ : Hid ((w.alloc (.cells #[.slice none 0 0] 26)).heap.size = w.heap.size + 1) := hsz
  clear hsz hR hseq
  generalize w.alloc (.cells #[.slice none 0 0] 26) = W0 at *
  obtain ⟨T, hTT⟩ : ∃ T, w.heap.size = T := ⟨_, rfl⟩
  have HTT : Hid (w.heap.size = T) := hTT
  rw [hTT] at acc HR HSZ ⊢
  clear hTT
  obtain ⟨L0, hL0⟩ : ∃ L, T + 1 = L := ⟨_, rfl⟩
  rw [hL0] at acc HSZ
  have hTL : T < L0 := by omega
  refine wp_rangeX (gf := gf) rfl eg hseq2 hRa (CltI T L0 w) NoR (CltI_stb hTL) NoR_stb (fun _ => False) (fun _ h => h.elim) ⟨_, acc⟩
    (fun x => RowBox L0 (fun B => { tmps := #[.slice none 0 0, .func (.func gf) #[] lb, .pointer (some ⟨T, 0, none⟩), undef, .slice none 0 0, .pointer (some ⟨B, 0, none⟩), .func (.func gf) #[] lb, .agg #[.string x.key, .int .i64 x.ver, .string x.val, .bool x.gone], undef, undef, undef, undef, undef], defers := [] }) x)
    (fun x a' => RowBox_stb _ _ x a') ?assign ?body ?done ?stop
  case assign =>
    rintro l2 pre x W3 Y K ⟨_, ha⟩ hYl hYa hK
    unfold rowV
    gi_wp2
    refine hK _ _ (mod_alloc _ _ _) ⟨W3.heap.size, ha.2.2.2.2.1, by simp, by unfold rowCells; simp [go_sem], fun h => ?_, rfl⟩
    have := hYa _ h
    omega
  case body =>
    rintro l2 pre x a' W3 Y hYl hYa ⟨vv, ha⟩ ⟨B, hlo, hB, hr, hYB, rfl⟩ hpre
    have hle : pre.length ≤ 200 := HLE.out pre ((List.prefix_append pre [x]).trans hpre)
    obtain ⟨r0, r1, r2, r3⟩ := hr
    simp only [Nat.zero_add] at r1 r2 r3
    have HP : Hid ((pre ++ [x]).length = pre.length + 1 ∧ rwsC (pre ++ [x]) = rwsC pre ++ rowC x) := ⟨by simp, rwsC_snoc _ _⟩
    have ha' := ha
    obtain ⟨a1, a2, a3, a4, a5, a9, a10⟩ := ha
    obtain ⟨ys, hys⟩ : ∃ ys, rwsC pre = ys := ⟨_, rfl⟩
    obtain ⟨m, hm⟩ : ∃ m, pre.length = m := ⟨_, rfl⟩
    rw [hys, hm] at a2 HP ha'
    rw [hm] at hle
    clear hys hm
    obtain ⟨av, cv, rfl⟩ := owns_form a2
    have hzT := World.block_lt_of_cell? _ _ a1
    dsimp only at hzT
    gi_wp2_with (gi_at_builtin; refine wpListIn_append_own_at _ rfl _ _ 26 rfl L0 32 i0 _ 4 48 Try.underlying26 hi hz0 hz1 hz2 rfl (by decide) _ _ _ rfl (a2.alloc _) ⟨W3.heap.size, 0, none⟩ 1 1 (rowC x) rfl rfl ?c1 (rowC_one x) ?c3 ?c4 ?c5 ?_)
    case c1 => exact rowC_cells (b := W3.heap.size) (o := 0) ⟨by simp [go_sem], by simp [go_sem], by simp [go_sem], by simp [go_sem]⟩
    case c3 => unfold maxLen; omega
    case c4 => omega
    case c5 => simp; omega
    intro v' w5 hown' hgrow _ hown
    obtain ⟨g', cap', rfl⟩ := ownsRow_succ hown'
    obtain ⟨b1, b9, _⟩ := CltC_mid hTL ha' hgrow
    obtain ⟨hnew, hM⟩ := CltC_app hTL ha' hgrow hown' (by rw [World.size_alloc]; exact hown) hYa
    gi_wp2
    refine ⟨hM.mono (fun b h => ?_), .slice (some ⟨g', 0, none⟩) (m + 1) cap', ?_⟩
    · rcases h with rfl | h
      · rintro (h2 | h2)
        · have := HR.out _ h2
          omega
        · exact a4 _ (Nat.le_refl _) h2
      · have := (a2.lt b h).1
        rintro (h2 | h2)
        · have := HR.out _ h2
          omega
        · exact a3 b h h2
    · rw [HP.out.1, HP.out.2]
      exact hnew
  case done =>
    rintro D W3 Y hD hYD ⟨vv, ha⟩ hdef
    obtain ⟨a1, a2, a3, a4, a5, a9, a10⟩ := ha
    obtain ⟨av, cv, rfl⟩ := owns_form a2
    have hsD := HSZ.out
    gi_wp2
    refine ⟨by simp, .inl ⟨_, _, rfl, run_takeDeferred hdef, ?_⟩⟩
    refine ⟨.slice av xs.length cv, by simp [results, Try.results117, go_sem], ?_⟩
    have mp : Mod (fun b => b = D) W3 (W3.putObj D (.deferred none)) := mod_put _ _ _
    have hTT := HTT.out
    rw [hTT]
    refine ⟨_, rfl, owns_base (mp.owns a2 (fun b hb e => a3 b hb (by rw [e]; exact hYD))) (by omega), ?_⟩
    exact ⟨mp.os.trans a10.os, mp.tape.trans a10.tape, mp.output.trans a10.output, Nat.le_trans a10.size mp.size, fun b hb => (mp.block b (by have := a10.size; omega) (by omega)).trans (a10.block b hb)⟩
  case stop =>
    rintro D c pre W3 Y hD hYD hpre h hdef
    exact h.elim

set_option maxHeartbeats 1000000 in
theorem collect_any (gf : Nat) (lb : Array Value) (xs : List Rw) (R : Nat → Prop) (w : World) (eg : ∀ args w, (callFunc gf args).run Try.prog w = .ok (.enter gf args) w) (hseq : Seqx Try.prog gf lb rowV xs R w) (hR : ∀ b, R b → b < w.heap.size) (hlen : xs.length ≤ 200) :
    Calls Try.prog 87 #[.func (.func gf) #[] lb] w fun e w' => ∃ v, e = .returned v ∧ w'.ownsRow w.heap.size 32 4 v xs.length (rwsC xs) ∧ Below w.heap.size w w' := by
  have hc := appendSeq_any gf lb xs R w eg hseq hR hlen
  clear eg hseq
  go_enter Try.func87, Try.ntmps87
  go_wp2_with fail
  refine hc.mono ?_
  rintro e w1 ⟨v, rfl, ho, hb⟩
  obtain ⟨av, cv, rfl⟩ := owns_form ho
  clear hc
  go_wp2
  go_ret
  exact ⟨_, rfl, ho, hb⟩

end Go.Proofs.Ytdfapehonegeeaa


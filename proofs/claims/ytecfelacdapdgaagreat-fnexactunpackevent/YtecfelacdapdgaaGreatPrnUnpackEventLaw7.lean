import Derived.Test.YtecfelacdapdgaaGreatPrnUnpackEventLaw4
import Derived.Test.YtecfelacdapdgaaGreatPrnUnpackEventLaw3
import Derived.Test.YtecfelacdapdgaaGreatPrnUnpackEventLaw2
import Derived.Test.YtecfelacdapdgaaGreatPrnUnpackEventLaw5
import Derived.Test.YtecfelacdapdgaaGreatPrnUnpackEventLaw6
import Derived.Test.YtecfelacdapdgaaGreatPrnUnpackEventLaw1
import Derived.Deep.RegionHeld3

/-
  A piece of a row of bytes.
-/
namespace Go.Proofs.YtecfelacdapdgaaGreat
open Go.RowKit

theorem addP (b o i : Nat) : (Addr.mk b o none).add i = ⟨b, o + i, none⟩ := by
  by_cases h : i = 0
  · subst h; simp [Addr.add]
  · simp [Addr.add, h]
theorem bytes_cut {w : World} {a : Option Addr} {cap : Nat} {xs : List Byte} (hx : BytesV w (.slice a xs.length cap) xs) (l h : Nat) (h1 : l ≤ h) (h2 : h ≤ xs.length) :
    BytesV w (.slice (if cap = l then a else a.map (·.add (l * 1))) (h - l) (cap - l)) ((xs.drop l).take (h - l)) := by
  obtain ⟨a', cap', e, g1, g2, g3⟩ := hx
  simp only [Value.slice.injEq, true_and] at e
  obtain ⟨rfl, rfl⟩ := e
  have hl : ((xs.drop l).take (h - l)).length = h - l := by rw [List.length_take, List.length_drop]; omega
  refine ⟨_, _, by rw [hl], by omega, by omega, fun i hi => ?_⟩
  rw [hl] at hi
  obtain ⟨b, o, rfl, hc⟩ := g3 (l + i) (by omega)
  refine ⟨b, o + l, ?_, ?_⟩
  · rw [if_neg (by omega)]
    simp only [Option.map_some, Nat.mul_one]
    rw [addP]
  · rw [show o + l + i = o + (l + i) by omega, hc]
    simp [List.getD, hi]
theorem cellsB : (sizeOf (Tryz.prog.elem 37)).run Tryz.prog = fun w => .ok 1 w := by
  have he : Tryz.prog.elem 37 = 5 := by kernel_rfl
  obtain ⟨i0, hi, hz0, hz1, hz2⟩ := info_parts infoByte
  funext w
  simp [sizeOf, typeInfo, he, hi, hz1]
theorem undB : Tryz.prog.underlying 37 = some (.slice (Tryz.prog.elem 37)) := by kernel_rfl
theorem cutB {a : Option Addr} {n cap : Nat} (l h : Int) (h0 : 0 ≤ l) (h1 : l ≤ h) (h2 : h ≤ n) (hn : n ≤ cap) :
    ∃ a' c', (∀ w : World, (Instr.sliceAt 37 (.slice a n cap) (some (.int .i64 l)) (some (.int .i64 h)) none).run Tryz.prog w = .ok (.slice a' (h - l).toNat c') w) ∧
      ∀ (w : World) (xs : List Byte), xs.length = n → BytesV w (.slice a n cap) xs → BytesV w (.slice a' (h - l).toNat c') ((xs.drop l.toNat).take (h - l).toNat) := by
  refine ⟨if cap = l.toNat then a else a.map (·.add (l.toNat * 1)), cap - l.toNat, fun w => ?_, fun w xs e hx => ?_⟩
  · rw [run_sliceAt_slice (h := undB), run_slice_lh (ht := undB) (h0 := h0) (h1 := h1) (h2 := by omega), cellsB]
    simp only [Result.andThen, sliced]
    rw [show h.toNat - l.toNat = (h - l).toNat by omega]
  · subst e
    have := bytes_cut hx l.toNat h.toNat (by omega) (by omega)
    rw [show h.toNat - l.toNat = (h - l).toNat by omega] at this
    exact this
theorem cutH {a : Option Addr} {n cap : Nat} (h : Int) (h0 : 0 ≤ h) (h2 : h ≤ n) (hn : n ≤ cap) :
    ∃ a' c', (∀ w : World, (Instr.sliceAt 37 (.slice a n cap) none (some (.int .i64 h)) none).run Tryz.prog w = .ok (.slice a' h.toNat c') w) ∧
      ∀ (w : World) (xs : List Byte), xs.length = n → BytesV w (.slice a n cap) xs → BytesV w (.slice a' h.toNat c') (xs.take h.toNat) := by
  refine ⟨if cap = 0 then a else a.map (·.add (0 * 1)), cap - 0, fun w => ?_, fun w xs e hx => ?_⟩
  · rw [run_sliceAt_slice (h := undB), run_slice_h (ht := undB) (h0 := h0) (h2 := by omega), cellsB]
    simp only [Result.andThen, sliced]
    rw [Nat.sub_zero]
  · subst e
    have := bytes_cut hx 0 h.toNat (by omega) (by omega)
    rw [Nat.sub_zero, List.drop_zero] at this
    exact this
theorem cutL {a : Option Addr} {n cap : Nat} (l : Int) (h0 : 0 ≤ l) (h2 : l ≤ n) (hn : n ≤ cap) :
    ∃ a' c', (∀ w : World, (Instr.sliceAt 37 (.slice a n cap) (some (.int .i64 l)) none none).run Tryz.prog w = .ok (.slice a' (n - l.toNat) c') w) ∧
      ∀ (w : World) (xs : List Byte), xs.length = n → BytesV w (.slice a n cap) xs → BytesV w (.slice a' (n - l.toNat) c') (xs.drop l.toNat) := by
  refine ⟨if cap = l.toNat then a else a.map (·.add (l.toNat * 1)), cap - l.toNat, fun w => ?_, fun w xs e hx => ?_⟩
  · rw [run_sliceAt_slice (h := undB), run_slice_l (ht := undB) (h0 := h0) (h1 := h2), cellsB]
    simp only [Result.andThen, sliced]
  · subst e
    have := bytes_cut hx l.toNat xs.length (by omega) (by omega)
    rw [show (xs.drop l.toNat).take (xs.length - l.toNat) = xs.drop l.toNat from List.take_of_length_le (by rw [List.length_drop]; omega)] at this
    exact this
end Go.Proofs.YtecfelacdapdgaaGreat

/-
  ContractResult. (Written by program: nest.py.)
-/
namespace Go.Proofs.YtecfelacdapdgaaGreat
open Go.RowKit
set_option linter.unusedSectionVars false
variable [DecidableEq Leg] [Inhabited Leg] [DecidableEq Cont] [Inhabited Cont]
attribute [local go_sem ↓] Go.wp_at_zero Go.wp_at_succ

set_option linter.unusedSimpArgs false

structure ContR where
  code : Int
  contract : Cont
variable [DecidableEq ContR] [Inhabited ContR]

def contRR : Rep ContR where
  V := fun w v x => ∃ u1_1, v = .agg #[.int .i64 x.code, .int .i64 x.contract.id, u1_1] ∧ contR.V w (.agg #[.int .i64 x.contract.id, u1_1]) x.contract
  O := fun w base F v x => ∃ u1_1 F1, v = .agg #[.int .i64 x.code, .int .i64 x.contract.id, u1_1] ∧ contR.O w base F1 (.agg #[.int .i64 x.contract.id, u1_1]) x.contract ∧ (∀ b, F b ↔ (F1 b))
  below := fun h hb => by
    obtain ⟨u1_1, rfl, h1⟩ := h
    exact ⟨u1_1, rfl, contR.below h1 hb⟩
  ofO := fun h => by
    obtain ⟨u1_1, F1, rfl, h1, _⟩ := h
    exact ⟨u1_1, rfl, contR.ofO h1⟩
  mod := fun h hm hd => by
    obtain ⟨u1_1, F1, rfl, h1, hF⟩ := h
    exact ⟨u1_1, F1, rfl, contR.mod h1 hm (fun b hb => hd b ((hF b).2 hb)), hF⟩
  rng := fun h b hb => by
    obtain ⟨u1_1, F1, rfl, h1, hF⟩ := h
    rcases (hF b).1 hb with hb
    · exact contR.rng h1 b hb
  base := fun h hb => by
    obtain ⟨u1_1, F1, rfl, h1, hF⟩ := h
    exact ⟨u1_1, F1, rfl, contR.base h1 hb, hF⟩
def wtContR (x : ContR) : Nat := wtCont x.contract
end Go.Proofs.YtecfelacdapdgaaGreat

/-
  A contract read out of bytes: the mathematics, and legs appended.
-/
namespace Go.Proofs.YtecfelacdapdgaaGreat
open Go.RowKit
set_option linter.unusedSectionVars false
variable [DecidableEq Leg] [Inhabited Leg] [DecidableEq Cont] [Inhabited Cont] [DecidableEq ContR] [Inhabited ContR]
attribute [local go_sem ↓] Go.wp_at_zero Go.wp_at_succ

def unLeg (xs : List Byte) (t : Nat) : Leg := ⟨((xs.getD t 0).val : Int), ((xs.getD (t + 1) 0).val : Int), ((xs.getD (t + 2) 0).val : Int), IntKind.i64.wrap (hiN ((xs.drop (t + 3)).take 8))⟩
def unLegs (xs : List Byte) (k : Nat) : List Leg := (List.range k).map (fun i => unLeg xs (8 + 11 * i))
theorem length_unLegs (xs : List Byte) (k : Nat) : (unLegs xs k).length = k := by simp [unLegs]
theorem unLegs_succ (xs : List Byte) (k : Nat) : unLegs xs (k + 1) = unLegs xs k ++ [unLeg xs (8 + 11 * k)] := by simp [unLegs, List.range_succ]
theorem legsC_snoc' (xs : List Leg) (l : Leg) : legsC (xs ++ [l]) = legsC xs ++ legC l := by simp [legsC]
theorem legC_one' (l : Leg) : ∀ u ∈ legC l, u.oneCell' = true := by
  intro u hu
  simp only [legC, List.mem_cons, List.not_mem_nil, or_false] at hu
  rcases hu with rfl | rfl | rfl | rfl <;> rfl
theorem appAny_leg {w : World} {g c : Nat} {l : Leg} (h0 : w.cell? ⟨g, 0, none⟩ = some (.int .i64 l.sh)) (h1 : w.cell? ⟨g, 1, none⟩ = some (.int .i64 l.ac)) (h2 : w.cell? ⟨g, 2, none⟩ = some (.int .i64 l.ast)) (h3 : w.cell? ⟨g, 3, none⟩ = some (.int .i64 l.am)) :
    AppAny w (.slice (some ⟨g, 0, none⟩) 1 c) 1 (legC l) := by
  refine .inr ⟨_, _, rfl, fun j x hj => ?_⟩
  match j, hj with
  | 0, hj => simp [legC] at hj; subst hj; simpa [Addr.add] using h0
  | 1, hj => simp [legC] at hj; subst hj; simpa [Addr.add] using h1
  | 2, hj => simp [legC] at hj; subst hj; simpa [Addr.add] using h2
  | 3, hj => simp [legC] at hj; subst hj; simpa [Addr.add] using h3
  | j + 4, hj => simp [legC] at hj
theorem step_pushLeg (Y : World) {ops : Array Oper} {o : Oper} {a : Act} {K : Act → World → Prop} {Q : Exit → Act → World → Prop} {E : Prop} (hgd : o.guard = none) (s x : Operand)
    (ho : o.op = .call { callee := .builtin .append, args := #[s, x], argTypes := #[29, 29] })
    (base : Nat) (v : Value) (out : List Leg) (hs : a.eval s = v) (l : Leg) (u : Value) (hx : a.eval x = u) (hown : Y.ownsRow base 110 4 v out.length (legsC out)) (hsrc : AppAny Y u 1 (legC l)) (hlen : out.length ≤ 1048576) (hbase : base ≤ Y.heap.size)
    (h : ∀ v' w', w'.ownsRow base 110 4 v' (out ++ [l]).length (legsC (out ++ [l])) → Y.grownBy w' v.ownBlock → (∀ W : World, Below base W Y → Below base W w') → K (a.put o.dst v') w') :
    if Region.wanted o (yielded ops a.tmps) = true then Oper.wp Tryz.prog o a Y K Q else E := by
  obtain ⟨i0, hi, hz0, hz1, hz2⟩ := info_parts infoLeg
  refine step_appAny Y hgd s x 29 ho base 110 i0 _ 4 32 Tryz.underlying29 hi hz0 hz1 hz2 rfl (by decide) v out.length (legsC out) hs u 1 (legC l) hx hown hsrc rfl (legC_one' l) (by unfold maxLen; omega) (by omega) hbase ?_
  intro v' w' h1 h2 h3
  refine h v' w' ?_ h2 h3
  rw [List.length_append, legsC_snoc']
  exact h1
def unCont (xs : List Byte) : Cont := ⟨IntKind.i64.wrap (hiN (xs.take 8)), unLegs xs ((xs.length - 8) / 11)⟩
def UnSt (w w' : World) (id : Int) (v : Value) (ys : List Leg) : Prop :=
  (w'.cell? ⟨w.heap.size + 1, 0, none⟩ = some (.int .i64 id) ∧ w'.cell? ⟨w.heap.size + 1, 1, none⟩ = some v) ∧ (w'.cell? ⟨w.heap.size, 0, none⟩ = some (.int .i64 0) ∧ w'.cell? ⟨w.heap.size, 1, none⟩ = some (.slice none 0 0)) ∧
  ((∀ o, w'.frozen? ⟨w.heap.size, o, none⟩ = false) ∧ (∀ o, w'.frozen? ⟨w.heap.size + 1, o, none⟩ = false)) ∧ w.heap.size + 2 ≤ w'.heap.size ∧ w'.ownsRow (w.heap.size + 2) 110 4 v ys.length (legsC ys) ∧ Below w.heap.size w w'
theorem unKeep {w w3 : World} {x y : Value} (h : Below w.heap.size w w3 ∧ w3.cell? ⟨w.heap.size + 1, 0, none⟩ = some x ∧ w3.cell? ⟨w.heap.size + 1, 1, none⟩ = some y) (a b : Value) :
    Below w.heap.size w ((w3.setCell ⟨w.heap.size, 0, none⟩ a).setCell ⟨w.heap.size, 1, none⟩ b) ∧ ((w3.setCell ⟨w.heap.size, 0, none⟩ a).setCell ⟨w.heap.size, 1, none⟩ b).cell? ⟨w.heap.size + 1, 0, none⟩ = some x ∧
      ((w3.setCell ⟨w.heap.size, 0, none⟩ a).setCell ⟨w.heap.size, 1, none⟩ b).cell? ⟨w.heap.size + 1, 1, none⟩ = some y := by
  refine ⟨(h.1.setCell (Nat.le_refl _) _).setCell (Nat.le_refl _) _, ?_, ?_⟩
  · rw [set_other (by simp), set_other (by simp)]; exact h.2.1
  · rw [set_other (by simp), set_other (by simp)]; exact h.2.2
end Go.Proofs.YtecfelacdapdgaaGreat

/-
  A region that draws its order and ends in one store (number t): what is asked of the world (S) need not hold behind that store.
-/
namespace Go.Proofs.YtecfelacdapdgaaGreat
open Go.RowKit

section
variable {P : Program} {ops : Array Oper} {Q : Exit → Act → World → Prop} {md : Region.Mode} {S : World → Prop} {t : Nat}

def wpUpto (P : Program) (md : Region.Mode) (ops : Array Oper) (Q : Exit → Act → World → Prop) (S : World → Prop) (t : Nat) : Nat → Array Bool → Act → World → Prop
  | 0, listed, a, w => Region.ready md ops listed = [] ∧ Q .normal a w
  | f + 1, listed, a, w => (Region.ready md ops listed = [] → Q .normal a w) ∧ ∀ i ∈ Region.ready md ops listed, wpOp P ops Q i (fun a' w' => (i ≠ t → S w') ∧ wpUpto P md ops Q S t f (listed.setIfInBounds i true) a' w') a w
theorem upto_any : ∀ (f : Nat) (listed : Array Bool) (a : Act) (w : World), wpUpto P md ops Q S t f listed a w → wpAny P md ops Q f listed a w
  | 0, _, _, _, h => h
  | f + 1, _, _, _, h => ⟨h.1, fun i hi => wpOp_mono (fun _ _ h' => upto_any f _ _ _ h'.2) (h.2 i hi)⟩
def waitsFor (md : Region.Mode) (ops : Array Oper) (t i : Nat) : Bool :=
  match ops[t]? with
  | some o => o.after.any (fun e => Region.binds md e && e.on == i)
  | none => false
theorem upto_first {i : Nat} {oi : Oper} {v : Value} (hi : ops[i]? = some oi) (hsel : Region.noSelect ops = true) (hw : waitsFor md ops t i = true)
    (hQ : ∀ c a w, Q (.panic c) (a.put oi.dst v) w → Q (.panic c) a w) :
    ∀ (f : Nat) (listed : Array Bool) (a : Act) (w : World),
      (∀ j oj, ops[j]? = some oj → j ≠ i → listed.getD j true = false → (∀ e ∈ oj.after, Region.binds md e = true → e.on ≠ i) → oi.apart ops oj = true) →
      i ∈ Region.ready md ops listed → YieldsIf P ops S oi v a → S w →
      wpUpto P md ops Q S t f (listed.setIfInBounds i true) (a.put oi.dst v) w → wpUpto P md ops Q S t (f + 1) listed a w := by
  intro f
  induction f with
  | zero =>
    intro listed a w _ hr hy hS H
    refine ⟨fun h => (by rw [h] at hr; cases hr), fun j hj => ?_⟩
    by_cases hji : j = i
    · subst hji
      exact hy.wpOp hi hS ⟨fun _ => hS, H⟩
    · have hm := ready_mono hj hji
      rw [H.1] at hm
      cases hm
  | succ f ih =>
    intro listed a w hfree hr hy hS H
    refine ⟨fun h => (by rw [h] at hr; cases hr), fun j hj => ?_⟩
    by_cases hji : j = i
    · subst hji
      exact hy.wpOp hi hS ⟨fun _ => hS, H⟩
    · obtain ⟨hjun, oj, hoj, hall⟩ := mem_ready.1 hj
      have hun := (mem_ready.1 hr).1
      have hnl : ¬ listed.getD i false = true := by
        intro h1
        rcases Nat.lt_or_ge i listed.size with h' | h'
        · simp [h'] at hun h1
          rw [hun] at h1
          cases h1
        · simp [Array.getElem?_eq_none h'] at h1
      have hnot : ∀ e ∈ oj.after, Region.binds md e = true → e.on ≠ i := fun e he hb heq => hnl (by rw [← heq]; exact hall e he hb)
      have hjt : j ≠ t := by
        rintro rfl
        unfold waitsFor at hw
        rw [hoj] at hw
        obtain ⟨e, he, hb⟩ := Array.any_eq_true'.1 hw
        simp only [Bool.and_eq_true, beq_iff_eq] at hb
        exact hnot e he hb.1 hb.2
      have h1 := H.2 j (ready_mono hj hji)
      have h2 := wpOp_putIf hoj (hfree j oj hoj hji hjun hnot) (fun cs b => Region.noSelect_spec hsel i oi cs b hi) (fun cs b => Region.noSelect_spec hsel j oj cs b hoj) hQ hy h1
      refine wpOp_mono (fun a' w' h3 => ⟨h3.2.1, ih (listed.setIfInBounds j true) a' w' ?_ (ready_mono hr (Ne.symm hji)) h3.1 (h3.2.1 hjt) ?_⟩) h2
      · intro k ok hk hki hunk hno
        refine hfree k ok hk hki ?_ hno
        by_cases hjk : j = k
        · subst hjk; exact hjun
        · rw [getD_set_ne true hjk] at hunk; exact hunk
      · rw [Array.setIfInBounds_comm _ _ hji]
        exact h3.2.2
theorem upto_take {i : Nat} {oi : Oper} {v : Value} {f : Nat} {listed : Array Bool} {a : Act} {w : World} (hi : ops[i]? = some oi) (hsel : Region.noSelect ops = true) (hw : waitsFor md ops t i = true)
    (hf : Region.free md ops listed i = true) (hr : (Region.ready md ops listed).contains i = true) (hQ : ∀ c a w, Q (.panic c) (a.put oi.dst v) w → Q (.panic c) a w)
    (hwd : Region.wanted oi (yielded ops a.tmps) = true) (hS : S w) (hy : ∀ w, S w → (execOp a.eval oi).run P w = .ok (.value v) w)
    (h : wpUpto P md ops Q S t f (listed.setIfInBounds i true) (a.put oi.dst v) w) : wpUpto P md ops Q S t (f + 1) listed a w :=
  upto_first hi hsel hw hQ f listed a w (Region.free_spec hi hf) (by simpa using hr) (Or.inl ⟨hwd, hy⟩) hS h
theorem upto_step {i : Nat} {o : Oper} {f : Nat} {listed : Array Bool} {a : Act} {w : World} (hr : Region.ready md ops listed = [i]) (hi : ops[i]? = some o)
    (h : ∀ K : Act → World → Prop, (∀ a' w', (i ≠ t → S w') → wpUpto P md ops Q S t f (listed.setIfInBounds i true) a' w' → K a' w') → if Region.wanted o (yielded ops a.tmps) = true then Oper.wp P o a w K Q else K (a.put o.dst undef) w) :
    wpUpto P md ops Q S t (f + 1) listed a w := by
  refine ⟨fun h0 => (by rw [hr] at h0; cases h0), fun j hj => ?_⟩
  rw [hr] at hj
  have e : j = i := by simpa using hj
  subst e
  have h1 := h (fun a' w' => (j ≠ t → S w') ∧ wpUpto P md ops Q S t f (listed.setIfInBounds j true) a' w') (fun _ _ p q => ⟨p, q⟩)
  unfold wpOp
  simp only [hi]
  split
  · rename_i hw
    rw [if_pos hw] at h1
    exact .inl h1
  · rename_i hw
    rw [if_neg hw] at h1
    exact h1
theorem upto_done {listed : Array Bool} {a : Act} {w : World} {f : Nat} (hr : Region.ready md ops listed = []) (h : Q .normal a w) : wpUpto P md ops Q S t f listed a w := by
  cases f with
  | zero => exact ⟨hr, h⟩
  | succ f => exact ⟨fun _ => h, by rw [hr]; simp⟩
theorem region_upto {id : Nat} {a : Act} {w : World} (S : World → Prop) (t : Nat) (hm : P.follows .mixedOrders = true) (hS : S w.drew) (h : S w.drew → wpUpto P .any ops Q S t ops.size (Array.replicate ops.size false) a w.drew) : (Code.region id ops true).wp P Q a w :=
  wp_region_any hm (upto_any _ _ _ _ (h hS))
end

end Go.Proofs.YtecfelacdapdgaaGreat


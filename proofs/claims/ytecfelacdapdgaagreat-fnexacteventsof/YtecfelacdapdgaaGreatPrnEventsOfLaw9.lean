import Derived.Test.YtecfelacdapdgaaGreatPrnEventsOfLaw5
import Derived.Test.YtecfelacdapdgaaGreatPrnEventsOfLaw8
import Derived.Test.YtecfelacdapdgaaGreatPrnEventsOfLaw7
import Derived.Test.YtecfelacdapdgaaGreatPrnEventsOfLaw4
import Derived.Test.YtecfelacdapdgaaGreatPrnEventsOfLaw1
import Derived.Deep.RegionHeld3

/-
  A contract read out of bytes: the mathematics, and legs appended.
-/
namespace Go.Proofs.YtecfelacdapdgaaGreat
open Go.RowKit
set_option linter.unusedSectionVars false
variable [DecidableEq Leg] [Inhabited Leg] [DecidableEq Cont] [Inhabited Cont] [DecidableEq ContR] [Inhabited ContR]
attribute [local go_sem ↓] Go.wp_at_zero Go.wp_at_succ

def unLeg (xs : List Byte) (t : Nat) : Leg := ⟨((xs.getD t 0).val : Int), ((xs.getD (t + 1) 0).val : Int), ((xs.getD (t + 2) 0).val : Int), IntKind.i64.wrap (hiN ((xs.drop (t + 3)).take 8))⟩
def unLegs (xs : List Byte) (k : Nat) : List Leg := (List.range k).map (fun i => unLeg xs (8 + 11 * i))
theorem length_unLegs (xs : List Byte) (k : Nat) : (unLegs xs k).length = k := by simp [unLegs]
theorem unLegs_succ (xs : List Byte) (k : Nat) : unLegs xs (k + 1) = unLegs xs k ++ [unLeg xs (8 + 11 * k)] := by simp [unLegs, List.range_succ]
theorem legsC_snoc' (xs : List Leg) (l : Leg) : legsC (xs ++ [l]) = legsC xs ++ legC l := by simp [legsC]
theorem legC_one' (l : Leg) : ∀ u ∈ legC l, u.oneCell' = true := by
  intro u hu
  simp only [legC, List.mem_cons, List.not_mem_nil, or_false] at hu
  rcases hu with rfl | rfl | rfl | rfl <;> rfl
theorem appAny_leg {w : World} {g c : Nat} {l : Leg} (h0 : w.cell? ⟨g, 0, none⟩ = some (.int .i64 l.sh)) (h1 : w.cell? ⟨g, 1, none⟩ = some (.int .i64 l.ac)) (h2 : w.cell? ⟨g, 2, none⟩ = some (.int .i64 l.ast)) (h3 : w.cell? ⟨g, 3, none⟩ = some (.int .i64 l.am)) :
    AppAny w (.slice (some ⟨g, 0, none⟩) 1 c) 1 (legC l) := by
  refine .inr ⟨_, _, rfl, fun j x hj => ?_⟩
  match j, hj with
  | 0, hj => simp [legC] at hj; subst hj; simpa [Addr.add] using h0
  | 1, hj => simp [legC] at hj; subst hj; simpa [Addr.add] using h1
  | 2, hj => simp [legC] at hj; subst hj; simpa [Addr.add] using h2
  | 3, hj => simp [legC] at hj; subst hj; simpa [Addr.add] using h3
  | j + 4, hj => simp [legC] at hj
theorem step_pushLeg (Y : World) {ops : Array Oper} {o : Oper} {a : Act} {K : Act → World → Prop} {Q : Exit → Act → World → Prop} {E : Prop} (hgd : o.guard = none) (s x : Operand)
    (ho : o.op = .call { callee := .builtin .append, args := #[s, x], argTypes := #[29, 29] })
    (base : Nat) (v : Value) (out : List Leg) (hs : a.eval s = v) (l : Leg) (u : Value) (hx : a.eval x = u) (hown : Y.ownsRow base 110 4 v out.length (legsC out)) (hsrc : AppAny Y u 1 (legC l)) (hlen : out.length ≤ 1048576) (hbase : base ≤ Y.heap.size)
    (h : ∀ v' w', w'.ownsRow base 110 4 v' (out ++ [l]).length (legsC (out ++ [l])) → Y.grownBy w' v.ownBlock → (∀ W : World, Below base W Y → Below base W w') → K (a.put o.dst v') w') :
    if Region.wanted o (yielded ops a.tmps) = true then Oper.wp Tryz.prog o a Y K Q else E := by
  obtain ⟨i0, hi, hz0, hz1, hz2⟩ := info_parts infoLeg
  refine step_appAny Y hgd s x 29 ho base 110 i0 _ 4 32 Tryz.underlying29 hi hz0 hz1 hz2 rfl (by decide) v out.length (legsC out) hs u 1 (legC l) hx hown hsrc rfl (legC_one' l) (by unfold maxLen; omega) (by omega) hbase ?_
  intro v' w' h1 h2 h3
  refine h v' w' ?_ h2 h3
  rw [List.length_append, legsC_snoc']
  exact h1
def unCont (xs : List Byte) : Cont := ⟨IntKind.i64.wrap (hiN (xs.take 8)), unLegs xs ((xs.length - 8) / 11)⟩
def UnSt (w w' : World) (id : Int) (v : Value) (ys : List Leg) : Prop :=
  (w'.cell? ⟨w.heap.size + 1, 0, none⟩ = some (.int .i64 id) ∧ w'.cell? ⟨w.heap.size + 1, 1, none⟩ = some v) ∧ (w'.cell? ⟨w.heap.size, 0, none⟩ = some (.int .i64 0) ∧ w'.cell? ⟨w.heap.size, 1, none⟩ = some (.slice none 0 0)) ∧
  ((∀ o, w'.frozen? ⟨w.heap.size, o, none⟩ = false) ∧ (∀ o, w'.frozen? ⟨w.heap.size + 1, o, none⟩ = false)) ∧ w.heap.size + 2 ≤ w'.heap.size ∧ w'.ownsRow (w.heap.size + 2) 110 4 v ys.length (legsC ys) ∧ Below w.heap.size w w'
theorem unKeep {w w3 : World} {x y : Value} (h : Below w.heap.size w w3 ∧ w3.cell? ⟨w.heap.size + 1, 0, none⟩ = some x ∧ w3.cell? ⟨w.heap.size + 1, 1, none⟩ = some y) (a b : Value) :
    Below w.heap.size w ((w3.setCell ⟨w.heap.size, 0, none⟩ a).setCell ⟨w.heap.size, 1, none⟩ b) ∧ ((w3.setCell ⟨w.heap.size, 0, none⟩ a).setCell ⟨w.heap.size, 1, none⟩ b).cell? ⟨w.heap.size + 1, 0, none⟩ = some x ∧
      ((w3.setCell ⟨w.heap.size, 0, none⟩ a).setCell ⟨w.heap.size, 1, none⟩ b).cell? ⟨w.heap.size + 1, 1, none⟩ = some y := by
  refine ⟨(h.1.setCell (Nat.le_refl _) _).setCell (Nat.le_refl _) _, ?_, ?_⟩
  · rw [set_other (by simp), set_other (by simp)]; exact h.2.1
  · rw [set_other (by simp), set_other (by simp)]; exact h.2.2
end Go.Proofs.YtecfelacdapdgaaGreat

/-
  A region that draws its order and ends in one store (number t): what is asked of the world (S) need not hold behind that store.
-/
namespace Go.Proofs.YtecfelacdapdgaaGreat
open Go.RowKit

section
variable {P : Program} {ops : Array Oper} {Q : Exit → Act → World → Prop} {md : Region.Mode} {S : World → Prop} {t : Nat}

def wpUpto (P : Program) (md : Region.Mode) (ops : Array Oper) (Q : Exit → Act → World → Prop) (S : World → Prop) (t : Nat) : Nat → Array Bool → Act → World → Prop
  | 0, listed, a, w => Region.ready md ops listed = [] ∧ Q .normal a w
  | f + 1, listed, a, w => (Region.ready md ops listed = [] → Q .normal a w) ∧ ∀ i ∈ Region.ready md ops listed, wpOp P ops Q i (fun a' w' => (i ≠ t → S w') ∧ wpUpto P md ops Q S t f (listed.setIfInBounds i true) a' w') a w
theorem upto_any : ∀ (f : Nat) (listed : Array Bool) (a : Act) (w : World), wpUpto P md ops Q S t f listed a w → wpAny P md ops Q f listed a w
  | 0, _, _, _, h => h
  | f + 1, _, _, _, h => ⟨h.1, fun i hi => wpOp_mono (fun _ _ h' => upto_any f _ _ _ h'.2) (h.2 i hi)⟩
def waitsFor (md : Region.Mode) (ops : Array Oper) (t i : Nat) : Bool :=
  match ops[t]? with
  | some o => o.after.any (fun e => Region.binds md e && e.on == i)
  | none => false
theorem upto_first {i : Nat} {oi : Oper} {v : Value} (hi : ops[i]? = some oi) (hsel : Region.noSelect ops = true) (hw : waitsFor md ops t i = true)
    (hQ : ∀ c a w, Q (.panic c) (a.put oi.dst v) w → Q (.panic c) a w) :
    ∀ (f : Nat) (listed : Array Bool) (a : Act) (w : World),
      (∀ j oj, ops[j]? = some oj → j ≠ i → listed.getD j true = false → (∀ e ∈ oj.after, Region.binds md e = true → e.on ≠ i) → oi.apart ops oj = true) →
      i ∈ Region.ready md ops listed → YieldsIf P ops S oi v a → S w →
      wpUpto P md ops Q S t f (listed.setIfInBounds i true) (a.put oi.dst v) w → wpUpto P md ops Q S t (f + 1) listed a w := by
  intro f
  induction f with
  | zero =>
    intro listed a w _ hr hy hS H
    refine ⟨fun h => (by rw [h] at hr; cases hr), fun j hj => ?_⟩
    by_cases hji : j = i
    · subst hji
      exact hy.wpOp hi hS ⟨fun _ => hS, H⟩
    · have hm := ready_mono hj hji
      rw [H.1] at hm
      cases hm
  | succ f ih =>
    intro listed a w hfree hr hy hS H
    refine ⟨fun h => (by rw [h] at hr; cases hr), fun j hj => ?_⟩
    by_cases hji : j = i
    · subst hji
      exact hy.wpOp hi hS ⟨fun _ => hS, H⟩
    · obtain ⟨hjun, oj, hoj, hall⟩ := mem_ready.1 hj
      have hun := (mem_ready.1 hr).1
      have hnl : ¬ listed.getD i false = true := by
        intro h1
        rcases Nat.lt_or_ge i listed.size with h' | h'
        · simp [h'] at hun h1
          rw [hun] at h1
          cases h1
        · simp [Array.getElem?_eq_none h'] at h1
      have hnot : ∀ e ∈ oj.after, Region.binds md e = true → e.on ≠ i := fun e he hb heq => hnl (by rw [← heq]; exact hall e he hb)
      have hjt : j ≠ t := by
        rintro rfl
        unfold waitsFor at hw
        rw [hoj] at hw
        obtain ⟨e, he, hb⟩ := Array.any_eq_true'.1 hw
        simp only [Bool.and_eq_true, beq_iff_eq] at hb
        exact hnot e he hb.1 hb.2
      have h1 := H.2 j (ready_mono hj hji)
      have h2 := wpOp_putIf hoj (hfree j oj hoj hji hjun hnot) (fun cs b => Region.noSelect_spec hsel i oi cs b hi) (fun cs b => Region.noSelect_spec hsel j oj cs b hoj) hQ hy h1
      refine wpOp_mono (fun a' w' h3 => ⟨h3.2.1, ih (listed.setIfInBounds j true) a' w' ?_ (ready_mono hr (Ne.symm hji)) h3.1 (h3.2.1 hjt) ?_⟩) h2
      · intro k ok hk hki hunk hno
        refine hfree k ok hk hki ?_ hno
        by_cases hjk : j = k
        · subst hjk; exact hjun
        · rw [getD_set_ne true hjk] at hunk; exact hunk
      · rw [Array.setIfInBounds_comm _ _ hji]
        exact h3.2.2
theorem upto_take {i : Nat} {oi : Oper} {v : Value} {f : Nat} {listed : Array Bool} {a : Act} {w : World} (hi : ops[i]? = some oi) (hsel : Region.noSelect ops = true) (hw : waitsFor md ops t i = true)
    (hf : Region.free md ops listed i = true) (hr : (Region.ready md ops listed).contains i = true) (hQ : ∀ c a w, Q (.panic c) (a.put oi.dst v) w → Q (.panic c) a w)
    (hwd : Region.wanted oi (yielded ops a.tmps) = true) (hS : S w) (hy : ∀ w, S w → (execOp a.eval oi).run P w = .ok (.value v) w)
    (h : wpUpto P md ops Q S t f (listed.setIfInBounds i true) (a.put oi.dst v) w) : wpUpto P md ops Q S t (f + 1) listed a w :=
  upto_first hi hsel hw hQ f listed a w (Region.free_spec hi hf) (by simpa using hr) (Or.inl ⟨hwd, hy⟩) hS h
theorem upto_step {i : Nat} {o : Oper} {f : Nat} {listed : Array Bool} {a : Act} {w : World} (hr : Region.ready md ops listed = [i]) (hi : ops[i]? = some o)
    (h : ∀ K : Act → World → Prop, (∀ a' w', (i ≠ t → S w') → wpUpto P md ops Q S t f (listed.setIfInBounds i true) a' w' → K a' w') → if Region.wanted o (yielded ops a.tmps) = true then Oper.wp P o a w K Q else K (a.put o.dst undef) w) :
    wpUpto P md ops Q S t (f + 1) listed a w := by
  refine ⟨fun h0 => (by rw [hr] at h0; cases h0), fun j hj => ?_⟩
  rw [hr] at hj
  have e : j = i := by simpa using hj
  subst e
  have h1 := h (fun a' w' => (j ≠ t → S w') ∧ wpUpto P md ops Q S t f (listed.setIfInBounds j true) a' w') (fun _ _ p q => ⟨p, q⟩)
  unfold wpOp
  simp only [hi]
  split
  · rename_i hw
    rw [if_pos hw] at h1
    exact .inl h1
  · rename_i hw
    rw [if_neg hw] at h1
    exact h1
theorem upto_done {listed : Array Bool} {a : Act} {w : World} {f : Nat} (hr : Region.ready md ops listed = []) (h : Q .normal a w) : wpUpto P md ops Q S t f listed a w := by
  cases f with
  | zero => exact ⟨hr, h⟩
  | succ f => exact ⟨fun _ => h, by rw [hr]; simp⟩
theorem region_upto {id : Nat} {a : Act} {w : World} (S : World → Prop) (t : Nat) (hm : P.follows .mixedOrders = true) (hS : S w.drew) (h : S w.drew → wpUpto P .any ops Q S t ops.size (Array.replicate ops.size false) a w.drew) : (Code.region id ops true).wp P Q a w :=
  wp_region_any hm (upto_any _ _ _ _ (h hS))
end

end Go.Proofs.YtecfelacdapdgaaGreat

/-
  A contract read out of bytes: the specification's side.
-/
namespace Go.Proofs.YtecfelacdapdgaaGreat
open Go.RowKit
set_option linter.unusedSectionVars false
variable [DecidableEq Leg] [Inhabited Leg] [DecidableEq Cont] [Inhabited Cont] [DecidableEq ContR] [Inhabited ContR]
set_option linter.unusedSimpArgs false
attribute [local go_sem ↓] Go.wp_at_zero Go.wp_at_succ

set_option maxHeartbeats 4000000 in
theorem l3Uncontract_ok (x : Value) (xs : List Byte) (w : World) (hx : bytesR.V w x xs) (h8 : 8 ≤ xs.length) (h11 : (xs.length - 8) % 11 = 0) (h96 : xs.length ≤ 96) :
    Calls Tryz.prog 76 #[x] w fun e w' => ∃ v F, e = .returned (.tuple #[.agg #[.int .i64 (unCont xs).id, v], .bool (decide (contractFault (unCont xs).id (unCont xs).legs = 0))]) ∧ legsR.O w' w.heap.size F v (unCont xs).legs ∧ Below w.heap.size w w' := by
  have hX := hx
  obtain ⟨ax, cx, rfl, hcx, hmx, hx⟩ := hx
  unfold maxLen at hmx
  obtain ⟨b, o, rfl, _⟩ := hx 0 (by omega)
  obtain ⟨id, hid⟩ : ∃ id, IntKind.i64.wrap (hiN (xs.take 8)) = id := ⟨_, rfl⟩
  have HID : Hid (unCont xs = ⟨id, unLegs xs ((xs.length - 8) / 11)⟩) := by unfold Hid unCont; rw [hid]
  obtain ⟨n, hn⟩ : ∃ n, (xs.length - 8) / 11 = n := ⟨_, rfl⟩
  have hlen : xs.length = 8 + 11 * n := by omega
  have HLEN : Hid (xs.length = 8 + 11 * n) := hlen
  have hn8 : n ≤ 8 := by omega
  have HN : Hid ((xs.length - 8) / 11 = n) := hn
  have c1 : ¬ (xs.length : Int) < 8 := by omega
  have c2 : ((xs.length : Int) - 8).tmod 11 = 0 := by rw [Int.tmod_eq_emod_of_nonneg (by omega)]; omega
  have c2' : ((xs.length : Int) - 8) % 11 = 0 := by omega
  have c2'' : ((((xs.length : Int) - 8).tmod 11) == 0) = true := by rw [c2]; rfl
  have c3 : ¬ (96 : Int) < (xs.length : Int) := by omega
  have c4 : IntKind.i64.wrap ((xs.length : Int) - 8) = xs.length - 8 := by rw [IntKind.wrap_i64]; omega
  have hV8 := bytes_cut hX 0 8 (by omega) (by omega)
  simp only [Option.map_some, Nat.mul_one, addP, Nat.zero_mul, Nat.sub_zero, List.drop_zero, Nat.add_zero, ite_self] at hV8
  have hl8 : 8 ≤ (xs.take 8).length := by rw [List.length_take]; omega
  have e8 : (xs.take 8).take 8 = xs.take 8 := by rw [List.take_take]; rfl
  clear hn hlen
  go_enter Tryz.func76, Tryz.ntmps76
  go_wp2_with fail
  refine (l3Number_any _ (xs.take 8) _ (BytesV_below hV8 (by (repeat (first | exact Below.refl _ _ | assumption | refine Below.drew ?_ | refine balloc ?_ _ | refine bset ?_ (by simp; omega) _ | refine bset ?_ (by simp) _ | refine bstep ?_ (by assumption))))) hl8).mono ?_
  rintro e w1 ⟨rfl, rfl⟩
  rw [e8, hid]
  clear e8 hl8 hV8 hid c2 c2' c2'' c4
  go_wp2
  go_loopw [5] (fun i w' => ∃ (k t : Nat) (v : Value), k ≤ n ∧ t = 8 + 11 * k ∧ i = .int .i64 t ∧ UnSt w w' id v (unLegs xs k)) (fun i _ => xs.length - (intOf i).toNat)
  case atStart =>
    refine ⟨0, 8, .slice none 0 0, by omega, by omega, rfl, ⟨by simp [go_sem], by simp [go_sem]⟩, ⟨by simp [go_sem], by simp [go_sem]⟩, ⟨fun o => by simp [go_sem], fun o => by simp [go_sem]⟩, by simp, ?_, by (repeat (first | exact Below.refl _ _ | assumption | refine Below.drew ?_ | refine balloc ?_ _ | refine bset ?_ (by simp; omega) _ | refine bset ?_ (by simp) _ | refine bstep ?_ (by assumption)))⟩
    have : unLegs xs 0 = [] := rfl
    rw [this]
    exact World.ownsRow_nil _ _ _ _
  case round =>
    obtain ⟨k, t, v, hk, ht, rfl, ⟨d0, d1⟩, ⟨r0, r1⟩, ⟨fr, fd⟩, hz, ho, hbl⟩ := hrel
    have HT : Hid (k ≤ n ∧ t = 8 + 11 * k) := ⟨hk, ht⟩
    obtain ⟨pv, qv, rfl⟩ := owns_form ho
    have hzr := World.block_lt_of_cell? _ _ d0
    dsimp only at hzr
    by_cases hlt : t < xs.length
    · have hlt11 : t + 11 ≤ xs.length := by have := HLEN.out; omega
      obtain ⟨b', o', e, g0⟩ := hx t (by omega)
      simp only [Option.some.injEq, Addr.mk.injEq, and_true] at e
      obtain ⟨rfl, rfl⟩ := e
      obtain ⟨b', o', e, g1⟩ := hx (t + 1) (by omega)
      simp only [Option.some.injEq, Addr.mk.injEq, and_true] at e
      obtain ⟨rfl, rfl⟩ := e
      obtain ⟨b', o', e, g2⟩ := hx (t + 2) (by omega)
      simp only [Option.some.injEq, Addr.mk.injEq, and_true] at e
      obtain ⟨rfl, rfl⟩ := e
      obtain ⟨p0, hp0⟩ : ∃ p : Int, ((xs.getD t 0).val : Int) = p := ⟨_, rfl⟩
      obtain ⟨p1, hp1⟩ : ∃ p : Int, ((xs.getD (t + 1) 0).val : Int) = p := ⟨_, rfl⟩
      obtain ⟨p2, hp2⟩ : ∃ p : Int, ((xs.getD (t + 2) 0).val : Int) = p := ⟨_, rfl⟩
      have l0 := byte_lt (xs.getD t 0)
      have l1 := byte_lt (xs.getD (t + 1) 0)
      have l2 := byte_lt (xs.getD (t + 2) 0)
      rw [hp0] at g0 l0
      rw [hp1] at g1 l1
      rw [hp2] at g2 l2
      have hV3 := bytes_cut hX (t + 3) (t + 11) (by omega) (by omega)
      rw [if_neg (by omega)] at hV3
      simp only [Option.map_some, Nat.mul_one, addP] at hV3
      rw [show t + 11 - (t + 3) = 8 by omega] at hV3
      have hl3 : 8 ≤ ((xs.drop (t + 3)).take 8).length := by rw [List.length_take, List.length_drop]; omega
      obtain ⟨am, ham⟩ : ∃ am, IntKind.i64.wrap (hiN ((xs.drop (t + 3)).take 8)) = am := ⟨_, rfl⟩
      have e3 : IntKind.i64.wrap (hiN (((xs.drop (t + 3)).take 8).take 8)) = am := by rw [List.take_take]; exact ham
      have HL : Hid (unLegs xs (k + 1) = unLegs xs k ++ [⟨p0, p1, p2, am⟩]) := by
        unfold Hid
        rw [unLegs_succ, ← ht, unLeg, hp0, hp1, hp2, ham]
      have hol : (unLegs xs k).length ≤ 1048576 := by rw [length_unLegs]; omega
      have w0 : IntKind.i64.wrap p0 = p0 := by rw [IntKind.wrap_i64]; omega
      have w1 : IntKind.i64.wrap p1 = p1 := by rw [IntKind.wrap_i64]; omega
      have w2 : IntKind.i64.wrap p2 = p2 := by rw [IntKind.wrap_i64]; omega
      have y1 : IntKind.i64.wrap ((t : Int) + 1) = t + 1 := by rw [IntKind.wrap_i64]; omega
      have y2 : IntKind.i64.wrap ((t : Int) + 2) = t + 2 := by rw [IntKind.wrap_i64]; omega
      have y3 : IntKind.i64.wrap ((t : Int) + 3) = t + 3 := by rw [IntKind.wrap_i64]; omega
      have y4 : IntKind.i64.wrap ((t : Int) + 11) = t + 11 := by rw [IntKind.wrap_i64]; omega
      have i1 : ((t : Int) + 1).toNat = t + 1 := by omega
      have i2 : ((t : Int) + 2).toNat = t + 2 := by omega
      have i3 : ((t : Int) + 3).toNat = t + 3 := by omega
      have i4 : ((t : Int) + 11).toNat = t + 11 := by omega
      have j0 : (0 : Int) ≤ (t : Int) := by omega
      have j1 : (t : Int) < (xs.length : Int) := by omega
      have j2 : (t : Int) + 1 < (xs.length : Int) := by omega
      have j3 : (t : Int) + 2 < (xs.length : Int) := by omega
      have j4 : (t : Int) + 11 ≤ (cx : Int) := by omega
      have j5 : ¬ cx = t + 3 := by omega
      have j6 : (0 : Int) ≤ (t : Int) + 1 := by omega
      have j7 : (0 : Int) ≤ (t : Int) + 2 := by omega
      have j8 : (0 : Int) ≤ (t : Int) + 3 := by omega
      have j9 : (t : Int) + 3 ≤ (t : Int) + 11 := by omega
      have hle : w.heap.size ≤ w.heap.size + 2 := by omega
      have hlt0 : (⟨w.heap.size, 0, none⟩ : Addr).block < w.heap.size + 2 := by simp
      have hlt1 : (⟨w.heap.size + 1, 0, none⟩ : Addr).block < w.heap.size + 2 := by simp
      generalize unLegs xs k = ys at *
      clear hp0 hp1 hp2 ham ht hk hx
      go_wp2
      refine wp_region_noPanic ?_
      refine region_upto (fun w' => Below w.heap.size w w' ∧ w'.cell? ⟨b, o + t, none⟩ = some (.int .u8 p0) ∧ w'.cell? ⟨b, o + (t + 1), none⟩ = some (.int .u8 p1) ∧ w'.cell? ⟨b, o + (t + 2), none⟩ = some (.int .u8 p2) ∧ w'.cell? ⟨w.heap.size + 1, 1, none⟩ = some (.slice pv ys.length qv)) 30 (by kernel_rfl) ⟨Below.drew hbl, cell_keep (Below.drew hbl) g0, cell_keep (Below.drew hbl) g1, cell_keep (Below.drew hbl) g2, cell_keep (Below.drew (Below.refl _ _)) d1⟩ (fun hS => ?_)
      refine upto_take (i := 0) (v := ?_) rfl (by kernel_rfl) (by kernel_rfl) (by kernel_rfl) (by kernel_rfl) (fun _ _ _ h => h) (by rfl) hS ?_ ?_
      rotate_left
      · intro wS hSw
        try dsimp only at hSw
        first | (go_simp; done) | (go_simp; with_reducible rfl)
      try simp only [Act.put, List.setIfInBounds_toArray, List.set_cons_zero, List.set_cons_succ]
      refine upto_take (i := 1) (v := ?_) rfl (by kernel_rfl) (by kernel_rfl) (by kernel_rfl) (by kernel_rfl) (fun _ _ _ h => h) (by rfl) hS ?_ ?_
      rotate_left
      · intro wS hSw
        try dsimp only at hSw
        first | (go_simp; done) | (go_simp; with_reducible rfl)
      try simp only [Act.put, List.setIfInBounds_toArray, List.set_cons_zero, List.set_cons_succ]
      refine upto_take (i := 2) (v := ?_) rfl (by kernel_rfl) (by kernel_rfl) (by kernel_rfl) (by kernel_rfl) (fun _ _ _ h => h) (by rfl) hS ?_ ?_
      rotate_left
      · intro wS hSw
        try dsimp only at hSw
        first | (go_simp; done) | (go_simp; with_reducible rfl)
      try simp only [Act.put, List.setIfInBounds_toArray, List.set_cons_zero, List.set_cons_succ]
      refine upto_take (i := 3) (v := ?_) rfl (by kernel_rfl) (by kernel_rfl) (by kernel_rfl) (by kernel_rfl) (fun _ _ _ h => h) (by rfl) hS ?_ ?_
      rotate_left
      · intro wS hSw
        try dsimp only at hSw
        first | (go_simp; done) | (go_simp; with_reducible rfl)
      try simp only [Act.put, List.setIfInBounds_toArray, List.set_cons_zero, List.set_cons_succ]
      refine upto_take (i := 4) (v := ?_) rfl (by kernel_rfl) (by kernel_rfl) (by kernel_rfl) (by kernel_rfl) (fun _ _ _ h => h) (by rfl) hS ?_ ?_
      rotate_left
      · intro wS hSw
        try dsimp only at hSw
        first | (go_simp; done) | (go_simp; with_reducible rfl)
      try simp only [Act.put, List.setIfInBounds_toArray, List.set_cons_zero, List.set_cons_succ]
      refine upto_take (i := 5) (v := ?_) rfl (by kernel_rfl) (by kernel_rfl) (by kernel_rfl) (by kernel_rfl) (fun _ _ _ h => h) (by rfl) hS ?_ ?_
      rotate_left
      · intro wS hSw
        try dsimp only at hSw
        first | (go_simp; done) | (go_simp; with_reducible rfl)
      try simp only [Act.put, List.setIfInBounds_toArray, List.set_cons_zero, List.set_cons_succ]
      refine upto_take (i := 6) (v := ?_) rfl (by kernel_rfl) (by kernel_rfl) (by kernel_rfl) (by kernel_rfl) (fun _ _ _ h => h) (by rfl) hS ?_ ?_
      rotate_left
      · intro wS hSw
        try dsimp only at hSw
        first | (go_simp; done) | (go_simp; with_reducible rfl)
      try simp only [Act.put, List.setIfInBounds_toArray, List.set_cons_zero, List.set_cons_succ]
      refine upto_take (i := 7) (v := ?_) rfl (by kernel_rfl) (by kernel_rfl) (by kernel_rfl) (by kernel_rfl) (fun _ _ _ h => h) (by rfl) hS ?_ ?_
      rotate_left
      · intro wS hSw
        try dsimp only at hSw
        first | (go_simp; done) | (go_simp; with_reducible rfl)
      try simp only [Act.put, List.setIfInBounds_toArray, List.set_cons_zero, List.set_cons_succ]
      refine upto_take (i := 8) (v := ?_) rfl (by kernel_rfl) (by kernel_rfl) (by kernel_rfl) (by kernel_rfl) (fun _ _ _ h => h) (by rfl) hS ?_ ?_
      rotate_left
      · intro wS hSw
        try dsimp only at hSw
        first | (go_simp; done) | (go_simp; with_reducible rfl)
      try simp only [Act.put, List.setIfInBounds_toArray, List.set_cons_zero, List.set_cons_succ]
      refine upto_take (i := 9) (v := ?_) rfl (by kernel_rfl) (by kernel_rfl) (by kernel_rfl) (by kernel_rfl) (fun _ _ _ h => h) (by rfl) hS ?_ ?_
      rotate_left
      · intro wS hSw
        try dsimp only at hSw
        first | (go_simp; done) | (go_simp; with_reducible rfl)
      try simp only [Act.put, List.setIfInBounds_toArray, List.set_cons_zero, List.set_cons_succ]
      refine upto_take (i := 10) (v := ?_) rfl (by kernel_rfl) (by kernel_rfl) (by kernel_rfl) (by kernel_rfl) (fun _ _ _ h => h) (by rfl) hS ?_ ?_
      rotate_left
      · intro wS hSw
        try dsimp only at hSw
        first | (go_simp; done) | (go_simp; with_reducible rfl)
      try simp only [Act.put, List.setIfInBounds_toArray, List.set_cons_zero, List.set_cons_succ]
      refine upto_take (i := 11) (v := ?_) rfl (by kernel_rfl) (by kernel_rfl) (by kernel_rfl) (by kernel_rfl) (fun _ _ _ h => h) (by rfl) hS ?_ ?_
      rotate_left
      · intro wS hSw
        try dsimp only at hSw
        first | (go_simp; done) | (go_simp; with_reducible rfl)
      try simp only [Act.put, List.setIfInBounds_toArray, List.set_cons_zero, List.set_cons_succ]
      refine upto_take (i := 12) (v := ?_) rfl (by kernel_rfl) (by kernel_rfl) (by kernel_rfl) (by kernel_rfl) (fun _ _ _ h => h) (by rfl) hS ?_ ?_
      rotate_left
      · intro wS hSw
        try dsimp only at hSw
        first | (go_simp; done) | (go_simp; with_reducible rfl)
      try simp only [Act.put, List.setIfInBounds_toArray, List.set_cons_zero, List.set_cons_succ]
      refine upto_take (i := 13) (v := ?_) rfl (by kernel_rfl) (by kernel_rfl) (by kernel_rfl) (by kernel_rfl) (fun _ _ _ h => h) (by rfl) hS ?_ ?_
      rotate_left
      · intro wS hSw
        try dsimp only at hSw
        first | (go_simp; done) | (go_simp; with_reducible rfl)
      try simp only [Act.put, List.setIfInBounds_toArray, List.set_cons_zero, List.set_cons_succ]
      refine upto_take (i := 14) (v := ?_) rfl (by kernel_rfl) (by kernel_rfl) (by kernel_rfl) (by kernel_rfl) (fun _ _ _ h => h) (by rfl) hS ?_ ?_
      rotate_left
      · intro wS hSw
        try dsimp only at hSw
        first | (go_simp; done) | (go_simp; with_reducible rfl)
      try simp only [Act.put, List.setIfInBounds_toArray, List.set_cons_zero, List.set_cons_succ]
      refine upto_take (i := 15) (v := ?_) rfl (by kernel_rfl) (by kernel_rfl) (by kernel_rfl) (by kernel_rfl) (fun _ _ _ h => h) (by rfl) hS ?_ ?_
      rotate_left
      · intro wS hSw
        try dsimp only at hSw
        first | (go_simp; done) | (go_simp; with_reducible rfl)
      try simp only [Act.put, List.setIfInBounds_toArray, List.set_cons_zero, List.set_cons_succ]
      refine upto_take (i := 16) (v := ?_) rfl (by kernel_rfl) (by kernel_rfl) (by kernel_rfl) (by kernel_rfl) (fun _ _ _ h => h) (by rfl) hS ?_ ?_
      rotate_left
      · intro wS hSw
        try dsimp only at hSw
        first | (go_simp; done) | (go_simp; with_reducible rfl)
      try simp only [Act.put, List.setIfInBounds_toArray, List.set_cons_zero, List.set_cons_succ]
      refine upto_take (i := 17) (v := ?_) rfl (by kernel_rfl) (by kernel_rfl) (by kernel_rfl) (by kernel_rfl) (fun _ _ _ h => h) (by rfl) hS ?_ ?_
      rotate_left
      · intro wS hSw
        try dsimp only at hSw
        first | (go_simp; done) | (go_simp; with_reducible rfl)
      try simp only [Act.put, List.setIfInBounds_toArray, List.set_cons_zero, List.set_cons_succ]
      refine upto_take (i := 18) (v := ?_) rfl (by kernel_rfl) (by kernel_rfl) (by kernel_rfl) (by kernel_rfl) (fun _ _ _ h => h) (by rfl) hS ?_ ?_
      rotate_left
      · intro wS hSw
        try dsimp only at hSw
        first | (go_simp; done) | (go_simp; with_reducible rfl)
      try simp only [Act.put, List.setIfInBounds_toArray, List.set_cons_zero, List.set_cons_succ]
      refine upto_take (i := 19) (v := ?_) rfl (by kernel_rfl) (by kernel_rfl) (by kernel_rfl) (by kernel_rfl) (fun _ _ _ h => h) (by rfl) hS ?_ ?_
      rotate_left
      · intro wS hSw
        try dsimp only at hSw
        first | (go_simp; done) | (go_simp; with_reducible rfl)
      try simp only [Act.put, List.setIfInBounds_toArray, List.set_cons_zero, List.set_cons_succ]
      refine upto_take (i := 20) (v := ?_) rfl (by kernel_rfl) (by kernel_rfl) (by kernel_rfl) (by kernel_rfl) (fun _ _ _ h => h) (by rfl) hS ?_ ?_
      rotate_left
      · intro wS hSw
        try dsimp only at hSw
        first | (go_simp; done) | (go_simp; with_reducible rfl)
      try simp only [Act.put, List.setIfInBounds_toArray, List.set_cons_zero, List.set_cons_succ]
      refine upto_take (i := 21) (v := ?_) rfl (by kernel_rfl) (by kernel_rfl) (by kernel_rfl) (by kernel_rfl) (fun _ _ _ h => h) (by rfl) hS ?_ ?_
      rotate_left
      · intro wS hSw
        try dsimp only at hSw
        first | (go_simp; done) | (go_simp; with_reducible rfl)
      try simp only [Act.put, List.setIfInBounds_toArray, List.set_cons_zero, List.set_cons_succ]
      refine upto_take (i := 22) (v := ?_) rfl (by kernel_rfl) (by kernel_rfl) (by kernel_rfl) (by kernel_rfl) (fun _ _ _ h => h) (by rfl) hS ?_ ?_
      rotate_left
      · intro wS hSw
        try dsimp only at hSw
        first | (go_simp; done) | (go_simp; with_reducible rfl)
      try simp only [Act.put, List.setIfInBounds_toArray, List.set_cons_zero, List.set_cons_succ]
      refine upto_take (i := 23) (v := ?_) rfl (by kernel_rfl) (by kernel_rfl) (by kernel_rfl) (by kernel_rfl) (fun _ _ _ h => h) (by rfl) hS ?_ ?_
      rotate_left
      · intro wS hSw
        try dsimp only at hSw
        first | (go_simp; done) | (go_simp; with_reducible rfl)
      try simp only [Act.put, List.setIfInBounds_toArray, List.set_cons_zero, List.set_cons_succ]
      refine upto_take (i := 24) (v := ?_) rfl (by kernel_rfl) (by kernel_rfl) (by kernel_rfl) (by kernel_rfl) (fun _ _ _ h => h) (by rfl) hS ?_ ?_
      rotate_left
      · intro wS hSw
        try dsimp only at hSw
        first | (go_simp; done) | (go_simp; with_reducible rfl)
      try simp only [Act.put, List.setIfInBounds_toArray, List.set_cons_zero, List.set_cons_succ]
      refine upto_step (i := 25) (by kernel_rfl) rfl ?_
      intro K hK
      go_simp
      refine (l3Number_any _ ((xs.drop (t + 3)).take 8) _ (BytesV_below hV3 (Below.drew hbl)) hl3).mono ?_
      rintro e w3 ⟨rfl, rfl⟩
      rw [e3]
      refine hK _ _ (fun _ => hS) ?_
      clear hK K
      try simp only [Act.put, List.setIfInBounds_toArray, List.set_cons_zero, List.set_cons_succ]
      refine upto_take (i := 26) (v := ?_) rfl (by kernel_rfl) (by kernel_rfl) (by kernel_rfl) (by kernel_rfl) (fun _ _ _ h => h) (by rfl) hS ?_ ?_
      rotate_left
      · intro wS hSw
        try dsimp only at hSw
        first | (go_simp; done) | (go_simp; with_reducible rfl)
      try simp only [Act.put, List.setIfInBounds_toArray, List.set_cons_zero, List.set_cons_succ]
      refine upto_step (i := 27) (by kernel_rfl) rfl ?_
      intro K hK
      go_simp
      refine hK _ _ (fun _ => ⟨balloc hS.1 _, cell_keep (balloc (Below.refl _ _) _) hS.2.1, cell_keep (balloc (Below.refl _ _) _) hS.2.2.1, cell_keep (balloc (Below.refl _ _) _) hS.2.2.2.1, cell_keep (balloc (Below.refl _ _) _) hS.2.2.2.2⟩) ?_
      clear hK K
      try simp only [Act.put, List.setIfInBounds_toArray, List.set_cons_zero, List.set_cons_succ]
      refine upto_step (i := 28) (by kernel_rfl) rfl ?_
      intro K hK
      refine step_pushLeg _ rfl _ _ rfl (w.heap.size + 2) _ ys rfl ⟨p0, p1, p2, am⟩ _ rfl (owns_below ho (balloc (Below.drew (Below.refl _ _)) _)) ?_ hol ?_ ?_
      · exact appAny_leg (g := wr.heap.size) (by simp [go_sem]) (by simp [go_sem]) (by simp [go_sem]) (by simp [go_sem])
      · simp; omega
      intro v5 w5 o5 hg5 hB5
      obtain ⟨p5, c5, rfl⟩ := owns_form o5
      have hw5 := hB5 wr ((balloc (Below.drew (Below.refl wr.heap.size wr)) _).mono hz)
      have hb5 := hbl.trans (hw5.mono hle)
      have q0 := (hw5.cell (p := ⟨w.heap.size + 1, 0, none⟩) hlt1).trans d0
      have q1 := (hw5.cell (p := ⟨w.heap.size + 1, 1, none⟩) hlt1).trans d1
      have q2 := (hw5.cell (p := ⟨w.heap.size, 0, none⟩) hlt0).trans r0
      have q3 := (hw5.cell (p := ⟨w.heap.size, 1, none⟩) hlt0).trans r1
      have q4 := fun o => (hw5.frozen (p := ⟨w.heap.size, o, none⟩) hlt0).trans (fr o)
      have q5 := fun o => (hw5.frozen (p := ⟨w.heap.size + 1, o, none⟩) hlt1).trans (fd o)
      have hS5 := keepN4 hb5 g0 g1 g2 g2
      have hS6 := And.intro hb5 (And.intro hS5.2.1 (And.intro hS5.2.2.1 (And.intro hS5.2.2.2.1 q1)))
      refine hK _ _ (fun _ => hS6) ?_
      clear hK K
      try simp only [Act.put, List.setIfInBounds_toArray, List.set_cons_zero, List.set_cons_succ]
      refine upto_take (i := 29) (v := ?_) rfl (by kernel_rfl) (by kernel_rfl) (by kernel_rfl) (by kernel_rfl) (fun _ _ _ h => h) (by rfl) hS6 ?_ ?_
      rotate_left
      · intro wS hSw
        try dsimp only at hSw
        first | (go_simp; done) | (go_simp; with_reducible rfl)
      try simp only [Act.put, List.setIfInBounds_toArray, List.set_cons_zero, List.set_cons_succ]
      refine upto_step (i := 30) (by kernel_rfl) rfl ?_
      intro K hK
      go_simp
      refine hK _ _ (fun h => absurd rfl h) ?_
      clear hK K
      refine upto_done (by kernel_rfl) ?_
      refine NoPanic.normal ?_
      have hz5 : w.heap.size + 2 ≤ w5.heap.size := Nat.le_trans hz hw5.size
      have HO5 : Hid (World.ownsRow w5 (w.heap.size + 2) 110 4 (.slice p5 (ys ++ [(⟨p0, p1, p2, am⟩ : Leg)]).length c5) (ys ++ [(⟨p0, p1, p2, am⟩ : Leg)]).length (legsC (ys ++ [⟨p0, p1, p2, am⟩]))) := o5
      have HB5 : Hid (Below w.heap.size w w5) := hb5
      clear hS hS5 hS6 o5 hg5 hB5 hw5 hb5
      go_wp2
      refine ⟨⟨k + 1, t + 11, .slice p5 (ys ++ [(⟨p0, p1, p2, am⟩ : Leg)]).length c5, ?_, ?_, by go_num, ?_⟩, by simp [intOf]; omega⟩
      · have := HT.out; have := HLEN.out; omega
      · have := HT.out; omega
      · rw [HL.out]
        refine ⟨⟨?_, ?_⟩, ⟨?_, ?_⟩, ⟨fun o => ?_, fun o => ?_⟩, by simp; omega, ?_, HB5.out.setCell (by simp) _⟩
        · rw [set_other (by simp)]; exact q0
        · exact (by simpa using set_same q1)
        · rw [set_other (by simp)]; exact q2
        · rw [set_other (by simp)]; exact q3
        · simp [q4]
        · simp [q5]
        · exact owns_setCell HO5.out (by simp) _
    · have hkn : k = n := by have := HT.out; have := HLEN.out; omega
      subst hkn
      have HC : Hid (unCont xs = ⟨id, unLegs xs k⟩) := by unfold Hid; rw [HID.out, HN.out]
      have hLV : LegsV wr (.slice pv (unLegs xs k).length qv) (unLegs xs k) := LegsV_of_owns ho
      have HO : Hid (World.ownsRow wr (w.heap.size + 2) 110 4 (.slice pv (unLegs xs k).length qv) (unLegs xs k).length (legsC (unLegs xs k))) := ho
      have h0 := And.intro hbl (And.intro d0 d1)
      have hz0 : w.heap.size < wr.drew.heap.size := by show w.heap.size < wr.heap.size; omega
      clear HID HN ht hk hx ho
      generalize unLegs xs k = ys at *
      go_wp2
      go_region_held3 (fun w' => Below w.heap.size w w' ∧ w'.cell? ⟨w.heap.size + 1, 0, none⟩ = some (.int .i64 id) ∧ w'.cell? ⟨w.heap.size + 1, 1, none⟩ = some (.slice pv ys.length qv)) ((first | exact keepS2 h0 (Below.drew (Below.refl _ _)) | exact hS3 | exact unKeep hS3 _ _)) (first | (go_at_call 36; refine (specFault_any id _ ys _ ?_).mono ?_; (focus (exact LegsV_below hLV (Below.drew (Below.refl _ _)))); rintro e w3 ⟨rfl, hb3⟩; have hS3 := keepS2 (keepS2 h0 (Below.drew (Below.refl _ _))) hb3; have e0 := cell_keep hb3 (cell_keep (Below.drew (Below.refl _ _)) r0); have e1 := cell_keep hb3 (cell_keep (Below.drew (Below.refl _ _)) r1); have e2 := fun o => ((bcell hb3).2 w.heap.size o hz0).trans (fr o)))
      have hS4 := (unKeep hS3 (.int .i64 id) (.slice pv ys.length qv)).1
      have HS4 : Hid (Below w.heap.size w ((w3.setCell ⟨w.heap.size, 0, none⟩ (.int .i64 id)).setCell ⟨w.heap.size, 1, none⟩ (.slice pv ys.length qv))) := hS4
      have HO3 : Hid (World.ownsRow w3 (w.heap.size + 2) 110 4 (.slice pv ys.length qv) ys.length (legsC ys)) := owns_below (owns_below HO.out (Below.drew (Below.refl _ _))) hb3
      clear hS4 hS3 hb3 h0 hLV
      go_wp2
      refine bodyPost_ret (v := .tuple #[.agg #[.int .i64 id, .slice pv ys.length qv], .bool (contractFault id ys == 0)]) (by simp [results, Tryz.results76, go_sem, e0, e1]) rfl ?_
      rw [HC.out]
      exact ⟨_, fun b => (Value.slice pv ys.length qv).ownBlock = some b, rfl, ⟨owns_base (owns_setCell (owns_setCell HO3.out (by simp) _) (by simp) _) (by omega), rfl⟩, HS4.out⟩
set_option maxHeartbeats 2000000 in
theorem l3Uncontract_bad (x : Value) (xs : List Byte) (w : World) (hx : bytesR.V w x xs) (h : ¬ (8 ≤ xs.length ∧ (xs.length - 8) % 11 = 0 ∧ xs.length ≤ 96)) :
    Calls Tryz.prog 76 #[x] w fun e w' => e = .returned (.tuple #[.agg #[.int .i64 0, .slice none 0 0], .bool false]) ∧ Below w.heap.size w w' := by
  obtain ⟨ax, cx, rfl, hcx, hmx, _⟩ := hx
  unfold maxLen at hmx
  generalize xs.length = n at *
  have c4 : IntKind.i64.wrap ((n : Int) - 8) = n - 8 := by rw [IntKind.wrap_i64]; omega
  by_cases h1 : n < 8
  · go_enter Tryz.func76, Tryz.ntmps76
    go_wp2
    exact bodyPost_ret (v := .tuple #[.agg #[.int .i64 0, .slice none 0 0], .bool false]) (by simp [results, Tryz.results76, go_sem]) rfl ⟨rfl, by (repeat (first | exact Below.refl _ _ | assumption | refine Below.drew ?_ | refine balloc ?_ _ | refine bset ?_ (by simp; omega) _ | refine bset ?_ (by simp) _ | refine bstep ?_ (by assumption)))⟩
  · obtain ⟨q, hq⟩ : ∃ q, ((n : Int) - 8).tmod 11 = q := ⟨_, rfl⟩
    have hq2 : q = ((n : Int) - 8) % 11 := by rw [← hq, Int.tmod_eq_emod_of_nonneg (by omega)]
    have HQ : Hid (q = ((n : Int) - 8) % 11) := hq2
    have hq3 : ((n : Int) - 8) % 11 = q := hq2.symm
    clear hq2
    by_cases h2 : q = 0
    · have h3 : 96 < n := by have := HQ.out; omega
      subst h2
      go_enter Tryz.func76, Tryz.ntmps76
      go_wp2
      exact bodyPost_ret (v := .tuple #[.agg #[.int .i64 0, .slice none 0 0], .bool false]) (by simp [results, Tryz.results76, go_sem]) rfl ⟨rfl, by (repeat (first | exact Below.refl _ _ | assumption | refine Below.drew ?_ | refine balloc ?_ _ | refine bset ?_ (by simp; omega) _ | refine bset ?_ (by simp) _ | refine bstep ?_ (by assumption)))⟩
    · have hd : (q == 0) = false := by simpa using h2
      go_enter Tryz.func76, Tryz.ntmps76
      go_wp2
      all_goals exact bodyPost_ret (v := .tuple #[.agg #[.int .i64 0, .slice none 0 0], .bool false]) (by simp [results, Tryz.results76, go_sem]) rfl ⟨rfl, by (repeat (first | exact Below.refl _ _ | assumption | refine Below.drew ?_ | refine balloc ?_ _ | refine bset ?_ (by simp; omega) _ | refine bset ?_ (by simp) _ | refine bstep ?_ (by assumption)))⟩
end Go.Proofs.YtecfelacdapdgaaGreat

/-
  A contract read out of bytes: the program's side.
-/
namespace Go.Proofs.YtecfelacdapdgaaGreat
open Go.RowKit
set_option linter.unusedSectionVars false
variable [DecidableEq Leg] [Inhabited Leg] [DecidableEq Cont] [Inhabited Cont] [DecidableEq ContR] [Inhabited ContR]
set_option linter.unusedSimpArgs false
attribute [local go_sem ↓] Go.wp_at_zero Go.wp_at_succ

set_option maxHeartbeats 2000000 in
theorem legIn_any (x : Value) (ys : List Byte) (w : World) (hx : BytesV w x ys) (hn : ys.length = 11) :
    Calls Tryz.prog 121 #[x] w fun e w' => e = .returned (.agg #[.int .i64 ((ys.getD 0 0).val : Int), .int .i64 ((ys.getD 1 0).val : Int), .int .i64 ((ys.getD 2 0).val : Int), .int .i64 (IntKind.i64.wrap (hiN (ys.drop 3)))]) ∧ Below w.heap.size w w' := by
  have hX := hx
  obtain ⟨ax, cx, rfl, hcx, hmx, hx⟩ := hx
  unfold maxLen at hmx
  obtain ⟨b, o, rfl, g0⟩ := hx 0 (by omega)
  obtain ⟨b', o', e, g1⟩ := hx 1 (by omega)
  simp only [Option.some.injEq, Addr.mk.injEq, and_true] at e
  obtain ⟨rfl, rfl⟩ := e
  obtain ⟨b', o', e, g2⟩ := hx 2 (by omega)
  simp only [Option.some.injEq, Addr.mk.injEq, and_true] at e
  obtain ⟨rfl, rfl⟩ := e
  have l0 := byte_lt (ys.getD 0 0)
  have l1 := byte_lt (ys.getD 1 0)
  have l2 := byte_lt (ys.getD 2 0)
  have hV3 := bytes_cut hX 3 11 (by omega) (by omega)
  rw [if_neg (by omega)] at hV3
  simp only [Option.map_some, Nat.mul_one, addP] at hV3
  rw [show (ys.drop 3).take (11 - 3) = ys.drop 3 from List.take_of_length_le (by rw [List.length_drop]; omega)] at hV3
  rw [hn] at hX hcx ⊢
  generalize ((ys.getD 0 0).val : Int) = p0 at *
  generalize ((ys.getD 1 0).val : Int) = p1 at *
  generalize ((ys.getD 2 0).val : Int) = p2 at *
  obtain ⟨am, ham⟩ : ∃ am, IntKind.i64.wrap (hiN (ys.drop 3)) = am := ⟨_, rfl⟩
  rw [ham]
  have w0 : IntKind.i64.wrap p0 = p0 := by rw [IntKind.wrap_i64]; omega
  have w1 : IntKind.i64.wrap p1 = p1 := by rw [IntKind.wrap_i64]; omega
  have w2 : IntKind.i64.wrap p2 = p2 := by rw [IntKind.wrap_i64]; omega
  have j5 : ¬ cx = 3 := by omega
  clear hx hX hn
  go_enter Tryz.func121, Tryz.ntmps121
  go_wp2
  go_region_held3 (fun w' => Below w.heap.size w w' ∧ w'.cell? ⟨b, o, none⟩ = some (.int .u8 p0) ∧ w'.cell? ⟨b, o + 1, none⟩ = some (.int .u8 p1) ∧ w'.cell? ⟨b, o + 2, none⟩ = some (.int .u8 p2)) ((refine keepN3 ?_ g0 g1 g2; (repeat (first | exact Below.refl _ _ | assumption | refine Below.drew ?_ | refine balloc ?_ _ | refine bset ?_ (by simp; omega) _ | refine bset ?_ (by simp) _ | refine bstep ?_ (by assumption))))) (first | (go_at_call 103; refine (numberIn_any _ (ys.drop 3) _ ?_).mono ?_; (focus (exact BytesV_below hV3 (by (repeat (first | exact Below.refl _ _ | assumption | refine Below.drew ?_ | refine balloc ?_ _ | refine bset ?_ (by simp; omega) _ | refine bset ?_ (by simp) _ | refine bstep ?_ (by assumption)))))); rintro e w3 ⟨rfl, rfl⟩; rw [ham]))
  all_goals
    rename_i hH
    have hB := hH.1
    clear hH
    go_wp2
    exact bodyPost_ret (v := .agg #[.int .i64 p0, .int .i64 p1, .int .i64 p2, .int .i64 am]) (by simp [results, Tryz.results121, go_sem]) rfl ⟨rfl, hB⟩
set_option maxHeartbeats 4000000 in
theorem contractIn_any (x : Value) (xs : List Byte) (w : World) (hx : bytesR.V w x xs) (h8 : 8 ≤ xs.length) (h11 : (xs.length - 8) % 11 = 0) (h96 : xs.length ≤ 96) :
    Calls Tryz.prog 102 #[x] w fun e w' => ∃ v F, e = .returned (.agg #[.int .i64 (unCont xs).id, v]) ∧ legsR.O w' w.heap.size F v (unCont xs).legs ∧ Below w.heap.size w w' := by
  have hX := hx
  obtain ⟨ax, cx, rfl, hcx, hmx, hx⟩ := hx
  unfold maxLen at hmx
  obtain ⟨b, o, rfl, _⟩ := hx 0 (by omega)
  obtain ⟨id, hid⟩ : ∃ id, IntKind.i64.wrap (hiN (xs.take 8)) = id := ⟨_, rfl⟩
  have HID : Hid (unCont xs = ⟨id, unLegs xs ((xs.length - 8) / 11)⟩) := by unfold Hid unCont; rw [hid]
  obtain ⟨n, hn⟩ : ∃ n, (xs.length - 8) / 11 = n := ⟨_, rfl⟩
  have hlen : xs.length = 8 + 11 * n := by omega
  have HLEN : Hid (xs.length = 8 + 11 * n) := hlen
  have HN : Hid ((xs.length - 8) / 11 = n) := hn
  have hV8 := bytes_cut hX 0 8 (by omega) (by omega)
  simp only [Option.map_some, Nat.mul_one, addP, Nat.zero_mul, Nat.sub_zero, List.drop_zero, Nat.add_zero, ite_self] at hV8
  clear hn hlen
  go_enter Tryz.func102, Tryz.ntmps102
  go_wp2_with fail
  refine (numberIn_any _ (xs.take 8) _ (BytesV_below hV8 (by (repeat (first | exact Below.refl _ _ | assumption | refine Below.drew ?_ | refine balloc ?_ _ | refine bset ?_ (by simp; omega) _ | refine bset ?_ (by simp) _ | refine bstep ?_ (by assumption)))))).mono ?_
  rintro e w1 ⟨rfl, rfl⟩
  rw [hid]
  clear hV8 hid
  go_wp2
  go_loopw [4] (fun i w' => ∃ (k t : Nat) (v : Value), k ≤ n ∧ t = 8 + 11 * k ∧ i = .int .i64 t ∧ UnSt w w' id v (unLegs xs k)) (fun i _ => xs.length - (intOf i).toNat)
  case atStart =>
    refine ⟨0, 8, .slice none 0 0, by omega, by omega, rfl, ⟨by simp [go_sem], by simp [go_sem]⟩, ⟨by simp [go_sem], by simp [go_sem]⟩, ⟨fun o => by simp [go_sem], fun o => by simp [go_sem]⟩, by simp, ?_, by (repeat (first | exact Below.refl _ _ | assumption | refine Below.drew ?_ | refine balloc ?_ _ | refine bset ?_ (by simp; omega) _ | refine bset ?_ (by simp) _ | refine bstep ?_ (by assumption)))⟩
    have : unLegs xs 0 = [] := rfl
    rw [this]
    exact World.ownsRow_nil _ _ _ _
  case round =>
    obtain ⟨k, t, v, hk, ht, rfl, ⟨d0, d1⟩, ⟨r0, r1⟩, ⟨fr, fd⟩, hz, ho, hbl⟩ := hrel
    have HT : Hid (k ≤ n ∧ t = 8 + 11 * k) := ⟨hk, ht⟩
    obtain ⟨pv, qv, rfl⟩ := owns_form ho
    have hzr := World.block_lt_of_cell? _ _ d0
    dsimp only at hzr
    by_cases hlt : t < xs.length
    · have hlt11 : t + 11 ≤ xs.length := by have := HLEN.out; omega
      have hV3 := bytes_cut hX t (t + 11) (by omega) (by omega)
      rw [if_neg (by omega)] at hV3
      simp only [Option.map_some, Nat.mul_one, addP] at hV3
      rw [show t + 11 - t = 11 by omega] at hV3
      obtain ⟨zs, hzs⟩ : ∃ zs, (xs.drop t).take 11 = zs := ⟨_, rfl⟩
      rw [hzs] at hV3
      have hzl : zs.length = 11 := by rw [← hzs, List.length_take, List.length_drop]; omega
      obtain ⟨l, hl⟩ : ∃ l : Leg, l = ⟨((zs.getD 0 0).val : Int), ((zs.getD 1 0).val : Int), ((zs.getD 2 0).val : Int), IntKind.i64.wrap (hiN (zs.drop 3))⟩ := ⟨_, rfl⟩
      have HL : Hid (unLegs xs (k + 1) = unLegs xs k ++ [l]) := by
        unfold Hid
        rw [unLegs_succ, ← ht, hl, ← hzs]
        congr 2
        unfold unLeg
        congr 1
        · simp [List.getD]
        · simp [List.getD]
        · simp [List.getD]
        · rw [List.drop_take, List.drop_drop]
      have hCk : ∀ W : World, Below w.heap.size w W → Calls Tryz.prog 121 #[.slice (some ⟨b, o + t, none⟩) 11 (cx - t)] W fun e w' => e = .returned (.agg #[.int .i64 l.sh, .int .i64 l.ac, .int .i64 l.ast, .int .i64 l.am]) ∧ Below W.heap.size W w' := fun W hW => by
        rw [hl]
        exact legIn_any _ zs W (BytesV_below hV3 hW) hzl
      have hol : (unLegs xs k).length ≤ 1048576 := by rw [length_unLegs]; have := HLEN.out; omega
      have y4 : IntKind.i64.wrap ((t : Int) + 11) = t + 11 := by rw [IntKind.wrap_i64]; omega
      have i4 : ((t : Int) + 11).toNat = t + 11 := by omega
      have j0 : (0 : Int) ≤ (t : Int) := by omega
      have j1 : (t : Int) < (xs.length : Int) := by omega
      have j4 : (t : Int) + 11 ≤ (cx : Int) := by omega
      have j5 : ¬ cx = t := by omega
      have j9 : (t : Int) ≤ (t : Int) + 11 := by omega
      have hle : w.heap.size ≤ w.heap.size + 2 := by omega
      have hlt0 : (⟨w.heap.size, 0, none⟩ : Addr).block < w.heap.size + 2 := by simp
      have hlt1 : (⟨w.heap.size + 1, 0, none⟩ : Addr).block < w.heap.size + 2 := by simp
      generalize unLegs xs k = ys at *
      clear hl hzs hV3 ht hk hx
      go_wp2
      refine wp_region_noPanic ?_
      refine region_upto (fun w' => Below w.heap.size w w' ∧ w'.cell? ⟨w.heap.size + 1, 1, none⟩ = some (.slice pv ys.length qv)) 11 (by kernel_rfl) ⟨Below.drew hbl, cell_keep (Below.drew (Below.refl _ _)) d1⟩ (fun hS => ?_)
      refine upto_take (i := 0) (v := ?_) rfl (by kernel_rfl) (by kernel_rfl) (by kernel_rfl) (by kernel_rfl) (fun _ _ _ h => h) (by rfl) hS ?_ ?_
      rotate_left
      · intro wS hSw
        try dsimp only at hSw
        first | (go_simp; done) | (go_simp; with_reducible rfl)
      try simp only [Act.put, List.setIfInBounds_toArray, List.set_cons_zero, List.set_cons_succ]
      refine upto_take (i := 1) (v := ?_) rfl (by kernel_rfl) (by kernel_rfl) (by kernel_rfl) (by kernel_rfl) (fun _ _ _ h => h) (by rfl) hS ?_ ?_
      rotate_left
      · intro wS hSw
        try dsimp only at hSw
        first | (go_simp; done) | (go_simp; with_reducible rfl)
      try simp only [Act.put, List.setIfInBounds_toArray, List.set_cons_zero, List.set_cons_succ]
      refine upto_take (i := 2) (v := ?_) rfl (by kernel_rfl) (by kernel_rfl) (by kernel_rfl) (by kernel_rfl) (fun _ _ _ h => h) (by rfl) hS ?_ ?_
      rotate_left
      · intro wS hSw
        try dsimp only at hSw
        first | (go_simp; done) | (go_simp; with_reducible rfl)
      try simp only [Act.put, List.setIfInBounds_toArray, List.set_cons_zero, List.set_cons_succ]
      refine upto_take (i := 3) (v := ?_) rfl (by kernel_rfl) (by kernel_rfl) (by kernel_rfl) (by kernel_rfl) (fun _ _ _ h => h) (by rfl) hS ?_ ?_
      rotate_left
      · intro wS hSw
        try dsimp only at hSw
        first | (go_simp; done) | (go_simp; with_reducible rfl)
      try simp only [Act.put, List.setIfInBounds_toArray, List.set_cons_zero, List.set_cons_succ]
      refine upto_take (i := 4) (v := ?_) rfl (by kernel_rfl) (by kernel_rfl) (by kernel_rfl) (by kernel_rfl) (fun _ _ _ h => h) (by rfl) hS ?_ ?_
      rotate_left
      · intro wS hSw
        try dsimp only at hSw
        first | (go_simp; done) | (go_simp; with_reducible rfl)
      try simp only [Act.put, List.setIfInBounds_toArray, List.set_cons_zero, List.set_cons_succ]
      refine upto_take (i := 5) (v := ?_) rfl (by kernel_rfl) (by kernel_rfl) (by kernel_rfl) (by kernel_rfl) (fun _ _ _ h => h) (by rfl) hS ?_ ?_
      rotate_left
      · intro wS hSw
        try dsimp only at hSw
        first | (go_simp; done) | (go_simp; with_reducible rfl)
      try simp only [Act.put, List.setIfInBounds_toArray, List.set_cons_zero, List.set_cons_succ]
      refine upto_take (i := 6) (v := ?_) rfl (by kernel_rfl) (by kernel_rfl) (by kernel_rfl) (by kernel_rfl) (fun _ _ _ h => h) (by rfl) hS ?_ ?_
      rotate_left
      · intro wS hSw
        try dsimp only at hSw
        first | (go_simp; done) | (go_simp; with_reducible rfl)
      try simp only [Act.put, List.setIfInBounds_toArray, List.set_cons_zero, List.set_cons_succ]
      refine upto_step (i := 7) (by kernel_rfl) rfl ?_
      intro K hK
      go_simp
      refine (hCk _ (Below.drew hbl)).mono ?_
      rintro e w3 ⟨rfl, hb3⟩
      have hS3 := And.intro (bstep hS.1 hb3) (cell_keep hb3 hS.2)
      have hbr : Below wr.heap.size wr w3 := bstep (Below.drew (Below.refl _ _)) hb3
      have hz3 := hbr.size
      refine hK _ _ (fun _ => hS3) ?_
      clear hK K
      try simp only [Act.put, List.setIfInBounds_toArray, List.set_cons_zero, List.set_cons_succ]
      refine upto_step (i := 8) (by kernel_rfl) rfl ?_
      intro K hK
      go_simp
      refine hK _ _ (fun _ => ⟨balloc hS3.1 _, cell_keep (balloc (Below.refl _ _) _) hS3.2⟩) ?_
      clear hK K
      try simp only [Act.put, List.setIfInBounds_toArray, List.set_cons_zero, List.set_cons_succ]
      refine upto_step (i := 9) (by kernel_rfl) rfl ?_
      intro K hK
      refine step_pushLeg _ rfl _ _ rfl (w.heap.size + 2) _ ys rfl l _ rfl (owns_below ho (balloc hbr _)) ?_ hol ?_ ?_
      · exact appAny_leg (g := w3.heap.size) (by simp [go_sem]) (by simp [go_sem]) (by simp [go_sem]) (by simp [go_sem])
      · simp; omega
      intro v5 w5 o5 hg5 hB5
      obtain ⟨p5, c5, rfl⟩ := owns_form o5
      have hw5 := hB5 wr ((balloc hbr _).mono hz)
      have hb5 := hbl.trans (hw5.mono hle)
      have q0 := (hw5.cell (p := ⟨w.heap.size + 1, 0, none⟩) hlt1).trans d0
      have q1 := (hw5.cell (p := ⟨w.heap.size + 1, 1, none⟩) hlt1).trans d1
      have q2 := (hw5.cell (p := ⟨w.heap.size, 0, none⟩) hlt0).trans r0
      have q3 := (hw5.cell (p := ⟨w.heap.size, 1, none⟩) hlt0).trans r1
      have q4 := fun o => (hw5.frozen (p := ⟨w.heap.size, o, none⟩) hlt0).trans (fr o)
      have q5 := fun o => (hw5.frozen (p := ⟨w.heap.size + 1, o, none⟩) hlt1).trans (fd o)
      have hS6 := And.intro hb5 q1
      refine hK _ _ (fun _ => hS6) ?_
      clear hK K
      try simp only [Act.put, List.setIfInBounds_toArray, List.set_cons_zero, List.set_cons_succ]
      refine upto_take (i := 10) (v := ?_) rfl (by kernel_rfl) (by kernel_rfl) (by kernel_rfl) (by kernel_rfl) (fun _ _ _ h => h) (by rfl) hS6 ?_ ?_
      rotate_left
      · intro wS hSw
        try dsimp only at hSw
        first | (go_simp; done) | (go_simp; with_reducible rfl)
      try simp only [Act.put, List.setIfInBounds_toArray, List.set_cons_zero, List.set_cons_succ]
      refine upto_step (i := 11) (by kernel_rfl) rfl ?_
      intro K hK
      go_simp
      refine hK _ _ (fun h => absurd rfl h) ?_
      clear hK K
      refine upto_done (by kernel_rfl) ?_
      refine NoPanic.normal ?_
      have hz5 : w.heap.size + 2 ≤ w5.heap.size := Nat.le_trans hz hw5.size
      have HO5 : Hid (World.ownsRow w5 (w.heap.size + 2) 110 4 (.slice p5 (ys ++ [l]).length c5) (ys ++ [l]).length (legsC (ys ++ [l]))) := o5
      have HB5 : Hid (Below w.heap.size w w5) := hb5
      clear hS hS3 hS6 o5 hg5 hB5 hw5 hb5 hb3 hbr hCk
      go_wp2
      refine ⟨⟨k + 1, t + 11, .slice p5 (ys ++ [l]).length c5, ?_, ?_, by go_num, ?_⟩, by simp [intOf]; omega⟩
      · have := HT.out; have := HLEN.out; omega
      · have := HT.out; omega
      · rw [HL.out]
        refine ⟨⟨?_, ?_⟩, ⟨?_, ?_⟩, ⟨fun o => ?_, fun o => ?_⟩, by simp; omega, ?_, HB5.out.setCell (by simp) _⟩
        · rw [set_other (by simp)]; exact q0
        · exact (by simpa using set_same q1)
        · rw [set_other (by simp)]; exact q2
        · rw [set_other (by simp)]; exact q3
        · simp [q4]
        · simp [q5]
        · exact owns_setCell HO5.out (by simp) _
    · have hkn : k = n := by have := HT.out; have := HLEN.out; omega
      subst hkn
      have HC : Hid (unCont xs = ⟨id, unLegs xs k⟩) := by unfold Hid; rw [HID.out, HN.out]
      have HO : Hid (World.ownsRow wr (w.heap.size + 2) 110 4 (.slice pv (unLegs xs k).length qv) (unLegs xs k).length (legsC (unLegs xs k))) := ho
      clear HID HN ht hk hx ho
      generalize unLegs xs k = ys at *
      go_wp2
      refine bodyPost_ret (v := .agg #[.int .i64 id, .slice pv ys.length qv]) (by simp [results, Tryz.results102, go_sem, r0, r1]) rfl ?_
      rw [HC.out]
      exact ⟨_, fun b => (Value.slice pv ys.length qv).ownBlock = some b, rfl, ⟨owns_base (owns_setCell (owns_setCell HO.out (by simp) _) (by simp) _) (by omega), rfl⟩, by (repeat (first | exact Below.refl _ _ | assumption | refine Below.drew ?_ | refine balloc ?_ _ | refine bset ?_ (by simp; omega) _ | refine bset ?_ (by simp) _ | refine bstep ?_ (by assumption)))⟩
end Go.Proofs.YtecfelacdapdgaaGreat


/-
  The specification's l2Set: an amount set in a list of balances.
-/
import Derived.Test.YteebglgbeijolaaLed2
import Derived.Test.YteebglgbeijolaaLegsOn
import Derived.RegionTactic
import Derived.ChangeAlike
import Derived.BigRegion
namespace Go.Proofs.Yteebglgbeijolaa
open Go.RowKit
set_option linter.unusedSectionVars false
variable [DecidableEq Bal] [Inhabited Bal] [DecidableEq Ledg] [Inhabited Ledg] [DecidableEq Leg] [Inhabited Leg]
attribute [local go_sem ↓] Go.wp_at_zero Go.wp_at_succ

def setStep (a t v : Int) (st : List Bal × Bool) (b : Bal) : List Bal × Bool :=
  if b.ac = a ∧ b.ast = t then st else if st.2 = false ∧ a * 3 + t < b.ac * 3 + b.ast then (st.1 ++ [⟨a, t, v⟩] ++ [b], true) else (st.1 ++ [b], st.2)
def setTo (a t v : Int) (xs : List Bal) (k : Nat) : List Bal × Bool := (xs.take k).foldl (setStep a t v) ([], decide (v = 0))
def setB (a t v : Int) (xs : List Bal) : List Bal := if (setTo a t v xs xs.length).2 then (setTo a t v xs xs.length).1 else (setTo a t v xs xs.length).1 ++ [⟨a, t, v⟩]
theorem setTo_succ (a t v : Int) (xs : List Bal) {k : Nat} (h : k < xs.length) : setTo a t v xs (k + 1) = setStep a t v (setTo a t v xs k) (xs.getD k default) := by
  unfold setTo
  rw [take_bal xs k h, List.foldl_append]
  rfl
theorem setTo_le (a t v : Int) (xs : List Bal) : ∀ k, k ≤ xs.length → (setTo a t v xs k).1.length ≤ 2 * k
  | 0, _ => by simp [setTo]
  | k + 1, h => by
    have ih := setTo_le a t v xs k (by omega)
    rw [setTo_succ a t v xs (by omega)]
    unfold setStep
    split
    · omega
    · split
      · simp only [List.length_append, List.length_cons, List.length_nil]; omega
      · simp only [List.length_append, List.length_cons, List.length_nil]; omega
theorem balsC_snoc (ys : List Bal) (x : Bal) : balsC (ys ++ [x]) = balsC ys ++ balC x := by simp [balsC]
theorem balC_one (x : Bal) : ∀ u ∈ balC x, u.oneCell' = true := by
  intro u hu
  simp only [balC, List.mem_cons, List.not_mem_nil, or_false] at hu
  rcases hu with rfl | rfl | rfl <;> rfl
theorem balC_cells {w : World} {b o : Nat} {x : Bal} (h : balCells w b o x) : ∀ j u, (balC x)[j]? = some u → w.cell? ((⟨b, o, none⟩ : Addr).add j) = some u := by
  obtain ⟨h0, h1, h2⟩ := h
  intro j u hj
  match j, hj with
  | 0, hj => simp [balC] at hj; subst hj; simpa [Addr.add] using h0
  | 1, hj => simp [balC] at hj; subst hj; simpa [Addr.add] using h1
  | 2, hj => simp [balC] at hj; subst hj; simpa [Addr.add] using h2
  | j + 3, hj => simp [balC] at hj

set_option maxHeartbeats 2000000 in
theorem l2Set_any (x : Value) (xs : List Bal) (a t v : Int) (w : World) (hx : balsR.V w x xs) (hn : xs.length ≤ 1000000) (hk : keyOk a t = true) (hks : ∀ k, k < xs.length → keyOk (xs.getD k default).ac (xs.getD k default).ast = true) :
    Calls Try.prog 152 #[x, .int .i64 a, .int .i64 t, .int .i64 v] w fun e w' => ∃ u F, e = .returned u ∧ balsR.O w' w.heap.size F u (setB a t v xs) ∧ Below w.heap.size w w' := by
  obtain ⟨ax, cx, rfl, hcx, hmx, hx⟩ := hx
  unfold maxLen at hmx
  obtain ⟨i0, hi, hz0, hz1, hz2⟩ := info_parts infoBal
  have HKS : Hid (∀ k, k < xs.length → keyOk (xs.getD k default).ac (xs.getD k default).ast = true) := hks
  obtain ⟨⟨q1, q2⟩, q3, q4⟩ := keyOk_iff.1 hk
  clear hks hk
  generalize hn' : xs.length = n at *
  have HN : Hid (xs.length = n) := hn'
  clear hn'
  have v1 : IntKind.i64.wrap (a * 3) = a * 3 := wrapId (by omega) (by omega)
  have v2 : IntKind.i64.wrap (a * 3 + t) = a * 3 + t := wrapId (by omega) (by omega)
  have hd0 : (v == 0) = decide (v = 0) := by by_cases h : v = 0 <;> simp [h]
  go_enter Try.func152, Try.ntmps152
  go_wp2
  go_loopw [9, 10, 11] (fun u d i w' => ∃ k : Nat, k ≤ n ∧ i = .int .i64 k ∧ d = .bool (setTo a t v xs k).2 ∧ w'.ownsRow w.heap.size 178 3 u (setTo a t v xs k).1.length (balsC (setTo a t v xs k).1) ∧ Below w.heap.size w w') (fun _ _ i _ => n - (intOf i).toNat)
  case atStart =>
    refine ⟨0, Nat.zero_le _, rfl, by simp [setTo], ?_, by (repeat (first | exact Below.refl _ _ | assumption | refine Below.drew ?_ | refine balloc ?_ _ | refine bset ?_ (by simp; omega) _ | refine bset ?_ (by simp) _ | refine bstep ?_ (by assumption)))⟩
    have := World.ownsRow_lit (base := w.heap.size) (e := 178) (size := 3) w #[] 0 (by simp) (by unfold maxLen; omega) rfl
    simpa [setTo, balsC] using this
  case round =>
    obtain ⟨k, hk, rfl, rfl, ho, hbl⟩ := hrel
    have hle := setTo_le a t v xs k (by rw [HN.out]; exact hk)
    by_cases hlt : k < n
    · obtain ⟨bx, ox, rfl, g1⟩ := hx k hlt
      have HST : Hid (setTo a t v xs (k + 1) = setStep a t v (setTo a t v xs k) (xs.getD k default)) := setTo_succ a t v xs (by rw [HN.out]; exact hlt)
      have hkk := HKS.out k hlt
      obtain ⟨l, hl⟩ : ∃ l, l = xs.getD k default := ⟨_, rfl⟩
      rw [← hl] at g1 HST hkk
      clear hl hx
      obtain ⟨⟨p1, p2⟩, p3, p4⟩ := keyOk_iff.1 hkk
      obtain ⟨st, hst⟩ : ∃ st, st = setTo a t v xs k := ⟨_, rfl⟩
      rw [← hst] at ho HST hle ⊢
      clear hst
      obtain ⟨ys, dn⟩ := st
      dsimp only at ho hle ⊢
      obtain ⟨a1, a2, a3⟩ := balCells_below hbl g1
      have v3 : IntKind.i64.wrap (l.ac * 3) = l.ac * 3 := wrapId (by omega) (by omega)
      have v4 : IntKind.i64.wrap (l.ac * 3 + l.ast) = l.ac * 3 + l.ast := wrapId (by omega) (by omega)
      have hws := hbl.size
      by_cases hm : l.ac = a ∧ l.ast = t
      · have HE : Hid (setTo a t v xs (k + 1) = (ys, dn)) := by show _ = _; rw [HST.out, setStep, if_pos hm]
        have m1 : (l.ac == a) = true := by simpa using hm.1
        have m2 : (l.ast == t) = true := by simpa using hm.2
        clear hm
        go_wp2
        refine ⟨⟨k + 1, by omega, by go_num, ?_, ?_, by (repeat (first | exact Below.refl _ _ | assumption | refine Below.drew ?_ | refine balloc ?_ _ | refine bset ?_ (by simp; omega) _ | refine bset ?_ (by simp) _ | refine bstep ?_ (by assumption)))⟩, by simp [intOf]; omega⟩
        · rw [HE.out]
        · rw [HE.out]
          exact ho.alloc _
      · have hm2 : (l.ac == a && l.ast == t) = false := by simp; intro e1 e2; exact hm ⟨e1, e2⟩
        by_cases hins : dn = false ∧ a * 3 + t < l.ac * 3 + l.ast
        · obtain ⟨rfl, hins⟩ := hins
          have HE : Hid (setTo a t v xs (k + 1) = (ys ++ [⟨a, t, v⟩] ++ [l], true)) := by show _ = _; rw [HST.out, setStep, if_neg hm, if_pos ⟨rfl, hins⟩]
          obtain ⟨nw, hnw⟩ : ∃ nw : Bal, nw = ⟨a, t, v⟩ := ⟨_, rfl⟩
          rw [← hnw] at HE
          have n1 : nw.ac = a := by rw [hnw]
          have n2 : nw.ast = t := by rw [hnw]
          have n3 : nw.am = v := by rw [hnw]
          clear hnw HST hm
          cases e1 : (l.ac == a)
          all_goals (try (have e2 : (l.ast == t) = false := by (simpa [e1] using hm2)))
          all_goals
            go_wp2_with (at_builtin; refine wpList_append_own _ rfl _ _ 171 rfl w.heap.size 178 i0 _ 3 24 Try.underlying171 hi hz0 hz1 hz2 rfl (by decide) _ _ _ rfl ((ho.alloc _).alloc _) ⟨wr.heap.size + 1, 0, none⟩ 1 1 (balC nw) rfl rfl ?c1 (balC_one nw) ?c3 ?c4 ?c5 ?_)
            case c1 =>
              intro j u hj
              first
              | exact hj
              | (refine balC_cells (b := wr.heap.size + 1) (o := 0) ?_ j u hj; exact ⟨by simp [go_sem, n1], by simp [go_sem, n2], by simp [go_sem, n3]⟩)
            case c3 => unfold maxLen; omega
            case c4 => omega
            case c5 => first | omega | (simp; omega)
            intro v' w1 hown' hgrow _
            have hB1 : Below w.heap.size w w1 := owns_grown ((ho.alloc _).alloc _) (balloc (balloc hbl _) _) (by simp; omega) (Nat.le_refl _) hgrow
            have hne : ∀ u, some wr.heap.size ≠ Value.ownBlock u ∨ True := fun _ => .inr trivial
            clear hne
            have hbx : balCells w1 wr.heap.size 0 l := by
              have hq : ∀ o z, ((wr.alloc (.cells #[.int .i64 l.ac, .int .i64 l.ast, .int .i64 l.am] 178)).alloc (.cells #[.int .i64 a, .int .i64 t, .int .i64 v] 178)).cell? ⟨wr.heap.size, o, none⟩ = some z → w1.cell? ⟨wr.heap.size, o, none⟩ = some z := by
                intro o z hz
                refine hgrow.cell hz ?_
                intro h
                have := ho.lt _ h.symm
                simp at this
              exact ⟨hq _ _ (by simp [go_sem]), hq _ _ (by simp [go_sem]), hq _ _ (by simp [go_sem])⟩
            rw [← List.length_singleton (a := nw), ← List.length_append, ← balsC_snoc] at hown'
            obtain ⟨b1, b2, b3⟩ := hbx
            have hwz := World.block_lt_of_cell? _ _ b1
            have hws1 := hB1.size
            clear hgrow ho a1 a2 a3
            simp only [Nat.zero_add] at b2 b3
            go_wp2_with (at_builtin; refine wpList_append_own _ rfl _ _ 171 rfl w.heap.size 178 i0 _ 3 24 Try.underlying171 hi hz0 hz1 hz2 rfl (by decide) _ _ _ rfl (hown'.alloc _) ⟨w1.heap.size, 0, none⟩ 1 1 (balC l) rfl rfl ?c1 (balC_one l) ?c3 ?c4 ?c5 ?_)
            case c1 =>
              intro j u hj
              first
              | exact hj
              | (refine balC_cells (b := w1.heap.size) (o := 0) ?_ j u hj; exact ⟨by simp [go_sem], by simp [go_sem], by simp [go_sem]⟩)
            case c3 => unfold maxLen; first | omega | (simp; omega)
            case c4 => first | omega | (simp; omega)
            case c5 => first | omega | (simp; omega)
            intro v2 w2 hown2 hgrow2 _
            have hB2 : Below w.heap.size w w2 := owns_grown (hown'.alloc _) (balloc hB1 _) (by simp; omega) (Nat.le_refl _) hgrow2
            clear hgrow2 hown' b1 b2 b3
            go_wp2
            refine ⟨⟨k + 1, by omega, by go_num, ?_, ?_, hB2⟩, by simp [intOf]; omega⟩
            · rw [HE.out]
            · rw [HE.out]
              rw [balsC_snoc, List.length_append, List.length_append]
              exact hown2
        · have HE : Hid (setTo a t v xs (k + 1) = (ys ++ [l], dn)) := by show _ = _; rw [HST.out, setStep, if_neg hm, if_neg hins]
          clear HST hm
          have hcase : dn = true ∨ (dn = false ∧ ¬ a * 3 + t < l.ac * 3 + l.ast) := by
            cases dn
            · exact .inr ⟨rfl, fun h => hins ⟨rfl, h⟩⟩
            · exact .inl rfl
          clear hins
          rcases hcase with rfl | ⟨rfl, hins⟩
          all_goals
            cases e1 : (l.ac == a)
            all_goals (try (have e2 : (l.ast == t) = false := by (simpa [e1] using hm2)))
            all_goals
              go_wp2_with (at_builtin; refine wpList_append_own _ rfl _ _ 171 rfl w.heap.size 178 i0 _ 3 24 Try.underlying171 hi hz0 hz1 hz2 rfl (by decide) _ _ _ rfl ((ho.alloc _).alloc _) ⟨wr.heap.size + 1, 0, none⟩ 1 1 (balC l) rfl rfl ?c1 (balC_one l) ?c3 ?c4 ?c5 ?_)
              case c1 =>
                intro j u hj
                first
                | exact hj
                | (refine balC_cells (b := wr.heap.size + 1) (o := 0) ?_ j u hj; exact ⟨by simp [go_sem], by simp [go_sem], by simp [go_sem]⟩)
              case c3 => unfold maxLen; omega
              case c4 => omega
              case c5 => first | omega | (simp; omega)
              intro v' w1 hown' hgrow _
              have hB1 : Below w.heap.size w w1 := owns_grown ((ho.alloc _).alloc _) (balloc (balloc hbl _) _) (by simp; omega) (Nat.le_refl _) hgrow
              clear hgrow ho a1 a2 a3
              go_wp2
              refine ⟨⟨k + 1, by omega, by go_num, ?_, ?_, hB1⟩, by simp [intOf]; omega⟩
              · rw [HE.out]
              · rw [HE.out]
                rw [balsC_snoc, List.length_append]
                exact hown'
    · have hkn : k = n := by omega
      subst hkn
      have HSB : Hid (setB a t v xs = if (setTo a t v xs k).2 then (setTo a t v xs k).1 else (setTo a t v xs k).1 ++ [⟨a, t, v⟩]) := by show _ = _; unfold setB; rw [HN.out]
      obtain ⟨st, hst⟩ : ∃ st, st = setTo a t v xs k := ⟨_, rfl⟩
      rw [← hst] at ho HSB hle ⊢
      clear hst hx
      obtain ⟨ys, dn⟩ := st
      dsimp only at ho hle HSB ⊢
      have hws := hbl.size
      cases dn
      · obtain ⟨nw, hnw⟩ : ∃ nw : Bal, nw = ⟨a, t, v⟩ := ⟨_, rfl⟩
        rw [← hnw] at HSB
        have n1 : nw.ac = a := by rw [hnw]
        have n2 : nw.ast = t := by rw [hnw]
        have n3 : nw.am = v := by rw [hnw]
        clear hnw
        go_wp2_with (at_builtin; refine wpList_append_own _ rfl _ _ 171 rfl w.heap.size 178 i0 _ 3 24 Try.underlying171 hi hz0 hz1 hz2 rfl (by decide) _ _ _ rfl (ho.alloc _) ⟨wr.heap.size, 0, none⟩ 1 1 (balC nw) rfl rfl ?c1 (balC_one nw) ?c3 ?c4 ?c5 ?_)
        case c1 =>
          intro j u hj
          first
          | exact hj
          | (refine balC_cells (b := wr.heap.size) (o := 0) ?_ j u hj; exact ⟨by simp [go_sem, n1], by simp [go_sem, n2], by simp [go_sem, n3]⟩)
        case c3 => unfold maxLen; omega
        case c4 => omega
        case c5 => first | omega | (simp; omega)
        intro v' w1 hown' hgrow _
        have hB1 : Below w.heap.size w w1 := owns_grown (ho.alloc _) (balloc hbl _) (by simp; omega) (Nat.le_refl _) hgrow
        clear hgrow ho
        go_wp2
        go_ret
        refine ⟨_, _, rfl, ⟨?_, rfl⟩, hB1⟩
        rw [HSB.out]
        simp only [Bool.false_eq_true, if_false]
        rw [balsC_snoc, List.length_append]
        exact hown'
      · go_wp2
        go_ret
        refine ⟨_, rfl, ⟨_, ?_, rfl⟩, hbl⟩
        rw [HSB.out, if_pos trivial]
        exact ho

end Go.Proofs.Yteebglgbeijolaa

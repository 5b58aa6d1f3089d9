import Derived.Test.YtndghenlapbaaaaGreatPrnDecideShardLaw6
import Derived.Test.YtndghenlapbaaaaGreatPrnDecideShardLaw11
import Derived.RegionTactic
import Derived.ChangeAlike
import Derived.BigRegion
import Derived.Test.YtndghenlapbaaaaGreatPrnDecideShardLaw1
import Derived.Deep.DeepAppendRoom
import Derived.Test.YtndghenlapbaaaaGreatPrnDecideShardLaw3
import Derived.Test.YtndghenlapbaaaaGreatPrnDecideShardLaw10
set_option linter.unusedSectionVars false

/-
 The specification's l2Set: an amount set in a list of balances.
-/
namespace Go.Proofs.YtndghenlapbaaaaGreat
open Go.RowKit
variable [DecidableEq Bal] [Inhabited Bal] [DecidableEq Ledg] [Inhabited Ledg] [DecidableEq Leg] [Inhabited Leg]
attribute [local go_sem ↓] Go.wp_at_zero Go.wp_at_succ

def setStep (a t v : Int) (st : List Bal × Bool) (b : Bal) : List Bal × Bool :=
 if b.ac = a ∧ b.ast = t then st else if st.2 = false ∧ a * 3 + t < b.ac * 3 + b.ast then (st.1 ++ [⟨a, t, v⟩] ++ [b], true) else (st.1 ++ [b], st.2)
def setTo (a t v : Int) (xs : List Bal) (k : Nat) : List Bal × Bool := (xs.take k).foldl (setStep a t v) ([], decide (v = 0))
def setB (a t v : Int) (xs : List Bal) : List Bal := if (setTo a t v xs xs.length).2 then (setTo a t v xs xs.length).1 else (setTo a t v xs xs.length).1 ++ [⟨a, t, v⟩]
theorem setTo_succ (a t v : Int) (xs : List Bal) {k : Nat} (h : k < xs.length) : setTo a t v xs (k + 1) = setStep a t v (setTo a t v xs k) (xs.getD k default) := by
 unfold setTo
 rw [take_bal xs k h, List.foldl_append]
 rfl
theorem setTo_le (a t v : Int) (xs : List Bal) : ∀ k, k ≤ xs.length → (setTo a t v xs k).1.length ≤ 2 * k
 | 0, _ => by simp [setTo]
 | k + 1, h => by
  have ih := setTo_le a t v xs k (by omega)
  rw [setTo_succ a t v xs (by omega)]
  unfold setStep
  split
  ·
   omega
  ·
   split
   ·
    simp only [List.length_append, List.length_cons, List.length_nil]; omega
   ·
    simp only [List.length_append, List.length_cons, List.length_nil]; omega
theorem balsC_snoc (ys : List Bal) (x : Bal) : balsC (ys ++ [x]) = balsC ys ++ balC x := by simp [balsC]
theorem balC_one (x : Bal) : ∀ u ∈ balC x, u.oneCell' = true := by
 intro u hu
 simp only [balC, List.mem_cons, List.not_mem_nil, or_false] at hu
 rcases hu with rfl | rfl | rfl <;> rfl
theorem balC_cells {w : World} {b o : Nat} {x : Bal} (h : balCells w b o x) : ∀ j u, (balC x)[j]? = some u → w.cell? ((⟨b, o, none⟩ : Addr).add j) = some u := by
 obtain ⟨h0, h1, h2⟩ := h
 intro j u hj
 match j, hj with
 | 0, hj => simp [balC] at hj; subst hj; simpa [Addr.add] using h0
 | 1, hj => simp [balC] at hj; subst hj; simpa [Addr.add] using h1
 | 2, hj => simp [balC] at hj; subst hj; simpa [Addr.add] using h2
 | j + 3, hj => simp [balC] at hj
set_option maxHeartbeats 2000000 in
theorem l2Set_any (x : Value) (xs : List Bal) (a t v : Int) (w : World) (hx : balsR.V w x xs) (hn : xs.length ≤ 1000000) (hk : keyOk a t = true) (hks : ∀ k, k < xs.length → keyOk (xs.getD k default).ac (xs.getD k default).ast = true) :
  Calls Tryz.prog 118 #[x, .int .i64 a, .int .i64 t, .int .i64 v] w fun e w' => ∃ u F, e = .returned u ∧ balsR.O w' w.heap.size F u (setB a t v xs) ∧ Below w.heap.size w w' := by
 obtain ⟨ax, cx, rfl, hcx, hmx, hx⟩ := hx
 unfold maxLen at hmx
 obtain ⟨i0, hi, hz0, hz1, hz2⟩ := info_parts infoBal
 have HKS : Hid (∀ k, k < xs.length → keyOk (xs.getD k default).ac (xs.getD k default).ast = true) := hks
 obtain ⟨⟨q1, q2⟩, q3, q4⟩ := keyOk_iff.1 hk
 clear hks hk
 generalize hn' : xs.length = n at *
 have HN : Hid (xs.length = n) := hn'
 clear hn'
 have v1 : IntKind.i64.wrap (a * 3) = a * 3 := wrapId (by omega) (by omega)
 have v2 : IntKind.i64.wrap (a * 3 + t) = a * 3 + t := wrapId (by omega) (by omega)
 have hd0 : (v == 0) = decide (v = 0) := by by_cases h : v = 0 <;> simp [h]
 go_enter Tryz.func118, Tryz.ntmps118
 go_wp2
 go_loopw [9, 10, 11] (fun u d i w' => ∃ k : Nat, k ≤ n ∧ i = .int .i64 k ∧ d = .bool (setTo a t v xs k).2 ∧ w'.ownsRow w.heap.size 99 3 u (setTo a t v xs k).1.length (balsC (setTo a t v xs k).1) ∧ Below w.heap.size w w') (fun _ _ i _ => n - (intOf i).toNat)
 case atStart =>
  refine ⟨0, Nat.zero_le _, rfl, by simp [setTo], ?_, qBq⟩
  have := World.ownsRow_lit (base := w.heap.size) (e := 99) (size := 3) w #[] 0 (by simp) (by unfold maxLen; omega) rfl
  simpa [setTo, balsC] using this
 case round =>
  obtain ⟨k, hk, rfl, rfl, ho, hbl⟩ := hrel
  have hle := setTo_le a t v xs k (by rw [HN.out]; exact hk)
  by_cases hlt : k < n
  ·
   obtain ⟨bx, ox, rfl, g1⟩ := hx k hlt
   have HST : Hid (setTo a t v xs (k + 1) = setStep a t v (setTo a t v xs k) (xs.getD k default)) := setTo_succ a t v xs (by rw [HN.out]; exact hlt)
   have hkk := HKS.out k hlt
   obtain ⟨l, hl⟩ : ∃ l, l = xs.getD k default := ⟨_, rfl⟩
   rw [← hl] at g1 HST hkk
   clear hl hx
   obtain ⟨⟨p1, p2⟩, p3, p4⟩ := keyOk_iff.1 hkk
   obtain ⟨st, hst⟩ : ∃ st, st = setTo a t v xs k := ⟨_, rfl⟩
   rw [← hst] at ho HST hle ⊢
   clear hst
   obtain ⟨ys, dn⟩ := st
   dsimp only at ho hle ⊢
   obtain ⟨a1, a2, a3⟩ := balCells_below hbl g1
   have v3 : IntKind.i64.wrap (l.ac * 3) = l.ac * 3 := wrapId (by omega) (by omega)
   have v4 : IntKind.i64.wrap (l.ac * 3 + l.ast) = l.ac * 3 + l.ast := wrapId (by omega) (by omega)
   have hws := hbl.size
   by_cases hm : l.ac = a ∧ l.ast = t
   ·
    have HE : Hid (setTo a t v xs (k + 1) = (ys, dn)) := by show _ = _; rw [HST.out, setStep, if_pos hm]
    have m1 : (l.ac == a) = true := by simpa using hm.1
    have m2 : (l.ast == t) = true := by simpa using hm.2
    clear hm
    go_wp2
    refine ⟨⟨k + 1, by omega, by go_num, ?_, ?_, qBq⟩, by simp [intOf]; omega⟩
    ·
     rw [HE.out]
    ·
     rw [HE.out]
     exact ho.alloc _
   ·
    have hm2 : (l.ac == a && l.ast == t) = false := by simp; intro e1 e2; exact hm ⟨e1, e2⟩
    by_cases hins : dn = false ∧ a * 3 + t < l.ac * 3 + l.ast
    ·
     obtain ⟨rfl, hins⟩ := hins
     have HE : Hid (setTo a t v xs (k + 1) = (ys ++ [⟨a, t, v⟩] ++ [l], true)) := by show _ = _; rw [HST.out, setStep, if_neg hm, if_pos ⟨rfl, hins⟩]
     obtain ⟨nw, hnw⟩ : ∃ nw : Bal, nw = ⟨a, t, v⟩ := ⟨_, rfl⟩
     rw [← hnw] at HE
     have n1 : nw.ac = a := by rw [hnw]
     have n2 : nw.ast = t := by rw [hnw]
     have n3 : nw.am = v := by rw [hnw]
     clear hnw HST hm
     cases e1 : (l.ac == a)
     all_goals (try (have e2 : (l.ast == t) = false := by (simpa [e1] using hm2)))
     all_goals
      go_wp2_with (at_builtin; refine wpList_append_own _ rfl _ _ 33 rfl w.heap.size 99 i0 _ 3 24 Tryz.underlying33 hi hz0 hz1 hz2 rfl (by decide) _ _ _ rfl ((ho.alloc _).alloc _) ⟨wr.heap.size + 1, 0, none⟩ 1 1 (balC nw) rfl rfl ?c1 (balC_one nw) ?c3 ?c4 ?c5 ?_)
      case c1 =>
       intro j u hj
       first
       | exact hj
       | (refine balC_cells (b := wr.heap.size + 1) (o := 0) ?_ j u hj; exact ⟨by simp [go_sem, n1], by simp [go_sem, n2], by simp [go_sem, n3]⟩)
      case c3 => unfold maxLen; omega
      case c4 => omega
      case c5 => first | omega | (simp; omega)
      intro v' w1 hown' hgrow _
      have hB1 : Below w.heap.size w w1 := owns_grown ((ho.alloc _).alloc _) (bA (bA hbl _) _) (by simp; omega) (Nat.le_refl _) hgrow
      have hne : ∀ u, some wr.heap.size ≠ Value.ownBlock u ∨ True := fun _ => .inr trivial
      clear hne
      have hbx : balCells w1 wr.heap.size 0 l := by
       have hq : ∀ o z, ((wr.alloc (.cells #[.int .i64 l.ac, .int .i64 l.ast, .int .i64 l.am] 99)).alloc (.cells #[.int .i64 a, .int .i64 t, .int .i64 v] 99)).cell? ⟨wr.heap.size, o, none⟩ = some z → w1.cell? ⟨wr.heap.size, o, none⟩ = some z := by
        intro o z hz
        refine hgrow.cell hz ?_
        intro h
        have := ho.lt _ h.symm
        simp at this
       exact ⟨hq _ _ (by simp [go_sem]), hq _ _ (by simp [go_sem]), hq _ _ (by simp [go_sem])⟩
      rw [← List.length_singleton (a := nw), ← List.length_append, ← balsC_snoc] at hown'
      obtain ⟨b1, b2, b3⟩ := hbx
      have hwz := wL _ _ b1
      have hws1 := hB1.size
      clear hgrow ho a1 a2 a3
      simp only [Nat.zero_add] at b2 b3
      go_wp2_with (at_builtin; refine wpList_append_own _ rfl _ _ 33 rfl w.heap.size 99 i0 _ 3 24 Tryz.underlying33 hi hz0 hz1 hz2 rfl (by decide) _ _ _ rfl (hown'.alloc _) ⟨w1.heap.size, 0, none⟩ 1 1 (balC l) rfl rfl ?c1 (balC_one l) ?c3 ?c4 ?c5 ?_)
      case c1 =>
       intro j u hj
       first
       | exact hj
       | (refine balC_cells (b := w1.heap.size) (o := 0) ?_ j u hj; exact ⟨by simp [go_sem], by simp [go_sem], by simp [go_sem]⟩)
      case c3 => unfold maxLen; first | omega | (simp; omega)
      case c4 => first | omega | (simp; omega)
      case c5 => first | omega | (simp; omega)
      intro v2 w2 hown2 hgrow2 _
      have hB2 : Below w.heap.size w w2 := owns_grown (hown'.alloc _) (bA hB1 _) (by simp; omega) (Nat.le_refl _) hgrow2
      clear hgrow2 hown' b1 b2 b3
      go_wp2
      refine ⟨⟨k + 1, by omega, by go_num, ?_, ?_, hB2⟩, by simp [intOf]; omega⟩
      ·
       rw [HE.out]
      ·
       rw [HE.out]
       rw [balsC_snoc, List.length_append, List.length_append]
       exact hown2
    ·
     have HE : Hid (setTo a t v xs (k + 1) = (ys ++ [l], dn)) := by show _ = _; rw [HST.out, setStep, if_neg hm, if_neg hins]
     clear HST hm
     have hcase : dn = true ∨ (dn = false ∧ ¬ a * 3 + t < l.ac * 3 + l.ast) := by
      cases dn
      ·
       exact .inr ⟨rfl, fun h => hins ⟨rfl, h⟩⟩
      ·
       exact .inl rfl
     clear hins
     rcases hcase with rfl | ⟨rfl, hins⟩
     all_goals
      cases e1 : (l.ac == a)
      all_goals (try (have e2 : (l.ast == t) = false := by (simpa [e1] using hm2)))
      all_goals
       go_wp2_with (at_builtin; refine wpList_append_own _ rfl _ _ 33 rfl w.heap.size 99 i0 _ 3 24 Tryz.underlying33 hi hz0 hz1 hz2 rfl (by decide) _ _ _ rfl ((ho.alloc _).alloc _) ⟨wr.heap.size + 1, 0, none⟩ 1 1 (balC l) rfl rfl ?c1 (balC_one l) ?c3 ?c4 ?c5 ?_)
       case c1 =>
        intro j u hj
        first
        | exact hj
        | (refine balC_cells (b := wr.heap.size + 1) (o := 0) ?_ j u hj; exact ⟨by simp [go_sem], by simp [go_sem], by simp [go_sem]⟩)
       case c3 => unfold maxLen; omega
       case c4 => omega
       case c5 => first | omega | (simp; omega)
       intro v' w1 hown' hgrow _
       have hB1 : Below w.heap.size w w1 := owns_grown ((ho.alloc _).alloc _) (bA (bA hbl _) _) (by simp; omega) (Nat.le_refl _) hgrow
       clear hgrow ho a1 a2 a3
       go_wp2
       refine ⟨⟨k + 1, by omega, by go_num, ?_, ?_, hB1⟩, by simp [intOf]; omega⟩
       ·
        rw [HE.out]
       ·
        rw [HE.out]
        rw [balsC_snoc, List.length_append]
        exact hown'
  ·
   have hkn : k = n := by omega
   subst hkn
   have HSB : Hid (setB a t v xs = if (setTo a t v xs k).2 then (setTo a t v xs k).1 else (setTo a t v xs k).1 ++ [⟨a, t, v⟩]) := by show _ = _; unfold setB; rw [HN.out]
   obtain ⟨st, hst⟩ : ∃ st, st = setTo a t v xs k := ⟨_, rfl⟩
   rw [← hst] at ho HSB hle ⊢
   clear hst hx
   obtain ⟨ys, dn⟩ := st
   dsimp only at ho hle HSB ⊢
   have hws := hbl.size
   cases dn
   ·
    obtain ⟨nw, hnw⟩ : ∃ nw : Bal, nw = ⟨a, t, v⟩ := ⟨_, rfl⟩
    rw [← hnw] at HSB
    have n1 : nw.ac = a := by rw [hnw]
    have n2 : nw.ast = t := by rw [hnw]
    have n3 : nw.am = v := by rw [hnw]
    clear hnw
    go_wp2_with (at_builtin; refine wpList_append_own _ rfl _ _ 33 rfl w.heap.size 99 i0 _ 3 24 Tryz.underlying33 hi hz0 hz1 hz2 rfl (by decide) _ _ _ rfl (ho.alloc _) ⟨wr.heap.size, 0, none⟩ 1 1 (balC nw) rfl rfl ?c1 (balC_one nw) ?c3 ?c4 ?c5 ?_)
    case c1 =>
     intro j u hj
     first
     | exact hj
     | (refine balC_cells (b := wr.heap.size) (o := 0) ?_ j u hj; exact ⟨by simp [go_sem, n1], by simp [go_sem, n2], by simp [go_sem, n3]⟩)
    case c3 => unfold maxLen; omega
    case c4 => omega
    case c5 => first | omega | (simp; omega)
    intro v' w1 hown' hgrow _
    have hB1 : Below w.heap.size w w1 := owns_grown (ho.alloc _) (bA hbl _) (by simp; omega) (Nat.le_refl _) hgrow
    clear hgrow ho
    go_wp2
    go_ret
    refine ⟨_, _, rfl, ⟨?_, rfl⟩, hB1⟩
    rw [HSB.out]
    simp only [Bool.false_eq_true, if_false]
    rw [balsC_snoc, List.length_append]
    exact hown'
   ·
    go_wp2
    go_ret
    refine ⟨_, rfl, ⟨_, ?_, rfl⟩, hbl⟩
    rw [HSB.out, if_pos trivial]
    exact ho
end Go.Proofs.YtndghenlapbaaaaGreat

/-
 Appending what lies anywhere, or nothing.
-/
namespace Go.Proofs.YtndghenlapbaaaaGreat
open Go.RowKit

def AppAny (w : World) (u : Value) (m : Nat) (news : List Value) : Prop :=
 (∃ c, u = .slice none 0 c ∧ m = 0 ∧ news = []) ∨ ∃ ad c, u = .slice (some ad) m c ∧ ∀ j x, news[j]? = some x → w.cell? (ad.add j) = some x
section
variable {P : Program} (w : World)
theorem run_append_none_any (base : Nat) (t ty e : TypeId) (i : TypeInfo) (size c : Nat) (ht : P.underlying t = some (.slice e)) (hi : P.info? e = some i)
  (v : Value) (n : Nat) (xs : List Value) (hown : w.ownsRow base e size v n xs) :
  (Builtin.append_ #[t, t] ty #[v, .slice none 0 c]).run P w = .ok v w := by
 rcases hown.2 with ⟨rfl, rfl⟩ | ⟨g, cap, cur, rfl, _, _, hnc, _⟩
 ·
  simp [Builtin.append_, run_underlying ht, sizeOf, typeInfo, hi, Builtin.lenOf, Builtin.firstCells]
 ·
  simp [Builtin.append_, run_underlying ht, sizeOf, typeInfo, hi, Builtin.lenOf, Builtin.firstCells, hnc, storeCells]
theorem wp_appAny {o : Oper} {a : Act} {K : Act → World → Prop} {Q : Exit → Act → World → Prop} (s x : Operand) (t : TypeId)
  (ho : o.op = .call { callee := .builtin .append, args := #[s, x], argTypes := #[t, t] })
  (base : Nat) (e : TypeId) (i : TypeInfo) (z : Value) (size bytes : Nat) (ht : P.underlying t = some (.slice e)) (hi : P.info? e = some i) (hz : i.zero = some z)
  (hsize : i.size = size) (hby : i.bytes = bytes) (hzs : z.cells.size = size) (hsz : 0 < size)
  (v : Value) (n : Nat) (xs : List Value) (hs : a.eval s = v) (u : Value) (m : Nat) (news : List Value) (hx : a.eval x = u)
  (hown : w.ownsRow base e size v n xs) (hsrc : AppAny w u m news) (hl : news.length = m * size) (h1 : ∀ u ∈ news, u.oneCell' = true)
  (h63 : n + m ≤ maxLen) (hbytes : (n + m) * bytes ≤ 140737488355328) (hbase : base ≤ w.heap.size)
  (h : ∀ v' w', w'.ownsRow base e size v' (n + m) (xs ++ news) → w.grownBy w' v.ownBlock → (∀ W : World, Below base W w → Below base W w') → K (a.put o.dst v') w') : o.wp P a w K Q := by
 rcases hsrc with ⟨c, rfl, rfl, rfl⟩ | ⟨ad, c, rfl, hnews⟩
 ·
  have hr := run_append_none_any (P := P) w base t o.type e i size c ht hi v n xs hown
  unfold Oper.wp execOp
  simp only [ho, resolve, invoke, builtin, Sem.run_bind, Sem.run_pure, Result.andThen_ok, List.map_toArray, List.map_cons, List.map_nil, hs, hx, hr]
  exact h v w (by simpa using hown) ⟨rfl, rfl, rfl, Nat.le_refl _, fun _ _ _ => rfl⟩ (fun _ hW => hW)
 ·
  exact wp_append_own w s x t ho base e i z size bytes ht hi hz hsize hby hzs hsz v n xs hs hown ad m c news hx hl hnews h1 h63 hbytes hbase (fun v' w' q1 q2 _ => h v' w' q1 q2 (fun W hW => hW.grown q2 hbase (fun k hk => (hown.lt k hk).1)))
theorem step_appAny {ops : Array Oper} {o : Oper} {a : Act} {K : Act → World → Prop} {Q : Exit → Act → World → Prop} {E : Prop} (hgd : o.guard = none) (s x : Operand) (t : TypeId)
  (ho : o.op = .call { callee := .builtin .append, args := #[s, x], argTypes := #[t, t] })
  (base : Nat) (e : TypeId) (i : TypeInfo) (z : Value) (size bytes : Nat) (ht : P.underlying t = some (.slice e)) (hi : P.info? e = some i) (hz : i.zero = some z)
  (hsize : i.size = size) (hby : i.bytes = bytes) (hzs : z.cells.size = size) (hsz : 0 < size)
  (v : Value) (n : Nat) (xs : List Value) (hs : a.eval s = v) (u : Value) (m : Nat) (news : List Value) (hx : a.eval x = u)
  (hown : w.ownsRow base e size v n xs) (hsrc : AppAny w u m news) (hl : news.length = m * size) (h1 : ∀ u ∈ news, u.oneCell' = true)
  (h63 : n + m ≤ maxLen) (hbytes : (n + m) * bytes ≤ 140737488355328) (hbase : base ≤ w.heap.size)
  (h : ∀ v' w', w'.ownsRow base e size v' (n + m) (xs ++ news) → w.grownBy w' v.ownBlock → (∀ W : World, Below base W w → Below base W w') → K (a.put o.dst v') w') :
  if Region.wanted o (yielded ops a.tmps) = true then Oper.wp P o a w K Q else E := by
 have hw : Region.wanted o (yielded ops a.tmps) = true := by simp [Region.wanted, hgd]
 rw [if_pos hw]
 exact wp_appAny w s x t ho base e i z size bytes ht hi hz hsize hby hzs hsz v n xs hs u m news hx hown hsrc hl h1 h63 hbytes hbase h
theorem wpList_appAny {ops : Array Oper} {rest : List Oper} {o : Oper} {a : Act} {Q : Exit → Act → World → Prop} (hgd : o.guard = none) (s x : Operand) (t : TypeId)
  (ho : o.op = .call { callee := .builtin .append, args := #[s, x], argTypes := #[t, t] })
  (base : Nat) (e : TypeId) (i : TypeInfo) (z : Value) (size bytes : Nat) (ht : P.underlying t = some (.slice e)) (hi : P.info? e = some i) (hz : i.zero = some z)
  (hsize : i.size = size) (hby : i.bytes = bytes) (hzs : z.cells.size = size) (hsz : 0 < size)
  (v : Value) (n : Nat) (xs : List Value) (hs : a.eval s = v) (u : Value) (m : Nat) (news : List Value) (hx : a.eval x = u)
  (hown : w.ownsRow base e size v n xs) (hsrc : AppAny w u m news) (hl : news.length = m * size) (h1 : ∀ u ∈ news, u.oneCell' = true)
  (h63 : n + m ≤ maxLen) (hbytes : (n + m) * bytes ≤ 140737488355328) (hbase : base ≤ w.heap.size)
  (h : ∀ v' w', w'.ownsRow base e size v' (n + m) (xs ++ news) → w.grownBy w' v.ownBlock → (∀ W : World, Below base W w → Below base W w') → wpList P ops Q rest (a.put o.dst v') w') :
  wpList P ops Q (o :: rest) a w := by
 refine wpList_plain hgd fun K' hK' => ?_
 exact wp_appAny w s x t ho base e i z size bytes ht hi hz hsize hby hzs hsz v n xs hs u m news hx hown hsrc hl h1 h63 hbytes hbase (fun v' w' q1 q2 q3 => hK' _ _ (h v' w' q1 q2 q3))
end

end Go.Proofs.YtndghenlapbaaaaGreat

/-
 Appending what lies anywhere, or nothing: balances.
-/
namespace Go.Proofs.YtndghenlapbaaaaGreat
open Go.RowKit
variable [DecidableEq Bal] [Inhabited Bal]

theorem appAny_bals {w : World} {v : Value} {xs : List Bal} (h : balsR.V w v xs) : AppAny w v xs.length (balsC xs) := by
 obtain ⟨a, c, rfl, _, _, hc⟩ := h
 cases a with
 | none =>
  have h0 : xs = [] := by
   cases xs with
   | nil => rfl
   | cons x r => obtain ⟨b, o, e, _⟩ := hc 0 (by simp); cases e
  subst h0
  exact .inl ⟨c, rfl, rfl, rfl⟩
 | some ad =>
  refine .inr ⟨ad, c, rfl, fun j x hj => ?_⟩
  have hjl : j < xs.length * 3 := by
   have := (List.getElem?_eq_some_iff.1 hj).1
   rw [length_balsC] at this
   exact this
  have hi : j / 3 < xs.length := by omega
  obtain ⟨b, o, e, g0, g1, g2⟩ := hc (j / 3) hi
  obtain ⟨q0, q1, q2⟩ := get_balsC xs (j / 3) hi
  simp only [Option.some.injEq] at e
  subst e
  have hadd : (Addr.mk b o none).add j = ⟨b, o + j, none⟩ := by
   by_cases h : j = 0
   ·
    subst h; simp [Addr.add]
   ·
    simp [Addr.add, h]
  rw [hadd]
  have hm : j % 3 = 0 ∨ j % 3 = 1 ∨ j % 3 = 2 := by omega
  rcases hm with hm | hm | hm
  ·
   have e : j = j / 3 * 3 := by omega
   have e2 : o + j = o + j / 3 * 3 := by omega
   rw [e2, g0]
   rw [e, q0] at hj
   exact hj
  ·
   have e : j = j / 3 * 3 + 1 := by omega
   have e2 : o + j = o + j / 3 * 3 + 1 := by omega
   rw [e2, g1]
   rw [e, q1] at hj
   exact hj
  ·
   have e : j = j / 3 * 3 + 2 := by omega
   have e2 : o + j = o + j / 3 * 3 + 2 := by omega
   rw [e2, g2]
   rw [e, q2] at hj
   exact hj
end Go.Proofs.YtndghenlapbaaaaGreat

/-
 The specification's l2Add: legs added to the balances of a shard.
-/
namespace Go.Proofs.YtndghenlapbaaaaGreat
open Go.RowKit
variable [DecidableEq Bal] [Inhabited Bal] [DecidableEq Ledg] [Inhabited Ledg] [DecidableEq Leg] [Inhabited Leg] [DecidableEq Cont] [Inhabited Cont]
attribute [local go_sem ↓] Go.wp_at_zero Go.wp_at_succ

def addStep (xs : List Bal) (l : Leg) : List Bal := setB l.ac l.ast (hasB l.ac l.ast xs + l.am) xs
def addTo (xs : List Bal) (ls : List Leg) (k : Nat) : List Bal := (ls.take k).foldl addStep xs
def addB (xs : List Bal) (ls : List Leg) : List Bal := ls.foldl addStep xs
theorem addTo_succ (xs : List Bal) (ls : List Leg) {k : Nat} (h : k < ls.length) : addTo xs ls (k + 1) = addStep (addTo xs ls k) (ls.getD k default) := by
 unfold addTo
 rw [take_snoc ls k h, List.foldl_append]
 rfl
theorem addTo_end (xs : List Bal) (ls : List Leg) : addTo xs ls ls.length = addB xs ls := by unfold addTo addB; rw [List.take_length]
structure AddOk (xs : List Bal) (ls : List Leg) : Prop where
 len : ∀ k, k ≤ ls.length → (addTo xs ls k).length ≤ 1000000
 keys : ∀ k, k ≤ ls.length → ∀ j, j < (addTo xs ls k).length → keyOk ((addTo xs ls k).getD j default).ac ((addTo xs ls k).getD j default).ast = true
 leg : ∀ k, k < ls.length → keyOk (ls.getD k default).ac (ls.getD k default).ast = true
 sum : ∀ k, k < ls.length → -9223372036854775808 ≤ hasB (ls.getD k default).ac (ls.getD k default).ast (addTo xs ls k) + (ls.getD k default).am ∧ hasB (ls.getD k default).ac (ls.getD k default).ast (addTo xs ls k) + (ls.getD k default).am ≤ 9223372036854775807
set_option maxHeartbeats 2000000 in
theorem l2Add_any (x y : Value) (xs : List Bal) (ls : List Leg) (w : World) (hx : balsR.V w x xs) (hy : legsR.V w y ls) (hok : AddOk xs ls) :
  Calls Tryz.prog 92 #[x, y] w fun e w' => ∃ u F, e = .returned u ∧ balsR.O w' w.heap.size F u (addB xs ls) ∧ Below w.heap.size w w' := by
 have hX := hx
 obtain ⟨ax, cx, rfl⟩ := bals_form hx
 obtain ⟨ay, cy, rfl, hcy, hmy, hy⟩ := hy
 unfold maxLen at hmy
 obtain ⟨i0, hi, hz0, hz1, hz2⟩ := info_parts infoBal
 have HOK : Hid (AddOk xs ls) := hok
 have hlen : xs.length ≤ 1000000 := hok.len 0 (Nat.zero_le _)
 clear hok hx
 generalize hn' : ls.length = n at *
 have HN : Hid (ls.length = n) := hn'
 clear hn'
 have hs0 : AppAny (w.alloc (.cells #[] 99)) (.slice ax xs.length cx) xs.length (balsC xs) := appAny_bals (balsR.below hX (qBq))
 have ho0 := World.ownsRow_lit (base := w.heap.size) (e := 99) (size := 3) w #[] 0 (by simp) (by unfold maxLen; omega) rfl
 go_enter Tryz.func92, Tryz.ntmps92
 go_wp2_with (at_builtin; refine wpList_appAny _ rfl _ _ 33 rfl w.heap.size 99 i0 _ 3 24 Tryz.underlying33 hi hz0 hz1 hz2 rfl (by decide) _ _ _ rfl _ xs.length (balsC xs) rfl ho0 hs0 ?c1 ?c2 ?c3 ?c4 ?c5 ?_)
 case c1 => rw [length_balsC]
 case c2 =>
  intro u hu
  simp only [balsC, List.mem_flatMap] at hu
  obtain ⟨b, _, hb⟩ := hu
  exact balC_one b u hb
 case c3 => unfold maxLen; omega
 case c4 => omega
 intro v' w1 hown' hgrow hbel
 have hB1 : Below w.heap.size w w1 := hbel w (qBq)
 have ho1 : ∃ F, balsR.O w1 w.heap.size F v' xs := ⟨_, hown', rfl⟩
 clear hown' hgrow hbel hs0 ho0 hX
 go_wp2
 go_loopw [5, 6] (fun u i w' => ∃ k : Nat, k ≤ n ∧ i = .int .i64 k ∧ (∃ F, balsR.O w' w.heap.size F u (addTo xs ls k)) ∧ Below w.heap.size w w') (fun _ i _ => n - (intOf i).toNat)
 case atStart => exact ⟨0, Nat.zero_le _, rfl, by simpa [addTo] using ho1, hB1⟩
 case round =>
  obtain ⟨k, hk, rfl, ⟨F, ho⟩, hbl⟩ := hrel
  by_cases hlt : k < n
  ·
   obtain ⟨bx, ox, rfl, g1⟩ := hy k hlt
   have hkl : k < ls.length := by rw [HN.out]; exact hlt
   have HST : Hid (addTo xs ls (k + 1) = addStep (addTo xs ls k) (ls.getD k default)) := addTo_succ xs ls hkl
   have hl1 := HOK.out.len k (by omega)
   have hl2 := HOK.out.keys k (by omega)
   have hl3 := HOK.out.leg k hkl
   have hl4 := HOK.out.sum k hkl
   obtain ⟨l, hl⟩ : ∃ l, l = ls.getD k default := ⟨_, rfl⟩
   rw [← hl] at g1 HST hl3 hl4
   clear hl hy ho1
   obtain ⟨ys, hys⟩ : ∃ ys, ys = addTo xs ls k := ⟨_, rfl⟩
   rw [← hys] at ho HST hl1 hl2 hl4
   clear hys
   have HK2 : Hid (∀ j, j < ys.length → keyOk (ys.getD j default).ac (ys.getD j default).ast = true) := hl2
   clear hl2
   obtain ⟨z, hz⟩ : ∃ z, z = hasB l.ac l.ast ys := ⟨_, rfl⟩
   rw [← hz] at hl4
   have HE : Hid (addTo xs ls (k + 1) = setB l.ac l.ast (z + l.am) ys) := by show _ = _; rw [HST.out, addStep, hz]
   have v1 : IntKind.i64.wrap (z + l.am) = z + l.am := wrapId hl4.1 hl4.2
   have g2 := legCells_below hbl g1
   obtain ⟨au, cu, rfl⟩ := bals_form (balsR.ofO ho)
   have hV := balsR.ofO ho
   have i1 : (k : Int) < (n : Int) := by omega
   obtain ⟨a1, a2, a3, a4⟩ := g2
   have g3 : legCells wr bx (ox + k * 4) l := ⟨a1, a2, a3, a4⟩
   go_wp2
   go_region_held3 (fun w' => Below wr.heap.size wr w' ∧ w'.cell? ⟨bx, ox + k * 4, none⟩ = some (.int .i64 l.sh) ∧ w'.cell? ⟨bx, ox + k * 4 + 1, none⟩ = some (.int .i64 l.ac) ∧ w'.cell? ⟨bx, ox + k * 4 + 2, none⟩ = some (.int .i64 l.ast) ∧ w'.cell? ⟨bx, ox + k * 4 + 3, none⟩ = some (.int .i64 l.am))
    ((refine legKeep ?_ g3; (repeat (first | exact bR _ _ | assumption | refine bD ?_ | refine bA ?_ _ | refine bS ?_ (by assumption)))))
    (first | (go_at_call 119; refine (l2Has_any _ ys l.ac l.ast _ (balsR.below hV (Below.drew (Below.refl _ _)))).mono ?_; rw [← hz]; rintro e w3 ⟨rfl, rfl⟩) | (go_at_call 118; (first | rw [← hz, v1] | rw [v1] | skip); refine (l2Set_any _ ys l.ac l.ast (z + l.am) _ (balsR.below hV (Below.drew (Below.refl _ _))) hl1 hl3 HK2.out).mono ?_; rintro e w4 ⟨u4, F4, rfl, o4, hb4⟩))
   rename_i hH
   have hB4 := bS hbl hH.1
   have hsz := hH.1.size
   have hw0 := hbl.size
   clear hH
   go_wp2
   refine ⟨⟨k + 1, by omega, by go_num, ⟨F4, ?_⟩, hB4⟩, by simp [intOf]; omega⟩
   rw [HE.out]
   exact balsR.base o4 (by simpa using hw0)
  ·
   have hkn : k = n := by omega
   subst hkn
   go_wp2
   go_ret
   refine ⟨_, F, rfl, ?_, hbl⟩
   rw [← HN.out, addTo_end] at ho
   exact ho
end Go.Proofs.YtndghenlapbaaaaGreat


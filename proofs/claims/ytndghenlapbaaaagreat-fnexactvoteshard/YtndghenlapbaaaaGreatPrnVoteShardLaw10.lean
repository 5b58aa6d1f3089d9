import Derived.Test.YtndghenlapbaaaaGreatPrnVoteShardLaw5
import Derived.Test.YtndghenlapbaaaaGreatPrnVoteShardLaw9
import Derived.Maps.RangeWalk
import Derived.WalkKit
import Derived.Sort.MapsRangeIn
import Derived.Test.YtndghenlapbaaaaGreatPrnVoteShardLaw8
import Derived.Test.YtndghenlapbaaaaGreatPrnVoteShardLaw1
import Derived.Deep.DeepAppendRoom
import Derived.Test.YtndghenlapbaaaaGreatPrnVoteShardLaw3
set_option linter.unusedSectionVars false
set_option linter.unusedVariables false
set_option linter.unusedSimpArgs false

/-
 maps.Keys over a book: its keys, in whatever order.
-/
namespace Go.Proofs.YtndghenlapbaaaaGreat
open Go.RowKit Go.Shelf Go.Maps
variable [DecidableEq Bal] [Inhabited Bal] [DecidableEq Ledg] [Inhabited Ledg] [DecidableEq Leg] [Inhabited Leg] [DecidableEq Cont] [Inhabited Cont]
attribute [local go_sem] Oper.semAt_some

def KOk (f : Int → Int → Int → Option Int) (ys : List K3) : Prop := ys.Nodup ∧ ∀ x ∈ ys, (f x.1 x.2.1 x.2.2).isSome = true
end Go.Proofs.YtndghenlapbaaaaGreat

/-
 The legs of one shard, on both sides.
-/
namespace Go.Proofs.YtndghenlapbaaaaGreat
open Go.RowKit
variable [DecidableEq Leg] [Inhabited Leg]
attribute [local go_sem ↓] Go.wp_at_zero Go.wp_at_succ

def onSh (s : Int) (xs : List Leg) : List Leg := xs.filter (fun l => l.sh == s)
theorem onSh_hit (s : Int) (xs : List Leg) (k : Nat) (h : k < xs.length) (hs : (xs.getD k default).sh = s) : onSh s (xs.take (k + 1)) = onSh s (xs.take k) ++ [xs.getD k default] := by
 rw [take_snoc xs k h]; simp only [onSh, List.filter_append]; simp only [List.filter_cons, List.filter_nil, hs, beq_self_eq_true, if_true]
theorem onSh_miss (s : Int) (xs : List Leg) (k : Nat) (h : k < xs.length) (hs : ¬ (xs.getD k default).sh = s) : onSh s (xs.take (k + 1)) = onSh s (xs.take k) := by
 rw [take_snoc xs k h]; simp only [onSh, List.filter_append, List.filter_cons, List.filter_nil, beq_eq_false_iff_ne.2 hs]; simp
theorem onSh_le (s : Int) (xs : List Leg) (k : Nat) : (onSh s (xs.take k)).length ≤ k := by
 have := List.length_filter_le (fun l : Leg => l.sh == s) (xs.take k)
 have h2 := List.length_take_le k xs
 simp only [onSh]; omega
theorem legsC_snoc (xs : List Leg) (l : Leg) : legsC (xs ++ [l]) = legsC xs ++ legC l := by simp [legsC]
theorem legC_one (l : Leg) : ∀ u ∈ legC l, u.oneCell' = true := by
 intro u hu
 simp only [legC, List.mem_cons, List.not_mem_nil, or_false] at hu
 rcases hu with rfl | rfl | rfl | rfl <;> rfl
theorem legC_cells {w : World} {b o : Nat} {l : Leg} (h : legCells w b o l) : ∀ j u, (legC l)[j]? = some u → w.cell? ((⟨b, o, none⟩ : Addr).add j) = some u := by
 obtain ⟨h0, h1, h2, h3⟩ := h
 intro j u hj
 match j, hj with
 | 0, hj => simp [legC] at hj; subst hj; simpa [Addr.add] using h0
 | 1, hj => simp [legC] at hj; subst hj; simpa [Addr.add] using h1
 | 2, hj => simp [legC] at hj; subst hj; simpa [Addr.add] using h2
 | 3, hj => simp [legC] at hj; subst hj; simpa [Addr.add] using h3
 | j + 4, hj => simp [legC] at hj
theorem owns_grown {w w' : World} {B : Nat} {base e size : Nat} {v : Value} {n : Nat} {xs : List Value} (h : w.ownsRow base e size v n xs) {W : World} (hb : Below B W w) (hB : B ≤ w.heap.size) (hbase : B ≤ base) (hg : w.grownBy w' v.ownBlock) : Below B W w' :=
 hb.grown hg hB (fun k hk => Nat.le_trans hbase (h.lt k hk).1)
set_option maxHeartbeats 1000000 in
theorem legsOn_any (x : Value) (xs : List Leg) (s : Int) (w : World) (hx : LegsV w x xs) (hn : xs.length ≤ 1048576) :
  Calls Tryz.prog 73 #[x, .int .i64 s] w fun e w' => ∃ v, e = .returned v ∧ w'.ownsRow w.heap.size 93 4 v (onSh s xs).length (legsC (onSh s xs)) ∧ Below w.heap.size w w' := by
 obtain ⟨ax, cx, rfl, hcx, hmx, hx⟩ := hx
 unfold maxLen at hmx
 obtain ⟨i0, hi, hz0, hz1, hz2⟩ := info_parts infoLeg
 generalize hn' : xs.length = n at *
 have HN : Hid (xs.length = n) := hn'
 clear hn'
 go_enter Tryz.func73, Tryz.ntmps73
 go_wp2
 go_loopw [5, 10] (fun v i w' => ∃ k : Nat, k ≤ n ∧ i = .int .i64 k ∧ w'.ownsRow w.heap.size 93 4 v (onSh s (xs.take k)).length (legsC (onSh s (xs.take k))) ∧ Below w.heap.size w w') (fun _ i _ => n - (intOf i).toNat)
 case atStart => exact ⟨0, Nat.zero_le _, rfl, by simpa [onSh, legsC] using World.ownsRow_nil _ _ _ _, Below.refl _ _⟩
 case round =>
  obtain ⟨k, hk, rfl, ho, hbl⟩ := hrel
  by_cases hlt : k < n
  ·
   obtain ⟨bx, ox, rfl, g1⟩ := hx k hlt
   obtain ⟨l, hl⟩ : ∃ l, l = xs.getD k default := ⟨_, rfl⟩
   rw [← hl] at g1
   have HL : Hid (l = xs.getD k default) := hl
   clear hl hx
   obtain ⟨a1, a2, a3, a4⟩ := legCells_below hbl g1
   have hkx : k < xs.length := by have := HN.out; omega
   have hle := onSh_le s xs k
   have hsz := hbl.size
   by_cases hs : l.sh = s
   ·
    have e1 := onSh_hit s xs k hkx (by rw [← HL.out]; exact hs)
    rw [← HL.out] at e1
    have HE : Hid (onSh s (xs.take (k + 1)) = onSh s (xs.take k) ++ [l]) := e1
    have HS : Hid (l.sh = s) := hs
    have hd : (l.sh == s) = true := by simpa using hs
    generalize onSh s (xs.take k) = ys at *
    clear e1 hs
    go_wp2_with (at_builtin; refine wpList_append_own _ rfl _ _ 42 rfl w.heap.size 93 i0 _ 4 32 Tryz.underlying42 hi hz0 hz1 hz2 rfl (by decide) _ _ _ rfl ((ho.alloc _).alloc _) ⟨wr.heap.size + 1, 0, none⟩ 1 1 (legC l) rfl rfl ?c1 (legC_one l) ?c3 ?c4 ?c5 ?_)
    case c1 => exact legC_cells (b := wr.heap.size + 1) (o := 0) ⟨by simp [go_sem], by simp [go_sem], by simp [go_sem], by simp [go_sem]⟩
    case c3 => unfold maxLen; omega
    case c4 => omega
    case c5 => simp; omega
    ·
     intro v' w1 hown' hgrow _
     have hB1 : Below w.heap.size w w1 := owns_grown ((ho.alloc _).alloc _) (bA (bA hbl _) _) (by simp; omega) (Nat.le_refl _) hgrow
     clear hgrow ho a1 a2 a3 a4
     go_wp2
     refine ⟨⟨k + 1, by omega, by go_num, ?_, hB1⟩, by simp [intOf]; omega⟩
     rw [HE.out, legsC_snoc, List.length_append]
     exact hown'
   ·
    have e1 := onSh_miss s xs k hkx (by rw [← HL.out]; exact hs)
    have HE : Hid (onSh s (xs.take (k + 1)) = onSh s (xs.take k)) := e1
    have hd : (l.sh == s) = false := by simpa using hs
    clear e1 hs
    go_wp2
    refine ⟨⟨k + 1, by omega, by go_num, ?_, bA hbl _⟩, by simp [intOf]; omega⟩
    rw [HE.out]
    exact ho.alloc _
  ·
   go_wp2
   go_ret
   have hkn : k = n := by omega
   subst hkn
   have t0 : xs.take k = xs := by rw [← HN.out]; exact List.take_length
   rw [t0] at ho
   exact ⟨_, rfl, ho, hbl⟩
set_option maxHeartbeats 1000000 in
theorem l1Legs_any (id : Int) (x : Value) (xs : List Leg) (s : Int) (w : World) (hx : LegsV w x xs) (hn : xs.length ≤ 1048576) :
  Calls Tryz.prog 27 #[.agg #[.int .i64 id, x], .int .i64 s] w fun e w' => ∃ v, e = .returned v ∧ w'.ownsRow w.heap.size 93 4 v (onSh s xs).length (legsC (onSh s xs)) ∧ Below w.heap.size w w' := by
 obtain ⟨ax, cx, rfl, hcx, hmx, hx⟩ := hx
 unfold maxLen at hmx
 obtain ⟨i0, hi, hz0, hz1, hz2⟩ := info_parts infoLeg
 generalize hn' : xs.length = n at *
 have HN : Hid (xs.length = n) := hn'
 clear hn'
 go_enter Tryz.func27, Tryz.ntmps27
 go_wp2
 go_loopw [5, 6] (fun v i w' => ∃ k : Nat, k ≤ n ∧ i = .int .i64 k ∧ w'.ownsRow (w.heap.size + 1) 93 4 v (onSh s (xs.take k)).length (legsC (onSh s (xs.take k))) ∧ w'.cell? ⟨w.heap.size, 1, none⟩ = some (.slice ax n cx) ∧ w.heap.size + 1 ≤ w'.heap.size ∧ Below w.heap.size w w') (fun _ i _ => n - (intOf i).toNat)
 case atStart =>
  refine ⟨0, Nat.zero_le _, rfl, ?_, by simp [go_sem], by simp, bA (bA (Below.refl _ _) _) _⟩
  have := World.ownsRow_lit (base := w.heap.size + 1) (e := 93) (size := 4) (w.alloc (.cells #[.int .i64 id, .slice ax n cx] 44)) #[] 0 (by simp) (by unfold maxLen; omega) rfl
  simpa [onSh, legsC] using this
 case round =>
  obtain ⟨k, hk, rfl, ho, hbx, hsz, hbl⟩ := hrel
  by_cases hlt : k < n
  ·
   obtain ⟨bx, ox, rfl, g1⟩ := hx k hlt
   obtain ⟨l, hl⟩ : ∃ l, l = xs.getD k default := ⟨_, rfl⟩
   rw [← hl] at g1
   have HL : Hid (l = xs.getD k default) := hl
   clear hl hx
   obtain ⟨a1, a2, a3, a4⟩ := legCells_below hbl g1
   have hkx : k < xs.length := by have := HN.out; omega
   have hle := onSh_le s xs k
   by_cases hs : l.sh = s
   ·
    have e1 := onSh_hit s xs k hkx (by rw [← HL.out]; exact hs)
    rw [← HL.out] at e1
    have HE : Hid (onSh s (xs.take (k + 1)) = onSh s (xs.take k) ++ [l]) := e1
    have hd : (l.sh == s) = true := by simpa using hs
    generalize onSh s (xs.take k) = ys at *
    clear e1 hs
    go_wp2_with (at_builtin; refine wpList_append_own _ rfl _ _ 42 rfl (w.heap.size + 1) 93 i0 _ 4 32 Tryz.underlying42 hi hz0 hz1 hz2 rfl (by decide) _ _ _ rfl (ho.alloc _) ⟨wr.heap.size, 0, none⟩ 1 1 (legC l) rfl rfl ?c1 (legC_one l) ?c3 ?c4 ?c5 ?_)
    case c1 => exact legC_cells (b := wr.heap.size) (o := 0) ⟨by simp [go_sem], by simp [go_sem], by simp [go_sem], by simp [go_sem]⟩
    case c3 => unfold maxLen; omega
    case c4 => omega
    case c5 => simp; omega
    ·
     intro v' w1 hown' hgrow _
     have hz : w.heap.size < wr.heap.size := wL _ _ hbx
     have hB1 : Below w.heap.size w w1 := owns_grown (ho.alloc _) (bA hbl _) (by simp; omega) (by omega) hgrow
     have hbx1 : w1.cell? ⟨w.heap.size, 1, none⟩ = some (.slice (some ⟨bx, ox, none⟩) n cx) := by
      refine hgrow.cell (cK (bA (Below.refl _ _) _) hbx) ?_
      intro h
      have := (ho.alloc (.cells #[.int .i64 l.sh, .int .i64 l.ac, .int .i64 l.ast, .int .i64 l.am] 93)).lt _ h.symm
      simp at this
      omega
     have hz1 : w.heap.size + 1 ≤ w1.heap.size := wL _ _ hbx1
     clear hgrow ho a1 a2 a3 a4
     go_wp2
     refine ⟨⟨k + 1, by omega, by go_num, ?_, hbx1, hz1, hB1⟩, by simp [intOf]; omega⟩
     rw [HE.out, legsC_snoc, List.length_append]
     exact hown'
   ·
    have e1 := onSh_miss s xs k hkx (by rw [← HL.out]; exact hs)
    have HE : Hid (onSh s (xs.take (k + 1)) = onSh s (xs.take k)) := e1
    have hd : (l.sh == s) = false := by simpa using hs
    clear e1 hs
    go_wp2
    refine ⟨⟨k + 1, by omega, by go_num, ?_, hbx, hsz, hbl⟩, by simp [intOf]; omega⟩
    rw [HE.out]
    exact ho
  ·
   go_wp2
   go_ret
   have hkn : k = n := by omega
   subst hkn
   have t0 : xs.take k = xs := by rw [← HN.out]; exact List.take_length
   rw [t0] at ho
   exact ⟨_, rfl, owns_base ho (by omega), hbl⟩
end Go.Proofs.YtndghenlapbaaaaGreat

/-
 Appending what lies anywhere, or nothing.
-/
namespace Go.Proofs.YtndghenlapbaaaaGreat
open Go.RowKit

def AppAny (w : World) (u : Value) (m : Nat) (news : List Value) : Prop :=
 (∃ c, u = .slice none 0 c ∧ m = 0 ∧ news = []) ∨ ∃ ad c, u = .slice (some ad) m c ∧ ∀ j x, news[j]? = some x → w.cell? (ad.add j) = some x
section
variable {P : Program} (w : World)
theorem run_append_none_any (base : Nat) (t ty e : TypeId) (i : TypeInfo) (size c : Nat) (ht : P.underlying t = some (.slice e)) (hi : P.info? e = some i)
  (v : Value) (n : Nat) (xs : List Value) (hown : w.ownsRow base e size v n xs) :
  (Builtin.append_ #[t, t] ty #[v, .slice none 0 c]).run P w = .ok v w := by
 rcases hown.2 with ⟨rfl, rfl⟩ | ⟨g, cap, cur, rfl, _, _, hnc, _⟩
 ·
  simp [Builtin.append_, run_underlying ht, sizeOf, typeInfo, hi, Builtin.lenOf, Builtin.firstCells]
 ·
  simp [Builtin.append_, run_underlying ht, sizeOf, typeInfo, hi, Builtin.lenOf, Builtin.firstCells, hnc, storeCells]
theorem wp_appAny {o : Oper} {a : Act} {K : Act → World → Prop} {Q : Exit → Act → World → Prop} (s x : Operand) (t : TypeId)
  (ho : o.op = .call { callee := .builtin .append, args := #[s, x], argTypes := #[t, t] })
  (base : Nat) (e : TypeId) (i : TypeInfo) (z : Value) (size bytes : Nat) (ht : P.underlying t = some (.slice e)) (hi : P.info? e = some i) (hz : i.zero = some z)
  (hsize : i.size = size) (hby : i.bytes = bytes) (hzs : z.cells.size = size) (hsz : 0 < size)
  (v : Value) (n : Nat) (xs : List Value) (hs : a.eval s = v) (u : Value) (m : Nat) (news : List Value) (hx : a.eval x = u)
  (hown : w.ownsRow base e size v n xs) (hsrc : AppAny w u m news) (hl : news.length = m * size) (h1 : ∀ u ∈ news, u.oneCell' = true)
  (h63 : n + m ≤ maxLen) (hbytes : (n + m) * bytes ≤ 140737488355328) (hbase : base ≤ w.heap.size)
  (h : ∀ v' w', w'.ownsRow base e size v' (n + m) (xs ++ news) → w.grownBy w' v.ownBlock → (∀ W : World, Below base W w → Below base W w') → K (a.put o.dst v') w') : o.wp P a w K Q := by
 rcases hsrc with ⟨c, rfl, rfl, rfl⟩ | ⟨ad, c, rfl, hnews⟩
 ·
  have hr := run_append_none_any (P := P) w base t o.type e i size c ht hi v n xs hown
  unfold Oper.wp execOp
  simp only [ho, resolve, invoke, builtin, Sem.run_bind, Sem.run_pure, Result.andThen_ok, List.map_toArray, List.map_cons, List.map_nil, hs, hx, hr]
  exact h v w (by simpa using hown) ⟨rfl, rfl, rfl, Nat.le_refl _, fun _ _ _ => rfl⟩ (fun _ hW => hW)
 ·
  exact wp_append_own w s x t ho base e i z size bytes ht hi hz hsize hby hzs hsz v n xs hs hown ad m c news hx hl hnews h1 h63 hbytes hbase (fun v' w' q1 q2 _ => h v' w' q1 q2 (fun W hW => hW.grown q2 hbase (fun k hk => (hown.lt k hk).1)))
theorem step_appAny {ops : Array Oper} {o : Oper} {a : Act} {K : Act → World → Prop} {Q : Exit → Act → World → Prop} {E : Prop} (hgd : o.guard = none) (s x : Operand) (t : TypeId)
  (ho : o.op = .call { callee := .builtin .append, args := #[s, x], argTypes := #[t, t] })
  (base : Nat) (e : TypeId) (i : TypeInfo) (z : Value) (size bytes : Nat) (ht : P.underlying t = some (.slice e)) (hi : P.info? e = some i) (hz : i.zero = some z)
  (hsize : i.size = size) (hby : i.bytes = bytes) (hzs : z.cells.size = size) (hsz : 0 < size)
  (v : Value) (n : Nat) (xs : List Value) (hs : a.eval s = v) (u : Value) (m : Nat) (news : List Value) (hx : a.eval x = u)
  (hown : w.ownsRow base e size v n xs) (hsrc : AppAny w u m news) (hl : news.length = m * size) (h1 : ∀ u ∈ news, u.oneCell' = true)
  (h63 : n + m ≤ maxLen) (hbytes : (n + m) * bytes ≤ 140737488355328) (hbase : base ≤ w.heap.size)
  (h : ∀ v' w', w'.ownsRow base e size v' (n + m) (xs ++ news) → w.grownBy w' v.ownBlock → (∀ W : World, Below base W w → Below base W w') → K (a.put o.dst v') w') :
  if Region.wanted o (yielded ops a.tmps) = true then Oper.wp P o a w K Q else E := by
 have hw : Region.wanted o (yielded ops a.tmps) = true := by simp [Region.wanted, hgd]
 rw [if_pos hw]
 exact wp_appAny w s x t ho base e i z size bytes ht hi hz hsize hby hzs hsz v n xs hs u m news hx hown hsrc hl h1 h63 hbytes hbase h
theorem wpList_appAny {ops : Array Oper} {rest : List Oper} {o : Oper} {a : Act} {Q : Exit → Act → World → Prop} (hgd : o.guard = none) (s x : Operand) (t : TypeId)
  (ho : o.op = .call { callee := .builtin .append, args := #[s, x], argTypes := #[t, t] })
  (base : Nat) (e : TypeId) (i : TypeInfo) (z : Value) (size bytes : Nat) (ht : P.underlying t = some (.slice e)) (hi : P.info? e = some i) (hz : i.zero = some z)
  (hsize : i.size = size) (hby : i.bytes = bytes) (hzs : z.cells.size = size) (hsz : 0 < size)
  (v : Value) (n : Nat) (xs : List Value) (hs : a.eval s = v) (u : Value) (m : Nat) (news : List Value) (hx : a.eval x = u)
  (hown : w.ownsRow base e size v n xs) (hsrc : AppAny w u m news) (hl : news.length = m * size) (h1 : ∀ u ∈ news, u.oneCell' = true)
  (h63 : n + m ≤ maxLen) (hbytes : (n + m) * bytes ≤ 140737488355328) (hbase : base ≤ w.heap.size)
  (h : ∀ v' w', w'.ownsRow base e size v' (n + m) (xs ++ news) → w.grownBy w' v.ownBlock → (∀ W : World, Below base W w → Below base W w') → wpList P ops Q rest (a.put o.dst v') w') :
  wpList P ops Q (o :: rest) a w := by
 refine wpList_plain hgd fun K' hK' => ?_
 exact wp_appAny w s x t ho base e i z size bytes ht hi hz hsize hby hzs hsz v n xs hs u m news hx hown hsrc hl h1 h63 hbytes hbase (fun v' w' q1 q2 q3 => hK' _ _ (h v' w' q1 q2 q3))
end

end Go.Proofs.YtndghenlapbaaaaGreat

/-
 Appending what lies anywhere, or nothing: balances.
-/
namespace Go.Proofs.YtndghenlapbaaaaGreat
open Go.RowKit
variable [DecidableEq Bal] [Inhabited Bal]

theorem appAny_bals {w : World} {v : Value} {xs : List Bal} (h : balsR.V w v xs) : AppAny w v xs.length (balsC xs) := by
 obtain ⟨a, c, rfl, _, _, hc⟩ := h
 cases a with
 | none =>
  have h0 : xs = [] := by
   cases xs with
   | nil => rfl
   | cons x r => obtain ⟨b, o, e, _⟩ := hc 0 (by simp); cases e
  subst h0
  exact .inl ⟨c, rfl, rfl, rfl⟩
 | some ad =>
  refine .inr ⟨ad, c, rfl, fun j x hj => ?_⟩
  have hjl : j < xs.length * 3 := by
   have := (List.getElem?_eq_some_iff.1 hj).1
   rw [length_balsC] at this
   exact this
  have hi : j / 3 < xs.length := by omega
  obtain ⟨b, o, e, g0, g1, g2⟩ := hc (j / 3) hi
  obtain ⟨q0, q1, q2⟩ := get_balsC xs (j / 3) hi
  simp only [Option.some.injEq] at e
  subst e
  have hadd : (Addr.mk b o none).add j = ⟨b, o + j, none⟩ := by
   by_cases h : j = 0
   ·
    subst h; simp [Addr.add]
   ·
    simp [Addr.add, h]
  rw [hadd]
  have hm : j % 3 = 0 ∨ j % 3 = 1 ∨ j % 3 = 2 := by omega
  rcases hm with hm | hm | hm
  ·
   have e : j = j / 3 * 3 := by omega
   have e2 : o + j = o + j / 3 * 3 := by omega
   rw [e2, g0]
   rw [e, q0] at hj
   exact hj
  ·
   have e : j = j / 3 * 3 + 1 := by omega
   have e2 : o + j = o + j / 3 * 3 + 1 := by omega
   rw [e2, g1]
   rw [e, q1] at hj
   exact hj
  ·
   have e : j = j / 3 * 3 + 2 := by omega
   have e2 : o + j = o + j / 3 * 3 + 2 := by omega
   rw [e2, g2]
   rw [e, q2] at hj
   exact hj
end Go.Proofs.YtndghenlapbaaaaGreat


/-
  A table drawn.
-/
import Derived.Test.YtaahmmadcdfcpaaDtc
namespace Go.Proofs.Ytaahmmadcdfcpaa
open Go.RowKit
set_option linter.unusedSectionVars false
variable [DecidableEq Logg] [Inhabited Logg] [DecidableEq LoggR] [Inhabited LoggR] [DecidableEq BytesR] [Inhabited BytesR] [DecidableEq RecsR] [Inhabited RecsR] [DecidableEq Leg] [Inhabited Leg] [DecidableEq Rw] [Inhabited Rw] [DecidableEq TabR] [Inhabited TabR]
set_option linter.unusedVariables false
set_option linter.unusedSimpArgs false
attribute [local go_sem ↓] Go.wp_at_zero Go.wp_at_succ

theorem OutS.mod {W W' : World} {base : Nat} {v : Value} {ys : List Rw} {F : Nat → Prop} (h : OutS W base v ys) (hm : Mod F W W') (hF : ∀ b, base ≤ b → ¬ F b) : OutS W' base v ys :=
  ⟨h.1, hm.owns h.2 (fun b hb => hF b (h.2.lt b hb).1)⟩
/-- texts that are short -/
def Small (xs : List Rw) : Prop := ∀ x ∈ xs, x.key.size ≤ 100 ∧ x.val.size ≤ 200
theorem Small.fit {xs : List Rw} (h : Small xs) : Fit xs := fit_mem.2 (fun x hx => by
  have := h x hx
  unfold maxLen
  omega)
theorem Small.put {ys : List Rw} {r : Rw} (h : Small ys) (hr : r.key.size ≤ 100 ∧ r.val.size ≤ 200) : Small (putL ys r) := fun x hx => by
  rcases mem_putL hx with h1 | rfl
  · exact h x h1
  · exact hr
theorem Small.set {ys : List Rw} {r : Rw} (h : Small ys) (hr : r.key.size ≤ 100 ∧ r.val.size ≤ 200) (j : Nat) : Small (ys.set j r) := fun x hx => by
  rcases List.mem_or_eq_of_mem_set hx with h1 | rfl
  · exact h x h1
  · exact hr
theorem rwsC_set : ∀ (ys : List Rw) (j : Nat) (r : Rw), rwsC (ys.set j r) = (((((rwsC ys).set (j * 4) (.string r.key)).set (j * 4 + 1) (.int .i64 r.ver)).set (j * 4 + 2) (.string r.val)).set (j * 4 + 3) (.bool r.gone))
  | [], j, r => by simp [rwsC]
  | y :: ys, 0, r => by
    have e : ∀ x l, rwsC (x :: l) = [.string x.key, .int .i64 x.ver, .string x.val, .bool x.gone] ++ rwsC l := fun x l => by simp [rwsC, rowC]
    rw [List.set_cons_zero, e, e]
    simp
  | y :: ys, j + 1, r => by
    have e : ∀ x l, rwsC (x :: l) = [.string x.key, .int .i64 x.ver, .string x.val, .bool x.gone] ++ rwsC l := fun x l => by simp [rwsC, rowC]
    rw [List.set_cons_succ, e, e, rwsC_set ys j r]
    rw [show (j + 1) * 4 = j * 4 + 1 + 1 + 1 + 1 by omega, show j * 4 + 1 + 1 + 1 + 1 + 1 = (j * 4 + 1) + 1 + 1 + 1 + 1 by omega, show j * 4 + 1 + 1 + 1 + 1 + 2 = (j * 4 + 2) + 1 + 1 + 1 + 1 by omega, show j * 4 + 1 + 1 + 1 + 1 + 3 = (j * 4 + 3) + 1 + 1 + 1 + 1 by omega]
    simp only [List.cons_append, List.nil_append, List.set_cons_succ]
def zeroRows : List Rw := List.replicate 201 ⟨⟨#[]⟩, 0, ⟨#[]⟩, false⟩
theorem zeroRows_small : Small zeroRows := fun x hx => by
  rw [List.eq_of_mem_replicate hx]
  exact ⟨by decide, by decide⟩
theorem rwsC_replicate (r : Rw) : ∀ n, rwsC (List.replicate n r) = (List.replicate n (rowC r)).flatten
  | 0 => rfl
  | n + 1 => by
    rw [List.replicate_succ, List.replicate_succ, List.flatten_cons, ← rwsC_replicate r n]
    simp [rwsC]
theorem made_rows (r : Rw) : ∀ n, (madeCells (rowC r).toArray (n * 4)).toList = rwsC (List.replicate n r)
  | 0 => by simp [madeCells, rwsC]
  | n + 1 => by
    have ih := made_rows r n
    rw [show List.replicate (n + 1) r = List.replicate n r ++ [r] from List.replicate_succ', rwsC_snoc, ← ih]
    simp only [madeCells, Array.toList_map, Array.toList_range]
    rw [show (n + 1) * 4 = n * 4 + 1 + 1 + 1 + 1 by omega, List.range_succ, List.range_succ, List.range_succ, List.range_succ]
    simp only [List.map_append, List.map_cons, List.map_nil, List.append_assoc]
    congr 1
    have e4 : (rowC r).toArray.size = 4 := rfl
    rw [e4, show n * 4 % 4 = 0 by omega, show (n * 4 + 1) % 4 = 1 by omega, show (n * 4 + 1 + 1) % 4 = 2 by omega, show (n * 4 + 1 + 1 + 1) % 4 = 3 by omega]
    rfl
theorem zeroCells : (Value.agg #[.string ⟨#[]⟩, .int .i64 0, .string ⟨#[]⟩, .bool false]).cells = (rowC ⟨⟨#[]⟩, 0, ⟨#[]⟩, false⟩).toArray := by kernel_rfl
theorem zeroRows_made : (madeCells (Value.agg #[.string ⟨#[]⟩, .int .i64 0, .string ⟨#[]⟩, .bool false]).cells (201 * 4)).toList = rwsC zeroRows := by
  rw [zeroCells]
  unfold zeroRows
  exact made_rows ⟨⟨#[]⟩, 0, ⟨#[]⟩, false⟩ 201
theorem zeroRows_len : zeroRows.length = 201 := List.length_replicate

set_option maxRecDepth 20000 in
set_option maxHeartbeats 8000000 in
theorem l5Table_any (B : Nat) (w : World) (bs : Nat) (a : Option Addr) (k cap t : Nat) (h : Src B w bs a k cap t) (ht : t ≤ 70000) :
    Calls Try.prog 26 #[.pointer (some ⟨bs, 0, none⟩)] w fun e w' => ∃ v F xs t', e = .returned v ∧ rowsR.O w' w.heap.size F v xs ∧ xs.length ≤ 201 ∧ Small xs ∧ Src B w' bs a k cap t' ∧ t' ≤ t + 400 ∧ Mod (fun b => b = bs) w w' := by
  have hlt := h.lt
  obtain ⟨i0, hi, hz0, hz1, hz2⟩ := info_parts infoRw
  go_enter Try.func26, Try.ntmps26
  go_wp2_with fail
  refine (l1Next_any B _ bs a k cap t 9 (h.below (by (repeat (first | exact Below.refl _ _ | assumption | refine Below.drew ?_ | refine balloc ?_ _ | refine bset ?_ (by simp; omega) _ | refine bset ?_ (by simp) _ | refine bstep ?_ (by assumption))))) (by omega) (by omega) (by omega)).mono ?_
  rintro e w1 ⟨n1, rfl, hn1, h1, m1⟩
  have O0 : OutS w1 w.heap.size (.slice (some ⟨w.heap.size, 0, none⟩) 0 0) [] := OutS.mod (F := fun b => b = bs) ⟨⟨w.heap.size, 0, rfl⟩, World.ownsRow_lit (base := w.heap.size) (e := 38) (size := 4) w #[] 0 (Nat.le_refl _) (by unfold maxLen; omega) rfl⟩ m1 (fun b hb e => by omega)
  have M1 : Mod (fun b => b = bs) w w1 := (Mod.of_below (balloc (Below.refl _ _) _)).trans m1
  clear m1 h
  go_wp2
  go_loopw [3, 4] (fun v i W => ∃ (ys : List Rw) (m tt : Nat), i = .int .i64 m ∧ m + ys.length ≤ 8 ∧ Hid (OutS W w.heap.size v ys) ∧ Hid (Small ys) ∧ Src B W bs a k cap tt ∧ tt + 4 * m ≤ t + 40 ∧ Mod (fun b => b = bs) w W) (fun _ i _ => (intOf i).toNat)
  case atStart => exact ⟨[], n1, t + 1, rfl, by simp; omega, O0, (fun x hx => by cases hx), h1, by omega, M1⟩
  case round =>
    obtain ⟨ys, m, tt, rfl, hm, HO, HS, hs, htt, hM⟩ := hrel
    clear O0 h1 M1
    by_cases h0 : 0 < m
    · have h0' : (0 : Int) < m := by omega
      go_wp2_with fail
      refine (l5Row_any B _ bs a k cap tt hs (by omega)).mono ?_
      rintro e w2 ⟨r, rfl, hr1, hr2, h2, m2⟩
      have hsz := hM.size
      have hsz2 := m2.size
      have O2 := HO.out.mod m2 (fun b hb e => by omega)
      obtain ⟨g, c, rfl⟩ := HO.out.1
      go_wp2_with fail
      refine (l5Put_L _ ys r w.heap.size w2 O2 (by omega) (by omega)).mono ?_
      rintro e w3 ⟨v3, rfl, O3, b3⟩
      have HO3 : Hid (OutS w3 w.heap.size v3 (putL ys r)) := O3
      have HS3 : Hid (Small (putL ys r)) := HS.out.put ⟨by omega, by omega⟩
      have hlp := (length_putL ys r).2
      obtain ⟨g3, c3, rfl⟩ := O3.1
      have M3 : Mod (fun b => b = bs) w w3 := (hM.trans m2).transB b3
      have h3 := h2.below b3
      clear O3 O2 HO HS hs hM m2 b3 h2
      have hw : IntKind.i64.wrap ((m : Int) - 1) = (m : Int) - 1 := wrapI _ (by omega) (by omega)
      go_wp2
      exact ⟨⟨putL ys r, m - 1, tt + 4, by rw [show ((m - 1 : Nat) : Int) = (m : Int) - 1 by omega], by omega, HO3, HS3, h3, by omega, M3⟩, by simp [intOf]; omega⟩
    · have hm0 : m = 0 := by omega
      subst hm0
      obtain ⟨g, c, rfl⟩ := HO.out.1
      have hO := HO.out.2
      by_cases hl0 : ys.length = 0
      · have : ys = [] := List.eq_nil_of_length_eq_zero hl0
        subst this
        go_wp2
        go_ret
        exact ⟨_, _, [], tt, rfl, ⟨⟨hO, rfl⟩, HS.out.fit⟩, by simp, HS.out, hs, by omega, hM⟩
      have hl0' : ¬ ((ys.length : Int) = 0) := by omega
      go_wp2_with fail
      refine (l1Next_any B _ bs a k cap tt 20 hs (by omega) (by omega) (by omega)).mono ?_
      rintro e w2 ⟨n2, rfl, hn2, h2, m2⟩
      have hsz := hM.size
      have hsz2 := m2.size
      have O2 := HO.out.mod m2 (fun b hb e => by omega)
      have M2 := hM.trans m2
      have HS2 : Hid (Small ys) := HS.out
      clear HO HS hs hM m2 hO
      obtain ⟨L, hL⟩ : ∃ L, L = ys.length := ⟨_, rfl⟩
      have HL : Hid (ys.length = L) := hL.symm
      have HO2 : Hid (OutS w2 w.heap.size (.slice (some ⟨g, 0, none⟩) L c) ys) := by rw [hL]; exact O2
      rw [← hL] at hl0 hl0' hm ⊢
      clear O2 hL
      have hwn : (0 : Int) ≤ n2 := by omega
      by_cases c0 : n2 = 0
      · subst c0
        have hgb : g ≠ bs := by
          have := (HO2.out.2.lt g rfl).1
          omega
        go_wp2_with fail
        refine (l1Next_any B _ bs a k cap (tt + 1) (L : Int) h2 (by omega) (by omega) (by omega)).mono ?_
        rintro e w3 ⟨j, rfl, hj, h3, m3⟩
        have O3 := HO2.out.mod m3 (fun b hb e => by omega)
        have M3 := M2.trans m3
        have hsz3 := m3.size
        clear HO2 M2 m3 h2
        go_wp2_with fail
        refine (l5Bent_any B _ bs a k cap (tt + 1 + 1) h3 (by omega)).mono ?_
        rintro e w4 ⟨⟨rk, rv, rx, rg⟩, t4, rfl, hr1, hr2, h4, ht4, m4⟩
        have O4 := O3.mod m4 (fun b hb e => by omega)
        have M4 := M3.trans m4
        clear O3 M3 m4 h3
        have ho1 := O4.2
        rw [HL.out] at ho1
        have hjL : j < L := by omega
        obtain ⟨u0, g0⟩ := owns_some ho1 (j * 4) (by omega)
        obtain ⟨u1, g1⟩ := owns_some ho1 (j * 4 + 1) (by omega)
        obtain ⟨u2, g2⟩ := owns_some ho1 (j * 4 + 2) (by omega)
        obtain ⟨u3, g3⟩ := owns_some ho1 (j * 4 + 3) (by omega)
        have hf := fun j => ho1.frozenAt j
        have hgw : w.heap.size ≤ g := (ho1.lt g rfl).1
        have hj0 : (0 : Int) ≤ j := by omega
        unfold rowV
        go_wp2
        go_ret
        have s0 := ho1.stored (j * 4) (.string rk)
        have s1 := s0.1.stored (j * 4 + 1) (.int .i64 rv)
        have s2 := s1.1.stored (j * 4 + 2) (.string rx)
        have s3 := (s2.1.stored (j * 4 + 3) (.bool rg)).1
        have hset := rwsC_set ys j ⟨rk, rv, rx, rg⟩
        dsimp only at hset hr1 hr2
        have hlen : (ys.set j ⟨rk, rv, rx, rg⟩).length = L := by rw [List.length_set]; exact HL.out
        rw [← hset] at s3
        have hK : Mod (fun b => b = g) w4 ((((w4.setCell ⟨g, j * 4, none⟩ (.string rk)).setCell ⟨g, j * 4 + 1, none⟩ (.int .i64 rv)).setCell ⟨g, j * 4 + 2, none⟩ (.string rx)).setCell ⟨g, j * 4 + 3, none⟩ (.bool rg)) := by
          refine msetT ?_ _ _ (by rfl)
          refine msetT ?_ _ _ (by rfl)
          refine msetT ?_ _ _ (by rfl)
          refine msetT ?_ _ _ (by rfl)
          exact Mod.refl _ _
        refine ⟨.slice (some ⟨g, 0, none⟩) L c, _, ys.set j ⟨rk, rv, rx, rg⟩, t4, rfl, ⟨⟨by rw [hlen]; exact s3, rfl⟩, (HS2.out.set ⟨hr1, hr2⟩ j).fit⟩, by omega, HS2.out.set ⟨hr1, hr2⟩ j, ?_, by omega, ?_⟩
        · exact h4.mod hK (fun b e => by omega)
        · exact M4.trans2 hK (fun b e hb => by omega)
      have c0' : ¬ ((n2 : Int) = 0) := by omega
      by_cases c1 : n2 = 1
      · subst c1
        have ho1 := HO2.out.2
        rw [HL.out] at ho1
        obtain ⟨p0, p1, p2, p3⟩ : rowCells w2 g (0 + 0 * 4) (ys.getD 0 default) := by
          obtain ⟨a9, c9, e9, _, _, h9⟩ := RowsV_of_owns HO2.out.2
          obtain ⟨b, o, e, h⟩ := h9 0 (by rw [HL.out]; omega)
          simp only [Value.slice.injEq] at e9
          rw [← e9.1] at e
          simp only [Option.some.injEq, Addr.mk.injEq, and_true] at e
          obtain ⟨rfl, rfl⟩ := e
          exact h
        obtain ⟨l, hl⟩ : ∃ l, l = ys.getD 0 default := ⟨_, rfl⟩
        rw [← hl] at p0 p1 p2 p3
        have HLL : Hid (l = ys.getD 0 default) := hl
        clear hl
        go_wp2_with (at_builtin; refine wpList_append_own_at _ rfl _ _ 24 rfl w.heap.size 38 i0 _ 4 48 Try.underlying24 hi hz0 hz1 hz2 rfl (by decide) _ L (rwsC ys) rfl (ho1.alloc _) ⟨w2.heap.size, 0, none⟩ 1 1 (rowC l) rfl rfl ?c1 (rowC_one l) ?c3 ?c4 ?c5 ?_)
        case c1 =>
          intro j u hj
          match j, hj with
          | 0, hj => simp [rowC] at hj; subst hj; simp [Addr.add, go_sem]
          | 1, hj => simp [rowC] at hj; subst hj; simp [Addr.add, go_sem]
          | 2, hj => simp [rowC] at hj; subst hj; simp [Addr.add, go_sem]
          | 3, hj => simp [rowC] at hj; subst hj; simp [Addr.add, go_sem]
          | j + 4, hj => simp [rowC] at hj
        case c3 => unfold maxLen; omega
        case c4 => omega
        case c5 => first | omega | (simp; omega)
        intro v' w5 o5 g5 _ _
        obtain ⟨g', cap', rfl⟩ := ownsRow_succ o5
        have hlen : (ys ++ [l]).length = L + 1 := by rw [List.length_append, HL.out]; rfl
        have hSm : Small (ys ++ [l]) := fun x hx => by
          rcases List.mem_append.1 hx with hx | hx
          · exact HS2.out x hx
          · rw [List.mem_singleton.1 hx, HLL.out]
            have h0 : 0 < ys.length := by rw [HL.out]; omega
            have e : ys.getD 0 default = ys[0] := by simp [List.getD, h0]
            rw [e]
            exact HS2.out _ (List.getElem_mem h0)
        have hgb : g ≠ bs := by
          have := (ho1.lt g rfl).1
          omega
        have hgw : w.heap.size ≤ g := (ho1.lt g rfl).1
        have hK := (Mod.of_below (F := fun b => (Value.slice (some ⟨g, 0, none⟩) L c).ownBlock = some b) (balloc (Below.refl w2.heap.size w2) _)).trans (Mod.of_grown g5)
        go_wp2
        go_ret
        refine ⟨.slice (some ⟨g', 0, none⟩) (L + 1) cap', _, ys ++ [l], tt + 1, rfl, ⟨⟨by rw [hlen, rwsC_snoc]; exact o5, rfl⟩, hSm.fit⟩, by omega, hSm, ?_, by omega, ?_⟩
        · exact h2.mod hK (fun b e => by simp [Value.ownBlock] at e; omega)
        · exact M2.trans2 hK (fun b e hb => by simp [Value.ownBlock] at e; omega)
      have c1' : ¬ ((n2 : Int) = 1) := by omega
      by_cases c2 : n2 = 2
      · subst c2
        obtain ⟨w5, hmk, o5, g5⟩ := run_make_full (P := Try.prog) w2 w.heap.size 24 38 i0 _ 4 Try.underlying24 hi hz0 hz1 .i64 .i64 201 (by rw [hz2]; omega) (by unfold maxLen; omega) (by omega)
        rw [zeroRows_made] at o5
        have hmk' : (Instr.makeSlice 24 (.int .i64 201) (.int .i64 201)).run Try.prog w2 = .ok (.slice (some ⟨w2.heap.size, 0, none⟩) 201 201) w5 := hmk
        have hb5 : Below w2.heap.size w2 w5 := (Below.refl _ _).grown g5 (Nat.le_refl _) (fun k h => by cases h)
        clear hmk g5
        go_wp2
        go_ret
        exact ⟨.slice (some ⟨w2.heap.size, 0, none⟩) 201 201, _, zeroRows, tt + 1, rfl, ⟨⟨by rw [zeroRows_len]; exact o5, rfl⟩, zeroRows_small.fit⟩, by rw [zeroRows_len]; omega, zeroRows_small, h2.below hb5, by omega, M2.transB hb5⟩
      have c2' : ¬ ((n2 : Int) = 2) := by omega
      go_wp2
      go_ret
      have o2 := HO2.out.2
      exact ⟨.slice (some ⟨g, 0, none⟩) L c, _, ys, tt + 1, rfl, ⟨⟨o2, rfl⟩, HS2.out.fit⟩, by rw [HL.out]; omega, HS2.out, h2, by omega, M2⟩

end Go.Proofs.Ytaahmmadcdfcpaa

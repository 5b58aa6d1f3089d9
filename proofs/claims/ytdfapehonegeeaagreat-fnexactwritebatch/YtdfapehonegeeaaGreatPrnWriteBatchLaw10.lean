import Derived.Test.YtdfapehonegeeaaGreatPrnWriteBatchLaw9
import Derived.Test.YtdfapehonegeeaaGreatPrnWriteBatchLaw7
import Derived.Test.YtdfapehonegeeaaGreatPrnWriteBatchLaw8
import Derived.Test.YtdfapehonegeeaaGreatPrnWriteBatchLaw6
import Derived.Test.YtdfapehonegeeaaGreatPrnWriteBatchLaw1
import Derived.Deep.RegionHeld3
import Derived.Deep.DrawnRows

/-
  Rows appended in a region that draws its order.
-/
namespace Go.Proofs.YtdfapehonegeeaaGreat
open Go.RowKit
set_option linter.unusedSectionVars false
variable [DecidableEq Rw] [Inhabited Rw] [DecidableEq TabR] [Inhabited TabR]
set_option linter.unusedVariables false
set_option linter.unusedSimpArgs false

def rowsF : Rep (List Rw) := fRep 76 4 rwsC RowsV RowsV_below RowsV_of_owns
theorem rwsC_app (xs ys : List Rw) : rwsC (xs ++ ys) = rwsC xs ++ rwsC ys := by simp [rwsC]
theorem rwsC_oneC (xs : List Rw) : ∀ u ∈ rwsC xs, u.oneCell' = true := by
  intro u hu
  unfold rwsC at hu
  obtain ⟨l, _, h⟩ := List.mem_flatMap.1 hu
  exact rowC_one l u h
theorem rwsC_cellsAt {w : World} {b o : Nat} : ∀ (xs : List Rw), (∀ i, i < xs.length → rowCells w b (o + i * 4) (xs.getD i default)) → ∀ j u, (rwsC xs)[j]? = some u → w.cell? ⟨b, o + j, none⟩ = some u := by
  intro xs h j u hj
  have hlt : j < (rwsC xs).length := by
    rcases Nat.lt_or_ge j (rwsC xs).length with h | h
    · exact h
    · rw [List.getElem?_eq_none h] at hj; cases hj
  rw [length_rwsC] at hlt
  have hi : j / 4 < xs.length := by omega
  obtain ⟨g0, g1, g2, g3⟩ := get_rwsC xs (j / 4) hi
  obtain ⟨c0, c1, c2, c3⟩ := h (j / 4) hi
  have hm : j % 4 = 0 ∨ j % 4 = 1 ∨ j % 4 = 2 ∨ j % 4 = 3 := by omega
  rcases hm with e | e | e | e
  · have ej : j = j / 4 * 4 := by omega
    rw [ej] at hj ⊢
    rw [g0] at hj
    rw [← hj]
    exact c0
  · have ej : j = j / 4 * 4 + 1 := by omega
    rw [ej] at hj ⊢
    rw [g1] at hj
    rw [← hj, ← Nat.add_assoc]
    exact c1
  · have ej : j = j / 4 * 4 + 2 := by omega
    rw [ej] at hj ⊢
    rw [g2] at hj
    rw [← hj, ← Nat.add_assoc]
    exact c2
  · have ej : j = j / 4 * 4 + 3 := by omega
    rw [ej] at hj ⊢
    rw [g3] at hj
    rw [← hj, ← Nat.add_assoc]
    exact c3
theorem step_appRows (Y : World) {ops : Array Oper} {o : Oper} {a : Act} {K : Act → World → Prop} {Q : Exit → Act → World → Prop} {E : Prop} (hgd : o.guard = none) (s x : Operand)
    (ho : o.op = .call { callee := .builtin .append, args := #[s, x], argTypes := #[32, 32] })
    (base : Nat) (v : Value) (F1 : Nat → Prop) (xs : List Rw) (hs : a.eval s = v) (u : Value) (ys : List Rw) (hx : a.eval x = u)
    (hown : rowsF.O Y base F1 v xs) (hsrc : AppAny Y u ys.length (rwsC ys)) (hlen : xs.length + ys.length ≤ 1048576) (hbase : base ≤ Y.heap.size)
    (h : ∀ v' w', rowsF.O w' base (fun b => v'.ownBlock = some b) v' (xs ++ ys) → Mod F1 Y w' → (∀ b, v'.ownBlock = some b → F1 b ∨ (Y.heap.size ≤ b ∧ b < w'.heap.size)) → K (a.put o.dst v') w') :
    if Region.wanted o (yielded ops a.tmps) = true then Oper.wp Tryz.prog o a Y K Q else E := by
  obtain ⟨i0, hi, hz0, hz1, hz2⟩ := info_parts infoRw
  have hF1 : F1 = fun b => v.ownBlock = some b := hown.2
  rcases hsrc with ⟨c, rfl, hm, _⟩ | ⟨ad, c, rfl, hc⟩
  · have hy : ys = [] := List.eq_nil_of_length_eq_zero hm
    subst hy
    have hw : Region.wanted o (yielded ops a.tmps) = true := by simp [Region.wanted, hgd]
    rw [if_pos hw]
    have hr := run_append_none_any (P := Tryz.prog) Y base 32 o.type 76 i0 4 c Tryz.underlying32 hi v xs.length (rwsC xs) hown.1
    unfold Oper.wp execOp
    simp only [ho, resolve, invoke, builtin, Sem.run_bind, Sem.run_pure, Result.andThen_ok, List.map_toArray, List.map_cons, List.map_nil, hs, hx, hr]
    refine h v Y ?_ (Mod.refl _ _) (fun b hb => .inl (by rw [hF1]; exact hb))
    rw [List.append_nil]
    exact ⟨hown.1, rfl⟩
  · refine step_append_at Y hgd s x 32 ho base 76 i0 _ 4 48 Tryz.underlying32 hi hz0 hz1 hz2 rfl (by decide) v xs.length (rwsC xs) hs hown.1 ad ys.length c (rwsC ys) hx (length_rwsC ys) hc (rwsC_oneC ys) (by unfold maxLen; omega) (by omega) hbase ?_
    intro v' w' h1 h2 h3
    refine h v' w' ⟨by rw [List.length_append, rwsC_app]; exact h1, rfl⟩ (by rw [hF1]; exact Mod.of_grown h2) (fun b hb => ?_)
    rcases h3 with h3 | h3
    · exact .inl (by rw [hF1]; exact h3 ▸ hb)
    · rw [h3] at hb
      simp only [Option.some.injEq] at hb
      have := (h1.lt b (by rw [h3, hb])).2
      exact .inr ⟨by omega, this⟩
def putG (base : Nat) (p q : List Rw) (r : Rw) : Nat → (Nat → Value) → (Nat → Prop) → World → Prop
  | 0, y, F, w => rowsF.O w base F (y 34) []
  | 4, y, F, w => rowsF.O w base F (y 38) p
  | 6, y, F, w => rowsF.O w base F (y 40) [r]
  | 7, y, F, w => rowsF.O w base F (y 41) (p ++ [r])
  | 11, y, F, w => rowsF.O w base F (y 45) (p ++ [r] ++ q)
  | _, _, _, _ => True
def putC : Nat → List Nat
  | 4 => [0]
  | 7 => [4]
  | 11 => [7]
  | _ => []
theorem rowsAny_own {w : World} {base e size : Nat} {v : Value} {n : Nat} {cs : List Value} (h : w.ownsRow base e size v n cs) : AppAny w v n cs := by
  rcases h.2 with ⟨rfl, rfl⟩ | ⟨g, cap, cur, rfl, _, hh, _, _, _, ht⟩
  · refine .inl ⟨0, rfl, rfl, ?_⟩
    have := h.1
    simp at this
    exact this
  · refine .inr ⟨_, _, rfl, fun j x hj => ?_⟩
    have hlt : j < cs.length := by
      rcases Nat.lt_or_ge j cs.length with h | h
      · exact h
      · rw [List.getElem?_eq_none h] at hj; cases hj
    have hc := h.cellAt j (by rw [← h.1]; exact hlt)
    have e : (⟨g, 0, none⟩ : Addr).add j = ⟨g, j, none⟩ := by
      by_cases hj0 : j = 0
      · subst hj0; simp [Addr.add]
      · simp [Addr.add, hj0]
    rw [e]
    simpa [hj] using hc
theorem rowsAny_at {w : World} {b o c : Nat} {xs : List Rw} (h : ∀ i, i < xs.length → rowCells w b (o + i * 4) (xs.getD i default)) : AppAny w (.slice (some ⟨b, o, none⟩) xs.length c) xs.length (rwsC xs) := by
  refine .inr ⟨_, _, rfl, fun j x hj => ?_⟩
  have e : (⟨b, o, none⟩ : Addr).add j = ⟨b, o + j, none⟩ := by
    by_cases hj0 : j = 0
    · subst hj0; simp [Addr.add]
    · simp [Addr.add, hj0]
  rw [e]
  exact rwsC_cellsAt xs h j x hj
end Go.Proofs.YtdfapehonegeeaaGreat

/-
  The specification's l5Put: where a row belongs.
-/
namespace Go.Proofs.YtdfapehonegeeaaGreat
open Go.RowKit
set_option linter.unusedSectionVars false
variable [DecidableEq Rw] [Inhabited Rw] [DecidableEq TabR] [Inhabited TabR]
set_option linter.unusedVariables false
set_option linter.unusedSimpArgs false
attribute [local go_sem ↓] Go.wp_at_zero Go.wp_at_succ

def PutAt (ys : List Rw) (r : Rw) (k : Nat) : Prop := k ≤ ys.length ∧ (∀ j, j < k → ahead (ys.getD j default) r = true) ∧ (k < ys.length → ahead (ys.getD k default) r = false)
def putK (ys : List Rw) (r : Rw) (k : Nat) : List Rw := if k < ys.length ∧ ahead r (ys.getD k default) = false then ys else ys.take k ++ [r] ++ ys.drop k
theorem putKeep {w w' : World} {b o b' o' : Nat} {x y : Rw} (hb : Below w.heap.size w w') (h : rowCells w b o x) (h' : rowCells w b' o' y) :
    Below w.heap.size w w' ∧ (w'.cell? ⟨b, o, none⟩ = some (.string x.key) ∧ w'.cell? ⟨b, o + 1, none⟩ = some (.int .i64 x.ver) ∧ w'.cell? ⟨b, o + 2, none⟩ = some (.string x.val) ∧ w'.cell? ⟨b, o + 3, none⟩ = some (.bool x.gone)) ∧ (w'.cell? ⟨b', o', none⟩ = some (.string y.key) ∧ w'.cell? ⟨b', o' + 1, none⟩ = some (.int .i64 y.ver) ∧ w'.cell? ⟨b', o' + 2, none⟩ = some (.string y.val) ∧ w'.cell? ⟨b', o' + 3, none⟩ = some (.bool y.gone)) := rowKeep2 hb h h'
def PutR (ys : List Rw) (r : Rw) (x : Value) (w : World) (e : Ending) (w' : World) : Prop :=
  ∃ k, PutAt ys r k ∧ Below w.heap.size w w' ∧ ((putK ys r k = ys ∧ e = .returned x) ∨ ∃ v, e = .returned v ∧ w'.ownsRow w.heap.size 76 4 v (putK ys r k).length (rwsC (putK ys r k)))
set_option maxRecDepth 20000 in
set_option maxHeartbeats 8000000 in
theorem l5Put_any (x : Value) (ys : List Rw) (r : Rw) (w : World) (hx : RowsV w x ys) (hsome : ∃ b0 o0 c0, x = .slice (some ⟨b0, o0, none⟩) ys.length c0) (hn : ys.length ≤ 1048000) :
    Calls Tryz.prog 68 #[x, rowV r] w (PutR ys r x w) := by
  obtain ⟨ax, cx, rfl, hcx, hmx, hx⟩ := hx
  unfold maxLen at hmx
  have Hsome : Hid (∃ b0 o0, ax = some ⟨b0, o0, none⟩) := by
    obtain ⟨b0, o0, c0, h0⟩ := hsome
    simp only [Value.slice.injEq] at h0
    exact ⟨b0, o0, h0.1⟩
  clear hsome
  have HPA : Hid (∀ k, k ≤ ys.length → (∀ j, j < k → ahead (ys.getD j default) r = true) → (k < ys.length → ahead (ys.getD k default) r = false) → PutAt ys r k) := fun k h1 h2 h3 => ⟨h1, h2, h3⟩
  have HPK : Hid (∀ k, putK ys r k = if k < ys.length ∧ ahead r (ys.getD k default) = false then ys else ys.take k ++ [r] ++ ys.drop k) := fun k => rfl
  generalize hN : ys.length = n at *
  have HN : Hid (ys.length = n) := hN
  clear hN
  unfold rowV
  go_enter Tryz.func68, Tryz.ntmps68
  go_wp2
  go_loopw [5] (fun a W => ∃ k : Nat, k ≤ n ∧ a = .int .i64 k ∧ Hid (∀ j, j < k → ahead (ys.getD j default) r = true) ∧ rowCells W w.heap.size 0 r ∧ Below w.heap.size w W) (fun a _ => n - (intOf a).toNat)
  case atStart => exact ⟨0, Nat.zero_le _, rfl, fun j h => absurd h (Nat.not_lt_zero _), by unfold rowCells; simp [go_sem], balloc (Below.refl _ _) _⟩
  case round =>
    obtain ⟨k, hk, rfl, HA, hr, hbl⟩ := hrel
    have hi4 : (0 : Int) ≤ k := by omega
    by_cases hlt : k < n
    · obtain ⟨b, o, rfl, hc⟩ := hx k hlt
      have HX : Hid (∀ i, i < n → ∃ b' o', some (⟨b, o, none⟩ : Addr) = some ⟨b', o', none⟩ ∧ rowCells w b' (o' + i * 4) (ys.getD i default)) := hx
      obtain ⟨l, hl⟩ : ∃ l, l = ys.getD k default := ⟨_, rfl⟩
      rw [← hl] at hc
      have HL : Hid (l = ys.getD k default) := hl
      clear hl hx
      have r1 := rowCells_below hbl hc
      have hi5 : (k : Int) < n := by omega
      have hi6 : decide (k < n) = true := decide_eq_true hlt
      cases hah : ahead l r
      all_goals
        go_wp2
        go_region_held3 (fun W => Below wr.heap.size wr W ∧ (W.cell? ⟨b, o + k * 4, none⟩ = some (.string l.key) ∧ W.cell? ⟨b, o + k * 4 + 1, none⟩ = some (.int .i64 l.ver) ∧ W.cell? ⟨b, o + k * 4 + 2, none⟩ = some (.string l.val) ∧ W.cell? ⟨b, o + k * 4 + 3, none⟩ = some (.bool l.gone)) ∧ (W.cell? ⟨w.heap.size, 0, none⟩ = some (.string r.key) ∧ W.cell? ⟨w.heap.size, 0 + 1, none⟩ = some (.int .i64 r.ver) ∧ W.cell? ⟨w.heap.size, 0 + 2, none⟩ = some (.string r.val) ∧ W.cell? ⟨w.heap.size, 0 + 3, none⟩ = some (.bool r.gone))) ((refine putKeep ?_ r1 hr; repeat (first | exact Below.refl _ _ | assumption | refine Below.drew ?_ | refine balloc ?_ _ | refine bstep ?_ (by assumption))))
          (first | (go_at_call 102; refine (l5Ahead_any l r _).mono ?_; rintro e wa ⟨rfl, hb1⟩; rw [hah]))
        rename_i hH
        have hB := bstep hbl hH.1
        have hr2 : rowCells wa w.heap.size 0 r := rowCells_below hH.1 hr
        have r2 : rowCells wa b (o + k * 4) l := rowCells_below hH.1 r1
        clear hH
      · have HP : Hid (PutAt ys r k) := HPA.out k hk HA.out (fun _ => by rw [← HL.out]; exact hah)
        clear hr r1
        cases hah2 : ahead r l
        all_goals
          go_wp2
          go_region_held3 (fun W => Below wa.heap.size wa W ∧ (W.cell? ⟨b, o + k * 4, none⟩ = some (.string l.key) ∧ W.cell? ⟨b, o + k * 4 + 1, none⟩ = some (.int .i64 l.ver) ∧ W.cell? ⟨b, o + k * 4 + 2, none⟩ = some (.string l.val) ∧ W.cell? ⟨b, o + k * 4 + 3, none⟩ = some (.bool l.gone)) ∧ (W.cell? ⟨w.heap.size, 0, none⟩ = some (.string r.key) ∧ W.cell? ⟨w.heap.size, 0 + 1, none⟩ = some (.int .i64 r.ver) ∧ W.cell? ⟨w.heap.size, 0 + 2, none⟩ = some (.string r.val) ∧ W.cell? ⟨w.heap.size, 0 + 3, none⟩ = some (.bool r.gone))) ((refine putKeep ?_ r2 hr2; repeat (first | exact Below.refl _ _ | assumption | refine Below.drew ?_ | refine balloc ?_ _ | refine bstep ?_ (by assumption))))
            (first | (go_at_call 102; refine (l5Ahead_any r l _).mono ?_; rintro e wb ⟨rfl, hb2⟩; rw [hah2]))
          rename_i hH
          have hB2 := bstep hB hH.1
          have hr3 : rowCells wb w.heap.size 0 r := rowCells_below hH.1 hr2
          clear hH
        · go_wp2
          go_ret
          refine ⟨k, HP.out, hB2, .inl ⟨?_, rfl⟩⟩
          rw [HPK.out, if_pos ⟨hlt, by rw [← HL.out]; exact hah2⟩]
        · have HE : Hid (putK ys r k = ys.take k ++ [r] ++ ys.drop k) := by
            rw [Hid, HPK.out, if_neg (by rintro ⟨_, h⟩; rw [← HL.out, hah2] at h; cases h)]
          have hB2s := hB2.size
          have hzr := World.block_lt_of_cell? _ _ hr3.1
          dsimp only at hzr
          have hi7 : (k : Int) ≤ n := by omega
          have hi8 : (k : Int) ≤ cx := by omega
          have hck : ¬ cx = k := by omega
          go_wp2
          refine wp_region_noPanic ?_
          refine region_upto (fun W => Below wb.heap.size wb W ∧ W.cell? ⟨w.heap.size, 0, none⟩ = some (.string r.key) ∧ W.cell? ⟨w.heap.size, 0 + 1, none⟩ = some (.int .i64 r.ver) ∧ W.cell? ⟨w.heap.size, 0 + 2, none⟩ = some (.string r.val) ∧ W.cell? ⟨w.heap.size, 0 + 3, none⟩ = some (.bool r.gone)) 12 (by kernel_rfl) ⟨by (repeat (first | exact Below.refl _ _ | assumption | refine Below.drew ?_ | refine balloc ?_ _ | refine bset ?_ (by simp; omega) _ | refine bset ?_ (by simp) _ | refine bstep ?_ (by assumption))), rowCells_below (by (repeat (first | exact Below.refl _ _ | assumption | refine Below.drew ?_ | refine balloc ?_ _ | refine bset ?_ (by simp; omega) _ | refine bset ?_ (by simp) _ | refine bstep ?_ (by assumption)))) hr3⟩ (fun hS => ?_)
          refine upto_take (i := 1) (v := ?_) rfl (by kernel_rfl) (by kernel_rfl) (by kernel_rfl) (by kernel_rfl) (fun _ _ _ h => h) (by rfl) hS ?_ ?_
          rotate_left
          · intro wS hSw
            try dsimp only at hSw
            first | (go_simp; done) | (go_simp; with_reducible rfl)
          try simp only [Act.put, List.getElem_toArray, List.getElem_cons_zero, List.getElem_cons_succ, List.setIfInBounds_toArray, List.set_cons_zero, List.set_cons_succ]
          refine upto_take (i := 2) (v := ?_) rfl (by kernel_rfl) (by kernel_rfl) (by kernel_rfl) (by kernel_rfl) (fun _ _ _ h => h) (by rfl) hS ?_ ?_
          rotate_left
          · intro wS hSw
            try dsimp only at hSw
            first | (go_simp; done) | (go_simp; with_reducible rfl)
          try simp only [Act.put, List.getElem_toArray, List.getElem_cons_zero, List.getElem_cons_succ, List.setIfInBounds_toArray, List.set_cons_zero, List.set_cons_succ]
          refine upto_take (i := 3) (v := ?_) rfl (by kernel_rfl) (by kernel_rfl) (by kernel_rfl) (by kernel_rfl) (fun _ _ _ h => h) (by rfl) hS ?_ ?_
          rotate_left
          · intro wS hSw
            try dsimp only at hSw
            first | (go_simp; done) | (go_simp; with_reducible rfl)
          try simp only [Act.put, List.getElem_toArray, List.getElem_cons_zero, List.getElem_cons_succ, List.setIfInBounds_toArray, List.set_cons_zero, List.set_cons_succ]
          refine upto_take (i := 5) (v := ?_) rfl (by kernel_rfl) (by kernel_rfl) (by kernel_rfl) (by kernel_rfl) (fun _ _ _ h => h) (by rfl) hS ?_ ?_
          rotate_left
          · intro wS hSw
            try dsimp only at hSw
            first | (go_simp; done) | (go_simp; with_reducible rfl)
          try simp only [Act.put, List.getElem_toArray, List.getElem_cons_zero, List.getElem_cons_succ, List.setIfInBounds_toArray, List.set_cons_zero, List.set_cons_succ]
          refine upto_take (i := 8) (v := ?_) rfl (by kernel_rfl) (by kernel_rfl) (by kernel_rfl) (by kernel_rfl) (fun _ _ _ h => h) (by rfl) hS ?_ ?_
          rotate_left
          · intro wS hSw
            try dsimp only at hSw
            first | (go_simp; done) | (go_simp; with_reducible rfl)
          try simp only [Act.put, List.getElem_toArray, List.getElem_cons_zero, List.getElem_cons_succ, List.setIfInBounds_toArray, List.set_cons_zero, List.set_cons_succ]
          refine upto_take (i := 9) (v := ?_) rfl (by kernel_rfl) (by kernel_rfl) (by kernel_rfl) (by kernel_rfl) (fun _ _ _ h => h) (by rfl) hS ?_ ?_
          rotate_left
          · intro wS hSw
            try dsimp only at hSw
            first | (go_simp; done) | (go_simp; with_reducible rfl)
          try simp only [Act.put, List.getElem_toArray, List.getElem_cons_zero, List.getElem_cons_succ, List.setIfInBounds_toArray, List.set_cons_zero, List.set_cons_succ]
          refine upto_take (i := 10) (v := ?_) rfl (by kernel_rfl) (by kernel_rfl) (by kernel_rfl) (by kernel_rfl) (fun _ _ _ h => h) (by rfl) hS ?_ ?_
          rotate_left
          · intro wS hSw
            try dsimp only at hSw
            first | (go_simp; done) | (go_simp; with_reducible rfl)
          try simp only [Act.put, List.getElem_toArray, List.getElem_cons_zero, List.getElem_cons_succ, List.setIfInBounds_toArray, List.set_cons_zero, List.set_cons_succ]
          have hW0 : Below wb.heap.size wb wb.drew := Below.drew (Below.refl _ _)
          have hB3 : Below w.heap.size w wb.drew := Below.drew hB2
          have hzW : wb.drew.heap.size = wb.heap.size := rfl
          have HS1 : Hid (∀ W : World, Below w.heap.size w W → ∀ c, AppAny W (.slice (some ⟨b, o, none⟩) (ys.take k).length c) (ys.take k).length (rwsC (ys.take k))) := fun W hW c => rowsAny_at (fun i hi => by
            rw [List.length_take] at hi
            obtain ⟨b', o', e', h'⟩ := HX.out i (by omega)
            simp only [Option.some.injEq, Addr.mk.injEq, and_true] at e'
            obtain ⟨rfl, rfl⟩ := e'
            have e2 : (ys.take k).getD i default = ys.getD i default := by simp [List.getD, List.getElem?_take, show i < k by omega]
            rw [e2]
            exact rowCells_below hW h')
          have HS2 : Hid (∀ W : World, Below w.heap.size w W → ∀ c, AppAny W (.slice (some ⟨b, o + k * 4, none⟩) (ys.drop k).length c) (ys.drop k).length (rwsC (ys.drop k))) := fun W hW c => rowsAny_at (fun i hi => by
            rw [List.length_drop, HN.out] at hi
            obtain ⟨b', o', e', h'⟩ := HX.out (k + i) (by omega)
            simp only [Option.some.injEq, Addr.mk.injEq, and_true] at e'
            obtain ⟨rfl, rfl⟩ := e'
            have e2 : (ys.drop k).getD i default = ys.getD (k + i) default := by simp [List.getD, List.getElem?_drop]
            rw [e2, show o + k * 4 + i * 4 = o + (k + i) * 4 by omega]
            exact rowCells_below hW h')
          have HL1 : Hid ((ys.take k).length = k) := by rw [Hid, List.length_take, HN.out]; omega
          have HL2 : Hid ((ys.drop k).length = n - k) := by rw [Hid, List.length_drop, HN.out]
          generalize wb.drew = W0 at *
          obtain ⟨P1, hP1⟩ : ∃ P, ys.take k = P := ⟨_, rfl⟩
          obtain ⟨P2, hP2⟩ : ∃ P, ys.drop k = P := ⟨_, rfl⟩
          rw [hP1] at HS1 HL1 HE
          rw [hP2] at HS2 HL2 HE
          clear hP1 hP2
          refine upto_cons' [(0, 34), (4, 38), (6, 40), (7, 41), (11, 45)] putC (putG W0.heap.size P1 P2 r) (by kernel_rfl) hS ?_ ?_ ?_ ?_
          · intro F' W W' h hm hF
            obtain ⟨h1, h3, h4, h5, h6⟩ := h
            exact ⟨hm.below h1 h1.size (fun b hb => by have := hF b hb; omega), hm.cell h3 (fun e => by have := hF _ e; dsimp only at this; omega), hm.cell h4 (fun e => by have := hF _ e; dsimp only at this; omega), hm.cell h5 (fun e => by have := hF _ e; dsimp only at this; omega), hm.cell h6 (fun e => by have := hF _ e; dsimp only at this; omega)⟩
          · intro pp hp
            simp only [List.mem_cons, List.not_mem_nil, or_false] at hp
            rcases hp with rfl | rfl | rfl | rfl | rfl
            all_goals
              intro y y' F F' W W' h hi hm hap hF e _
              simp only [putG] at h ⊢
              rw [e]
              exact rowsF.mod h hm (fun b h1 h2 => hap b h2 h1)
          · intro pp hp
            simp only [List.mem_cons, List.not_mem_nil, or_false] at hp
            rcases hp with rfl | rfl | rfl | rfl | rfl
            all_goals
              refine ⟨_, rfl, rfl, ?_⟩
              intro y W Φ hSW hBW hd K hK
              have hBw : Below w.heap.size w W := bstep hB3 hBW
            · clear hd
              refine ⟨?_⟩
              simp only [over, Act.put, List.getElem_toArray, List.getElem_cons_zero, List.getElem_cons_succ, List.map_cons, List.map_nil, List.foldl_cons, List.foldl_nil, List.setIfInBounds_toArray, List.set_cons_zero, List.set_cons_succ] at hK ⊢
              go_simp
              refine hK _ _ (fun b => b = W.heap.size) (Mod.of_below (by (repeat (first | exact Below.refl _ _ | assumption | refine Below.drew ?_ | refine balloc ?_ _ | refine bset ?_ (by simp; omega) _ | refine bset ?_ (by simp) _ | refine bstep ?_ (by assumption))))) (fun b hb => .inr (by simp; omega)) ?_
              simp only [putG, updV]
              refine ⟨World.ownsRow_lit (base := W0.heap.size) (e := 76) (size := 4) W #[] 0 hBW.size (by unfold maxLen; omega) rfl, ?_⟩
              funext b
              simp [Value.ownBlock, eq_comm]
            · have g0 := (hd (0, 34) (by simp) (by kernel_rfl) (.inl (by simp [putC]))).2
              clear hd
              simp only [putG] at g0
              refine ⟨?_⟩
              have hsrc := HS1.out W hBw cx
              rw [HL1.out] at hsrc
              refine step_appRows W rfl (.tmp 34) (.tmp 37) rfl W0.heap.size (y 34) (Φ 0) [] rfl (.slice (some ⟨b, o, none⟩) k cx) P1 rfl g0 (by rw [HL1.out]; exact hsrc) (by rw [HL1.out]; simp; omega) hBW.size ?_
              intro v' w' hO hm hl
              refine hK _ _ (fun b => v'.ownBlock = some b) (hm.mono (fun b hb => ⟨0, by simp [putC], hb⟩)) (fun b hb => (hl b hb).imp (fun h => ⟨0, by simp [putC], h⟩) (fun h => h)) ?_
              simp only [putG, updV]
              simpa using hO
            · clear hd
              obtain ⟨h1, h3, h4, h5, h6⟩ := hSW
              refine ⟨?_⟩
              simp only [over, Act.put, List.getElem_toArray, List.getElem_cons_zero, List.getElem_cons_succ, List.map_cons, List.map_nil, List.foldl_cons, List.foldl_nil, List.setIfInBounds_toArray, List.set_cons_zero, List.set_cons_succ] at hK ⊢
              go_simp
              refine hK _ _ (fun b => b = W.heap.size) (Mod.of_below (by (repeat (first | exact Below.refl _ _ | assumption | refine Below.drew ?_ | refine balloc ?_ _ | refine bset ?_ (by simp; omega) _ | refine bset ?_ (by simp) _ | refine bstep ?_ (by assumption))))) (fun b hb => .inr (by simp; omega)) ?_
              simp only [putG, updV]
              refine ⟨World.ownsRow_lit (base := W0.heap.size) (e := 76) (size := 4) W #[.string r.key, .int .i64 r.ver, .string r.val, .bool r.gone] 1 hBW.size (by unfold maxLen; omega) rfl, ?_⟩
              funext b
              simp [Value.ownBlock, eq_comm]
            · have g0 := (hd (4, 38) (by simp) (by kernel_rfl) (.inl (by simp [putC]))).2
              have g1 := (hd (6, 40) (by simp) (by kernel_rfl) (.inr (by simp [putC]))).2
              clear hd
              simp only [putG] at g0 g1
              refine ⟨?_⟩
              refine step_appRows W rfl (.tmp 38) (.tmp 40) rfl W0.heap.size (y 38) (Φ 4) P1 rfl (y 40) [r] rfl g0 (rowsAny_own g1.1) (by rw [HL1.out]; simp; omega) hBW.size ?_
              intro v' w' hO hm hl
              refine hK _ _ (fun b => v'.ownBlock = some b) (hm.mono (fun b hb => ⟨4, by simp [putC], hb⟩)) (fun b hb => (hl b hb).imp (fun h => ⟨4, by simp [putC], h⟩) (fun h => h)) ?_
              simp only [putG, updV]
              simpa using hO
            · have g0 := (hd (7, 41) (by simp) (by kernel_rfl) (.inl (by simp [putC]))).2
              clear hd
              simp only [putG] at g0
              refine ⟨?_⟩
              have hsrc := HS2.out W hBw (cx - k)
              rw [HL2.out] at hsrc
              refine step_appRows W rfl (.tmp 41) (.tmp 44) rfl W0.heap.size (y 41) (Φ 7) (P1 ++ [r]) rfl (.slice (some ⟨b, o + k * 4, none⟩) (n - k) (cx - k)) P2 rfl g0 (by rw [HL2.out]; exact hsrc) (by rw [List.length_append, HL1.out, HL2.out]; simp; omega) hBW.size ?_
              intro v' w' hO hm hl
              refine hK _ _ (fun b => v'.ownBlock = some b) (hm.mono (fun b hb => ⟨7, by simp [putC], hb⟩)) (fun b hb => (hl b hb).imp (fun h => ⟨7, by simp [putC], h⟩) (fun h => h)) ?_
              simp only [putG, updV]
              simpa using hO
          · refine ⟨_, rfl, ?_⟩
            intro y W Φ hSW hBW hd hap K hK
            have g11 := (hd (11, 45) (by simp) (by simp [putC])).2
            clear hd hap
            simp only [putG] at g11
            have g11' := g11.1
            obtain ⟨N9, hN9⟩ : ∃ N9, (P1 ++ [r] ++ P2).length = N9 := ⟨_, rfl⟩
            have HN9 : Hid ((P1 ++ [r] ++ P2).length = N9) := hN9
            rw [hN9] at g11'
            clear g11 hN9
            obtain ⟨a9, c9, e9⟩ := owns_form g11'
            have hBw : Below w.heap.size w W := bstep hB3 hBW
            refine ⟨?_⟩
            simp only [over, Act.put, List.getElem_toArray, List.getElem_cons_zero, List.getElem_cons_succ, List.map_cons, List.map_nil, List.foldl_cons, List.foldl_nil, List.setIfInBounds_toArray, List.set_cons_zero, List.set_cons_succ]
            simp only [e9] at g11' ⊢
            go_simp
            refine hK _ _ ?_
            clear hK K
            refine NoPanic.normal ?_
            go_wp2
            go_ret
            refine ⟨k, HP.out, hBw, .inr ⟨_, rfl, ?_⟩⟩
            rw [HE.out, HN9.out]
            exact owns_base g11' (by have := hB3.size; omega)
      · have HA2 : Hid (∀ j, j < k + 1 → ahead (ys.getD j default) r = true) := fun j hj => by
          by_cases h : j < k
          · exact HA.out j h
          · have : j = k := by omega
            subst this
            rw [← HL.out]
            exact hah
        go_wp2
        exact ⟨⟨k + 1, by omega, by go_num, HA2, hr2, hB⟩, by simp [intOf]; omega⟩
    · obtain rfl : k = n := by omega
      obtain ⟨b, o, rfl⟩ := Hsome.out
      clear Hsome
      have hi5 : ¬ ((k : Int) < k) := by omega
      have hi6 : decide (k < k) = false := decide_eq_false hlt
      have HP : Hid (PutAt ys r k) := HPA.out k hk HA.out (fun h => absurd h hlt)
      have HE : Hid (putK ys r k = ys.take k ++ [r] ++ ys.drop k) := by
        rw [Hid, HPK.out, if_neg (by rintro ⟨h, _⟩; exact hlt h)]
      have hdr : ys.drop k = [] := List.drop_eq_nil_of_le (by have := HN.out; omega)
      have hi7 : (k : Int) ≤ cx := by omega
      go_wp2
      go_quiet (fail)
      have hB1 : Below w.heap.size w (wr.drewN nq) := bdrN hbl nq
      have hr2 : rowCells (wr.drewN nq) w.heap.size 0 r := hr
      clear hr hbl
      generalize wr.drewN nq = w1 at *
      clear nq
      go_wp2
      go_quiet (fail)
      have hB2 : Below w.heap.size w (w1.drewN nq) := bdrN hB1 nq
      have hr3 : rowCells (w1.drewN nq) w.heap.size 0 r := hr2
      have hB2s := hB2.size
      have hzr := World.block_lt_of_cell? _ _ hr3.1
      dsimp only at hzr
      clear hr2 hB1
      generalize w1.drewN nq = wb at *
      clear nq
      rcases Nat.eq_or_lt_of_le hcx with rfl | h0
      all_goals
        try (have hck : ¬ cx = k := by omega)
        go_wp2
        refine wp_region_noPanic ?_
        refine region_upto (fun W => Below wb.heap.size wb W ∧ W.cell? ⟨w.heap.size, 0, none⟩ = some (.string r.key) ∧ W.cell? ⟨w.heap.size, 0 + 1, none⟩ = some (.int .i64 r.ver) ∧ W.cell? ⟨w.heap.size, 0 + 2, none⟩ = some (.string r.val) ∧ W.cell? ⟨w.heap.size, 0 + 3, none⟩ = some (.bool r.gone)) 12 (by kernel_rfl) ⟨by (repeat (first | exact Below.refl _ _ | assumption | refine Below.drew ?_ | refine balloc ?_ _ | refine bset ?_ (by simp; omega) _ | refine bset ?_ (by simp) _ | refine bstep ?_ (by assumption))), rowCells_below (by (repeat (first | exact Below.refl _ _ | assumption | refine Below.drew ?_ | refine balloc ?_ _ | refine bset ?_ (by simp; omega) _ | refine bset ?_ (by simp) _ | refine bstep ?_ (by assumption)))) hr3⟩ (fun hS => ?_)
        refine upto_take (i := 1) (v := ?_) rfl (by kernel_rfl) (by kernel_rfl) (by kernel_rfl) (by kernel_rfl) (fun _ _ _ h => h) (by rfl) hS ?_ ?_
        rotate_left
        · intro wS hSw
          try dsimp only at hSw
          first | (go_simp; done) | (go_simp; with_reducible rfl)
        try simp only [Act.put, List.getElem_toArray, List.getElem_cons_zero, List.getElem_cons_succ, List.setIfInBounds_toArray, List.set_cons_zero, List.set_cons_succ]
        refine upto_take (i := 2) (v := ?_) rfl (by kernel_rfl) (by kernel_rfl) (by kernel_rfl) (by kernel_rfl) (fun _ _ _ h => h) (by rfl) hS ?_ ?_
        rotate_left
        · intro wS hSw
          try dsimp only at hSw
          first | (go_simp; done) | (go_simp; with_reducible rfl)
        try simp only [Act.put, List.getElem_toArray, List.getElem_cons_zero, List.getElem_cons_succ, List.setIfInBounds_toArray, List.set_cons_zero, List.set_cons_succ]
        refine upto_take (i := 3) (v := ?_) rfl (by kernel_rfl) (by kernel_rfl) (by kernel_rfl) (by kernel_rfl) (fun _ _ _ h => h) (by rfl) hS ?_ ?_
        rotate_left
        · intro wS hSw
          try dsimp only at hSw
          first | (go_simp; done) | (go_simp; with_reducible rfl)
        try simp only [Act.put, List.getElem_toArray, List.getElem_cons_zero, List.getElem_cons_succ, List.setIfInBounds_toArray, List.set_cons_zero, List.set_cons_succ]
        refine upto_take (i := 5) (v := ?_) rfl (by kernel_rfl) (by kernel_rfl) (by kernel_rfl) (by kernel_rfl) (fun _ _ _ h => h) (by rfl) hS ?_ ?_
        rotate_left
        · intro wS hSw
          try dsimp only at hSw
          first | (go_simp; done) | (go_simp; with_reducible rfl)
        try simp only [Act.put, List.getElem_toArray, List.getElem_cons_zero, List.getElem_cons_succ, List.setIfInBounds_toArray, List.set_cons_zero, List.set_cons_succ]
        refine upto_take (i := 8) (v := ?_) rfl (by kernel_rfl) (by kernel_rfl) (by kernel_rfl) (by kernel_rfl) (fun _ _ _ h => h) (by rfl) hS ?_ ?_
        rotate_left
        · intro wS hSw
          try dsimp only at hSw
          first | (go_simp; done) | (go_simp; with_reducible rfl)
        try simp only [Act.put, List.getElem_toArray, List.getElem_cons_zero, List.getElem_cons_succ, List.setIfInBounds_toArray, List.set_cons_zero, List.set_cons_succ]
        refine upto_take (i := 9) (v := ?_) rfl (by kernel_rfl) (by kernel_rfl) (by kernel_rfl) (by kernel_rfl) (fun _ _ _ h => h) (by rfl) hS ?_ ?_
        rotate_left
        · intro wS hSw
          try dsimp only at hSw
          first | (go_simp; done) | (go_simp; with_reducible rfl)
        try simp only [Act.put, List.getElem_toArray, List.getElem_cons_zero, List.getElem_cons_succ, List.setIfInBounds_toArray, List.set_cons_zero, List.set_cons_succ]
        refine upto_take (i := 10) (v := ?_) rfl (by kernel_rfl) (by kernel_rfl) (by kernel_rfl) (by kernel_rfl) (fun _ _ _ h => h) (by rfl) hS ?_ ?_
        rotate_left
        · intro wS hSw
          try dsimp only at hSw
          first | (go_simp; done) | (go_simp; with_reducible rfl)
        try simp only [Act.put, List.getElem_toArray, List.getElem_cons_zero, List.getElem_cons_succ, List.setIfInBounds_toArray, List.set_cons_zero, List.set_cons_succ]
        have hW0 : Below wb.heap.size wb wb.drew := Below.drew (Below.refl _ _)
        have hB3 : Below w.heap.size w wb.drew := Below.drew hB2
        have hzW : wb.drew.heap.size = wb.heap.size := rfl
        have HS1 : Hid (∀ W : World, Below w.heap.size w W → ∀ c, AppAny W (.slice (some ⟨b, o, none⟩) (ys.take k).length c) (ys.take k).length (rwsC (ys.take k))) := fun W hW c => rowsAny_at (fun i hi => by
          rw [List.length_take] at hi
          obtain ⟨b', o', e', h'⟩ := hx i (by omega)
          simp only [Option.some.injEq, Addr.mk.injEq, and_true] at e'
          obtain ⟨rfl, rfl⟩ := e'
          have e2 : (ys.take k).getD i default = ys.getD i default := by simp [List.getD, List.getElem?_take, show i < k by omega]
          rw [e2]
          exact rowCells_below hW h')
        have HS2 : Hid (∀ W : World, ∀ c a, AppAny W (.slice (some ⟨b, a, none⟩) 0 c) 0 (rwsC (ys.drop k))) := fun W c a => by
          have h := rowsAny_at (w := W) (b := b) (o := a) (c := c) (xs := []) (fun i hi => absurd hi (Nat.not_lt_zero _))
          rw [hdr]
          exact h
        have HL1 : Hid ((ys.take k).length = k) := by rw [Hid, List.length_take, HN.out]; omega
        have HL2 : Hid ((ys.drop k).length = 0) := by rw [hdr]; exact rfl
        clear hdr
        generalize wb.drew = W0 at *
        obtain ⟨P1, hP1⟩ : ∃ P, ys.take k = P := ⟨_, rfl⟩
        obtain ⟨P2, hP2⟩ : ∃ P, ys.drop k = P := ⟨_, rfl⟩
        rw [hP1] at HS1 HL1 HE
        rw [hP2] at HS2 HL2 HE
        clear hP1 hP2
        refine upto_cons' [(0, 34), (4, 38), (6, 40), (7, 41), (11, 45)] putC (putG W0.heap.size P1 P2 r) (by kernel_rfl) hS ?_ ?_ ?_ ?_
        · intro F' W W' h hm hF
          obtain ⟨h1, h3, h4, h5, h6⟩ := h
          exact ⟨hm.below h1 h1.size (fun b hb => by have := hF b hb; omega), hm.cell h3 (fun e => by have := hF _ e; dsimp only at this; omega), hm.cell h4 (fun e => by have := hF _ e; dsimp only at this; omega), hm.cell h5 (fun e => by have := hF _ e; dsimp only at this; omega), hm.cell h6 (fun e => by have := hF _ e; dsimp only at this; omega)⟩
        · intro pp hp
          simp only [List.mem_cons, List.not_mem_nil, or_false] at hp
          rcases hp with rfl | rfl | rfl | rfl | rfl
          all_goals
            intro y y' F F' W W' h hi hm hap hF e _
            simp only [putG] at h ⊢
            rw [e]
            exact rowsF.mod h hm (fun b h1 h2 => hap b h2 h1)
        · intro pp hp
          simp only [List.mem_cons, List.not_mem_nil, or_false] at hp
          rcases hp with rfl | rfl | rfl | rfl | rfl
          all_goals
            refine ⟨_, rfl, rfl, ?_⟩
            intro y W Φ hSW hBW hd K hK
            have hBw : Below w.heap.size w W := bstep hB3 hBW
          · clear hd
            refine ⟨?_⟩
            try simp only [over, Act.put, List.getElem_toArray, List.getElem_cons_zero, List.getElem_cons_succ, List.map_cons, List.map_nil, List.foldl_cons, List.foldl_nil, List.setIfInBounds_toArray, List.set_cons_zero, List.set_cons_succ] at hK
            try simp only [over, Act.put, List.getElem_toArray, List.getElem_cons_zero, List.getElem_cons_succ, List.map_cons, List.map_nil, List.foldl_cons, List.foldl_nil, List.setIfInBounds_toArray, List.set_cons_zero, List.set_cons_succ]
            go_simp
            refine hK _ _ (fun b => b = W.heap.size) (Mod.of_below (by (repeat (first | exact Below.refl _ _ | assumption | refine Below.drew ?_ | refine balloc ?_ _ | refine bset ?_ (by simp; omega) _ | refine bset ?_ (by simp) _ | refine bstep ?_ (by assumption))))) (fun b hb => .inr (by have hb' : b = W.heap.size := hb; first | omega | (simp; omega))) ?_
            simp only [putG, updV]
            refine ⟨World.ownsRow_lit (base := W0.heap.size) (e := 76) (size := 4) W #[] 0 hBW.size (by unfold maxLen; omega) rfl, ?_⟩
            funext b
            simp [Value.ownBlock, eq_comm]
          · have g0 := (hd (0, 34) (by simp) (by kernel_rfl) (.inl (by simp [putC]))).2
            clear hd
            simp only [putG] at g0
            refine ⟨?_⟩
            have hsrc := HS1.out W hBw
            rw [HL1.out] at hsrc
            refine step_appRows W rfl (.tmp 34) (.tmp 37) rfl W0.heap.size (y 34) (Φ 0) [] rfl _ P1 rfl g0 (by rw [HL1.out]; exact hsrc _) (by rw [HL1.out]; simp; omega) hBW.size ?_
            intro v' w' hO hm hl
            refine hK _ _ (fun b => v'.ownBlock = some b) (hm.mono (fun b hb => ⟨0, by simp [putC], hb⟩)) (fun b hb => (hl b hb).imp (fun h => ⟨0, by simp [putC], h⟩) (fun h => h)) ?_
            simp only [putG, updV]
            simpa using hO
          · clear hd
            obtain ⟨h1, h3, h4, h5, h6⟩ := hSW
            refine ⟨?_⟩
            try simp only [over, Act.put, List.getElem_toArray, List.getElem_cons_zero, List.getElem_cons_succ, List.map_cons, List.map_nil, List.foldl_cons, List.foldl_nil, List.setIfInBounds_toArray, List.set_cons_zero, List.set_cons_succ] at hK
            try simp only [over, Act.put, List.getElem_toArray, List.getElem_cons_zero, List.getElem_cons_succ, List.map_cons, List.map_nil, List.foldl_cons, List.foldl_nil, List.setIfInBounds_toArray, List.set_cons_zero, List.set_cons_succ]
            go_simp
            refine hK _ _ (fun b => b = W.heap.size) (Mod.of_below (by (repeat (first | exact Below.refl _ _ | assumption | refine Below.drew ?_ | refine balloc ?_ _ | refine bset ?_ (by simp; omega) _ | refine bset ?_ (by simp) _ | refine bstep ?_ (by assumption))))) (fun b hb => .inr (by have hb' : b = W.heap.size := hb; first | omega | (simp; omega))) ?_
            simp only [putG, updV]
            refine ⟨World.ownsRow_lit (base := W0.heap.size) (e := 76) (size := 4) W #[.string r.key, .int .i64 r.ver, .string r.val, .bool r.gone] 1 hBW.size (by unfold maxLen; omega) rfl, ?_⟩
            funext b
            simp [Value.ownBlock, eq_comm]
          · have g0 := (hd (4, 38) (by simp) (by kernel_rfl) (.inl (by simp [putC]))).2
            have g1 := (hd (6, 40) (by simp) (by kernel_rfl) (.inr (by simp [putC]))).2
            clear hd
            simp only [putG] at g0 g1
            refine ⟨?_⟩
            refine step_appRows W rfl (.tmp 38) (.tmp 40) rfl W0.heap.size (y 38) (Φ 4) P1 rfl (y 40) [r] rfl g0 (rowsAny_own g1.1) (by rw [HL1.out]; simp; omega) hBW.size ?_
            intro v' w' hO hm hl
            refine hK _ _ (fun b => v'.ownBlock = some b) (hm.mono (fun b hb => ⟨4, by simp [putC], hb⟩)) (fun b hb => (hl b hb).imp (fun h => ⟨4, by simp [putC], h⟩) (fun h => h)) ?_
            simp only [putG, updV]
            simpa using hO
          · have g0 := (hd (7, 41) (by simp) (by kernel_rfl) (.inl (by simp [putC]))).2
            clear hd
            simp only [putG] at g0
            refine ⟨?_⟩
            have hsrc := HS2.out W
            refine step_appRows W rfl (.tmp 41) (.tmp 44) rfl W0.heap.size (y 41) (Φ 7) (P1 ++ [r]) rfl _ P2 rfl g0 (by rw [HL2.out]; exact hsrc _ _) (by rw [List.length_append, HL1.out, HL2.out]; simp; omega) hBW.size ?_
            intro v' w' hO hm hl
            refine hK _ _ (fun b => v'.ownBlock = some b) (hm.mono (fun b hb => ⟨7, by simp [putC], hb⟩)) (fun b hb => (hl b hb).imp (fun h => ⟨7, by simp [putC], h⟩) (fun h => h)) ?_
            simp only [putG, updV]
            simpa using hO
        · refine ⟨_, rfl, ?_⟩
          intro y W Φ hSW hBW hd hap K hK
          have g11 := (hd (11, 45) (by simp) (by simp [putC])).2
          clear hd hap
          simp only [putG] at g11
          have g11' := g11.1
          obtain ⟨N9, hN9⟩ : ∃ N9, (P1 ++ [r] ++ P2).length = N9 := ⟨_, rfl⟩
          have HN9 : Hid ((P1 ++ [r] ++ P2).length = N9) := hN9
          rw [hN9] at g11'
          clear g11 hN9
          obtain ⟨a9, c9, e9⟩ := owns_form g11'
          have hBw : Below w.heap.size w W := bstep hB3 hBW
          refine ⟨?_⟩
          simp only [over, Act.put, List.getElem_toArray, List.getElem_cons_zero, List.getElem_cons_succ, List.map_cons, List.map_nil, List.foldl_cons, List.foldl_nil, List.setIfInBounds_toArray, List.set_cons_zero, List.set_cons_succ]
          simp only [e9] at g11' ⊢
          go_simp
          refine hK _ _ ?_
          clear hK K
          refine NoPanic.normal ?_
          go_wp2
          go_ret
          refine ⟨k, HP.out, hBw, .inr ⟨_, rfl, ?_⟩⟩
          rw [HE.out, HN9.out]
          exact owns_base g11' (by have := hB3.size; omega)
end Go.Proofs.YtdfapehonegeeaaGreat

/-
  Rows put into rows that rise, in mathematics.
-/
namespace Go.Proofs.YtdfapehonegeeaaGreat
open Go.RowKit
set_option linter.unusedSectionVars false
variable [DecidableEq Rw] [Inhabited Rw] [DecidableEq TabR] [Inhabited TabR]
set_option linter.unusedVariables false
set_option linter.unusedSimpArgs false

theorem cb_flip : ∀ a b : List UInt8, Lib.compareBytes b a = - Lib.compareBytes a b
  | [], [] => by simp [Lib.compareBytes]
  | [], _ :: _ => by simp [Lib.compareBytes]
  | _ :: _, [] => by simp [Lib.compareBytes]
  | x :: a, y :: b => by
    rcases u8_cases x y with h | rfl | h
    · rw [cb_lt h, cb_gt h]
      rfl
    · rw [cb_eq, cb_eq, cb_flip a b]
    · rw [cb_gt h, cb_lt h]
theorem cmpR_flip (a b : Rw) : cmpR b a = - cmpR a b := by
  unfold cmpR orI
  have h1 : cmpB b.key a.key = - cmpB a.key b.key := cb_flip _ _
  have h2 : cmpI a.ver b.ver = - cmpI b.ver a.ver := by
    unfold cmpI
    split <;> split <;> (try split) <;> omega
  rw [h1, h2]
  by_cases h : cmpB a.key b.key = 0
  · rw [if_pos h, if_pos (by omega)]
  · rw [if_neg h, if_neg (by omega)]
theorem ahead_iff (a b : Rw) : ahead a b = true ↔ cmpR a b < 0 := by unfold ahead; simp
theorem ahead_not (a b : Rw) : ahead a b = false ↔ 0 ≤ cmpR a b := by unfold ahead; simp
theorem ahead_asymm {a b : Rw} (h : ahead a b = true) : ahead b a = false := by
  rw [ahead_iff] at h
  rw [ahead_not, cmpR_flip]
  omega
theorem ahead_irrefl (a : Rw) : ahead a a = false := by
  rw [ahead_not]
  have := cmpR_flip a a
  omega
theorem ahead_trans {a b c : Rw} (h : ahead a b = true) (k : ahead b c = true) : ahead a c = true := by
  have h1 := kle_ahead h
  have k1 := kle_ahead k
  by_cases e : a.key = c.key
  · have e1 : b.key = a.key := kle_anti (by rw [e]; exact k1) h1
    rw [ahead_ver e1.symm] at h
    rw [ahead_ver (e1.trans e)] at k
    rw [ahead_ver e]
    simp only [decide_eq_true_eq] at h k ⊢
    omega
  · have h2 := kle_trans h1 k1
    unfold kle at h2
    have h3 : cmpB a.key c.key ≠ 0 := fun h => e ((cmpB_zero _ _).1 h)
    rw [ahead_iff]
    unfold cmpR orI
    rw [if_neg h3]
    omega
def putL : List Rw → Rw → List Rw
  | [], r => [r]
  | y :: ys, r => if ahead y r = true then y :: putL ys r else if ahead r y = true then r :: y :: ys else y :: ys
theorem putK_putL : ∀ (ys : List Rw) (r : Rw) (k : Nat), PutAt ys r k → putK ys r k = putL ys r
  | [], r, k, h => by
    obtain ⟨h1, _, _⟩ := h
    have : k = 0 := by simpa using h1
    subst this
    simp [putK, putL]
  | y :: ys, r, 0, h => by
    obtain ⟨_, _, h3⟩ := h
    have h4 : ahead y r = false := by simpa using h3 (by simp)
    unfold putK putL
    simp only [h4, Bool.false_eq_true, if_false]
    cases h5 : ahead r y <;> simp [h5]
  | y :: ys, r, k + 1, h => by
    obtain ⟨h1, h2, h3⟩ := h
    have h4 : ahead y r = true := by simpa using h2 0 (by omega)
    have ih := putK_putL ys r k ⟨by simpa using h1, fun j hj => by simpa using h2 (j + 1) (by omega), fun hk => by simpa using h3 (by simpa using hk)⟩
    unfold putL
    rw [if_pos h4, ← ih]
    unfold putK
    by_cases hc : k < ys.length ∧ ahead r (ys.getD k default) = false
    · rw [if_pos hc, if_pos ⟨by simpa using hc.1, by simpa using hc.2⟩]
    · rw [if_neg hc, if_neg (fun h => hc ⟨by simpa using h.1, by simpa using h.2⟩)]
      simp
def Rises (xs : List Rw) : Prop := xs.Pairwise (fun a b => ahead a b = true)
theorem mem_putL : ∀ {ys : List Rw} {r x : Rw}, x ∈ putL ys r → x ∈ ys ∨ x = r
  | [], r, x, h => by simpa [putL] using h
  | y :: ys, r, x, h => by
    unfold putL at h
    split at h
    · rcases List.mem_cons.1 h with rfl | h
      · exact .inl (List.mem_cons_self ..)
      · exact (mem_putL h).imp (fun h => List.mem_cons_of_mem _ h) id
    · split at h
      · rcases List.mem_cons.1 h with rfl | h
        · exact .inr rfl
        · exact .inl h
      · exact .inl h
theorem putL_rises : ∀ {ys : List Rw} (r : Rw), Rises ys → Rises (putL ys r)
  | [], r, _ => by unfold Rises; simp [putL]
  | y :: ys, r, h => by
    unfold Rises at h
    rw [List.pairwise_cons] at h
    unfold putL
    split
    · rename_i h1
      have ih : Rises (putL ys r) := putL_rises r h.2
      refine List.pairwise_cons.2 ⟨fun x hx => ?_, ih⟩
      rcases mem_putL hx with hx | rfl
      · exact h.1 x hx
      · exact h1
    · split
      · rename_i h1 h2
        refine List.pairwise_cons.2 ⟨fun x hx => ?_, List.pairwise_cons.2 h⟩
        rcases List.mem_cons.1 hx with rfl | hx
        · exact h2
        · exact ahead_trans h2 (h.1 x hx)
      · exact List.pairwise_cons.2 h
theorem length_putL : ∀ (ys : List Rw) (r : Rw), ys.length ≤ (putL ys r).length ∧ (putL ys r).length ≤ ys.length + 1
  | [], r => by simp [putL]
  | y :: ys, r => by
    have ih := length_putL ys r
    unfold putL
    split
    · simp only [List.length_cons]; omega
    · split <;> simp only [List.length_cons] <;> omega
def putsL (ys l : List Rw) : List Rw := l.foldl putL ys
theorem putsL_cons (ys : List Rw) (r : Rw) (l : List Rw) : putsL ys (r :: l) = putsL (putL ys r) l := rfl
theorem putsL_app (ys l m : List Rw) : putsL ys (l ++ m) = putsL (putsL ys l) m := List.foldl_append ..
theorem putsL_snoc (ys l : List Rw) (r : Rw) : putsL ys (l ++ [r]) = putL (putsL ys l) r := by rw [putsL_app]; rfl
theorem length_putsL : ∀ (l ys : List Rw), ys.length ≤ (putsL ys l).length ∧ (putsL ys l).length ≤ ys.length + l.length
  | [], ys => by simp [putsL]
  | r :: l, ys => by
    have h1 := length_putL ys r
    have h2 := length_putsL l (putL ys r)
    rw [putsL_cons, List.length_cons]
    omega
theorem length_putsL_pre {l m ys : List Rw} (h : l <+: m) : (putsL ys l).length ≤ (putsL ys m).length := by
  obtain ⟨t, rfl⟩ := h
  rw [putsL_app]
  exact (length_putsL t _).1
theorem mem_putsL : ∀ {l ys : List Rw} {x : Rw}, x ∈ putsL ys l → x ∈ ys ∨ x ∈ l
  | [], _, _, h => .inl h
  | r :: l, ys, x, h => by
    rcases mem_putsL (l := l) h with h | h
    · exact (mem_putL h).imp id (fun h => by rw [h]; exact List.mem_cons_self ..)
    · exact .inr (List.mem_cons_of_mem _ h)
theorem rises_nil : Rises [] := List.Pairwise.nil
theorem rises_of {xs : List Rw} (h : tabF xs = 0) : Rises xs := by
  obtain ⟨hn, hat⟩ := tabF_all h
  unfold Rises
  rw [List.pairwise_iff_getElem]
  have key : ∀ d i, (hd : i + d + 1 < xs.length) → ahead (xs.getD i default) (xs.getD (i + d + 1) default) = true := by
    intro d
    induction d with
    | zero =>
      intro i hd
      exact (tabAt_zero (hat (i + 1) (by omega))).2 (by omega)
    | succ d ih =>
      intro i hd
      exact ahead_trans (ih i (by omega)) ((tabAt_zero (hat (i + (d + 1) + 1) (by omega))).2 (by omega))
  intro i j hi hj hij
  have := key (j - i - 1) i (by omega)
  rw [show i + (j - i - 1) + 1 = j by omega] at this
  simpa [List.getD, hi, hj] using this
theorem putL_filter : ∀ {xs : List Rw} (p : Rw → Bool) (r : Rw), Rises xs → r ∈ xs → putL (xs.filter p) r = xs.filter (fun x => p x || decide (x = r))
  | [], _, _, _, h => by simp at h
  | x :: xs, p, r, hx, hr => by
    unfold Rises at hx
    rw [List.pairwise_cons] at hx
    by_cases e : x = r
    · subst e
      have hno : ∀ y ∈ xs, y ≠ x := fun y hy e => by
        have := hx.1 y hy
        rw [e, ahead_irrefl] at this
        cases this
      have e2 : xs.filter (fun y => p y || decide (y = x)) = xs.filter p := List.filter_congr (fun y hy => by simp [hno y hy])
      by_cases hp : p x = true
      · rw [List.filter_cons_of_pos hp, List.filter_cons_of_pos (by simp), e2]
        unfold putL
        rw [if_neg (by simp [ahead_irrefl]), if_neg (by simp [ahead_irrefl])]
      · rw [List.filter_cons_of_neg hp, List.filter_cons_of_pos (by simp), e2]
        cases hf : xs.filter p with
        | nil => rfl
        | cons y ys =>
          have hy : y ∈ xs := (List.mem_filter.1 (by rw [hf]; exact List.mem_cons_self ..)).1
          unfold putL
          rw [if_neg (by simp [ahead_asymm (hx.1 y hy)]), if_pos (hx.1 y hy)]
    · have hr' : r ∈ xs := by
        rcases List.mem_cons.1 hr with h | h
        · exact absurd h.symm e
        · exact h
      have ih := putL_filter p r (show Rises xs from hx.2) hr'
      by_cases hp : p x = true
      · rw [List.filter_cons_of_pos hp, List.filter_cons_of_pos (by simp [hp]), ← ih]
        conv => lhs; unfold putL
        rw [if_pos (hx.1 r hr')]
      · rw [List.filter_cons_of_neg hp, List.filter_cons_of_neg (by simp [hp, e]), ← ih]
theorem putsL_filter {xs : List Rw} (hx : Rises xs) : ∀ (l : List Rw) (p : Rw → Bool), (∀ r ∈ l, r ∈ xs) → putsL (xs.filter p) l = xs.filter (fun x => p x || decide (x ∈ l))
  | [], p, _ => by simp [putsL]
  | r :: l, p, h => by
    rw [putsL_cons, putL_filter p r hx (h r (List.mem_cons_self ..)), putsL_filter hx l _ (fun q hq => h q (List.mem_cons_of_mem _ hq))]
    refine List.filter_congr (fun y _ => ?_)
    rw [Bool.eq_iff_iff]
    simp only [Bool.or_eq_true, decide_eq_true_eq, List.mem_cons]
    rw [or_assoc]
theorem putsL_of {xs : List Rw} (hx : Rises xs) (l : List Rw) (h : ∀ r ∈ l, r ∈ xs) : putsL [] l = xs.filter (fun x => decide (x ∈ l)) := by
  have h1 := putsL_filter hx l (fun _ => false) h
  have h2 : xs.filter (fun _ => false) = [] := List.filter_eq_nil_iff.2 (fun _ _ => by simp)
  rw [h2] at h1
  rw [h1]
  exact List.filter_congr (fun y _ => by simp)
theorem putAt_of {ys : List Rw} {r : Rw} {i : Nat} (hi : i ≤ ys.length) (h1 : ∀ k, k < i → cmpR (ys.getD k default) r < 0) (h2 : ∀ k, i ≤ k → k < ys.length → 0 ≤ cmpR (ys.getD k default) r) : PutAt ys r i :=
  ⟨hi, fun j hj => (ahead_iff _ _).2 (h1 j hj), fun h => (ahead_not _ _).2 (h2 i (Nat.le_refl _) h)⟩
theorem put_found {ys : List Rw} {r : Rw} {i : Nat} (hp : PutAt ys r i) (hf : i < ys.length ∧ cmpR (ys.getD i default) r = 0) : putL ys r = ys := by
  rw [← putK_putL ys r i hp]
  unfold putK
  rw [if_pos ⟨hf.1, by rw [ahead_not, cmpR_flip, hf.2]; omega⟩]
theorem put_new {ys : List Rw} {r : Rw} {i : Nat} (hp : PutAt ys r i) (hf : ¬ (i < ys.length ∧ cmpR (ys.getD i default) r = 0)) : putL ys r = ys.take i ++ [r] ++ ys.drop i := by
  rw [← putK_putL ys r i hp]
  unfold putK
  refine if_neg (fun h => hf ⟨h.1, ?_⟩)
  have h1 := (ahead_not _ _).1 (hp.2.2 h.1)
  have h2 := (ahead_not _ _).1 h.2
  rw [cmpR_flip] at h2
  omega
theorem rises_mono {ys : List Rw} (h : Rises ys) (q : Rw) : ∀ a b, a ≤ b → b < ys.length → cmpR (ys.getD b default) q < 0 → cmpR (ys.getD a default) q < 0 := by
  intro a b hab hb hlt
  by_cases e : a = b
  · rw [e]; exact hlt
  · unfold Rises at h
    rw [List.pairwise_iff_getElem] at h
    have h1 := h a b (by omega) hb (by omega)
    have h2 : ahead (ys.getD a default) (ys.getD b default) = true := by simpa [List.getD, hb, show a < ys.length by omega] using h1
    exact (ahead_iff _ _).1 (ahead_trans h2 ((ahead_iff _ _).2 hlt))
end Go.Proofs.YtdfapehonegeeaaGreat

/-
  Rows of []Row. (Written by program: nest.py.)
-/
namespace Go.Proofs.YtdfapehonegeeaaGreat
open Go.RowKit
set_option linter.unusedSectionVars false
variable [DecidableEq Rw] [Inhabited Rw]
attribute [local go_sem ↓] Go.wp_at_zero Go.wp_at_succ

def rowssR : Rep (List (List Rw)) := nRep rowsR 32 1 one
def wtRowss (xs : List (List Rw)) : Nat := wtL wtRows xs
def cntRowss (xs : List (List Rw)) : Nat := cntL cntRows xs
def mkRowss (k : Int) (xs : List (List Rw)) : List (List Rw) := mkL mkRows cntRows k xs
theorem rowss_form {w : World} {v : Value} {xs : List (List Rw)} (h : rowssR.V w v xs) : ∃ a c, v = .slice a xs.length c := by
  obtain ⟨a, c, rfl, _⟩ := h
  exact ⟨_, _, rfl⟩
theorem rowss_cnt (d : List (List Rw)) : cntRowss d ≤ 4 * wtRowss d := cntL_le (fun x => by have := rows_cnt x; omega) d
theorem infoRowss : (Tryz.prog.info? 32).map (fun i => (i.zero, i.size, i.bytes)) = some (some (.slice none 0 0), 1, 24) := by kernel_rfl
theorem keepRowss {w w' : World} {a0 a1 : Addr} {x0 x1 : Value} (hb : Below w.heap.size w w') (g0 : w.cell? a0 = some x0) (g1 : w.cell? a1 = some x1) : Below w.heap.size w w' ∧ w'.cell? a0 = some x0 ∧ w'.cell? a1 = some x1 :=
  ⟨hb, cell_keep hb g0, cell_keep hb g1⟩
set_option maxHeartbeats 1000000 in
theorem eqRowSS_u (x y : Value) (xs ys : List (List Rw)) (w : World) (hx : rowssR.V w x xs) (hy : rowssR.V w y ys) :
    Calls Tryz.prog 60 #[x, y] w fun e w' => e = .returned (.bool (decide (xs = ys))) ∧ Below w.heap.size w w' := by
  obtain ⟨ax, cx, rfl, hcx, hmx, hx⟩ := hx
  obtain ⟨ay, cy, rfl, hcy, hmy, hy⟩ := hy
  unfold maxLen at hmx hmy
  by_cases hl : ys.length = xs.length
  · rw [hl] at hcy hy ⊢
    have HL : Hid (ys.length = xs.length) := hl
    clear hl
    generalize hn : xs.length = n at *
    have HN : Hid (xs.length = n) := hn
    clear hn
    go_enter Tryz.func60, Tryz.ntmps60
    go_wp2
    go_loopw [5] (fun i w' => ∃ k : Nat, k ≤ n ∧ i = .int .i64 k ∧ (∀ j, j < k → xs.getD j default = ys.getD j default) ∧ Below w.heap.size w w') (fun i _ => n - (intOf i).toNat)
    case atStart => exact ⟨0, Nat.zero_le _, rfl, fun j h => absurd h (Nat.not_lt_zero _), Below.refl _ _⟩
    case round =>
      obtain ⟨k, hk, rfl, hpre, hbl⟩ := hrel
      have HP : Hid (∀ j, j < k → xs.getD j default = ys.getD j default) := hpre
      clear hpre
      by_cases hlt : k < n
      · obtain ⟨bx, ox, ux, rfl, _, p1, hvx⟩ := hx k hlt
        obtain ⟨b2, oy, uy, rfl, _, p2, hvy⟩ := hy k hlt
        obtain ⟨l1, hl1⟩ : ∃ l, l = xs.getD k default := ⟨_, rfl⟩
        obtain ⟨l2, hl2⟩ : ∃ l, l = ys.getD k default := ⟨_, rfl⟩
        rw [← hl1] at hvx
        rw [← hl2] at hvy
        have H1 : Hid (l1 = xs.getD k default) := hl1
        have H2 : Hid (l2 = ys.getD k default) := hl2
        have g0 : w.cell? ⟨bx, ox + k, none⟩ = some (ux) := cells1 p1
        have g1 : w.cell? ⟨b2, oy + k, none⟩ = some (uy) := cells1 p2
        clear hl1 hl2 hx hy p1 p2
        go_wp2
        go_region_held3 (fun w' => Below w.heap.size w w' ∧ w'.cell? ⟨bx, ox + k, none⟩ = some (ux) ∧ w'.cell? ⟨b2, oy + k, none⟩ = some (uy)) ((refine keepRowss ?_ g0 g1; (repeat (first | exact Below.refl _ _ | assumption | refine Below.drew ?_ | refine balloc ?_ _ | refine bstep ?_ (by assumption))))) (first | (go_at_call 59; refine (eqRowS_u (ux) (uy) l1 l2 _ (rowsR.below hvx (by (repeat (first | exact Below.refl _ _ | assumption | refine Below.drew ?_ | refine balloc ?_ _ | refine bstep ?_ (by assumption))))) (rowsR.below hvy (by (repeat (first | exact Below.refl _ _ | assumption | refine Below.drew ?_ | refine balloc ?_ _ | refine bstep ?_ (by assumption)))))).mono ?_; rintro e w' ⟨rfl, hb1⟩))
        rename_i hH
        have hB := hH.1
        clear hH
        go_wp2
        · rename_i hle
          go_ret
          refine ⟨?_, hB⟩
          have : ¬ xs = ys := fun h => by
            have : l1 = l2 := by rw [H1.out, H2.out, h]
            simp [this] at hle
          simp [this]
        · rename_i hle
          refine ⟨⟨k + 1, by omega, by go_num, fun j hj => ?_, hB⟩, by simp [intOf]; omega⟩
          by_cases hjk : j < k
          · exact HP.out j hjk
          · have : j = k := by omega
            subst this
            rw [← H1.out, ← H2.out]
            simpa using hle
      · go_wp2
        go_ret
        have : k = n := by omega
        subst this
        refine ⟨?_, hbl⟩
        have : xs = ys := rows_eq_of (by rw [HL.out, HN.out]) (by rw [HN.out]; exact HP.out)
        simp [this]
  · go_enter Tryz.func60, Tryz.ntmps60
    have hl' : ((xs.length : Int) == (ys.length : Int)) = false := by simp; omega
    go_wp2
    go_ret
    have : ¬ xs = ys := fun h => hl (by rw [h])
    exact ⟨by simp [this], Below.refl _ _⟩
set_option maxHeartbeats 1000000 in
theorem toRowSS_u (x : Value) (xs : List (List Rw)) (w : World) (hx : rowssR.V w x xs) (hn : wtRowss xs ≤ 1048576) :
    Calls Tryz.prog 50 #[x] w fun e w' => ∃ v F, e = .returned v ∧ rowssR.O w' w.heap.size F v xs ∧ Below w.heap.size w w' := by
  obtain ⟨ax, cx, rfl, hcx, hmx, hx⟩ := hx
  unfold maxLen at hmx
  unfold wtRowss at hn
  have hlen : xs.length ≤ 1048576 := by unfold wtL at hn; omega
  have hW : ∀ k, k < xs.length → wtRows (xs.getD k default) ≤ 1048576 := fun k hk => (wt_at hn hk).1
  obtain ⟨i0, hi, hz0, hz1, hz2⟩ := info_parts infoRowss
  obtain ⟨w1, hmk, hown, hgr⟩ := run_make_full (P := Tryz.prog) w w.heap.size 33 32 i0 _ 1 Tryz.underlying33 hi hz0 hz1 .i64 .i64 xs.length (by rw [hz2]; omega) (by unfold maxLen; omega) (Nat.le_refl _)
  have hbl0 : Below w.heap.size w w1 := (Below.refl _ _).grown hgr (Nat.le_refl _) (fun k h => by cases h)
  clear hn
  generalize hn' : xs.length = n at *
  have HN : Hid (xs.length = n) := hn'
  clear hn'
  go_enter Tryz.func50, Tryz.ntmps50
  go_wp2
  go_loopw [4] (fun i w' => ∃ (k : Nat) (cs : List Value) (us : Nat → Value) (fs : Nat → Nat → Prop), k ≤ n ∧ i = .int .i64 k ∧ PO rowsR 32 1 one w' w.heap.size (.slice (some ⟨w.heap.size, 0, none⟩) n n) n k (fun i => xs.getD i default) cs us fs ∧ Below w.heap.size w w') (fun i _ => n - (intOf i).toNat)
  case atStart => exact ⟨0, _, fun _ => .int .i64 0, fun _ _ => False, Nat.zero_le _, rfl, ⟨hown, fun i h => by omega, fun i h => by omega, fun i h => by omega, fun i h => by omega, fun i j h => by omega⟩, hbl0⟩
  case round =>
    obtain ⟨k, cs, us, fs, hk, rfl, hp, hbl⟩ := hrel
    clear hown hmk hgr hbl0
    by_cases hlt : k < n
    · obtain ⟨bx, ox, ux, rfl, _, p1, hvx⟩ := hx k hlt
      have hw := hW k hlt
      obtain ⟨l, hl⟩ : ∃ l, l = xs.getD k default := ⟨_, rfl⟩
      rw [← hl] at hvx hw
      have HL : Hid (l = xs.getD k default) := hl
      have g0 : w.cell? ⟨bx, ox + k, none⟩ = some (ux) := cells1 p1
      replace g0 := cell_keep hbl g0
      clear hx p1 hW hl
      go_wp2_with fail
      refine (toRowS_u (ux) l _ (rowsR.below hvx (by (repeat (first | exact Below.refl _ _ | assumption | refine Below.drew ?_ | refine balloc ?_ _ | refine bstep ?_ (by assumption))))) hw).mono ?_
      rintro e wa ⟨v1, F1, rfl, o1, b1⟩
      obtain ⟨a1, n1, rfl⟩ := rows_form (rowsR.ofO o1)
      have ho1 := (hp.keep b1).row
      obtain ⟨y0, q0⟩ := owns_some ho1 (k) (by omega)
      have hf := fun j => ho1.frozenAt j
      go_wp2
      have s0 := ho1.stored (k) (.slice a1 l.length n1)
      have hcs : cs.set k (.slice a1 l.length n1) = setRow cs (k * 1) [.slice a1 l.length n1] := by rw [Nat.mul_one]; rfl
      have hrow := s0.1
      rw [hcs] at hrow
      have hcl := hp.row.1
      refine ⟨⟨k + 1, _, _, _, by omega, by go_num, hp.push (u := (.slice a1 l.length n1)) (F := F1) hbl.size b1 (by rw [← HL.out]; exact o1) rfl hrow (Mod.of_grown s0.2) ?_ ?_, ?_⟩, by simp [intOf]; omega⟩
      · intro i hi j hj
        exact setRow_old _ _ _ _ (.inl (by omega))
      · intro j hj
        exact setRow_new _ _ _ _ (by simp only [List.length_cons, List.length_nil]; omega) hj
      · exact ((bstep hbl b1).setCell (Nat.le_refl _) _)
    · go_wp2
      go_ret
      have hkn : k = n := by omega
      subst hkn
      have e := HN.out
      subst e
      exact ⟨_, _, rfl, ⟨cs, us, fs, hp, fun b => Iff.rfl⟩, hbl⟩
set_option maxHeartbeats 1000000 in
theorem szRowSS_u (x : Value) (xs : List (List Rw)) (left : Int) (w : World) (hx : rowssR.V w x xs) (h0 : 0 ≤ left) (h1 : left ≤ 1048576) :
    Calls Tryz.prog 41 #[x, .int .i64 left] w fun e w' => e = .returned (.int .i64 (szLen left (wtRowss xs))) ∧ Below w.heap.size w w' := by
  obtain ⟨ax, cx, rfl, hcx, hmx, hx⟩ := hx
  unfold maxLen at hmx
  unfold wtRowss wtL
  have HT : Hid (∀ k, k < xs.length → cntTo wtRows (k + 1) xs = cntTo wtRows k xs + wtRows (xs.getD k default) ∧ cntTo wtRows (k + 1) xs ≤ cntTo wtRows xs.length xs) :=
    fun k hk => ⟨cntTo_succ _ k xs hk, cntTo_le _ _ _ _ hk⟩
  generalize xs.length = n at *
  by_cases h : left < n
  · have h' : left - (n : Int) < 0 := by omega
    clear hx
    go_enter Tryz.func41, Tryz.ntmps41
    go_wp2
    go_ret
    exact ⟨by simp only [szLen]; rw [if_pos (by omega)]; rfl, Below.refl _ _⟩
  · have h' : ¬ left - (n : Int) < 0 := by omega
    go_enter Tryz.func41, Tryz.ntmps41
    go_wp2
    go_loopw [1, 5] (fun l i w' => ∃ k : Nat, k ≤ n ∧ i = .int .i64 k ∧ l = .int .i64 (left - n - cntTo wtRows k xs) ∧ 0 ≤ left - n - cntTo wtRows k xs ∧ Below w.heap.size w w') (fun _ i _ => n - (intOf i).toNat)
    case atStart => exact ⟨0, Nat.zero_le _, rfl, by simp [cntTo], by simp [cntTo]; omega, Below.refl _ _⟩
    case round =>
      obtain ⟨k, hk, rfl, rfl, hpos, hbl⟩ := hrel
      by_cases hlt : k < n
      · obtain ⟨bx, ox, ux, rfl, _, p1, hvx⟩ := hx k hlt
        obtain ⟨t2, t3⟩ := HT.out k hlt
        generalize xs.getD k default = l at *
        have g0 : w.cell? ⟨bx, ox + k, none⟩ = some (ux) := cells1 p1
        replace g0 := cell_keep hbl g0
        generalize hm : wtRows l = m at *
        have HM : Hid (wtRows l = m) := hm
        clear hx p1 hm
        generalize cntTo wtRows k xs = c at *
        go_wp2_with fail
        refine (szRowS_u (ux) l (left - n - c) _ (rowsR.below hvx (by (repeat (first | exact Below.refl _ _ | assumption | refine Below.drew ?_ | refine balloc ?_ _ | refine bstep ?_ (by assumption))))) hpos (by omega)).mono ?_
        rintro e wa ⟨rfl, b1⟩
        rw [HM.out]
        go_wp2
        · rename_i hneg
          go_ret
          refine ⟨?_, by (repeat (first | exact Below.refl _ _ | assumption | refine Below.drew ?_ | refine balloc ?_ _ | refine bstep ?_ (by assumption)))⟩
          have : szLen left ↑(n + cntTo wtRows n xs) = -1 := by
            unfold szLen at hneg ⊢
            rw [if_pos (by split at hneg <;> omega)]
          rw [this]
          rfl
        · rename_i hneg
          refine ⟨⟨k + 1, by omega, by go_num, ?_, ?_, by (repeat (first | exact Below.refl _ _ | assumption | refine Below.drew ?_ | refine balloc ?_ _ | refine bstep ?_ (by assumption)))⟩, by simp [intOf]; omega⟩
          · congr 1
            unfold szLen at hneg ⊢
            split at hneg <;> omega
          · unfold szLen at hneg
            split at hneg <;> omega
      · go_wp2
        go_ret
        have hkn : k = n := by omega
        subst hkn
        refine ⟨?_, hbl⟩
        have : szLen left ↑(k + cntTo wtRows k xs) = left - k - cntTo wtRows k xs := by
          unfold szLen
          rw [if_neg (by omega)]
          omega
        rw [this]
        rfl
set_option maxHeartbeats 1000000 in
theorem heldRowSS_u (v : Value) (xs : List (List Rw)) (k : Int) (w : World) (hv : rowssR.V w v (mkRowss k xs)) (hw : wtRowss xs ≤ 1048576) (hn : k + cntRowss xs ≤ 1073741824) (hk0 : 0 ≤ k) :
    Calls Tryz.prog 135 #[v, .int .i64 k] w fun r w' => r = .returned (.int .i64 (k + cntRowss xs)) ∧ Below w.heap.size w w' := by
  obtain ⟨a, cap, rfl, hnc, hcm, hc⟩ := hv
  unfold mkRowss at hnc hc ⊢
  rw [length_mkL] at hnc hc ⊢
  unfold maxLen at hcm
  have hW : ∀ k, k < xs.length → wtRows (xs.getD k default) ≤ 1048576 := fun k hk => (wt_at hw hk).1
  unfold cntRowss cntL at hn ⊢
  have HT : Hid (∀ j, j < xs.length → (mkL mkRows cntRows k xs).getD j default = mkRows (k + cntTo cntRows j xs) (xs.getD j default) ∧ cntTo cntRows (j + 1) xs = cntTo cntRows j xs + cntRows (xs.getD j default) ∧ cntTo cntRows (j + 1) xs ≤ cntTo cntRows xs.length xs) :=
    fun j hj => ⟨getD_mkL _ _ _ _ _ hj, cntTo_succ _ j xs hj, cntTo_le _ _ _ _ hj⟩
  clear hw
  generalize xs.length = n at *
  go_enter Tryz.func135, Tryz.ntmps135
  go_wp2
  go_loopw [1, 5] (fun q i w' => ∃ j : Nat, j ≤ n ∧ i = .int .i64 j ∧ q = .int .i64 (k + cntTo cntRows j xs) ∧ Below w.heap.size w w') (fun _ i _ => n - (intOf i).toNat)
  case atStart => exact ⟨0, Nat.zero_le _, rfl, by simp [cntTo], Below.refl _ _⟩
  case round =>
    obtain ⟨j, hj, rfl, rfl, hbl⟩ := hrel
    by_cases hlt : j < n
    · obtain ⟨bx, ox, ux, rfl, _, p1, hvx⟩ := hc j hlt
      obtain ⟨t1, t2, t3⟩ := HT.out j hlt
      have hw1 := hW j hlt
      rw [t1] at hvx
      generalize xs.getD j default = l at *
      obtain ⟨q, hq⟩ : ∃ q, q = k + cntTo cntRows j xs := ⟨_, rfl⟩
      have hq0 : 0 ≤ q := by omega
      rw [← hq] at hvx ⊢
      have T2 : Hid (k + cntTo cntRows (j + 1) xs = q + cntRows l) := by show _ = _; omega
      have hq1 : q + cntRows l ≤ 1073741824 := by omega
      have hv1 := hvx
      have g0 : w.cell? ⟨bx, ox + j, none⟩ = some (ux) := cells1 p1
      replace g0 := cell_keep hbl g0
      clear hc p1 t1 t2 t3 hW hq
      go_wp2_with fail
      refine (heldRowS_u ux l (q) _ (rowsR.below hv1 (by (repeat (first | exact Below.refl _ _ | assumption | refine Below.drew ?_ | refine balloc ?_ _ | refine bstep ?_ (by assumption))))) (by omega) (by omega) (by omega)).mono ?_
      rintro e wb1 ⟨rfl, b1⟩
      go_wp2
      refine ⟨⟨j + 1, by omega, by go_num, ?_, by (repeat (first | exact Below.refl _ _ | assumption | refine Below.drew ?_ | refine balloc ?_ _ | refine bstep ?_ (by assumption)))⟩, by simp [intOf]; omega⟩
      rw [T2.out]
    · go_wp2
      go_ret
      have hjn : j = n := by omega
      subst hjn
      exact ⟨rfl, hbl⟩
set_option maxHeartbeats 1000000 in
theorem markRowSS_u (v : Value) (xs : List (List Rw)) (base : Nat) (F : Nat → Prop) (k : Int) (w : World) (ho : rowssR.O w base F v xs) (hw : wtRowss xs ≤ 1048576) (hn : k + cntRowss xs ≤ 1073741824) (hk0 : 0 ≤ k) :
    Calls Tryz.prog 83 #[v, .int .i64 k] w fun r w' => r = .returned (.int .i64 (k + cntRowss xs)) ∧ rowssR.O w' base F v (mkRowss k xs) ∧ Mod F w w' := by
  obtain ⟨cs, us, fs, hp, hF⟩ := ho
  have hW : ∀ k, k < xs.length → wtRows (xs.getD k default) ≤ 1048576 := fun k hk => (wt_at hw hk).1
  unfold cntRowss cntL at hn ⊢
  have HT : Hid (∀ j, j < xs.length → (mkL mkRows cntRows k xs).getD j default = mkRows (k + cntTo cntRows j xs) (xs.getD j default) ∧ cntTo cntRows (j + 1) xs = cntTo cntRows j xs + cntRows (xs.getD j default) ∧ cntTo cntRows (j + 1) xs ≤ cntTo cntRows xs.length xs) :=
    fun j hj => ⟨getD_mkL _ _ _ _ _ hj, cntTo_succ _ j xs hj, cntTo_le _ _ _ _ hj⟩
  clear hw
  have hcap := hp.len
  obtain ⟨av, cv, hav⟩ := owns_form hp.row
  subst hav
  have HF : Hid (∀ b, F b ↔ ((Value.slice av xs.length cv).ownBlock = some b ∨ ∃ i, i < xs.length ∧ fs i b)) := hF
  have HM : Hid ((mkL mkRows cntRows k xs).length = xs.length) := length_mkL _ _ _ _
  clear hF
  generalize hxl : xs.length = n at *
  clear hxl
  go_enter Tryz.func83, Tryz.ntmps83
  go_wp2
  go_loopw [1, 5] (fun q i w' => ∃ (j : Nat) (cs : List Value) (us : Nat → Value), j ≤ n ∧ i = .int .i64 j ∧ q = .int .i64 (k + cntTo cntRows j xs) ∧ PO rowsR 32 1 one w' base (.slice av n cv) n n (fun i => if i < j then (mkL mkRows cntRows k xs).getD i default else xs.getD i default) cs us fs ∧ Mod F w w') (fun _ i _ => n - (intOf i).toNat)
  case atStart => exact ⟨0, cs, us, Nat.zero_le _, rfl, by simp [cntTo], hp.cast (fun i hi => by simp), Mod.refl _ _⟩
  case round =>
    clear hp
    obtain ⟨j, cs, us, hj, rfl, rfl, hp1, hm⟩ := hrel
    by_cases hlt : j < n
    · have he := hp1.el j hlt
      simp only [Nat.lt_irrefl, if_false] at he
      obtain ⟨g, rfl, hcl⟩ := hp1.at hlt hlt
      obtain ⟨t1, t2, t3⟩ := HT.out j hlt
      have hw1 := hW j hlt
      obtain ⟨l, hl⟩ : ∃ l, l = xs.getD j default := ⟨_, rfl⟩
      rw [← hl] at t1 t2 hw1 he
      obtain ⟨q, hq⟩ : ∃ q, q = k + cntTo cntRows j xs := ⟨_, rfl⟩
      have hq0 : 0 ≤ q := by omega
      rw [← hq] at t1 ⊢
      have T1 : Hid ((mkL mkRows cntRows k xs).getD j default = mkRows q l) := t1
      have T2 : Hid (k + cntTo cntRows (j + 1) xs = q + cntRows l) := by show _ = _; omega
      have hq1 : q + cntRows l ≤ 1073741824 := by omega
      have h1 := he
      have g0 : wr.cell? ⟨g, j, none⟩ = some (us j) := by simpa [one] using hcl 0 (by omega)
      have hrow := hp1.row
      have hclen := hrow.1
      have hf := fun j => hrow.frozenAt j
      clear hl t1 t2 t3 hW hq hcl
      go_wp2_with fail
      refine (markRowS_u (us j) l base (fs j) (q) _ h1 (by omega) (by omega) (by omega)).mono ?_
      rintro e wb1 ⟨rfl, r1, m1⟩
      have rw1 := m1.owns hrow (fun b he hb => hp1.out j hlt b hb he)
      have M1 := m1.mono (G := fun b => (Value.slice (some ⟨g, 0, none⟩) n cv).ownBlock = some b ∨ fs j b) (fun b hb => .inr hb)
      go_wp2
      have hq := hp1.turn (u := (us j)) (x := mkRows q l) hlt M1 r1 rfl rw1 ?_ ?_
      · refine ⟨⟨j + 1, _, _, by omega, by go_num, by rw [T2.out], hq.cast fun i hi => ?_, hm.trans (M1.mono fun b hb => (HF.out b).2 ?_)⟩, by simp [intOf]; omega⟩
        · by_cases hij : i = j
          · subst hij
            rw [upd_at, if_pos (by omega)]
            exact T1.out
          · rw [upd_ne _ _ hij]
            by_cases h : i < j
            · rw [if_pos h, if_pos (by omega)]
            · rw [if_neg h, if_neg (by omega)]
        · rcases hb with hb | hb
          · exact .inl hb
          · exact .inr ⟨j, hlt, hb⟩
      · exact fun _ _ _ _ _ => rfl
      · exact hp1.cell j hlt
    · go_wp2
      go_ret
      have hjn : j = n := by omega
      subst hjn
      refine ⟨rfl, ⟨cs, us, fs, ?_, ?_⟩, hm⟩
      · unfold mkRowss
        rw [HM.out]
        exact hp1.cast (fun i hi => by rw [if_pos hi])
      · unfold mkRowss
        rw [HM.out]
        exact HF.out
end Go.Proofs.YtdfapehonegeeaaGreat


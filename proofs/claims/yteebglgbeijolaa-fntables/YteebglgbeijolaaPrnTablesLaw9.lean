import Derived.Test.YteebglgbeijolaaPrnTablesLaw6
import Derived.Test.YteebglgbeijolaaPrnTablesLaw1
import Derived.Laws.BytesArg
import Derived.Deep.DrawnRows
import Derived.Deep.RegionHeld3
import Derived.Test.YteebglgbeijolaaPrnTablesLaw8
import Derived.Test.YteebglgbeijolaaPrnTablesLaw5
import Derived.Test.YteebglgbeijolaaPrnTablesLaw3

/-
  Rows of []Row. (Written by program: nest.py.)
-/
namespace Go.Proofs.Yteebglgbeijolaa
open Go.RowKit
set_option linter.unusedSectionVars false
variable [DecidableEq Rw] [Inhabited Rw]
attribute [local go_sem ↓] Go.wp_at_zero Go.wp_at_succ

def rowssR : Rep (List (List Rw)) := nRep rowsR 55 1 one
theorem rowss_form {w : World} {v : Value} {xs : List (List Rw)} (h : rowssR.V w v xs) : ∃ a c, v = .slice a xs.length c := by
  obtain ⟨a, c, rfl, _⟩ := h
  exact ⟨_, _, rfl⟩
theorem infoRowss : (Try.prog.info? 55).map (fun i => (i.zero, i.size, i.bytes)) = some (some (.slice none 0 0), 1, 24) := by kernel_rfl
end Go.Proofs.Yteebglgbeijolaa

/-
  The specification's MergeTables.
-/
namespace Go.Proofs.Yteebglgbeijolaa
open Go.RowKit
set_option linter.unusedSectionVars false
variable [DecidableEq Rw] [Inhabited Rw] [DecidableEq TabR] [Inhabited TabR]
set_option linter.unusedVariables false
set_option linter.unusedSimpArgs false
attribute [local go_sem ↓] Go.wp_at_zero Go.wp_at_succ

def flatTo (xss : Nat → List Rw) : Nat → List Rw
  | 0 => []
  | k + 1 => flatTo xss k ++ xss k
theorem flatTo_le (xss : Nat → List Rw) : ∀ {k n : Nat}, k ≤ n → flatTo xss k <+: flatTo xss n
  | k, 0, h => by
    have : k = 0 := by omega
    subst this
    exact List.prefix_refl _
  | k, n + 1, h => by
    by_cases e : k = n + 1
    · subst e; exact List.prefix_refl _
    · exact (flatTo_le xss (k := k) (n := n) (by omega)).trans (List.prefix_append _ _)
theorem putL_pos (ys : List Rw) (r : Rw) : 1 ≤ (putL ys r).length := by
  cases ys with
  | nil => simp [putL]
  | cons y ys =>
    have := (length_putL (y :: ys) r).1
    simp only [List.length_cons] at this
    omega
def OutS (W : World) (base : Nat) (v : Value) (ys : List Rw) : Prop := (∃ g c, v = .slice (some ⟨g, 0, none⟩) ys.length c) ∧ W.ownsRow base 61 4 v ys.length (rwsC ys)
theorem OutS.below {W W' : World} {base : Nat} {v : Value} {ys : List Rw} (h : OutS W base v ys) (hb : Below W.heap.size W W') : OutS W' base v ys := ⟨h.1, owns_below h.2 hb⟩
theorem l5Put_L (x : Value) (ys : List Rw) (r : Rw) (base : Nat) (w : World) (hx : OutS w base x ys) (hbase : base ≤ w.heap.size) (hn : ys.length ≤ 1048000) :
    Calls Try.prog 110 #[x, rowV r] w fun e w' => ∃ v, e = .returned v ∧ OutS w' base v (putL ys r) ∧ Below w.heap.size w w' := by
  obtain ⟨⟨g, c, rfl⟩, ho⟩ := hx
  refine (l5Put_any _ ys r w (RowsV_of_owns ho) ⟨g, 0, c, rfl⟩ hn).mono ?_
  rintro e w' ⟨k, hk, hb, h⟩
  rw [putK_putL ys r k hk] at h
  rcases h with ⟨e1, rfl⟩ | ⟨v, rfl, h⟩
  · rw [e1]
    exact ⟨_, rfl, ⟨⟨g, c, rfl⟩, owns_below ho hb⟩, hb⟩
  · refine ⟨v, rfl, ⟨?_, owns_base h hbase⟩, hb⟩
    have hp := putL_pos ys r
    rcases h.2 with ⟨_, h0⟩ | ⟨g', cap, _, rfl, _⟩
    · omega
    · exact ⟨g', cap, rfl⟩
set_option maxRecDepth 20000 in
set_option maxHeartbeats 4000000 in
theorem l5Merge_any (x : Value) (xss : List (List Rw)) (w : World) (hx : rowssR.V w x xss) (htot : (flatTo (fun i => xss.getD i default) xss.length).length ≤ 1000000) :
    Calls Try.prog 79 #[x] w fun e w' => ∃ v, e = .returned v ∧ OutS w' w.heap.size v (putsL [] (flatTo (fun i => xss.getD i default) xss.length)) ∧ Below w.heap.size w w' := by
  obtain ⟨ax, cx, rfl, hcx, hmx, hx⟩ := hx
  unfold maxLen at hmx
  obtain ⟨f, hf⟩ : ∃ f, f = fun i => xss.getD i default := ⟨_, rfl⟩
  have Hf : Hid (∀ i, f i = xss.getD i default) := fun i => by rw [hf]
  rw [← hf] at htot ⊢
  clear hf
  generalize hN : xss.length = n at *
  have HTOT : Hid ((flatTo f n).length ≤ 1000000) := htot
  clear hN htot
  go_enter Try.func79, Try.ntmps79
  go_wp2
  go_loopw [3, 4] (fun o i W => ∃ k : Nat, k ≤ n ∧ i = .int .i64 k ∧ Hid (OutS W w.heap.size o (putsL [] (flatTo f k))) ∧ Below w.heap.size w W) (fun _ i _ => n - (intOf i).toNat)
  case atStart =>
    refine ⟨0, Nat.zero_le _, rfl, ⟨⟨w.heap.size, 0, rfl⟩, ?_⟩, balloc (Below.refl _ _) _⟩
    exact World.ownsRow_lit (base := w.heap.size) (e := 61) (size := 4) w #[] 0 (Nat.le_refl _) (by unfold maxLen; omega) rfl
  case round =>
    obtain ⟨k, hk, rfl, HO, hbl⟩ := hrel
    have hi4 : (0 : Int) ≤ k := by omega
    by_cases hlt : k < n
    · obtain ⟨b, o, u, rfl, _, hc, hu⟩ := hx k hlt
      have g0 : w.cell? ⟨b, o + k, none⟩ = some u := cells1 hc
      have hX := hu.1
      rw [← Hf.out k] at hX
      clear hc hu hx
      obtain ⟨au, cu, rfl, hcu, hmu, hrow⟩ := hX
      unfold maxLen at hmu
      obtain ⟨l, hl⟩ : ∃ l, f k = l := ⟨_, rfl⟩
      have HL : Hid (f k = l) := hl
      rw [hl] at hrow g0 hcu
      generalize hM : l.length = m at *
      have HM : Hid (l.length = m) := hM
      clear hM hl
      have hi5 : (k : Int) < n := by omega
      have HS : Hid (∀ j, j < m → (putsL [] (flatTo f k ++ l.take j)).length ≤ 1048000) := fun j hj => by
        have h1 := (length_putsL (flatTo f k ++ l.take j) []).2
        have h2 := (flatTo_le f (k := k + 1) (n := n) (by omega)).length_le
        have h3 : flatTo f (k + 1) = flatTo f k ++ f k := rfl
        have h4 := HTOT.out
        rw [h3, HL.out, List.length_append] at h2
        simp only [List.length_nil, List.length_append, Nat.zero_add, List.length_take] at h1
        omega
      go_wp2
      go_loopw [3, 5] (fun o j W => ∃ q : Nat, q ≤ m ∧ j = .int .i64 q ∧ Hid (OutS W w.heap.size o (putsL [] (flatTo f k ++ l.take q))) ∧ Below w.heap.size w W) (fun _ j _ => m - (intOf j).toNat)
      case atStart =>
        refine ⟨0, Nat.zero_le _, rfl, ?_, hbl⟩
        rw [List.take_zero, List.append_nil]
        exact HO
      case round =>
        obtain ⟨q, hq, rfl, HO2, hbl2⟩ := hrel
        have hj4 : (0 : Int) ≤ q := by omega
        have g1 := cell_keep hbl2 g0
        by_cases hql : q < m
        · obtain ⟨b', o', rfl, hcq⟩ := hrow q hql
          obtain ⟨c0, c1, c2, c3⟩ := rowCells_below hbl2 hcq
          have hj5 : (q : Int) < m := by omega
          have HP : Hid (putsL [] (flatTo f k ++ l.take (q + 1)) = putL (putsL [] (flatTo f k ++ l.take q)) (l.getD q default)) := by
            rw [Hid, ← take_snoc l (by rw [HM.out]; exact hql), ← List.append_assoc, putsL_snoc]
          have hsz := HS.out q hql
          have hbs := hbl2.size
          obtain ⟨r, hr⟩ : ∃ r, l.getD q default = r := ⟨_, rfl⟩
          rw [hr] at c0 c1 c2 c3 HP
          clear hr
          have hO2 := HO2.out
          obtain ⟨⟨g, c, rfl⟩, _⟩ := hO2
          obtain ⟨ys, hys⟩ : ∃ ys, putsL [] (flatTo f k ++ l.take q) = ys := ⟨_, rfl⟩
          rw [hys] at HO2 HP hsz ⊢
          have HY : Hid (putsL [] (flatTo f k ++ l.take q) = ys) := hys
          clear hys
          obtain ⟨N1, hN1⟩ : ∃ N1, ys.length = N1 := ⟨_, rfl⟩
          have HN1 : Hid (ys.length = N1) := hN1
          have hC := l5Put_L (.slice (some ⟨g, 0, none⟩) ys.length c) ys r w.heap.size wr HO2.out hbs (by omega)
          rw [hN1] at hC ⊢
          clear hN1
          unfold rowV at hC
          go_wp2_with fail
          refine hC.mono ?_
          rintro e w4 ⟨v4, rfl, HO4, hb4⟩
          have hO4 := HO4.1
          obtain ⟨g4, c4, rfl⟩ := hO4
          have HO5 : Hid (OutS w4 w.heap.size (.slice (some ⟨g4, 0, none⟩) (putL ys r).length c4) (putL ys r)) := HO4
          clear HO4
          obtain ⟨N4, hN4⟩ : ∃ N4, (putL ys r).length = N4 := ⟨_, rfl⟩
          rw [hN4] at HO5 ⊢
          clear hN4 hC
          go_wp2
          refine ⟨⟨q + 1, by omega, by go_num, ?_, bstep hbl2 hb4⟩, by simp [intOf]; omega⟩
          rw [HP.out]
          exact HO5
        · obtain rfl : q = m := by omega
          have hj5 : ¬ ((q : Int) < q) := by omega
          have HE : Hid (OutS wr w.heap.size u3 (putsL [] (flatTo f (k + 1)))) := by
            have h3 : flatTo f (k + 1) = flatTo f k ++ f k := rfl
            have h5 := HO2.out
            rw [List.take_of_length_le (by rw [HM.out]; exact Nat.le_refl _)] at h5
            rw [Hid, h3, HL.out]
            exact h5
          go_wp2
          exact ⟨⟨k + 1, by omega, by go_num, HE, hbl2⟩, by simp [intOf]; omega⟩
    · obtain rfl : k = n := by omega
      have hi5 : ¬ ((k : Int) < k) := by omega
      have h1 := HO.out.1
      obtain ⟨g, c, rfl⟩ := h1
      obtain ⟨N4, hN4⟩ : ∃ N4, (putsL [] (flatTo f k)).length = N4 := ⟨_, rfl⟩
      rw [hN4] at HO ⊢
      clear hN4
      go_wp2
      go_ret
      exact ⟨_, rfl, HO.out, hbl⟩
end Go.Proofs.Yteebglgbeijolaa

/-
  Tables drawn.
-/
namespace Go.Proofs.Yteebglgbeijolaa
open Go.RowKit
set_option linter.unusedSectionVars false
variable [DecidableEq Logg] [Inhabited Logg] [DecidableEq LoggR] [Inhabited LoggR] [DecidableEq BytesR] [Inhabited BytesR] [DecidableEq RecsR] [Inhabited RecsR] [DecidableEq Leg] [Inhabited Leg] [DecidableEq Rw] [Inhabited Rw] [DecidableEq TabR] [Inhabited TabR]
set_option linter.unusedVariables false
set_option linter.unusedSimpArgs false
attribute [local go_sem ↓] Go.wp_at_zero Go.wp_at_succ

set_option maxHeartbeats 1000000 in
theorem l5Key_any (B : Nat) (w : World) (bs : Nat) (a : Option Addr) (k cap t : Nat) (h : Src B w bs a k cap t) (ht : t ≤ 90000) :
    Calls Try.prog 143 #[.pointer (some ⟨bs, 0, none⟩)] w fun e w' => ∃ s : ByteArray, e = .returned (.string s) ∧ s.size ≤ 2 ∧ Src B w' bs a k cap (t + 1) ∧ Mod (fun b => b = bs) w w' := by
  have hlt := h.lt
  go_enter Try.func143, Try.ntmps143
  go_wp2_with fail
  refine (l1Next_any B _ bs a k cap t 5 (h.below (by (repeat (first | exact Below.refl _ _ | assumption | refine Below.drew ?_ | refine balloc ?_ _ | refine bset ?_ (by simp; omega) _ | refine bset ?_ (by simp) _ | refine bstep ?_ (by assumption))))) (by omega) (by omega) (by omega)).mono ?_
  rintro e w1 ⟨r, rfl, hr, hs, hm⟩
  have hne : w.heap.size ≠ bs := by omega
  have q0 : w1.cell? ⟨w.heap.size, 0, none⟩ = some (.string ⟨#[97]⟩) := hm.cell (by simp [go_sem]) hne
  have q1 : w1.cell? ⟨w.heap.size, 1, none⟩ = some (.string ⟨#[98]⟩) := hm.cell (by simp [go_sem]) hne
  have q2 : w1.cell? ⟨w.heap.size, 2, none⟩ = some (.string ⟨#[97, 98]⟩) := hm.cell (by simp [go_sem]) hne
  have q3 : w1.cell? ⟨w.heap.size, 3, none⟩ = some (.string ⟨#[107, 49]⟩) := hm.cell (by simp [go_sem]) hne
  have q4 : w1.cell? ⟨w.heap.size, 4, none⟩ = some (.string ⟨#[107, 50]⟩) := hm.cell (by simp [go_sem]) hne
  have hM : Mod (fun b => b = bs) w w1 := (Mod.of_below (balloc (Below.refl _ _) _)).trans hm
  clear hm h
  have hr5 : r < 5 := by omega
  obtain ⟨s, hsc, hss⟩ : ∃ s : ByteArray, w1.cell? ⟨w.heap.size, r, none⟩ = some (.string s) ∧ s.size ≤ 2 := by
    match r, hr5 with
    | 0, _ => exact ⟨_, q0, by decide⟩
    | 1, _ => exact ⟨_, q1, by decide⟩
    | 2, _ => exact ⟨_, q2, by decide⟩
    | 3, _ => exact ⟨_, q3, by decide⟩
    | 4, _ => exact ⟨_, q4, by decide⟩
  have hi1 : (0 : Int) ≤ (r : Int) := by omega
  clear q0 q1 q2 q3 q4
  go_wp2
  go_ret
  exact ⟨s, rfl, hss, hs, hM⟩
theorem msetT {F : Nat → Prop} {w w' : World} (h : Mod F w w') (a : Addr) (v : Value) (ha : F a.block) : Mod F w (w'.setCell a v) := h.trans ((Mod.of_set w' a v).mono (fun b e => by rw [e]; exact ha))
set_option maxHeartbeats 2000000 in
theorem l5Row_any (B : Nat) (w : World) (bs : Nat) (a : Option Addr) (k cap t : Nat) (h : Src B w bs a k cap t) (ht : t ≤ 90000) :
    Calls Try.prog 111 #[.pointer (some ⟨bs, 0, none⟩)] w fun e w' => ∃ r : Rw, e = .returned (rowV r) ∧ r.key.size ≤ 2 ∧ r.val.size ≤ 2 ∧ Src B w' bs a k cap (t + 4) ∧ Mod (fun b => b = bs) w w' := by
  have hlt := h.lt
  have hne : w.heap.size ≠ bs := by omega
  unfold rowV
  go_enter Try.func111, Try.ntmps111
  go_wp2_with fail
  refine (l5Key_any B _ bs a k cap t (h.below (by (repeat (first | exact Below.refl _ _ | assumption | refine Below.drew ?_ | refine balloc ?_ _ | refine bset ?_ (by simp; omega) _ | refine bset ?_ (by simp) _ | refine bstep ?_ (by assumption))))) ht).mono ?_
  rintro e w1 ⟨s1, rfl, hs1, h1, m1⟩
  have R0 : w1.cell? ⟨w.heap.size, 0, none⟩ = some (.string ⟨#[]⟩) := m1.cell (by simp [go_sem]) hne
  have R1 : w1.cell? ⟨w.heap.size, 1, none⟩ = some (.int .i64 0) := m1.cell (by simp [go_sem]) hne
  have R2 : w1.cell? ⟨w.heap.size, 2, none⟩ = some (.string ⟨#[]⟩) := m1.cell (by simp [go_sem]) hne
  have R3 : w1.cell? ⟨w.heap.size, 3, none⟩ = some (.bool false) := m1.cell (by simp [go_sem]) hne
  have Rf : ∀ o, w1.frozen? ⟨w.heap.size, o, none⟩ = false := fun o => (m1.frozen (a := ⟨w.heap.size, o, none⟩) (by simp) hne).trans (by simp [go_sem])
  have Rz : w.heap.size < w1.heap.size := by have := m1.size; simp at this; omega
  have M1 : Mod (fun b => b = bs) w w1 := (Mod.of_below (balloc (Below.refl _ _) _)).trans m1
  clear m1 h
  go_wp2_with fail
  refine (l1Next_any B _ bs a k cap (t + 1) 9 h1 (by omega) (by omega) (by omega)).mono ?_
  rintro e w2 ⟨r2, rfl, hr2, h2, m2⟩
  replace R0 := m2.cell R0 hne
  replace R1 := m2.cell R1 hne
  replace R2 := m2.cell R2 hne
  replace R3 := m2.cell R3 hne
  replace Rf : ∀ o, w2.frozen? ⟨w.heap.size, o, none⟩ = false := fun o => (m2.frozen (a := ⟨w.heap.size, o, none⟩) Rz hne).trans (Rf o)
  replace Rz : w.heap.size < w2.heap.size := by have := m2.size; omega
  have M2 := M1.trans m2
  clear m2 h1 M1
  have hwr : IntKind.i64.wrap (1 + (r2 : Int)) = 1 + (r2 : Int) := by rw [IntKind.wrap_i64]; omega
  have hl2 := h2.lt
  have hne2 : w2.heap.size ≠ bs := by omega
  go_wp2_with fail
  refine (l1Next_any B _ bs a k cap (t + 2) 4 (h2.below (by (repeat (first | exact Below.refl _ _ | assumption | refine Below.drew ?_ | refine balloc ?_ _ | refine bset ?_ (by simp; omega) _ | refine bset ?_ (by simp) _ | refine bstep ?_ (by assumption))))) (by omega) (by omega) (by omega)).mono ?_
  rintro e w3 ⟨r3, rfl, hr3, h3, m3⟩
  have q0 : w3.cell? ⟨w2.heap.size, 0, none⟩ = some (.string ⟨#[120]⟩) := m3.cell (by simp [go_sem]) hne2
  have q1 : w3.cell? ⟨w2.heap.size, 1, none⟩ = some (.string ⟨#[121]⟩) := m3.cell (by simp [go_sem]) hne2
  have q2 : w3.cell? ⟨w2.heap.size, 2, none⟩ = some (.string ⟨#[]⟩) := m3.cell (by simp [go_sem]) hne2
  have q3 : w3.cell? ⟨w2.heap.size, 3, none⟩ = some (.string ⟨#[122, 122]⟩) := m3.cell (by simp [go_sem]) hne2
  replace R0 := m3.cell (cell_keep (by (repeat (first | exact Below.refl _ _ | assumption | refine Below.drew ?_ | refine balloc ?_ _ | refine bset ?_ (by simp; omega) _ | refine bset ?_ (by simp) _ | refine bstep ?_ (by assumption)))) R0) hne
  replace R1 := m3.cell (cell_keep (by (repeat (first | exact Below.refl _ _ | assumption | refine Below.drew ?_ | refine balloc ?_ _ | refine bset ?_ (by simp; omega) _ | refine bset ?_ (by simp) _ | refine bstep ?_ (by assumption)))) R1) hne
  replace R2 := m3.cell (cell_keep (by (repeat (first | exact Below.refl _ _ | assumption | refine Below.drew ?_ | refine balloc ?_ _ | refine bset ?_ (by simp; omega) _ | refine bset ?_ (by simp) _ | refine bstep ?_ (by assumption)))) R2) hne
  replace R3 := m3.cell (cell_keep (by (repeat (first | exact Below.refl _ _ | assumption | refine Below.drew ?_ | refine balloc ?_ _ | refine bset ?_ (by simp; omega) _ | refine bset ?_ (by simp) _ | refine bstep ?_ (by assumption)))) R3) hne
  have hz3 := m3.size
  simp only [World.size_alloc] at hz3
  replace Rf : ∀ o, w3.frozen? ⟨w.heap.size, o, none⟩ = false := fun o => (m3.frozen (a := ⟨w.heap.size, o, none⟩) (by simp; omega) hne).trans (by rw [(bcell (balloc (Below.refl w2.heap.size w2) _)).2 _ _ Rz]; exact Rf o)
  replace Rz : w.heap.size < w3.heap.size := by omega
  have M3 : Mod (fun b => b = bs) w w3 := (M2.transB (balloc (Below.refl _ _) _)).trans m3
  clear m3 h2 M2
  have hr4 : r3 < 4 := by omega
  obtain ⟨s3, hsc, hss⟩ : ∃ s : ByteArray, w3.cell? ⟨w2.heap.size, r3, none⟩ = some (.string s) ∧ s.size ≤ 2 := by
    match r3, hr4 with
    | 0, _ => exact ⟨_, q0, by decide⟩
    | 1, _ => exact ⟨_, q1, by decide⟩
    | 2, _ => exact ⟨_, q2, by decide⟩
    | 3, _ => exact ⟨_, q3, by decide⟩
  have hi1 : (0 : Int) ≤ (r3 : Int) := by omega
  have hl3 := h3.lt
  have hne3 : w3.heap.size ≠ bs := by omega
  clear q0 q1 q2 q3
  go_wp2_with fail
  refine (l1Chance_any B _ bs a k cap (t + 3) 4 (h3.below (by (repeat (first | exact Below.refl _ _ | assumption | refine Below.drew ?_ | refine balloc ?_ _ | refine bset ?_ (by simp; omega) _ | refine bset ?_ (by simp) _ | refine bstep ?_ (by assumption))))) (by omega) (by omega) (by omega)).mono ?_
  rintro e w4 ⟨ch, rfl, h4, m4⟩
  have x0 : w4.cell? ⟨w3.heap.size, 0, none⟩ = some (.string s1) := m4.cell (by simp [go_sem]) hne3
  have x1 : w4.cell? ⟨w3.heap.size, 1, none⟩ = some (.int .i64 (1 + (r2 : Int))) := m4.cell (by simp [go_sem]) hne3
  have x2 : w4.cell? ⟨w3.heap.size, 2, none⟩ = some (.string s3) := m4.cell (by simp [go_sem]) hne3
  have x3 : w4.cell? ⟨w3.heap.size, 3, none⟩ = some (.bool false) := m4.cell (by simp [go_sem]) hne3
  have xf : ∀ o, w4.frozen? ⟨w3.heap.size, o, none⟩ = false := fun o => (m4.frozen (a := ⟨w3.heap.size, o, none⟩) (by simp) hne3).trans (by simp [go_sem])
  replace R0 := m4.cell (cell_keep (by (repeat (first | exact Below.refl _ _ | assumption | refine Below.drew ?_ | refine balloc ?_ _ | refine bset ?_ (by simp; omega) _ | refine bset ?_ (by simp) _ | refine bstep ?_ (by assumption)))) R0) hne
  replace R1 := m4.cell (cell_keep (by (repeat (first | exact Below.refl _ _ | assumption | refine Below.drew ?_ | refine balloc ?_ _ | refine bset ?_ (by simp; omega) _ | refine bset ?_ (by simp) _ | refine bstep ?_ (by assumption)))) R1) hne
  replace R2 := m4.cell (cell_keep (by (repeat (first | exact Below.refl _ _ | assumption | refine Below.drew ?_ | refine balloc ?_ _ | refine bset ?_ (by simp; omega) _ | refine bset ?_ (by simp) _ | refine bstep ?_ (by assumption)))) R2) hne
  replace R3 := m4.cell (cell_keep (by (repeat (first | exact Below.refl _ _ | assumption | refine Below.drew ?_ | refine balloc ?_ _ | refine bset ?_ (by simp; omega) _ | refine bset ?_ (by simp) _ | refine bstep ?_ (by assumption)))) R3) hne
  have hz4 := m4.size
  simp only [World.size_alloc] at hz4
  replace Rf : ∀ o, w4.frozen? ⟨w.heap.size, o, none⟩ = false := fun o => (m4.frozen (a := ⟨w.heap.size, o, none⟩) (by simp; omega) hne).trans (by rw [(bcell (balloc (Below.refl w3.heap.size w3) _)).2 _ _ Rz]; exact Rf o)
  have M4 : Mod (fun b => b = bs) w w4 := (M3.transB (balloc (Below.refl _ _) _)).trans m4
  have hnx : w.heap.size ≠ w3.heap.size := by omega
  clear m4 h3 M3 hsc
  cases ch with
  | false =>
    go_wp2
    refine bodyPost_ret (v := .agg #[.string s1, .int .i64 (1 + (r2 : Int)), .string s3, .bool false]) (by simp [results, Try.results111, go_sem, R0, R1, R2, R3, Rf]) rfl ⟨⟨s1, 1 + (r2 : Int), s3, false⟩, rfl, hs1, hss, ?_⟩
    have hK : Mod (fun b => b = w3.heap.size ∨ b = w.heap.size) w4 ((((w4.setCell ⟨w.heap.size, 0, none⟩ (.string s1)).setCell ⟨w.heap.size, 1, none⟩ (.int .i64 (1 + (r2 : Int)))).setCell ⟨w.heap.size, 2, none⟩ (.string s3)).setCell ⟨w.heap.size, 3, none⟩ (.bool false)) := msetT (msetT (msetT (msetT (Mod.refl _ _) _ _ (.inr rfl)) _ _ (.inr rfl)) _ _ (.inr rfl)) _ _ (.inr rfl)
    exact ⟨h4.mod hK (fun b e => by omega), M4.trans2 hK (fun b e hb => by omega)⟩
  | true =>
    go_wp2
    refine bodyPost_ret (v := .agg #[.string s1, .int .i64 (1 + (r2 : Int)), .string ⟨#[]⟩, .bool true]) (by simp [results, Try.results111, go_sem, R0, R1, R2, R3, Rf, x0, x1, x2, x3, xf, hnx, Ne.symm hnx]) rfl ⟨⟨s1, 1 + (r2 : Int), ⟨#[]⟩, true⟩, rfl, hs1, (by show ByteArray.size ⟨#[]⟩ ≤ 2; decide), ?_⟩
    have hK : Mod (fun b => b = w3.heap.size ∨ b = w.heap.size) w4 ((((((w4.setCell ⟨w3.heap.size, 3, none⟩ (.bool true)).setCell ⟨w3.heap.size, 2, none⟩ (.string ⟨#[]⟩)).setCell ⟨w.heap.size, 0, none⟩ (.string s1)).setCell ⟨w.heap.size, 1, none⟩ (.int .i64 (1 + (r2 : Int)))).setCell ⟨w.heap.size, 2, none⟩ (.string ⟨#[]⟩)).setCell ⟨w.heap.size, 3, none⟩ (.bool true)) := msetT (msetT (msetT (msetT (msetT (msetT (Mod.refl _ _) _ _ (.inl rfl)) _ _ (.inl rfl)) _ _ (.inr rfl)) _ _ (.inr rfl)) _ _ (.inr rfl)) _ _ (.inr rfl)
    exact ⟨h4.mod hK (fun b e => by omega), M4.trans2 hK (fun b e hb => by omega)⟩
end Go.Proofs.Yteebglgbeijolaa

/-
  A region that draws its order, none of whose operations breaks what is asked of the world.
-/
namespace Go.Proofs.Yteebglgbeijolaa
open Go.RowKit

section
variable {P : Program} {ops : Array Oper} {Q : Exit → Act → World → Prop} {md : Region.Mode} {S : World → Prop} {t : Nat}

theorem upto_firstN {i : Nat} {oi : Oper} {v : Value} (hi : ops[i]? = some oi) (hsel : Region.noSelect ops = true) (ht : ops[t]? = none)
    (hQ : ∀ c a w, Q (.panic c) (a.put oi.dst v) w → Q (.panic c) a w) :
    ∀ (f : Nat) (listed : Array Bool) (a : Act) (w : World),
      (∀ j oj, ops[j]? = some oj → j ≠ i → listed.getD j true = false → (∀ e ∈ oj.after, Region.binds md e = true → e.on ≠ i) → oi.apart ops oj = true) →
      i ∈ Region.ready md ops listed → YieldsIf P ops S oi v a → S w →
      wpUpto P md ops Q S t f (listed.setIfInBounds i true) (a.put oi.dst v) w → wpUpto P md ops Q S t (f + 1) listed a w := by
  intro f
  induction f with
  | zero =>
    intro listed a w _ hr hy hS H
    refine ⟨fun h => (by rw [h] at hr; cases hr), fun j hj => ?_⟩
    by_cases hji : j = i
    · subst hji
      exact hy.wpOp hi hS ⟨fun _ => hS, H⟩
    · have hm := ready_mono hj hji
      rw [H.1] at hm
      cases hm
  | succ f ih =>
    intro listed a w hfree hr hy hS H
    refine ⟨fun h => (by rw [h] at hr; cases hr), fun j hj => ?_⟩
    by_cases hji : j = i
    · subst hji
      exact hy.wpOp hi hS ⟨fun _ => hS, H⟩
    · obtain ⟨hjun, oj, hoj, hall⟩ := mem_ready.1 hj
      have hun := (mem_ready.1 hr).1
      have hnl : ¬ listed.getD i false = true := by
        intro h1
        rcases Nat.lt_or_ge i listed.size with h' | h'
        · simp [h'] at hun h1
          rw [hun] at h1
          cases h1
        · simp [Array.getElem?_eq_none h'] at h1
      have hnot : ∀ e ∈ oj.after, Region.binds md e = true → e.on ≠ i := fun e he hb heq => hnl (by rw [← heq]; exact hall e he hb)
      have hjt : j ≠ t := by
        rintro rfl
        rw [ht] at hoj
        cases hoj
      have h1 := H.2 j (ready_mono hj hji)
      have h2 := wpOp_putIf hoj (hfree j oj hoj hji hjun hnot) (fun cs b => Region.noSelect_spec hsel i oi cs b hi) (fun cs b => Region.noSelect_spec hsel j oj cs b hoj) hQ hy h1
      refine wpOp_mono (fun a' w' h3 => ⟨h3.2.1, ih (listed.setIfInBounds j true) a' w' ?_ (ready_mono hr (Ne.symm hji)) h3.1 (h3.2.1 hjt) ?_⟩) h2
      · intro k ok hk hki hunk hno
        refine hfree k ok hk hki ?_ hno
        by_cases hjk : j = k
        · subst hjk; exact hjun
        · rw [getD_set_ne true hjk] at hunk; exact hunk
      · rw [Array.setIfInBounds_comm _ _ hji]
        exact h3.2.2
theorem upto_takeN {i : Nat} {oi : Oper} {v : Value} {f : Nat} {listed : Array Bool} {a : Act} {w : World} (hi : ops[i]? = some oi) (hsel : Region.noSelect ops = true) (ht : ops[t]? = none)
    (hf : Region.free md ops listed i = true) (hr : (Region.ready md ops listed).contains i = true) (hQ : ∀ c a w, Q (.panic c) (a.put oi.dst v) w → Q (.panic c) a w)
    (hwd : Region.wanted oi (yielded ops a.tmps) = true) (hS : S w) (hy : ∀ w, S w → (execOp a.eval oi).run P w = .ok (.value v) w)
    (h : wpUpto P md ops Q S t f (listed.setIfInBounds i true) (a.put oi.dst v) w) : wpUpto P md ops Q S t (f + 1) listed a w :=
  upto_firstN hi hsel ht hQ f listed a w (Region.free_spec hi hf) (by simpa using hr) (Or.inl ⟨hwd, hy⟩) hS h
theorem upto_skipN {i : Nat} {oi : Oper} {f : Nat} {listed : Array Bool} {a : Act} {w : World} (hi : ops[i]? = some oi) (hsel : Region.noSelect ops = true) (ht : ops[t]? = none)
    (hf : Region.free md ops listed i = true) (hr : (Region.ready md ops listed).contains i = true) (hQ : ∀ c a w, Q (.panic c) (a.put oi.dst undef) w → Q (.panic c) a w)
    (hwd : Region.wanted oi (yielded ops a.tmps) = false) (hS : S w)
    (h : ∀ u : Value, wpUpto P md ops Q S t f (listed.setIfInBounds i true) (a.put oi.dst u) w) : wpUpto P md ops Q S t (f + 1) listed a w :=
  upto_firstN hi hsel ht hQ f listed a w (Region.free_spec hi hf) (by simpa using hr) (Or.inr ⟨hwd, rfl⟩) hS (h undef)
end

end Go.Proofs.Yteebglgbeijolaa


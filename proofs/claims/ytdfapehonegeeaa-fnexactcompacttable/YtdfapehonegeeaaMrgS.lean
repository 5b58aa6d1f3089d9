/-
  The specification's MergeTables.
-/
import Derived.Test.YtdfapehonegeeaaMrgM
import Derived.Test.YtdfapehonegeeaaNRowss
namespace Go.Proofs.Ytdfapehonegeeaa
open Go.RowKit
set_option linter.unusedSectionVars false
variable [DecidableEq Rw] [Inhabited Rw] [DecidableEq TabR] [Inhabited TabR]
set_option linter.unusedVariables false
set_option linter.unusedSimpArgs false
attribute [local go_sem ↓] Go.wp_at_zero Go.wp_at_succ

def flatTo (xss : Nat → List Rw) : Nat → List Rw
  | 0 => []
  | k + 1 => flatTo xss k ++ xss k
theorem flatTo_le (xss : Nat → List Rw) : ∀ {k n : Nat}, k ≤ n → flatTo xss k <+: flatTo xss n
  | k, 0, h => by
    have : k = 0 := by omega
    subst this
    exact List.prefix_refl _
  | k, n + 1, h => by
    by_cases e : k = n + 1
    · subst e; exact List.prefix_refl _
    · exact (flatTo_le xss (k := k) (n := n) (by omega)).trans (List.prefix_append _ _)
theorem putL_pos (ys : List Rw) (r : Rw) : 1 ≤ (putL ys r).length := by
  cases ys with
  | nil => simp [putL]
  | cons y ys =>
    have := (length_putL (y :: ys) r).1
    simp only [List.length_cons] at this
    omega

/-- rows that own their memory, not nil -/
def OutS (W : World) (base : Nat) (v : Value) (ys : List Rw) : Prop := (∃ g c, v = .slice (some ⟨g, 0, none⟩) ys.length c) ∧ W.ownsRow base 32 4 v ys.length (rwsC ys)
theorem OutS.below {W W' : World} {base : Nat} {v : Value} {ys : List Rw} (h : OutS W base v ys) (hb : Below W.heap.size W W') : OutS W' base v ys := ⟨h.1, owns_below h.2 hb⟩

theorem l5Put_L (x : Value) (ys : List Rw) (r : Rw) (base : Nat) (w : World) (hx : OutS w base x ys) (hbase : base ≤ w.heap.size) (hn : ys.length ≤ 1048000) :
    Calls Try.prog 92 #[x, rowV r] w fun e w' => ∃ v, e = .returned v ∧ OutS w' base v (putL ys r) ∧ Below w.heap.size w w' := by
  obtain ⟨⟨g, c, rfl⟩, ho⟩ := hx
  refine (l5Put_any _ ys r w (RowsV_of_owns ho) ⟨g, 0, c, rfl⟩ hn).mono ?_
  rintro e w' ⟨k, hk, hb, h⟩
  rw [putK_putL ys r k hk] at h
  rcases h with ⟨e1, rfl⟩ | ⟨v, rfl, h⟩
  · rw [e1]
    exact ⟨_, rfl, ⟨⟨g, c, rfl⟩, owns_below ho hb⟩, hb⟩
  · refine ⟨v, rfl, ⟨?_, owns_base h hbase⟩, hb⟩
    have hp := putL_pos ys r
    rcases h.2 with ⟨_, h0⟩ | ⟨g', cap, _, rfl, _⟩
    · omega
    · exact ⟨g', cap, rfl⟩

set_option maxRecDepth 20000 in
set_option maxHeartbeats 4000000 in
theorem l5Merge_any (x : Value) (xss : List (List Rw)) (w : World) (hx : rowssR.V w x xss) (htot : (flatTo (fun i => xss.getD i default) xss.length).length ≤ 1000000) :
    Calls Try.prog 60 #[x] w fun e w' => ∃ v, e = .returned v ∧ OutS w' w.heap.size v (putsL [] (flatTo (fun i => xss.getD i default) xss.length)) ∧ Below w.heap.size w w' := by
  obtain ⟨ax, cx, rfl, hcx, hmx, hx⟩ := hx
  unfold maxLen at hmx
  obtain ⟨f, hf⟩ : ∃ f, f = fun i => xss.getD i default := ⟨_, rfl⟩
  have Hf : Hid (∀ i, f i = xss.getD i default) := fun i => by rw [hf]
  rw [← hf] at htot ⊢
  clear hf
  generalize hN : xss.length = n at *
  have HTOT : Hid ((flatTo f n).length ≤ 1000000) := htot
  clear hN htot
  go_enter Try.func60, Try.ntmps60
  go_wp2
  go_loopw [3, 4] (fun o i W => ∃ k : Nat, k ≤ n ∧ i = .int .i64 k ∧ Hid (OutS W w.heap.size o (putsL [] (flatTo f k))) ∧ Below w.heap.size w W) (fun _ i _ => n - (intOf i).toNat)
  case atStart =>
    refine ⟨0, Nat.zero_le _, rfl, ⟨⟨w.heap.size, 0, rfl⟩, ?_⟩, balloc (Below.refl _ _) _⟩
    exact World.ownsRow_lit (base := w.heap.size) (e := 32) (size := 4) w #[] 0 (Nat.le_refl _) (by unfold maxLen; omega) rfl
  case round =>
    obtain ⟨k, hk, rfl, HO, hbl⟩ := hrel
    have hi4 : (0 : Int) ≤ k := by omega
    by_cases hlt : k < n
    · obtain ⟨b, o, u, rfl, _, hc, hu⟩ := hx k hlt
      have g0 : w.cell? ⟨b, o + k, none⟩ = some u := cells1 hc
      have hX := hu.1
      rw [← Hf.out k] at hX
      clear hc hu hx
      obtain ⟨au, cu, rfl, hcu, hmu, hrow⟩ := hX
      unfold maxLen at hmu
      obtain ⟨l, hl⟩ : ∃ l, f k = l := ⟨_, rfl⟩
      have HL : Hid (f k = l) := hl
      rw [hl] at hrow g0 hcu
      generalize hM : l.length = m at *
      have HM : Hid (l.length = m) := hM
      clear hM hl
      have hi5 : (k : Int) < n := by omega
      have HS : Hid (∀ j, j < m → (putsL [] (flatTo f k ++ l.take j)).length ≤ 1048000) := fun j hj => by
        have h1 := (length_putsL (flatTo f k ++ l.take j) []).2
        have h2 := (flatTo_le f (k := k + 1) (n := n) (by omega)).length_le
        have h3 : flatTo f (k + 1) = flatTo f k ++ f k := rfl
        have h4 := HTOT.out
        rw [h3, HL.out, List.length_append] at h2
        simp only [List.length_nil, List.length_append, Nat.zero_add, List.length_take] at h1
        omega
      go_wp2
      go_loopw [3, 5] (fun o j W => ∃ q : Nat, q ≤ m ∧ j = .int .i64 q ∧ Hid (OutS W w.heap.size o (putsL [] (flatTo f k ++ l.take q))) ∧ Below w.heap.size w W) (fun _ j _ => m - (intOf j).toNat)
      case atStart =>
        refine ⟨0, Nat.zero_le _, rfl, ?_, hbl⟩
        rw [List.take_zero, List.append_nil]
        exact HO
      case round =>
        obtain ⟨q, hq, rfl, HO2, hbl2⟩ := hrel
        have hj4 : (0 : Int) ≤ q := by omega
        have g1 := cell_keep hbl2 g0
        by_cases hql : q < m
        · obtain ⟨b', o', rfl, hcq⟩ := hrow q hql
          obtain ⟨c0, c1, c2, c3⟩ := rowCells_below hbl2 hcq
          have hj5 : (q : Int) < m := by omega
          have HP : Hid (putsL [] (flatTo f k ++ l.take (q + 1)) = putL (putsL [] (flatTo f k ++ l.take q)) (l.getD q default)) := by
            rw [Hid, ← take_snoc l (by rw [HM.out]; exact hql), ← List.append_assoc, putsL_snoc]
          have hsz := HS.out q hql
          have hbs := hbl2.size
          obtain ⟨r, hr⟩ : ∃ r, l.getD q default = r := ⟨_, rfl⟩
          rw [hr] at c0 c1 c2 c3 HP
          clear hr
          have hO2 := HO2.out
          obtain ⟨⟨g, c, rfl⟩, _⟩ := hO2
          obtain ⟨ys, hys⟩ : ∃ ys, putsL [] (flatTo f k ++ l.take q) = ys := ⟨_, rfl⟩
          rw [hys] at HO2 HP hsz ⊢
          have HY : Hid (putsL [] (flatTo f k ++ l.take q) = ys) := hys
          clear hys
          obtain ⟨N1, hN1⟩ : ∃ N1, ys.length = N1 := ⟨_, rfl⟩
          have HN1 : Hid (ys.length = N1) := hN1
          have hC := l5Put_L (.slice (some ⟨g, 0, none⟩) ys.length c) ys r w.heap.size wr HO2.out hbs (by omega)
          rw [hN1] at hC ⊢
          clear hN1
          unfold rowV at hC
          go_wp2_with fail
          refine hC.mono ?_
          rintro e w4 ⟨v4, rfl, HO4, hb4⟩
          have hO4 := HO4.1
          obtain ⟨g4, c4, rfl⟩ := hO4
          have HO5 : Hid (OutS w4 w.heap.size (.slice (some ⟨g4, 0, none⟩) (putL ys r).length c4) (putL ys r)) := HO4
          clear HO4
          obtain ⟨N4, hN4⟩ : ∃ N4, (putL ys r).length = N4 := ⟨_, rfl⟩
          rw [hN4] at HO5 ⊢
          clear hN4 hC
          go_wp2
          refine ⟨⟨q + 1, by omega, by go_num, ?_, bstep hbl2 hb4⟩, by simp [intOf]; omega⟩
          rw [HP.out]
          exact HO5
        · obtain rfl : q = m := by omega
          have hj5 : ¬ ((q : Int) < q) := by omega
          have HE : Hid (OutS wr w.heap.size u3 (putsL [] (flatTo f (k + 1)))) := by
            have h3 : flatTo f (k + 1) = flatTo f k ++ f k := rfl
            have h5 := HO2.out
            rw [List.take_of_length_le (by rw [HM.out]; exact Nat.le_refl _)] at h5
            rw [Hid, h3, HL.out]
            exact h5
          go_wp2
          exact ⟨⟨k + 1, by omega, by go_num, HE, hbl2⟩, by simp [intOf]; omega⟩
    · obtain rfl : k = n := by omega
      have hi5 : ¬ ((k : Int) < k) := by omega
      have h1 := HO.out.1
      obtain ⟨g, c, rfl⟩ := h1
      obtain ⟨N4, hN4⟩ : ∃ N4, (putsL [] (flatTo f k)).length = N4 := ⟨_, rfl⟩
      rw [hN4] at HO ⊢
      clear hN4
      go_wp2
      go_ret
      exact ⟨_, rfl, HO.out, hbl⟩

end Go.Proofs.Ytdfapehonegeeaa

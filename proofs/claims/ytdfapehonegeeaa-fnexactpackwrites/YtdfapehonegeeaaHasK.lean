/-
  Is a key among writes?
-/
import Derived.Test.YtdfapehonegeeaaWrM
import Derived.Test.YtdfapehonegeeaaKeeps
import Derived.Deep.RegionHeld3
import Derived.Shelf.Abstract
namespace Go.Proofs.Ytdfapehonegeeaa
open Go.RowKit
set_option linter.unusedSectionVars false
variable [DecidableEq Wri] [Inhabited Wri] [DecidableEq BytesR] [Inhabited BytesR] [DecidableEq Rw] [Inhabited Rw]
set_option linter.unusedVariables false
set_option linter.unusedSimpArgs false
attribute [local go_sem ↓] Go.wp_at_zero Go.wp_at_succ

set_option maxHeartbeats 400000 in
theorem keyIs_any (x : Wri) (s : ByteArray) (B : Nat) (w : World) (hc : w.cell? ⟨B, 0, none⟩ = some (.string s)) :
    Calls Try.prog 108 #[.agg #[.string x.key, .string x.val, .bool x.gone], .pointer (some ⟨B, 0, none⟩)] w fun e w' => e = .returned (.bool (decide (x.key = s))) ∧ Below w.heap.size w w' := by
  have hlt := World.block_lt_of_cell? _ _ hc
  dsimp only at hlt
  by_cases h : x.key = s
  · rw [decide_eq_true h]
    have h1 : (x.key.toList == s.toList) = true := by rw [h]; simp
    have h2 : x.key.toList = s.toList := by rw [h]
    have HH : Hid (x.key = s) := h
    clear h
    go_enter Try.func108, Try.ntmps108
    go_wp2
    go_ret
    exact ⟨rfl, balloc (Below.refl _ _) _⟩
  · rw [decide_eq_false h]
    have h1 : (x.key.toList == s.toList) = false := by rw [beq_eq_false_iff_ne, Ne, tl_inj]; exact h
    have h2 : ¬ x.key.toList = s.toList := by rw [tl_inj]; exact h
    go_enter Try.func108, Try.ntmps108
    go_wp2
    go_ret
    exact ⟨rfl, balloc (Below.refl _ _) _⟩

set_option maxHeartbeats 1000000 in
theorem indexKey_any (x : Value) (xs : List Wri) (s : ByteArray) (B : Nat) (w : World) (hx : WrisV w x xs) (hc : w.cell? ⟨B, 0, none⟩ = some (.string s)) :
    Calls Try.prog 131 #[x, .func (.func 108) #[] #[.pointer (some ⟨B, 0, none⟩)]] w fun e w' => (∃ r : Int, e = .returned (.int .i64 r) ∧ ((r = -1 ∧ hasK xs xs.length s = false) ∨ (0 ≤ r ∧ hasK xs xs.length s = true))) ∧ Below w.heap.size w w' := by
  obtain ⟨ax, cx, rfl, hcx, hmx, hx⟩ := hx
  unfold maxLen at hmx
  generalize hn' : xs.length = n at *
  clear hn'
  go_enter Try.func131, Try.ntmps131
  go_wp2
  go_loopw [8] (fun i w' => ∃ k : Nat, k ≤ n ∧ i = .int .i64 k ∧ Hid (∀ j, j < k → (xs.getD j default).key ≠ s) ∧ Below w.heap.size w w') (fun i _ => n - (intOf i).toNat)
  case atStart => exact ⟨0, Nat.zero_le _, rfl, fun j hj => absurd hj (Nat.not_lt_zero _), Below.refl _ _⟩
  case round =>
    obtain ⟨k, hk, rfl, HP, hbl⟩ := hrel
    by_cases hlt : k < n
    · obtain ⟨bx, ox, rfl, g1⟩ := hx k hlt
      obtain ⟨l, hl⟩ : ∃ l, l = xs.getD k default := ⟨_, rfl⟩
      rw [← hl] at g1
      have HLE : Hid (l = xs.getD k default) := hl
      clear hl hx
      obtain ⟨a1, a2, a3⟩ := wriCells_below hbl g1
      have hc2 := cell_keep hbl hc
      have hti : (k : Int) < (n : Int) := by omega
      have eg : ∀ args w, (callFunc 108 args).run Try.prog w = .ok (.enter 108 args) w := enters_of Try.func108 (by kernel_rfl) rfl
      clear g1
      go_wp2_with fail
      refine (keyIs_any l s B _ hc2).mono ?_
      rintro e w1 ⟨rfl, hb1⟩
      have hB := bstep hbl hb1
      clear eg hb1 a1 a2 a3
      by_cases hq : l.key = s
      · rw [decide_eq_true hq]
        have HQ : Hid (hasK xs n s = true) := hasK_of hlt (by rw [← HLE.out]; exact hq)
        clear hq
        go_wp2
        go_ret
        exact ⟨⟨k, rfl, .inr ⟨by omega, HQ.out⟩⟩, hB⟩
      · rw [decide_eq_false hq]
        have HQ : Hid (∀ j, j < k + 1 → (xs.getD j default).key ≠ s) := fun j hj => by
          by_cases e : j = k
          · rw [e, ← HLE.out]; exact hq
          · exact HP.out j (by omega)
        clear hq
        go_wp2
        exact ⟨⟨k + 1, by omega, by go_num, HQ, hB⟩, by simp [intOf]; omega⟩
    · obtain rfl : k = n := by omega
      have hti : ¬ (k : Int) < (k : Int) := by omega
      go_wp2
      go_ret
      exact ⟨⟨-1, rfl, .inl ⟨rfl, hasK_none HP.out⟩⟩, hbl⟩

set_option maxHeartbeats 1000000 in
theorem containsKey_any (x : Value) (xs : List Wri) (s : ByteArray) (B : Nat) (w : World) (hx : WrisV w x xs) (hc : w.cell? ⟨B, 0, none⟩ = some (.string s)) :
    Calls Try.prog 107 #[x, .func (.func 108) #[] #[.pointer (some ⟨B, 0, none⟩)]] w fun e w' => e = .returned (.bool (hasK xs xs.length s)) ∧ Below w.heap.size w w' := by
  have hX := hx
  obtain ⟨ax, cx, rfl, _⟩ := hx
  go_enter Try.func107, Try.ntmps107
  go_wp2_with fail
  refine (indexKey_any _ xs s B _ hX hc).mono ?_
  rintro e w1 ⟨⟨r, rfl, hr⟩, hb1⟩
  rcases hr with ⟨rfl, hr⟩ | ⟨hr0, hr⟩
  · have HR : Hid (_ = _) := hr
    clear hr
    go_wp2
    go_ret
    exact ⟨by rw [HR.out]; rfl, hb1⟩
  · have HR : Hid (_ = _) := hr
    clear hr
    go_wp2
    go_ret
    exact ⟨by rw [HR.out]; rfl, hb1⟩

set_option maxHeartbeats 1000000 in
theorem hasKey_any (x : Value) (xs : List Wri) (s : ByteArray) (w : World) (hx : WrisV w x xs) :
    Calls Try.prog 77 #[x, .string s] w fun e w' => e = .returned (.bool (hasK xs xs.length s)) ∧ Below w.heap.size w w' := by
  have hX := hx
  obtain ⟨ax, cx, rfl, _⟩ := hx
  go_enter Try.func77, Try.ntmps77
  go_wp2_with fail
  refine (containsKey_any _ xs s w.heap.size _ (WrisV_below hX (by (repeat (first | exact Below.refl _ _ | assumption | refine Below.drew ?_ | refine balloc ?_ _ | refine bset ?_ (by simp; omega) _ | refine bset ?_ (by simp) _ | refine bstep ?_ (by assumption))))) (by simp [go_sem])).mono ?_
  rintro e w1 ⟨rfl, hb1⟩
  go_wp2
  go_ret
  exact ⟨rfl, by (repeat (first | exact Below.refl _ _ | assumption | refine Below.drew ?_ | refine balloc ?_ _ | refine bset ?_ (by simp; omega) _ | refine bset ?_ (by simp) _ | refine bstep ?_ (by assumption)))⟩

theorem wris_takeV {w : World} {a : Option Addr} {n c k : Nat} {xs : List Wri} (h : WrisV w (.slice a n c) xs) (hk : k ≤ xs.length) : WrisV w (.slice a k c) (xs.take k) := by
  obtain ⟨a', c', e, h1, h2, h3⟩ := h
  simp only [Value.slice.injEq] at e
  obtain ⟨rfl, rfl, rfl⟩ := e
  have hl : (xs.take k).length = k := by rw [List.length_take]; omega
  refine ⟨a, c, by rw [hl], by omega, h2, fun i hi => ?_⟩
  rw [hl] at hi
  obtain ⟨b, o, e, g⟩ := h3 i (by omega)
  refine ⟨b, o, e, ?_⟩
  have e2 : (xs.take k).getD i default = xs.getD i default := by simp [List.getD, hi]
  rw [e2]
  exact g
theorem hasK_take {xs : List Wri} {k : Nat} {s : ByteArray} (hk : k ≤ xs.length) : hasK (xs.take k) (xs.take k).length s = hasK xs k s := by
  have hl : (xs.take k).length = k := by rw [List.length_take]; omega
  rw [hl]
  unfold hasK
  rw [Bool.eq_iff_iff, List.any_eq_true, List.any_eq_true]
  have e2 : ∀ i, i < k → (xs.take k).getD i default = xs.getD i default := fun i hi => by simp [List.getD, hi]
  constructor
  · rintro ⟨j, hj, h⟩
    rw [e2 j (List.mem_range.1 hj)] at h
    exact ⟨j, hj, h⟩
  · rintro ⟨j, hj, h⟩
    refine ⟨j, hj, ?_⟩
    rw [e2 j (List.mem_range.1 hj)]
    exact h

end Go.Proofs.Ytdfapehonegeeaa

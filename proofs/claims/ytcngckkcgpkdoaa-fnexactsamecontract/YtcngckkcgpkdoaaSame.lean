/-
  SameContract on both sides.
-/
import Derived.Test.YtcngckkcgpkdoaaCon
namespace Go.Proofs.Ytcngckkcgpkdoaa
open Go.RowKit
set_option linter.unusedSectionVars false
variable [DecidableEq Leg] [Inhabited Leg]
attribute [local go_sem ↓] Go.wp_at_zero Go.wp_at_succ

theorem eqGuardLeg2 : Try.prog.eqGuardType Try.prog.depth 25 = false := by kernel_rfl
theorem neqLeg (o l : Leg) (w : World) : (binOp .neq 25 (.agg #[.int .i64 o.sh, .int .i64 o.ac, .int .i64 o.ast, .int .i64 o.am]) (.agg #[.int .i64 l.sh, .int .i64 l.ac, .int .i64 l.ast, .int .i64 l.am])).run Try.prog w = .ok (.bool (!decide (o = l))) w := by
  rw [run_neq_struct, run_equalIn_struct w 9999 25 _ _ (by kernel_rfl) (by kernel_rfl)]
  have hf : (Try.prog.fieldsOf 25).toList = [{ name := "Shard", type := 2, offset := 0, embedded := false, tag := "", pkgPath := "", byteOffset := 0 }, { name := "Account", type := 2, offset := 1, embedded := false, tag := "", pkgPath := "", byteOffset := 8 }, { name := "Asset", type := 2, offset := 2, embedded := false, tag := "", pkgPath := "", byteOffset := 16 }, { name := "Amount", type := 2, offset := 3, embedded := false, tag := "", pkgPath := "", byteOffset := 24 }] := by kernel_rfl
  rw [hf]
  obtain ⟨a, b, c, d⟩ := o
  obtain ⟨a', b', c', d'⟩ := l
  simp [Op.eqFields, go_sem]
  by_cases e1 : a = a' <;> by_cases e2 : b = b' <;> by_cases e3 : c = c' <;> by_cases e4 : d = d' <;> simp [e1, e2, e3, e4]

set_option maxHeartbeats 1000000 in
theorem slicesEqual_any (x y : Value) (xs ys : List Leg) (w : World) (hx : LegsV w x xs) (hy : LegsV w y ys) :
    Calls Try.prog 62 #[x, y] w fun e w' => e = .returned (.bool (decide (xs = ys))) ∧ Below w.heap.size w w' := by
  obtain ⟨ax, cx, rfl, hcx, hmx, hx⟩ := hx
  obtain ⟨ay, cy, rfl, hcy, hmy, hy⟩ := hy
  unfold maxLen at hmx hmy
  by_cases hl : ys.length = xs.length
  · rw [hl] at hcy hy ⊢
    have HL : Hid (ys.length = xs.length) := hl
    clear hl
    generalize hn : xs.length = n at *
    have HN : Hid (xs.length = n) := hn
    clear hn
    go_enter Try.func62, Try.ntmps62
    go_wp2
    go_loopw [13] (fun i w' => ∃ k : Nat, k ≤ n ∧ i = .int .i64 k ∧ (∀ j, j < k → xs.getD j default = ys.getD j default) ∧ Below w.heap.size w w') (fun i _ => n - (intOf i).toNat)
    case atStart => exact ⟨0, Nat.zero_le _, rfl, fun j h => absurd h (Nat.not_lt_zero _), Below.refl _ _⟩
    case round =>
      obtain ⟨k, hk, rfl, hpre, hbl⟩ := hrel
      have HP : Hid (∀ j, j < k → xs.getD j default = ys.getD j default) := hpre
      clear hpre
      by_cases hlt : k < n
      · obtain ⟨bx, ox, rfl, h1⟩ := hx k hlt
        obtain ⟨b2, oy, rfl, h2⟩ := hy k hlt
        obtain ⟨l1, hl1⟩ : ∃ l, l = xs.getD k default := ⟨_, rfl⟩
        obtain ⟨l2, hl2⟩ : ∃ l, l = ys.getD k default := ⟨_, rfl⟩
        rw [← hl1] at h1
        rw [← hl2] at h2
        have H1 : Hid (l1 = xs.getD k default) := hl1
        have H2 : Hid (l2 = ys.getD k default) := hl2
        clear hl1 hl2 hx hy
        have heq := neqLeg l1 l2
        have hgd := eqGuardLeg2
        go_wp2
        go_region_held3 (fun w' => Below w.heap.size w w' ∧ (w'.cell? ⟨bx, ox + k * 4, none⟩ = some (.int .i64 l1.sh) ∧ w'.cell? ⟨bx, ox + k * 4 + 1, none⟩ = some (.int .i64 l1.ac) ∧ w'.cell? ⟨bx, ox + k * 4 + 2, none⟩ = some (.int .i64 l1.ast) ∧ w'.cell? ⟨bx, ox + k * 4 + 3, none⟩ = some (.int .i64 l1.am)) ∧ (w'.cell? ⟨b2, oy + k * 4, none⟩ = some (.int .i64 l2.sh) ∧ w'.cell? ⟨b2, oy + k * 4 + 1, none⟩ = some (.int .i64 l2.ac) ∧ w'.cell? ⟨b2, oy + k * 4 + 2, none⟩ = some (.int .i64 l2.ast) ∧ w'.cell? ⟨b2, oy + k * 4 + 3, none⟩ = some (.int .i64 l2.am))) ((refine keep2 ?_ h1 h2; repeat (first | exact Below.refl _ _ | assumption | refine Below.drew ?_ | refine balloc ?_ _ | refine bstep ?_ (by assumption)))) (fail)
        rename_i hH
        have hB := hH.1
        clear hH heq hgd
        go_wp2
        · rename_i hle
          go_ret
          refine ⟨?_, hB⟩
          have : ¬ xs = ys := fun h => by
            have : l1 = l2 := by rw [H1.out, H2.out, h]
            simp [this] at hle
          simp [this]
        · rename_i hle
          refine ⟨⟨k + 1, by omega, by go_num, fun j hj => ?_, hB⟩, by simp [intOf]; omega⟩
          by_cases hjk : j < k
          · exact HP.out j hjk
          · have : j = k := by omega
            subst this
            rw [← H1.out, ← H2.out]
            simpa using hle
      · go_wp2
        go_ret
        have : k = n := by omega
        subst this
        refine ⟨?_, hbl⟩
        have : xs = ys := list_eq_of (by rw [HL.out, HN.out]) (by rw [HN.out]; exact HP.out)
        simp [this]
  · go_enter Try.func62, Try.ntmps62
    have hl' : ((xs.length : Int) == (ys.length : Int)) = false := by simp; omega
    go_wp2
    go_ret
    have : ¬ xs = ys := fun h => hl (by rw [h])
    exact ⟨by simp [this], Below.refl _ _⟩

set_option maxHeartbeats 400000 in
theorem implSame_any (id id' : Int) (x y : Value) (xs ys : List Leg) (w : World) (hx : LegsV w x xs) (hy : LegsV w y ys) :
    Calls Try.prog 38 #[.agg #[.int .i64 id, x], .agg #[.int .i64 id', y]] w fun e w' => e = .returned (.bool (decide (id = id' ∧ xs = ys))) ∧ Below w.heap.size w w' := by
  by_cases hid : id = id'
  · have hd : (id == id') = true := by simp [hid]
    have HI : Hid (id = id') := hid
    clear hid
    go_enter Try.func38, Try.ntmps38
    go_wp2_with fail
    refine (slicesEqual_any x y xs ys _ (LegsV_below hx (balloc (balloc (Below.refl _ _) _) _)) (LegsV_below hy (balloc (balloc (Below.refl _ _) _) _))).mono ?_
    rintro e w1 ⟨rfl, hb⟩
    go_wp2
    go_ret
    exact ⟨by simp [HI.out], bstep (balloc (balloc (Below.refl _ _) _) _) hb⟩
  · have hd : (id == id') = false := by simp [hid]
    go_enter Try.func38, Try.ntmps38
    go_wp2
    go_ret
    exact ⟨by simp [hid], balloc (balloc (Below.refl _ _) _) _⟩

set_option maxHeartbeats 1000000 in
theorem specSame_any (id id' : Int) (x y : Value) (xs ys : List Leg) (w : World) (hx : LegsV w x xs) (hy : LegsV w y ys) :
    Calls Try.prog 37 #[.agg #[.int .i64 id, x], .agg #[.int .i64 id', y]] w fun e w' => e = .returned (.bool (decide (id = id' ∧ xs = ys))) ∧ Below w.heap.size w w' := by
  obtain ⟨ax, cx, rfl, hcx, hmx, hx⟩ := hx
  obtain ⟨ay, cy, rfl, hcy, hmy, hy⟩ := hy
  unfold maxLen at hmx hmy
  by_cases hid : id = id'
  · have hd : (id == id') = true := by simp [hid]
    have HI : Hid (id = id') := hid
    clear hid
    by_cases hl : ys.length = xs.length
    · rw [hl] at hcy hy ⊢
      have HL : Hid (ys.length = xs.length) := hl
      clear hl
      generalize hn : xs.length = n at *
      have HN : Hid (xs.length = n) := hn
      clear hn
      go_enter Try.func37, Try.ntmps37
      go_wp2
      go_loopw [5] (fun i w' => ∃ k : Nat, k ≤ n ∧ i = .int .i64 k ∧ (∀ j, j < k → xs.getD j default = ys.getD j default) ∧ w'.cell? ⟨w.heap.size, 1, none⟩ = some (.slice ax n cx) ∧ w'.cell? ⟨w.heap.size + 1, 1, none⟩ = some (.slice ay n cy) ∧ Below w.heap.size w w') (fun i _ => n - (intOf i).toNat)
      case atStart => exact ⟨0, Nat.zero_le _, rfl, fun j h => absurd h (Nat.not_lt_zero _), by simp [go_sem], by simp [go_sem], balloc (balloc (Below.refl _ _) _) _⟩
      case round =>
        obtain ⟨k, hk, rfl, hpre, e1, e2, hbl⟩ := hrel
        have HP : Hid (∀ j, j < k → xs.getD j default = ys.getD j default) := hpre
        clear hpre
        by_cases hlt : k < n
        · obtain ⟨bx, ox, rfl, h1⟩ := hx k hlt
          obtain ⟨b2, oy, rfl, h2⟩ := hy k hlt
          obtain ⟨l1, hl1⟩ : ∃ l, l = xs.getD k default := ⟨_, rfl⟩
          obtain ⟨l2, hl2⟩ : ∃ l, l = ys.getD k default := ⟨_, rfl⟩
          rw [← hl1] at h1
          rw [← hl2] at h2
          have H1 : Hid (l1 = xs.getD k default) := hl1
          have H2 : Hid (l2 = ys.getD k default) := hl2
          clear hl1 hl2 hx hy
          have heq := neqLeg l1 l2
          have hgd := eqGuardLeg2
          have h1' := legCells_below hbl h1
          have h2' := legCells_below hbl h2
          go_wp2
          go_region_held3 (fun w' => (Below wr.heap.size wr w' ∧ (w'.cell? ⟨bx, ox + k * 4, none⟩ = some (.int .i64 l1.sh) ∧ w'.cell? ⟨bx, ox + k * 4 + 1, none⟩ = some (.int .i64 l1.ac) ∧ w'.cell? ⟨bx, ox + k * 4 + 2, none⟩ = some (.int .i64 l1.ast) ∧ w'.cell? ⟨bx, ox + k * 4 + 3, none⟩ = some (.int .i64 l1.am)) ∧ (w'.cell? ⟨b2, oy + k * 4, none⟩ = some (.int .i64 l2.sh) ∧ w'.cell? ⟨b2, oy + k * 4 + 1, none⟩ = some (.int .i64 l2.ac) ∧ w'.cell? ⟨b2, oy + k * 4 + 2, none⟩ = some (.int .i64 l2.ast) ∧ w'.cell? ⟨b2, oy + k * 4 + 3, none⟩ = some (.int .i64 l2.am))) ∧ (Below wr.heap.size wr w' ∧ w'.cell? ⟨w.heap.size, 1, none⟩ = some (.slice (some ⟨bx, ox, none⟩) n cx) ∧ w'.cell? ⟨w.heap.size + 1, 1, none⟩ = some (.slice (some ⟨b2, oy, none⟩) n cy))) ((refine ⟨keep2 ?_ h1' h2', keepC2 ?_ e1 e2⟩; all_goals (repeat (first | exact Below.refl _ _ | assumption | refine Below.drew ?_ | refine balloc ?_ _ | refine bstep ?_ (by assumption))))) (fail)
          rename_i hH
          have hB := bstep hbl hH.1.1
          have e1' := hH.2.2.1
          have e2' := hH.2.2.2
          clear hH heq hgd
          go_wp2
          · rename_i hle
            go_ret
            refine ⟨?_, hB⟩
            have : ¬ xs = ys := fun h => by
              have : l1 = l2 := by rw [H1.out, H2.out, h]
              simp [this] at hle
            simp [this]
          · rename_i hle
            refine ⟨⟨k + 1, by omega, by go_num, fun j hj => ?_, e1', e2', hB⟩, by simp [intOf]; omega⟩
            by_cases hjk : j < k
            · exact HP.out j hjk
            · have : j = k := by omega
              subst this
              rw [← H1.out, ← H2.out]
              simpa using hle
        · go_wp2
          go_ret
          have : k = n := by omega
          subst this
          refine ⟨?_, hbl⟩
          have : xs = ys := list_eq_of (by rw [HL.out, HN.out]) (by rw [HN.out]; exact HP.out)
          simp [this, HI.out]
    · have hl' : ((xs.length : Int) == (ys.length : Int)) = false := by simp; omega
      go_enter Try.func37, Try.ntmps37
      go_wp2
      go_ret
      have : ¬ xs = ys := fun h => hl (by rw [h])
      exact ⟨by simp [this], balloc (balloc (Below.refl _ _) _) _⟩
  · have hd : (id == id') = false := by simp [hid]
    go_enter Try.func37, Try.ntmps37
    go_wp2
    go_ret
    exact ⟨by simp [hid], balloc (balloc (Below.refl _ _) _) _⟩

end Go.Proofs.Ytcngckkcgpkdoaa

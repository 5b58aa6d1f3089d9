/-
  The specification's SettleOne: what it answers.
-/
import Derived.Test.YteebglgbeijolaaStl
import Derived.Test.YteebglgbeijolaaSumOf
namespace Go.Proofs.Yteebglgbeijolaa
open Go.RowKit
set_option linter.unusedSectionVars false
variable [DecidableEq Bal] [Inhabited Bal] [DecidableEq Ledg] [Inhabited Ledg] [DecidableEq Leg] [Inhabited Leg] [DecidableEq Cont] [Inhabited Cont] [DecidableEq LedgR] [Inhabited LedgR]
set_option linter.unusedVariables false
set_option linter.unusedSimpArgs false
attribute [local go_sem ↓] Go.wp_at_zero Go.wp_at_succ

theorem setTo_mem (a t v : Int) (xs : List Bal) : ∀ k, k ≤ xs.length → ∀ x ∈ (setTo a t v xs k).1, x ∈ xs ∨ x = ⟨a, t, v⟩
  | 0, _, x, h => by simp [setTo] at h
  | k + 1, hk, x, h => by
    have ih := setTo_mem a t v xs k (by omega)
    have hm : xs.getD k default ∈ xs := by
      have e : xs.getD k default = xs[k] := by simp [List.getD, show k < xs.length by omega]
      rw [e]
      exact List.getElem_mem _
    rw [setTo_succ a t v xs (by omega)] at h
    unfold setStep at h
    split at h
    · exact ih x h
    · split at h
      · simp only [List.append_assoc, List.mem_append, List.mem_singleton] at h
        rcases h with h | h | h
        · exact ih x h
        · exact .inr h
        · rw [h]; exact .inl hm
      · simp only [List.mem_append, List.mem_singleton] at h
        rcases h with h | h
        · exact ih x h
        · rw [h]; exact .inl hm
theorem setB_mem {a t v : Int} {xs : List Bal} {x : Bal} (h : x ∈ setB a t v xs) : x ∈ xs ∨ x = ⟨a, t, v⟩ := by
  unfold setB at h
  split at h
  · exact setTo_mem a t v xs _ (Nat.le_refl _) x h
  · simp only [List.mem_append, List.mem_singleton] at h
    rcases h with h | h
    · exact setTo_mem a t v xs _ (Nat.le_refl _) x h
    · exact .inr h
theorem setB_le (a t v : Int) (xs : List Bal) : (setB a t v xs).length ≤ 2 * xs.length + 1 := by
  have := setTo_le a t v xs xs.length (Nat.le_refl _)
  unfold setB
  split
  · omega
  · rw [List.length_append]
    simp only [List.length_cons, List.length_nil]
    omega
theorem hasB_bound {M : Int} (hM : 0 ≤ M) {a t : Int} : ∀ {xs : List Bal}, (∀ x ∈ xs, -M ≤ x.am ∧ x.am ≤ M) → -M ≤ hasB a t xs ∧ hasB a t xs ≤ M
  | [], _ => by simp only [hasB]; omega
  | x :: xs, h => by
    have ih := hasB_bound hM (a := a) (t := t) (xs := xs) (fun y hy => h y (List.mem_cons_of_mem _ hy))
    simp only [hasB]
    split
    · exact h x (List.mem_cons_self ..)
    · exact ih
/-- what the balances are behind k legs -/
structure AddSt (k : Nat) (xs : List Bal) : Prop where
  len : xs.length + 1 ≤ 19 * 2 ^ k
  key : ∀ x ∈ xs, keyOk x.ac x.ast = true
  am : ∀ x ∈ xs, -((k + 1 : Nat) * 1000000000000 : Int) ≤ x.am ∧ x.am ≤ ((k + 1 : Nat) * 1000000000000 : Int)
theorem addTo_st {xs : List Bal} {ls : List Leg} (hx : BalsOk xs) (hl : ∀ k, k < ls.length → legFault (ls.getD k default) = 0) : ∀ k, k ≤ ls.length → AddSt k (addTo xs ls k)
  | 0, _ => by
    have e : addTo xs ls 0 = xs := by simp [addTo]
    have hm : ∀ x ∈ xs, balOk x = true := fun x h => by
      obtain ⟨i, hi, rfl⟩ := List.mem_iff_getElem.1 h
      have := hx.ok i hi
      simpa [List.getD, hi] using this
    rw [e]
    refine ⟨by have := hx.len; omega, fun x h => balOk_key (hm x h), fun x h => ?_⟩
    have := (balOk_iff.1 (hm x h)).2
    omega
  | k + 1, hk => by
    have ih := addTo_st hx hl k (by omega)
    have hz := legFault_zero (hl k (by omega))
    rw [addTo_succ xs ls (by omega)]
    generalize addTo xs ls k = ys at *
    generalize ls.getD k default = l at *
    unfold addStep
    have hb := hasB_bound (M := ((k + 1 : Nat) * 1000000000000 : Int)) (by omega) (a := l.ac) (t := l.ast) ih.am
    refine ⟨?_, fun x h => ?_, fun x h => ?_⟩
    · have h1 := setB_le l.ac l.ast (hasB l.ac l.ast ys + l.am) ys
      have h2 := ih.len
      rw [Nat.pow_succ]
      omega
    · rcases setB_mem h with h | rfl
      · exact ih.key x h
      · exact keyOk_iff.2 ⟨hz.2.1, hz.2.2.1⟩
    · rcases setB_mem h with h | rfl
      · have := ih.am x h
        omega
      · dsimp only
        have := hz.2.2.2.1
        omega
theorem onSh_sub (s : Int) (ls : List Leg) : ∀ x ∈ onSh s ls, x ∈ ls := fun x h => (List.mem_filter.1 h).1
theorem addOk_of {xs : List Bal} {ls : List Leg} (hx : BalsOk xs) (hl : ∀ x ∈ ls, legFault x = 0) (h8 : ls.length ≤ 8) : AddOk xs ls := by
  have hl' : ∀ k, k < ls.length → legFault (ls.getD k default) = 0 := fun k hk => by
    have e : ls.getD k default = ls[k] := by simp [List.getD, hk]
    rw [e]
    exact hl _ (List.getElem_mem hk)
  have hs := addTo_st hx hl'
  refine ⟨fun k hk => ?_, fun k hk j hj => ?_, fun k hk => ?_, fun k hk => ?_⟩
  · have h1 := (hs k hk).len
    have h2 : 2 ^ k ≤ 2 ^ 8 := Nat.pow_le_pow_right (by omega) (by omega)
    omega
  · have e : (addTo xs ls k).getD j default = (addTo xs ls k)[j] := by simp [List.getD, hj]
    rw [e]
    exact (hs k hk).key _ (List.getElem_mem hj)
  · have hz := legFault_zero (hl' k hk)
    exact keyOk_iff.2 ⟨hz.2.1, hz.2.2.1⟩
  · have hz := legFault_zero (hl' k hk)
    have hb := hasB_bound (M := ((k + 1 : Nat) * 1000000000000 : Int)) (by omega) (a := (ls.getD k default).ac) (t := (ls.getD k default).ast) (hs k (by omega)).am
    omega

/-- what SettleOne answers -/
def settleD (g : Ledg) (c : Cont) : LedgR := if canG g c = 0 then ⟨0, ⟨settleL g.shards c.legs⟩⟩ else ⟨canG g c, ⟨[]⟩⟩
theorem canG_inv {g : Ledg} {c : Cont} (h : canG g c = 0) : ledFault g = 0 ∧ contractFault c.id c.legs = 0 ∧ (∀ k, k < c.legs.length → (c.legs.getD k default).sh < g.shards.length) ∧ ∀ k, k < c.legs.length → canL (bookF g.shards) (c.legs.getD k default) = 0 := by
  unfold canG at h
  split at h
  · rename_i h0
    unfold canF at h
    split at h
    · rename_i h1
      split at h
      · rename_i h2
        refine ⟨h0, h1, fun k hk => ?_, fun k hk => scanI_zero h k hk⟩
        have := scanI_zero h2 k hk
        unfold noneL at this
        split at this
        · omega
        · omega
      · rename_i h2
        exact absurd h h2
    · rename_i h1
      exact absurd h h1
  · rename_i h0
    exact absurd h h0
theorem settle_addOk {g : Ledg} {c : Cont} (h : ledFault g = 0) (hc : contractFault c.id c.legs = 0) : ∀ i, i < g.shards.length → AddOk (g.shards.getD i default) (onSh i c.legs) := fun i hi => by
  obtain ⟨_, _, h8, hok, _⟩ := cf_inv hc
  have hl : ∀ x ∈ c.legs, legFault x = 0 := fun x hx => by
    obtain ⟨j, hj, rfl⟩ := List.mem_iff_getElem.1 hx
    have := (hok j hj).1
    simpa [List.getD, hj] using this
  exact addOk_of ((ledOk_of h).2.2 i hi) (fun x hx => hl x (onSh_sub _ _ x hx)) (Nat.le_trans (List.length_filter_le _ _) h8)

theorem balss_nil (w : World) (base : Nat) : ∃ F, balssR.O w base F (.slice none 0 0) [] :=
  ⟨_, [], fun _ => .slice none 0 0, fun _ _ => False, ⟨World.ownsRow_nil _ _ _ _, fun i h => absurd h (Nat.not_lt_zero _), fun i h => absurd h (Nat.not_lt_zero _), fun i h => absurd h (Nat.not_lt_zero _), fun i h => absurd h (Nat.not_lt_zero _), fun i j h => absurd h (Nat.not_lt_zero _)⟩, fun b => Iff.rfl⟩

set_option maxRecDepth 20000 in
set_option maxHeartbeats 4000000 in
theorem specSettle_u (x y : Value) (g : Ledg) (c : Cont) (w : World) (hx : ledgR.V w x g) (hy : contR.V w y c) :
    Calls Try.prog 36 #[x, y] w fun e w' => ∃ v F, e = .returned v ∧ ledgRR.O w' w.heap.size F v (settleD g c) ∧ Below w.heap.size w w' := by
  have hX := hx
  have hY := hy
  obtain ⟨ag, cg, rfl⟩ := ledg_form hx
  obtain ⟨ac, cc, rfl⟩ := cont_form hy
  have HX : Hid (∀ W, Below w.heap.size w W → ledgR.V W (.agg #[.slice ag g.shards.length cg]) g) := fun W hW => ledgR.below hX hW
  have HY : Hid (∀ W, Below w.heap.size w W → contR.V W (.agg #[.int .i64 c.id, .slice ac c.legs.length cc]) c) := fun W hW => contR.below hY hW
  have HS : Hid (canG g c = 0 → ∀ W, Below w.heap.size w W → Calls Try.prog 89 #[.agg #[.slice ag g.shards.length cg], .agg #[.int .i64 c.id, .slice ac c.legs.length cc]] W fun e w' => ∃ v F, e = .returned v ∧ ledgR.O w' W.heap.size F v ⟨settleL g.shards c.legs⟩ ∧ Below W.heap.size W w') := fun h W hW => by
    obtain ⟨h1, h2, _⟩ := canG_inv h
    obtain ⟨_, _, h8, _⟩ := cf_inv h2
    exact l2Settle_any _ _ g c W (HX.out W hW) (HY.out W hW) (settle_addOk h1 h2) (by have := (ledOk_of h1).2.1; omega) (by omega)
  have HC : Hid (∀ W, Below w.heap.size w W → Calls Try.prog 88 #[.agg #[.slice ag g.shards.length cg], .agg #[.int .i64 c.id, .slice ac c.legs.length cc]] W fun e w' => e = .returned (.int .i64 (canG g c)) ∧ Below W.heap.size W w') := fun W hW => specCan_any _ _ g c W (HX.out W hW) (HY.out W hW)
  have HD : Hid (settleD g c = if canG g c = 0 then ⟨0, ⟨settleL g.shards c.legs⟩⟩ else ⟨canG g c, ⟨[]⟩⟩) := rfl
  clear hx hy hX hY
  generalize g.shards.length = n at *
  generalize c.legs.length = m at *
  generalize c.id = id at *
  generalize canG g c = q at *
  go_enter Try.func36, Try.ntmps36
  go_wp2_with fail
  refine (HC.out _ (by (repeat (first | exact Below.refl _ _ | assumption | refine Below.drew ?_ | refine balloc ?_ _ | refine bset ?_ (by simp; omega) _ | refine bset ?_ (by simp) _ | refine bstep ?_ (by assumption))))).mono ?_
  rintro e w1 ⟨rfl, hb1⟩
  have g0 : w1.cell? ⟨w.heap.size, 0, none⟩ = some (.slice ag n cg) := cell_keep hb1 (by simp [go_sem])
  have y0 : w1.cell? ⟨w.heap.size + 1, 0, none⟩ = some (.int .i64 id) := cell_keep hb1 (by simp [go_sem])
  have y1 : w1.cell? ⟨w.heap.size + 1, 1, none⟩ = some (.slice ac m cc) := cell_keep hb1 (by simp [go_sem])
  have r0 : w1.cell? ⟨w.heap.size + 1 + 1, 0, none⟩ = some (.int .i64 0) := cell_keep hb1 (by simp [go_sem])
  have r1 : w1.cell? ⟨w.heap.size + 1 + 1, 1, none⟩ = some (.slice none 0 0) := cell_keep hb1 (by simp [go_sem])
  have rf : ∀ o, w1.frozen? ⟨w.heap.size + 1 + 1, o, none⟩ = false := fun o => by rw [(bcell hb1).2 _ _ (by simp)]; simp [go_sem]
  have hB1 : Below w.heap.size w w1 := by (repeat (first | exact Below.refl _ _ | assumption | refine Below.drew ?_ | refine balloc ?_ _ | refine bset ?_ (by simp; omega) _ | refine bset ?_ (by simp) _ | refine bstep ?_ (by assumption)))
  have z1 := hb1.size
  simp only [World.size_alloc] at z1
  clear hb1
  by_cases hq : q = 0
  · subst hq
    go_wp2_with fail
    refine (HS.out (by first | rfl | trivial) _ hB1).mono ?_
    rintro e w2 ⟨v2, F2, rfl, o2, hb2⟩
    obtain ⟨u2, F3, rfl, o3, hF⟩ := o2
    obtain ⟨a2, c2, rfl⟩ := balss_form (balssR.ofO o3)
    replace r0 := cell_keep hb2 r0
    replace r1 := cell_keep hb2 r1
    replace rf : ∀ o, w2.frozen? ⟨w.heap.size + 1 + 1, o, none⟩ = false := fun o => by rw [(bcell hb2).2 _ _ (by first | omega | (dsimp only; omega))]; exact rf o
    have hB2 : Below w.heap.size w w2 := bstep hB1 hb2
    have z2 := hb2.size
    have HO3 : Hid (balssR.O w2 w1.heap.size F3 (.slice a2 (settleL g.shards c.legs).length c2) (settleL g.shards c.legs)) := o3
    clear hb2 o3 g0 y0 y1 hB1
    dsimp only
    generalize hLL : (settleL g.shards c.legs).length = L at *
    clear hLL
    go_wp2
    refine bodyPost_ret (v := .agg #[.int .i64 0, .slice a2 L c2]) (by simp [results, Try.results36, go_sem, r0, r1, rf]) rfl ?_
    rw [HD.out, if_pos (by trivial)]
    refine ⟨_, F3, rfl, ⟨_, F3, rfl, ⟨_, F3, rfl, balssR.base (balssR.set (balssR.set HO3.out _ (by first | omega | (dsimp only; omega))) _ (by first | omega | (dsimp only; omega))) (by omega), fun b => Iff.rfl⟩, fun b => Iff.rfl⟩, ?_⟩
    exact (hB2.setCell (by first | omega | (dsimp only; omega)) _).setCell (by first | omega | (dsimp only; omega)) _
  · go_wp2
    refine bodyPost_ret (v := .agg #[.int .i64 q, .slice none 0 0]) (by simp [results, Try.results36, go_sem, r0, r1, rf]) rfl ?_
    rw [HD.out, if_neg hq]
    obtain ⟨F, hO⟩ := balss_nil ((w1.setCell ⟨w.heap.size + 1 + 1, 0, none⟩ (.int .i64 q)).setCell ⟨w.heap.size + 1 + 1, 1, none⟩ (.slice none 0 0)) w.heap.size
    refine ⟨_, F, rfl, ⟨_, F, rfl, ⟨_, F, rfl, hO, fun b => Iff.rfl⟩, fun b => Iff.rfl⟩, ?_⟩
    exact (hB1.setCell (by first | omega | (dsimp only; omega)) _).setCell (by first | omega | (dsimp only; omega)) _

end Go.Proofs.Yteebglgbeijolaa

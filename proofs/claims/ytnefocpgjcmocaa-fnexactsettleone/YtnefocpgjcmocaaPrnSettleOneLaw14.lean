import Derived.Test.YtnefocpgjcmocaaPrnSettleOneLaw13
import Derived.Test.YtnefocpgjcmocaaPrnSettleOneLaw9
import Derived.Test.YtnefocpgjcmocaaPrnSettleOneLaw6
import Derived.Test.YtnefocpgjcmocaaPrnSettleOneLaw10
import Derived.Test.YtnefocpgjcmocaaPrnSettleOneLaw2
import Derived.WideKeyEntry

/-
  The specification's SettleOne: what it answers.
-/
namespace Go.Proofs.Ytnefocpgjcmocaa
open Go.RowKit
set_option linter.unusedSectionVars false
variable [DecidableEq Bal] [Inhabited Bal] [DecidableEq Ledg] [Inhabited Ledg] [DecidableEq Leg] [Inhabited Leg] [DecidableEq Cont] [Inhabited Cont] [DecidableEq LedgR] [Inhabited LedgR]
set_option linter.unusedVariables false
set_option linter.unusedSimpArgs false
attribute [local go_sem ↓] Go.wp_at_zero Go.wp_at_succ

theorem setTo_mem (a t v : Int) (xs : List Bal) : ∀ k, k ≤ xs.length → ∀ x ∈ (setTo a t v xs k).1, x ∈ xs ∨ x = ⟨a, t, v⟩
  | 0, _, x, h => by simp [setTo] at h
  | k + 1, hk, x, h => by
    have ih := setTo_mem a t v xs k (by omega)
    have hm : xs.getD k default ∈ xs := by
      have e : xs.getD k default = xs[k] := by simp [List.getD, show k < xs.length by omega]
      rw [e]
      exact List.getElem_mem _
    rw [setTo_succ a t v xs (by omega)] at h
    unfold setStep at h
    split at h
    · exact ih x h
    · split at h
      · simp only [List.append_assoc, List.mem_append, List.mem_singleton] at h
        rcases h with h | h | h
        · exact ih x h
        · exact .inr h
        · rw [h]; exact .inl hm
      · simp only [List.mem_append, List.mem_singleton] at h
        rcases h with h | h
        · exact ih x h
        · rw [h]; exact .inl hm
theorem setB_mem {a t v : Int} {xs : List Bal} {x : Bal} (h : x ∈ setB a t v xs) : x ∈ xs ∨ x = ⟨a, t, v⟩ := by
  unfold setB at h
  split at h
  · exact setTo_mem a t v xs _ (Nat.le_refl _) x h
  · simp only [List.mem_append, List.mem_singleton] at h
    rcases h with h | h
    · exact setTo_mem a t v xs _ (Nat.le_refl _) x h
    · exact .inr h
theorem setB_le (a t v : Int) (xs : List Bal) : (setB a t v xs).length ≤ 2 * xs.length + 1 := by
  have := setTo_le a t v xs xs.length (Nat.le_refl _)
  unfold setB
  split
  · omega
  · rw [List.length_append]
    simp only [List.length_cons, List.length_nil]
    omega
theorem hasB_bound {M : Int} (hM : 0 ≤ M) {a t : Int} : ∀ {xs : List Bal}, (∀ x ∈ xs, -M ≤ x.am ∧ x.am ≤ M) → -M ≤ hasB a t xs ∧ hasB a t xs ≤ M
  | [], _ => by simp only [hasB]; omega
  | x :: xs, h => by
    have ih := hasB_bound hM (a := a) (t := t) (xs := xs) (fun y hy => h y (List.mem_cons_of_mem _ hy))
    simp only [hasB]
    split
    · exact h x (List.mem_cons_self ..)
    · exact ih
structure AddSt (k : Nat) (xs : List Bal) : Prop where
  len : xs.length + 1 ≤ 19 * 2 ^ k
  key : ∀ x ∈ xs, keyOk x.ac x.ast = true
  am : ∀ x ∈ xs, -((k + 1 : Nat) * 1000000000000 : Int) ≤ x.am ∧ x.am ≤ ((k + 1 : Nat) * 1000000000000 : Int)
theorem addTo_st {xs : List Bal} {ls : List Leg} (hx : BalsOk xs) (hl : ∀ k, k < ls.length → legFault (ls.getD k default) = 0) : ∀ k, k ≤ ls.length → AddSt k (addTo xs ls k)
  | 0, _ => by
    have e : addTo xs ls 0 = xs := by simp [addTo]
    have hm : ∀ x ∈ xs, balOk x = true := fun x h => by
      obtain ⟨i, hi, rfl⟩ := List.mem_iff_getElem.1 h
      have := hx.ok i hi
      simpa [List.getD, hi] using this
    rw [e]
    refine ⟨by have := hx.len; omega, fun x h => balOk_key (hm x h), fun x h => ?_⟩
    have := (balOk_iff.1 (hm x h)).2
    omega
  | k + 1, hk => by
    have ih := addTo_st hx hl k (by omega)
    have hz := legFault_zero (hl k (by omega))
    rw [addTo_succ xs ls (by omega)]
    generalize addTo xs ls k = ys at *
    generalize ls.getD k default = l at *
    unfold addStep
    have hb := hasB_bound (M := ((k + 1 : Nat) * 1000000000000 : Int)) (by omega) (a := l.ac) (t := l.ast) ih.am
    refine ⟨?_, fun x h => ?_, fun x h => ?_⟩
    · have h1 := setB_le l.ac l.ast (hasB l.ac l.ast ys + l.am) ys
      have h2 := ih.len
      rw [Nat.pow_succ]
      omega
    · rcases setB_mem h with h | rfl
      · exact ih.key x h
      · exact keyOk_iff.2 ⟨hz.2.1, hz.2.2.1⟩
    · rcases setB_mem h with h | rfl
      · have := ih.am x h
        omega
      · dsimp only
        have := hz.2.2.2.1
        omega
theorem onSh_sub (s : Int) (ls : List Leg) : ∀ x ∈ onSh s ls, x ∈ ls := fun x h => (List.mem_filter.1 h).1
theorem addOk_of {xs : List Bal} {ls : List Leg} (hx : BalsOk xs) (hl : ∀ x ∈ ls, legFault x = 0) (h8 : ls.length ≤ 8) : AddOk xs ls := by
  have hl' : ∀ k, k < ls.length → legFault (ls.getD k default) = 0 := fun k hk => by
    have e : ls.getD k default = ls[k] := by simp [List.getD, hk]
    rw [e]
    exact hl _ (List.getElem_mem hk)
  have hs := addTo_st hx hl'
  refine ⟨fun k hk => ?_, fun k hk j hj => ?_, fun k hk => ?_, fun k hk => ?_⟩
  · have h1 := (hs k hk).len
    have h2 : 2 ^ k ≤ 2 ^ 8 := Nat.pow_le_pow_right (by omega) (by omega)
    omega
  · have e : (addTo xs ls k).getD j default = (addTo xs ls k)[j] := by simp [List.getD, hj]
    rw [e]
    exact (hs k hk).key _ (List.getElem_mem hj)
  · have hz := legFault_zero (hl' k hk)
    exact keyOk_iff.2 ⟨hz.2.1, hz.2.2.1⟩
  · have hz := legFault_zero (hl' k hk)
    have hb := hasB_bound (M := ((k + 1 : Nat) * 1000000000000 : Int)) (by omega) (a := (ls.getD k default).ac) (t := (ls.getD k default).ast) (hs k (by omega)).am
    omega
def settleD (g : Ledg) (c : Cont) : LedgR := if canG g c = 0 then ⟨0, ⟨settleL g.shards c.legs⟩⟩ else ⟨canG g c, ⟨[]⟩⟩
theorem canG_inv {g : Ledg} {c : Cont} (h : canG g c = 0) : ledFault g = 0 ∧ contractFault c.id c.legs = 0 ∧ (∀ k, k < c.legs.length → (c.legs.getD k default).sh < g.shards.length) ∧ ∀ k, k < c.legs.length → canL (bookF g.shards) (c.legs.getD k default) = 0 := by
  unfold canG at h
  split at h
  · rename_i h0
    unfold canF at h
    split at h
    · rename_i h1
      split at h
      · rename_i h2
        refine ⟨h0, h1, fun k hk => ?_, fun k hk => scanI_zero h k hk⟩
        have := scanI_zero h2 k hk
        unfold noneL at this
        split at this
        · omega
        · omega
      · rename_i h2
        exact absurd h h2
    · rename_i h1
      exact absurd h h1
  · rename_i h0
    exact absurd h h0
theorem settle_addOk {g : Ledg} {c : Cont} (h : ledFault g = 0) (hc : contractFault c.id c.legs = 0) : ∀ i, i < g.shards.length → AddOk (g.shards.getD i default) (onSh i c.legs) := fun i hi => by
  obtain ⟨_, _, h8, hok, _⟩ := cf_inv hc
  have hl : ∀ x ∈ c.legs, legFault x = 0 := fun x hx => by
    obtain ⟨j, hj, rfl⟩ := List.mem_iff_getElem.1 hx
    have := (hok j hj).1
    simpa [List.getD, hj] using this
  exact addOk_of ((ledOk_of h).2.2 i hi) (fun x hx => hl x (onSh_sub _ _ x hx)) (Nat.le_trans (List.length_filter_le _ _) h8)
theorem balss_nil (w : World) (base : Nat) : ∃ F, balssR.O w base F (.slice none 0 0) [] :=
  ⟨_, [], fun _ => .slice none 0 0, fun _ _ => False, ⟨World.ownsRow_nil _ _ _ _, fun i h => absurd h (Nat.not_lt_zero _), fun i h => absurd h (Nat.not_lt_zero _), fun i h => absurd h (Nat.not_lt_zero _), fun i h => absurd h (Nat.not_lt_zero _), fun i j h => absurd h (Nat.not_lt_zero _)⟩, fun b => Iff.rfl⟩
set_option maxRecDepth 20000 in
set_option maxHeartbeats 4000000 in
theorem specSettle_u (x y : Value) (g : Ledg) (c : Cont) (w : World) (hx : ledgR.V w x g) (hy : contR.V w y c) :
    Calls Try.prog 6 #[x, y] w fun e w' => ∃ v F, e = .returned v ∧ ledgRR.O w' w.heap.size F v (settleD g c) ∧ Below w.heap.size w w' := by
  have hX := hx
  have hY := hy
  obtain ⟨ag, cg, rfl⟩ := ledg_form hx
  obtain ⟨ac, cc, rfl⟩ := cont_form hy
  have HX : Hid (∀ W, Below w.heap.size w W → ledgR.V W (.agg #[.slice ag g.shards.length cg]) g) := fun W hW => ledgR.below hX hW
  have HY : Hid (∀ W, Below w.heap.size w W → contR.V W (.agg #[.int .i64 c.id, .slice ac c.legs.length cc]) c) := fun W hW => contR.below hY hW
  have HS : Hid (canG g c = 0 → ∀ W, Below w.heap.size w W → Calls Try.prog 20 #[.agg #[.slice ag g.shards.length cg], .agg #[.int .i64 c.id, .slice ac c.legs.length cc]] W fun e w' => ∃ v F, e = .returned v ∧ ledgR.O w' W.heap.size F v ⟨settleL g.shards c.legs⟩ ∧ Below W.heap.size W w') := fun h W hW => by
    obtain ⟨h1, h2, _⟩ := canG_inv h
    obtain ⟨_, _, h8, _⟩ := cf_inv h2
    exact l2Settle_any _ _ g c W (HX.out W hW) (HY.out W hW) (settle_addOk h1 h2) (by have := (ledOk_of h1).2.1; omega) (by omega)
  have HC : Hid (∀ W, Below w.heap.size w W → Calls Try.prog 19 #[.agg #[.slice ag g.shards.length cg], .agg #[.int .i64 c.id, .slice ac c.legs.length cc]] W fun e w' => e = .returned (.int .i64 (canG g c)) ∧ Below W.heap.size W w') := fun W hW => specCan_any _ _ g c W (HX.out W hW) (HY.out W hW)
  have HD : Hid (settleD g c = if canG g c = 0 then ⟨0, ⟨settleL g.shards c.legs⟩⟩ else ⟨canG g c, ⟨[]⟩⟩) := rfl
  clear hx hy hX hY
  generalize g.shards.length = n at *
  generalize c.legs.length = m at *
  generalize c.id = id at *
  generalize canG g c = q at *
  go_enter Try.func6, Try.ntmps6
  go_wp2_with fail
  refine (HC.out _ (by (repeat (first | exact Below.refl _ _ | assumption | refine Below.drew ?_ | refine balloc ?_ _ | refine bset ?_ (by simp; omega) _ | refine bset ?_ (by simp) _ | refine bstep ?_ (by assumption))))).mono ?_
  rintro e w1 ⟨rfl, hb1⟩
  have g0 : w1.cell? ⟨w.heap.size, 0, none⟩ = some (.slice ag n cg) := cell_keep hb1 (by simp [go_sem])
  have y0 : w1.cell? ⟨w.heap.size + 1, 0, none⟩ = some (.int .i64 id) := cell_keep hb1 (by simp [go_sem])
  have y1 : w1.cell? ⟨w.heap.size + 1, 1, none⟩ = some (.slice ac m cc) := cell_keep hb1 (by simp [go_sem])
  have r0 : w1.cell? ⟨w.heap.size + 1 + 1, 0, none⟩ = some (.int .i64 0) := cell_keep hb1 (by simp [go_sem])
  have r1 : w1.cell? ⟨w.heap.size + 1 + 1, 1, none⟩ = some (.slice none 0 0) := cell_keep hb1 (by simp [go_sem])
  have rf : ∀ o, w1.frozen? ⟨w.heap.size + 1 + 1, o, none⟩ = false := fun o => by rw [(bcell hb1).2 _ _ (by simp)]; simp [go_sem]
  have hB1 : Below w.heap.size w w1 := by (repeat (first | exact Below.refl _ _ | assumption | refine Below.drew ?_ | refine balloc ?_ _ | refine bset ?_ (by simp; omega) _ | refine bset ?_ (by simp) _ | refine bstep ?_ (by assumption)))
  have z1 := hb1.size
  simp only [World.size_alloc] at z1
  clear hb1
  by_cases hq : q = 0
  · subst hq
    go_wp2_with fail
    refine (HS.out (by first | rfl | trivial) _ hB1).mono ?_
    rintro e w2 ⟨v2, F2, rfl, o2, hb2⟩
    obtain ⟨u2, F3, rfl, o3, hF⟩ := o2
    obtain ⟨a2, c2, rfl⟩ := balss_form (balssR.ofO o3)
    replace r0 := cell_keep hb2 r0
    replace r1 := cell_keep hb2 r1
    replace rf : ∀ o, w2.frozen? ⟨w.heap.size + 1 + 1, o, none⟩ = false := fun o => by rw [(bcell hb2).2 _ _ (by first | omega | (dsimp only; omega))]; exact rf o
    have hB2 : Below w.heap.size w w2 := bstep hB1 hb2
    have z2 := hb2.size
    have HO3 : Hid (balssR.O w2 w1.heap.size F3 (.slice a2 (settleL g.shards c.legs).length c2) (settleL g.shards c.legs)) := o3
    clear hb2 o3 g0 y0 y1 hB1
    dsimp only
    generalize hLL : (settleL g.shards c.legs).length = L at *
    clear hLL
    go_wp2
    refine bodyPost_ret (v := .agg #[.int .i64 0, .slice a2 L c2]) (by simp [results, Try.results6, go_sem, r0, r1, rf]) rfl ?_
    rw [HD.out, if_pos (by trivial)]
    refine ⟨_, F3, rfl, ⟨_, F3, rfl, ⟨_, F3, rfl, balssR.base (balssR.set (balssR.set HO3.out _ (by first | omega | (dsimp only; omega))) _ (by first | omega | (dsimp only; omega))) (by omega), fun b => Iff.rfl⟩, fun b => Iff.rfl⟩, ?_⟩
    exact (hB2.setCell (by first | omega | (dsimp only; omega)) _).setCell (by first | omega | (dsimp only; omega)) _
  · go_wp2
    refine bodyPost_ret (v := .agg #[.int .i64 q, .slice none 0 0]) (by simp [results, Try.results6, go_sem, r0, r1, rf]) rfl ?_
    rw [HD.out, if_neg hq]
    obtain ⟨F, hO⟩ := balss_nil ((w1.setCell ⟨w.heap.size + 1 + 1, 0, none⟩ (.int .i64 q)).setCell ⟨w.heap.size + 1 + 1, 1, none⟩ (.slice none 0 0)) w.heap.size
    refine ⟨_, F, rfl, ⟨_, F, rfl, ⟨_, F, rfl, hO, fun b => Iff.rfl⟩, fun b => Iff.rfl⟩, ?_⟩
    exact (hB1.setCell (by first | omega | (dsimp only; omega)) _).setCell (by first | omega | (dsimp only; omega)) _
end Go.Proofs.Ytnefocpgjcmocaa

/-
  Balances in order: what a leg does to them, in mathematics.
-/
namespace Go.Proofs.Ytnefocpgjcmocaa
open Go.RowKit
set_option linter.unusedSectionVars false
variable [DecidableEq Bal] [Inhabited Bal] [DecidableEq Ledg] [Inhabited Ledg] [DecidableEq Leg] [Inhabited Leg] [DecidableEq Cont] [Inhabited Cont] [DecidableEq LedgR] [Inhabited LedgR]
set_option linter.unusedVariables false
set_option linter.unusedSimpArgs false

def plB (x : Bal) : Int := x.ac * 3 + x.ast
structure RiseB (xs : List Bal) : Prop where
  rise : xs.Pairwise (fun p q => plB p < plB q)
  key : ∀ x ∈ xs, keyOk x.ac x.ast = true
theorem plB_inj {x y : Bal} (hx : keyOk x.ac x.ast = true) (hy : keyOk y.ac y.ast = true) (h : plB x = plB y) : x.ac = y.ac ∧ x.ast = y.ast := by
  have h1 := keyOk_iff.1 hx
  have h2 := keyOk_iff.1 hy
  unfold plB at h
  omega
theorem RiseB.tail {x : Bal} {xs : List Bal} (h : RiseB (x :: xs)) : RiseB xs := ⟨(List.pairwise_cons.1 h.rise).2, fun y hy => h.key y (List.mem_cons_of_mem _ hy)⟩
theorem getB_mem {a t : Int} : ∀ {xs : List Bal} {v : Int}, getB a t xs = some v → ∃ x ∈ xs, x.ac = a ∧ x.ast = t ∧ x.am = v
  | [], _, h => by simp [getB] at h
  | x :: xs, v, h => by
    simp only [getB] at h
    split at h
    · rename_i hc
      exact ⟨x, List.mem_cons_self .., hc.1, hc.2, by simpa using h⟩
    · obtain ⟨y, hy, e⟩ := getB_mem h
      exact ⟨y, List.mem_cons_of_mem _ hy, e⟩
theorem getB_not {a t : Int} {xs : List Bal} (h : ∀ x ∈ xs, ¬ (x.ac = a ∧ x.ast = t)) : getB a t xs = none := by
  cases hg : getB a t xs with
  | none => rfl
  | some v =>
    obtain ⟨x, hx, e1, e2, _⟩ := getB_mem hg
    exact absurd ⟨e1, e2⟩ (h x hx)
theorem getB_head (x : Bal) (xs : List Bal) : getB x.ac x.ast (x :: xs) = some x.am := by
  simp only [getB]
  rw [if_pos ⟨trivial, trivial⟩]
theorem getB_tail {x : Bal} {xs : List Bal} {a t : Int} (h : ¬ (x.ac = a ∧ x.ast = t)) : getB a t (x :: xs) = getB a t xs := by
  simp only [getB]
  rw [if_neg h]
theorem rise_head_none {x : Bal} {xs : List Bal} (h : RiseB (x :: xs)) : getB x.ac x.ast xs = none := getB_not (fun y hy e => by
  have := (List.pairwise_cons.1 h.rise).1 y hy
  unfold plB at this
  omega)
theorem rise_ext : ∀ {xs ys : List Bal}, RiseB xs → RiseB ys → (∀ a t, getB a t xs = getB a t ys) → xs = ys
  | [], [], _, _, _ => rfl
  | [], y :: ys, _, _, h => by
    have := h y.ac y.ast
    rw [getB_head] at this
    simp [getB] at this
  | x :: xs, [], _, _, h => by
    have := h x.ac x.ast
    rw [getB_head] at this
    simp [getB] at this
  | x :: xs, y :: ys, hx, hy, h => by
    have hxk := hx.key x (List.mem_cons_self ..)
    have hyk := hy.key y (List.mem_cons_self ..)
    have hpl : plB x = plB y := by
      rcases Int.lt_trichotomy (plB x) (plB y) with hl | hl | hl
      · have h1 := h x.ac x.ast
        rw [getB_head] at h1
        obtain ⟨z, hz, e1, e2, _⟩ := getB_mem h1.symm
        have hzp : plB z = plB x := by unfold plB; rw [e1, e2]
        rcases List.mem_cons.1 hz with rfl | hz
        · omega
        · have := (List.pairwise_cons.1 hy.rise).1 z hz
          omega
      · exact hl
      · have h1 := h y.ac y.ast
        rw [getB_head] at h1
        obtain ⟨z, hz, e1, e2, _⟩ := getB_mem h1
        have hzp : plB z = plB y := by unfold plB; rw [e1, e2]
        rcases List.mem_cons.1 hz with rfl | hz
        · omega
        · have := (List.pairwise_cons.1 hx.rise).1 z hz
          omega
    obtain ⟨e1, e2⟩ := plB_inj hxk hyk hpl
    have hxy : x = y := by
      have h1 := h x.ac x.ast
      rw [getB_head, e1, e2, getB_head] at h1
      obtain ⟨a, t, v⟩ := x
      obtain ⟨a', t', v'⟩ := y
      simp only at e1 e2
      simp only [Option.some.injEq] at h1
      rw [e1, e2, h1]
    subst hxy
    congr 1
    refine rise_ext hx.tail hy.tail (fun a t => ?_)
    by_cases hc : x.ac = a ∧ x.ast = t
    · rw [← hc.1, ← hc.2, rise_head_none hx, rise_head_none hy]
    · have := h a t
      rw [getB_tail hc, getB_tail hc] at this
      exact this
def setR (a t v : Int) : List Bal → Bool → List Bal
  | [], d => if d then [] else [⟨a, t, v⟩]
  | b :: r, d => if b.ac = a ∧ b.ast = t then setR a t v r d else if d = false ∧ a * 3 + t < b.ac * 3 + b.ast then ⟨a, t, v⟩ :: b :: setR a t v r true else b :: setR a t v r d
theorem set_fold (a t v : Int) : ∀ (xs acc : List Bal) (d : Bool), (if (xs.foldl (setStep a t v) (acc, d)).2 then (xs.foldl (setStep a t v) (acc, d)).1 else (xs.foldl (setStep a t v) (acc, d)).1 ++ [⟨a, t, v⟩]) = acc ++ setR a t v xs d
  | [], acc, d => by
    cases d <;> simp [setR]
  | b :: r, acc, d => by
    rw [List.foldl_cons]
    unfold setR
    by_cases h1 : b.ac = a ∧ b.ast = t
    · have e : setStep a t v (acc, d) b = (acc, d) := by unfold setStep; rw [if_pos h1]
      rw [e, set_fold a t v r acc d, if_pos h1]
    · by_cases h2 : d = false ∧ a * 3 + t < b.ac * 3 + b.ast
      · have e : setStep a t v (acc, d) b = (acc ++ [⟨a, t, v⟩] ++ [b], true) := by unfold setStep; rw [if_neg h1, if_pos h2]
        rw [e, set_fold a t v r _ true, if_neg h1, if_pos h2]
        simp
      · have e : setStep a t v (acc, d) b = (acc ++ [b], d) := by unfold setStep; rw [if_neg h1, if_neg h2]
        rw [e, set_fold a t v r _ d, if_neg h1, if_neg h2]
        simp
theorem setB_R (a t v : Int) (xs : List Bal) : setB a t v xs = setR a t v xs (decide (v = 0)) := by
  have h := set_fold a t v xs [] (decide (v = 0))
  rw [List.nil_append] at h
  unfold setB setTo
  rw [List.take_length]
  exact h
theorem setR_mem {a t v : Int} : ∀ {xs : List Bal} {d : Bool} {x : Bal}, x ∈ setR a t v xs d → x ∈ xs ∨ x = ⟨a, t, v⟩
  | [], d, x, h => by
    unfold setR at h
    split at h
    · cases h
    · exact .inr (List.mem_singleton.1 h)
  | b :: r, d, x, h => by
    unfold setR at h
    split at h
    · rcases setR_mem h with h | h
      · exact .inl (List.mem_cons_of_mem _ h)
      · exact .inr h
    · split at h
      · rcases List.mem_cons.1 h with h | h
        · exact .inr h
        · rcases List.mem_cons.1 h with h | h
          · exact .inl (by rw [h]; exact List.mem_cons_self ..)
          · rcases setR_mem h with h | h
            · exact .inl (List.mem_cons_of_mem _ h)
            · exact .inr h
      · rcases List.mem_cons.1 h with h | h
        · exact .inl (by rw [h]; exact List.mem_cons_self ..)
        · rcases setR_mem h with h | h
          · exact .inl (List.mem_cons_of_mem _ h)
          · exact .inr h
theorem setR_true {a t v : Int} : ∀ (xs : List Bal), setR a t v xs true = xs.filter (fun b => !decide (b.ac = a ∧ b.ast = t))
  | [] => rfl
  | b :: r => by
    unfold setR
    by_cases h1 : b.ac = a ∧ b.ast = t
    · rw [if_pos h1, setR_true r, List.filter_cons_of_neg (by simp [h1])]
    · rw [if_neg h1, if_neg (by simp), setR_true r, List.filter_cons_of_pos (by rw [decide_eq_false h1]; rfl)]
theorem getB_filter {a t a' t' : Int} : ∀ (xs : List Bal), getB a' t' (xs.filter (fun b => !decide (b.ac = a ∧ b.ast = t))) = if a' = a ∧ t' = t then none else getB a' t' xs
  | [] => by simp [getB]
  | b :: r => by
    by_cases h1 : b.ac = a ∧ b.ast = t
    · rw [List.filter_cons_of_neg (by simp [h1]), getB_filter r]
      split
      · rfl
      · rename_i h2
        rw [getB_tail (fun h3 => h2 ⟨h3.1.symm.trans h1.1, h3.2.symm.trans h1.2⟩)]
    · rw [List.filter_cons_of_pos (by rw [decide_eq_false h1]; rfl)]
      by_cases h3 : b.ac = a' ∧ b.ast = t'
      · rw [← h3.1, ← h3.2, getB_head, getB_head, if_neg h1]
      · rw [getB_tail h3, getB_tail h3, getB_filter r]
theorem rise_filter {xs : List Bal} (h : RiseB xs) (p : Bal → Bool) : RiseB (xs.filter p) := ⟨List.Pairwise.sublist List.filter_sublist h.rise, fun x hx => h.key x (List.mem_filter.1 hx).1⟩
theorem setR_false {a t v : Int} (hk : keyOk a t = true) : ∀ {xs : List Bal}, RiseB xs → RiseB (setR a t v xs false) ∧ ∀ a' t', getB a' t' (setR a t v xs false) = if a' = a ∧ t' = t then some v else getB a' t' xs
  | [], _ => by
    unfold setR
    rw [if_neg (by simp)]
    refine ⟨⟨by simp, fun x hx => by rw [List.mem_singleton.1 hx]; exact hk⟩, fun a' t' => ?_⟩
    by_cases e : a' = a ∧ t' = t
    · rw [if_pos e, e.1, e.2]
      exact getB_head ⟨a, t, v⟩ []
    · rw [if_neg e, getB_tail (fun h => e ⟨h.1.symm, h.2.symm⟩)]
  | b :: r, h => by
    have hb := h.key b (List.mem_cons_self ..)
    have ih := setR_false (v := v) hk (xs := r) h.tail
    have hp := (List.pairwise_cons.1 h.rise).1
    unfold setR
    by_cases h1 : b.ac = a ∧ b.ast = t
    · rw [if_pos h1]
      refine ⟨ih.1, fun a' t' => ?_⟩
      rw [ih.2]
      split
      · rfl
      · rename_i h2
        rw [getB_tail (fun h3 => h2 ⟨h3.1.symm.trans h1.1, h3.2.symm.trans h1.2⟩)]
    · rw [if_neg h1]
      by_cases h2 : a * 3 + t < b.ac * 3 + b.ast
      · rw [if_pos ⟨rfl, h2⟩, setR_true r]
        have hnone : ∀ y ∈ r, ¬ (y.ac = a ∧ y.ast = t) := fun y hy e => by
          have := hp y hy
          unfold plB at this
          rw [e.1, e.2] at this
          omega
        have hf : r.filter (fun b => !decide (b.ac = a ∧ b.ast = t)) = r := List.filter_eq_self.2 (fun y hy => by rw [decide_eq_false (hnone y hy)]; rfl)
        rw [hf]
        refine ⟨⟨?_, fun x hx => ?_⟩, fun a' t' => ?_⟩
        · rw [List.pairwise_cons]
          refine ⟨fun y hy => ?_, h.rise⟩
          show a * 3 + t < plB y
          rcases List.mem_cons.1 hy with rfl | hy
          · exact h2
          · have := hp y hy
            unfold plB at this ⊢
            omega
        · rcases List.mem_cons.1 hx with rfl | hx
          · exact hk
          · exact h.key x hx
        · by_cases e : a' = a ∧ t' = t
          · rw [if_pos e, e.1, e.2]
            exact getB_head ⟨a, t, v⟩ _
          · rw [if_neg e, getB_tail (fun h => e ⟨h.1.symm, h.2.symm⟩)]
      · rw [if_neg (fun h3 => h2 h3.2)]
        have hlt : plB b < a * 3 + t := by
          have hne : plB b ≠ a * 3 + t := fun e => h1 (plB_inj (y := ⟨a, t, v⟩) hb hk e)
          unfold plB at hne ⊢
          omega
        refine ⟨⟨?_, fun x hx => ?_⟩, fun a' t' => ?_⟩
        · rw [List.pairwise_cons]
          refine ⟨fun y hy => ?_, ih.1.rise⟩
          rcases setR_mem hy with hy | rfl
          · exact hp y hy
          · exact hlt
        · rcases List.mem_cons.1 hx with rfl | hx
          · exact hb
          · exact ih.1.key x hx
        · by_cases e3 : b.ac = a' ∧ b.ast = t'
          · rw [← e3.1, ← e3.2, getB_head, getB_head, if_neg h1]
          · rw [getB_tail e3, getB_tail e3, ih.2]
theorem setB_does {a t v : Int} (hk : keyOk a t = true) {xs : List Bal} (h : RiseB xs) : RiseB (setB a t v xs) ∧ ∀ a' t', getB a' t' (setB a t v xs) = if a' = a ∧ t' = t then (if v = 0 then none else some v) else getB a' t' xs := by
  rw [setB_R]
  by_cases hv : v = 0
  · rw [decide_eq_true hv, setR_true, if_pos hv]
    exact ⟨rise_filter h _, fun a' t' => getB_filter xs⟩
  · rw [decide_eq_false hv, if_neg hv]
    exact setR_false hk h
end Go.Proofs.Ytnefocpgjcmocaa

/-
  A book's entry taken and stored; the legs of a contract added to a book.
-/
namespace Go.Proofs.Ytnefocpgjcmocaa
open Go.RowKit Go.Maps Go.WideElems Go.ChangeMaps
set_option linter.unusedSectionVars false
variable [DecidableEq Bal] [Inhabited Bal] [DecidableEq Ledg] [Inhabited Ledg] [DecidableEq Leg] [Inhabited Leg] [DecidableEq Cont] [Inhabited Cont]
open Go.WideMaps (KeyLaw)
set_option linter.unusedVariables false
set_option linter.unusedSimpArgs false
attribute [local go_sem ↓] Go.wp_at_zero Go.wp_at_succ

set_option maxRecDepth 100000 in
theorem holdK : KeyLaw Try.prog 79 := deep_law_laid laidOut (m := 2) (by omega) (of_decide_eq_true (by kernel_rfl)) (by kernel_rfl) holdWide
theorem setBlock_twice (w : World) (b : Nat) (x y : Obj) : setBlock (setBlock w b x) b y = setBlock w b y := by
  unfold setBlock
  simp
theorem setBlock_mod (w : World) (b : Nat) (x : Obj) : Mod (fun i => i = b) w (setBlock w b x) := by
  refine ⟨rfl, rfl, rfl, ?_, fun i hi hn => ?_⟩
  · simp [setBlock]
  · simp only [setBlock]
    rw [Array.getElem?_setIfInBounds, if_neg (fun e => hn e.symm)]
theorem Book.entry {w : World} {b n : Nat} {f : Int → Int → Int → Option Int} (h : Book w b n f) {s a t : Int} (hw : kwf s a t) (hn : n < maxLen) :
    ∃ v0 st w1, (Instr.mapEntry 54 (.map (some b)) (kv s a t)).run Try.prog w = .ok (.tuple #[v0, goInt st]) w1 ∧ Mod (fun i => i = b) w w1 ∧
      ∀ v, (Lit.int .i64 v).wf = true → ∃ w', (Instr.entryStore 54 (.map (some b)) (goInt st) (.int .i64 v)).run Try.prog w1 = .ok () w' ∧ Book w' b (n + 1) (upd3 f s a t (some v)) ∧ Mod (fun i => i = b) w w' := by
  have hB := h
  have hlt := h.lt
  obtain ⟨D, ⟨es, clock, hb, Ft, hs, hD⟩, h1⟩ := h
  obtain ⟨kl, hk⟩ := keyOf_kv hw
  obtain ⟨v0, st, es1, clock1, hr, _, hst⟩ := entry_then_store holdK Try.underlying54 (fun u => zero64 u) hb Ft hk
  refine ⟨v0, st, _, hr, setBlock_mod _ _ _, fun v hv => ?_⟩
  obtain ⟨es', clock', hr2, hr3⟩ := hst (setBlock w b (.map es1 clock1)) (.int .i64 v) (by simp [setBlock, hlt])
  obtain ⟨w', hp, hB', _⟩ := hB.put hw hv hn
  rw [hr3] at hp
  have e : setBlock w b (.map es' clock') = w' := by
    injection hp
  refine ⟨_, hr2, ?_, ?_⟩
  · rw [setBlock_twice, e]
    exact hB'
  · rw [setBlock_twice]
    exact setBlock_mod _ _ _
theorem entry_as {H : Type} {P : Program} {w : World} {t k e : TypeId} {R : Value → Option (DataW H × List MemPlace)} {b : Nat} {es : Array MapEntry} {clock : Nat} (K : KeyLaw P k) (ht : P.underlying t = some (.map k e)) {z : Value} (hz : ∀ u : World, (zeroValue e).run P u = .ok z u) (hb : w.heap[b]? = some (.map es clock)) (F : Go.WideElems.Fit P k R es clock)
    {key : Value} {kl : Lit} (hkey : keyOf P k key = some kl) :
    ∃ (v0 : Value) (st : Nat) (X : World), (Instr.mapEntry t (.map (some b)) key).run P w = .ok (.tuple #[v0, goInt st]) X ∧ (Instr.mapUpdate t (.map (some b)) key v0).run P w = .ok () X ∧ (Instr.lookup t (.map (some b)) key false).run P w = .ok v0 w := by
  rcases K.find w hkey es.toList F.keys with ⟨h1, h2⟩ | ⟨j, e0, h1, h2, h3⟩
  · refine ⟨z, clock, setBlock w b (.map (es.push ⟨key, z, clock⟩) (clock + 1)), ?_, ?_, ?_⟩
    · simp [Instr.mapEntry, run_underlying ht, MapKept.run_getObj_map hb, K.check w false hkey, h1, hz, MapKept.run_setObj_map _ hb, Result.andThen, setBlock]
    · simp [Instr.mapUpdate, run_underlying ht, MapKept.run_getObj_map hb, K.check w false hkey, h1, MapKept.run_setObj_map _ hb, Result.andThen, setBlock]
    · simp [Instr.lookup, run_underlying ht, MapKept.run_getObj_map hb, K.check w _ hkey, h1, hz, Result.andThen]
  · have hj : es[j]? = some e0 := by simpa using h2
    have hA : es.modify j (fun e => { e with key := key }) = es := by
      apply Array.ext'
      rw [Array.toList_modify, modify_eq_set _ _ _ _ h2]
      have q : ({ e0 with key := key } : MapEntry) = e0 := by rw [← h3]
      rw [q]
      exact set_self _ _ _ h2
    have hB : es.modify j (fun e' => { e' with key := key, val := e0.val }) = es := by
      apply Array.ext'
      rw [Array.toList_modify, modify_eq_set _ _ _ _ h2]
      have q : ({ e0 with key := key, val := e0.val } : MapEntry) = e0 := by rw [← h3]
      rw [q]
      exact set_self _ _ _ h2
    refine ⟨e0.val, e0.born, setBlock w b (.map es clock), ?_, ?_, ?_⟩
    · simp [Instr.mapEntry, run_underlying ht, MapKept.run_getObj_map hb, K.check w false hkey, h1, hj, h3, K.stays w hkey, hA, MapKept.run_setObj_map _ hb, Result.andThen, setBlock]
    · simp [Instr.mapUpdate, run_underlying ht, MapKept.run_getObj_map hb, K.check w false hkey, h1, hj, h3, K.stays w hkey, hB, MapKept.run_setObj_map _ hb, Result.andThen, setBlock]
    · simp [Instr.lookup, run_underlying ht, MapKept.run_getObj_map hb, K.check w _ hkey, h1, hj, Result.andThen]
theorem Book.entry2 {w : World} {b n : Nat} {f : Int → Int → Int → Option Int} (h : Book w b n f) {s a t : Int} (hw : kwf s a t) (hn : n < maxLen) :
    ∃ v0 st w1, (Instr.mapEntry 54 (.map (some b)) (kv s a t)).run Try.prog w = .ok (.tuple #[v0, goInt st]) w1 ∧ Mod (fun i => i = b) w w1 ∧ Book w1 b (n + 1) (upd3 f s a t (some ((f s a t).getD 0))) ∧
      ∀ v, (Lit.int .i64 v).wf = true → ∃ w', (Instr.entryStore 54 (.map (some b)) (goInt st) (.int .i64 v)).run Try.prog w1 = .ok () w' ∧ Book w' b (n + 1) (upd3 f s a t (some v)) ∧ Mod (fun i => i = b) w w' := by
  obtain ⟨v0, st, w1, h1, h2, h3⟩ := h.entry hw hn
  refine ⟨v0, st, w1, h1, h2, ?_, h3⟩
  obtain ⟨hl, hlw⟩ := h.look hw
  have hB := h
  obtain ⟨D, ⟨es, clock, hb, Ft, hs, hD⟩, _⟩ := h
  obtain ⟨kl, hk⟩ := keyOf_kv hw
  obtain ⟨u0, st', X, e1, e2, e3⟩ := entry_as holdK Try.underlying54 (fun u => zero64 u) hb Ft hk
  rw [h1] at e1
  rw [hl] at e3
  injection e1 with _ eX
  injection e3 with eV _
  obtain ⟨w', hp, hB', _⟩ := hB.put hw hlw hn
  rw [← eV] at e2
  rw [e2] at hp
  injection hp with _ eW
  rw [eX, eW]
  exact hB'
def addL (f : Int → Int → Int → Option Int) (l : Leg) : Int → Int → Int → Option Int := upd3 f l.sh l.ac l.ast (if (f l.sh l.ac l.ast).getD 0 + l.am = 0 then none else some ((f l.sh l.ac l.ast).getD 0 + l.am))
def addLs (f : Int → Int → Int → Option Int) (ls : List Leg) : Int → Int → Int → Option Int := ls.foldl addL f
theorem addLs_succ (f : Int → Int → Int → Option Int) (ls : List Leg) {k : Nat} (h : k < ls.length) : addLs f (ls.take (k + 1)) = addL (addLs f (ls.take k)) (ls.getD k default) := by
  unfold addLs
  rw [take_snoc ls k h, List.foldl_append]
  rfl
end Go.Proofs.Ytnefocpgjcmocaa

/-
  What is settled, told by the book.
-/
namespace Go.Proofs.Ytnefocpgjcmocaa
open Go.RowKit
set_option linter.unusedSectionVars false
variable [DecidableEq Bal] [Inhabited Bal] [DecidableEq Ledg] [Inhabited Ledg] [DecidableEq Leg] [Inhabited Leg] [DecidableEq Cont] [Inhabited Cont] [DecidableEq LedgR] [Inhabited LedgR]
set_option linter.unusedVariables false
set_option linter.unusedSimpArgs false

theorem rise_of {xs : List Bal} (h : BalsOk xs) : RiseB xs := by
  refine ⟨?_, fun x hx => ?_⟩
  · rw [List.pairwise_iff_getElem]
    intro i j hi hj hij
    have := rising h hij hj
    unfold plB
    simpa [List.getD, hi, hj] using this
  · obtain ⟨i, hi, rfl⟩ := List.mem_iff_getElem.1 hx
    have := balOk_key (h.ok i hi)
    simpa [List.getD, hi] using this
theorem addB_snoc (xs : List Bal) (ls : List Leg) (l : Leg) : addB xs (ls ++ [l]) = addStep (addB xs ls) l := by unfold addB; rw [List.foldl_append]; rfl
theorem addLs_snoc (f : Int → Int → Int → Option Int) (ls : List Leg) (l : Leg) : addLs f (ls ++ [l]) = addL (addLs f ls) l := by unfold addLs; rw [List.foldl_append]; rfl
theorem onSh_snoc (s : Int) (ls : List Leg) (l : Leg) : onSh s (ls ++ [l]) = if l.sh = s then onSh s ls ++ [l] else onSh s ls := by
  unfold onSh
  rw [List.filter_append]
  by_cases h : l.sh = s
  · rw [if_pos h]
    simp [h]
  · rw [if_neg h]
    simp [h]
theorem snoc_ind {α : Type} {P : List α → Prop} (h0 : P []) (h1 : ∀ l x, P l → P (l ++ [x])) (l : List α) : P l := by
  rw [← List.reverse_reverse l]
  induction l.reverse with
  | nil => exact h0
  | cons x l ih =>
    rw [List.reverse_cons]
    exact h1 _ _ ih
theorem settle_book {gs : List (List Bal)} {i : Nat} (hi : i < gs.length) (hx : RiseB (gs.getD i default)) (ls : List Leg) : (∀ l ∈ ls, keyOk l.ac l.ast = true) →
    RiseB (addB (gs.getD i default) (onSh i ls)) ∧ ∀ a t, getB a t (addB (gs.getD i default) (onSh i ls)) = addLs (bookF gs) ls i a t := by
  refine snoc_ind (P := fun ls => (∀ l ∈ ls, keyOk l.ac l.ast = true) → RiseB (addB (gs.getD i default) (onSh i ls)) ∧ ∀ a t, getB a t (addB (gs.getD i default) (onSh i ls)) = addLs (bookF gs) ls i a t) ?_ ?_ ls
  · intro _
    refine ⟨hx, fun a t => ?_⟩
    show getB a t (gs.getD i default) = bookF gs i a t
    unfold bookF
    rw [if_pos ⟨by omega, by omega⟩]
    simp
  · intro ls l ih hk
    obtain ⟨h1, h2⟩ := ih (fun x hx => hk x (List.mem_append_left _ hx))
    have hkl := hk l (List.mem_append_right _ (List.mem_singleton.2 rfl))
    rw [onSh_snoc, addLs_snoc]
    by_cases hs : l.sh = (i : Int)
    · rw [if_pos hs, addB_snoc]
      unfold addStep
      obtain ⟨r1, r2⟩ := setB_does (v := hasB l.ac l.ast (addB (gs.getD i default) (onSh i ls)) + l.am) hkl h1
      refine ⟨r1, fun a t => ?_⟩
      rw [r2, hasB_get, h2]
      unfold addL upd3
      by_cases e : a = l.ac ∧ t = l.ast
      · rw [if_pos e, if_pos (show (i : Int) = l.sh ∧ a = l.ac ∧ t = l.ast from ⟨hs.symm, e.1, e.2⟩), hs]
      · rw [if_neg e, if_neg (fun h => e h.2), h2]
    · rw [if_neg hs]
      refine ⟨h1, fun a t => ?_⟩
      rw [h2]
      unfold addL upd3
      rw [if_neg (fun h => hs h.1.symm)]
theorem book_dom {gs : List (List Bal)} (ls : List Leg) : (∀ l ∈ ls, 0 ≤ l.sh ∧ l.sh < (gs.length : Int)) → ∀ s a t : Int, ¬ (0 ≤ s ∧ s < (gs.length : Int)) → addLs (bookF gs) ls s a t = none := by
  refine snoc_ind (P := fun ls => (∀ l ∈ ls, 0 ≤ l.sh ∧ l.sh < (gs.length : Int)) → ∀ s a t : Int, ¬ (0 ≤ s ∧ s < (gs.length : Int)) → addLs (bookF gs) ls s a t = none) ?_ ?_ ls
  · intro _ s a t h
    show bookF gs s a t = none
    unfold bookF
    rw [if_neg h]
  · intro ls l ih hk s a t h
    have hl := hk l (List.mem_append_right _ (List.mem_singleton.2 rfl))
    rw [addLs_snoc]
    unfold addL upd3
    rw [if_neg (fun e => h (by rw [e.1]; exact hl))]
    exact ih (fun x hx => hk x (List.mem_append_left _ hx)) s a t h
theorem settle_unique {gs : List (List Bal)} {ls : List Leg} (hg : ∀ i, i < gs.length → RiseB (gs.getD i default)) (hk : ∀ l ∈ ls, keyOk l.ac l.ast = true) {hs : List (List Bal)} (hl : hs.length = gs.length)
    (hr : ∀ i, i < gs.length → RiseB (hs.getD i default) ∧ ∀ a t, getB a t (hs.getD i default) = addLs (bookF gs) ls i a t) : hs = settleL gs ls := by
  apply List.ext_getElem?
  intro i
  by_cases hi : i < gs.length
  · have e1 : hs[i]? = some (hs.getD i default) := by simp [List.getD, show i < hs.length by omega]
    have e2 : (settleL gs ls)[i]? = some ((settleL gs ls).getD i default) := by simp [List.getD, show i < (settleL gs ls).length by rw [settleL_len]; exact hi]
    rw [e1, e2, settleL_get gs ls hi]
    congr 1
    obtain ⟨r1, r2⟩ := settle_book hi (hg i hi) ls hk
    exact rise_ext (hr i hi).1 r1 (fun a t => by rw [(hr i hi).2, ← r2]; rfl)
  · rw [List.getElem?_eq_none (by omega), List.getElem?_eq_none (by rw [settleL_len]; omega)]
end Go.Proofs.Ytnefocpgjcmocaa


import Derived.Test.YtgjpafalompecaaPrnSettlesLaw8
import Derived.RegionTactic
import Derived.ChangeAlike
import Derived.BigRegion
import Derived.Test.YtgjpafalompecaaPrnSettlesLaw1

/-
  The program's ContractFault answers as the plain mathematics says.
-/
namespace Go.Proofs.Ytgjpafalompecaa
open Go.RowKit
set_option linter.unusedSectionVars false
variable [DecidableEq Leg] [Inhabited Leg]
attribute [local go_sem ↓] Go.wp_at_zero Go.wp_at_succ

theorem eqGuardLeg : Try.prog.eqGuardType Try.prog.depth 40 = false := by kernel_rfl
theorem eqlPlace (o l : Leg) (w : World) : (binOp .eql 40 (.agg #[.int .i64 o.sh, .int .i64 o.ac, .int .i64 o.ast, .int .i64 0]) (.agg #[.int .i64 l.sh, .int .i64 l.ac, .int .i64 l.ast, .int .i64 0])).run Try.prog w = .ok (.bool (samePlace o l)) w := by
  rw [run_eql_struct, run_equalIn_struct w 9999 40 _ _ (by kernel_rfl) (by kernel_rfl)]
  have hf : (Try.prog.fieldsOf 40).toList = [{ name := "Shard", type := 2, offset := 0, embedded := false, tag := "", pkgPath := "", byteOffset := 0 }, { name := "Account", type := 2, offset := 1, embedded := false, tag := "", pkgPath := "", byteOffset := 8 }, { name := "Asset", type := 2, offset := 2, embedded := false, tag := "", pkgPath := "", byteOffset := 16 }, { name := "Amount", type := 2, offset := 3, embedded := false, tag := "", pkgPath := "", byteOffset := 24 }] := by kernel_rfl
  rw [hf]
  simp [Op.eqFields, go_sem, samePlace]
  by_cases e1 : o.sh = l.sh <;> by_cases e2 : o.ac = l.ac <;> by_cases e3 : o.ast = l.ast <;> simp [e1, e2, e3]
set_option maxHeartbeats 1000000 in
theorem hasPlaceOf_any (x : Value) (xs : List Leg) (l : Leg) (w : World) (hx : LegsV w x xs) :
    Calls Try.prog 54 #[x, legV l] w fun e w' => e = .returned (.bool (hasPlace xs l)) ∧ Below w.heap.size w w' := by
  obtain ⟨ax, cx, rfl, hcx, hmx, hx⟩ := hx
  unfold maxLen at hmx
  generalize hn' : xs.length = n at *
  have HN : Hid (xs.length = n) := hn'
  clear hn'
  unfold legV
  go_enter Try.func54, Try.ntmps54
  go_wp2
  go_loopw [9] (fun i w' => ∃ k : Nat, k ≤ n ∧ i = .int .i64 k ∧ hasPlace (xs.take k) l = false ∧ legCells w' w.heap.size 0 l ∧ w.heap.size < w'.heap.size ∧ Below w.heap.size w w') (fun i _ => n - (intOf i).toNat)
  case atStart => exact ⟨0, Nat.zero_le _, rfl, by simp [hasPlace], ⟨by simp [go_sem], by simp [go_sem], by simp [go_sem], by simp [go_sem]⟩, by simp, balloc (Below.refl _ _) _⟩
  case round =>
    obtain ⟨k, hk, rfl, hp, hl, hz, hbl⟩ := hrel
    have HP : Hid (hasPlace (xs.take k) l = false) := hp
    clear hp
    by_cases hlt : k < n
    · obtain ⟨bx, ox, rfl, g1⟩ := hx k hlt
      obtain ⟨o, ho⟩ : ∃ o, o = xs.getD k default := ⟨_, rfl⟩
      rw [← ho] at g1
      have HO : Hid (o = xs.getD k default) := ho
      clear ho hx
      obtain ⟨a1, a2, a3, a4⟩ := legCells_below hbl g1
      have h1 : legCells (wr.alloc (.cells #[.int .i64 o.sh, .int .i64 o.ac, .int .i64 o.ast, .int .i64 o.am] 40)) wr.heap.size 0 o := ⟨by simp [go_sem], by simp [go_sem], by simp [go_sem], by simp [go_sem]⟩
      have h2 := legCells_below (balloc (Below.refl _ wr) (.cells #[.int .i64 o.sh, .int .i64 o.ac, .int .i64 o.ast, .int .i64 o.am] 40)) hl
      go_wp2
      generalize hW : wr.alloc (.cells #[.int .i64 o.sh, .int .i64 o.ac, .int .i64 o.ast, .int .i64 o.am] 40) = W at *
      have HW : Hid (wr.alloc (.cells #[.int .i64 o.sh, .int .i64 o.ac, .int .i64 o.ast, .int .i64 o.am] 40) = W) := hW
      clear hW
      have heq := eqlPlace o l
      have hgd := eqGuardLeg
      go_region_held3 (fun w' => Below W.heap.size W w' ∧ (w'.cell? ⟨wr.heap.size, 0, none⟩ = some (.int .i64 o.sh) ∧ w'.cell? ⟨wr.heap.size, 1, none⟩ = some (.int .i64 o.ac) ∧ w'.cell? ⟨wr.heap.size, 2, none⟩ = some (.int .i64 o.ast) ∧ w'.cell? ⟨wr.heap.size, 3, none⟩ = some (.int .i64 o.am)) ∧ (w'.cell? ⟨w.heap.size, 0, none⟩ = some (.int .i64 l.sh) ∧ w'.cell? ⟨w.heap.size, 1, none⟩ = some (.int .i64 l.ac) ∧ w'.cell? ⟨w.heap.size, 2, none⟩ = some (.int .i64 l.ast) ∧ w'.cell? ⟨w.heap.size, 3, none⟩ = some (.int .i64 l.am))) ((refine keep2 ?_ h1 h2; repeat (first | exact Below.refl _ _ | assumption | refine Below.drew ?_ | refine balloc ?_ _ | refine bstep ?_ (by assumption)))) (first | (go_at_call_of 74 (o.sh); refine (placeOf_any o _).mono ?_; rintro e w' ⟨rfl, hb1⟩; simp only [legV]) | (go_at_call_of 74 (l.sh); refine (placeOf_any l _).mono ?_; rintro e w' ⟨rfl, hb2⟩; simp only [legV]))
      all_goals
        rename_i hH
        have hB := hH.1
        clear hH heq hgd
        have hBw : Below w.heap.size w w' := by
          have e := HW.out
          subst e
          exact bstep (balloc hbl _) hB
        go_wp2
        · rename_i hs
          go_ret
          refine ⟨?_, hBw⟩
          have : hasPlace xs l = true := by
            have h := hasPlace_mono (xs := xs) (k := k + 1) (m := xs.length) (l := l) (by have := HN.out; omega) (by rw [hasPlace_snoc xs k (by have := HN.out; omega), ← HO.out, hs]; simp)
            rwa [List.take_length] at h
          rw [this]
          rfl
        · rename_i hs
          refine ⟨⟨k + 1, by omega, by go_num, ?_, legCells_below hB h2, by have := World.block_lt_of_cell? _ _ (legCells_below hB h2).1; simpa using this, hBw⟩, by simp [intOf]; omega⟩
          rw [hasPlace_snoc xs k (by have := HN.out; omega), ← HO.out, HP.out]
          simpa using hs
    · go_wp2
      go_ret
      have hkn : k = n := by omega
      subst hkn
      have t0 : xs.take k = xs := by rw [← HN.out]; exact List.take_length
      have := HP.out
      rw [t0] at this
      exact ⟨by rw [this]; rfl, hbl⟩
def givenA (a : Int) : List Leg → Int
  | [] => 0
  | l :: r => (if l.ast = a ∧ 0 < l.am then l.am else 0) + givenA a r
def takenA (a : Int) : List Leg → Int
  | [] => 0
  | l :: r => (if l.ast = a ∧ ¬ 0 < l.am then l.am else 0) + takenA a r
theorem given_taken (a : Int) (xs : List Leg) : givenA a xs + takenA a xs = sumA a xs := by
  induction xs with
  | nil => simp [givenA, takenA, sumA]
  | cons l r ih =>
    simp only [givenA, takenA, sumA]
    by_cases h1 : l.ast = a <;> by_cases h2 : 0 < l.am <;> simp [h1, h2] <;> omega
theorem givenA_append (a : Int) (l r : List Leg) : givenA a (l ++ r) = givenA a l + givenA a r := by
  induction l with
  | nil => simp [givenA]
  | cons x l ih => simp only [List.cons_append, givenA, ih]; omega
theorem takenA_append (a : Int) (l r : List Leg) : takenA a (l ++ r) = takenA a l + takenA a r := by
  induction l with
  | nil => simp [takenA]
  | cons x l ih => simp only [List.cons_append, takenA, ih]; omega
theorem givenA_snoc (a : Int) (xs : List Leg) (k : Nat) (h : k < xs.length) : givenA a (xs.take (k + 1)) = givenA a (xs.take k) + if (xs.getD k default).ast = a ∧ 0 < (xs.getD k default).am then (xs.getD k default).am else 0 := by
  rw [take_snoc xs k h, givenA_append]; simp [givenA]
theorem takenA_snoc (a : Int) (xs : List Leg) (k : Nat) (h : k < xs.length) : takenA a (xs.take (k + 1)) = takenA a (xs.take k) + if (xs.getD k default).ast = a ∧ ¬ 0 < (xs.getD k default).am then (xs.getD k default).am else 0 := by
  rw [take_snoc xs k h, takenA_append]; simp [takenA]
def small (xs : List Leg) : Prop := ∀ j, j < xs.length → -1000000000000 ≤ (xs.getD j default).am ∧ (xs.getD j default).am ≤ 1000000000000
theorem small_of_ok {xs : List Leg} (h : okTo xs xs.length) : small xs := fun j hj => (legFault_zero (h j hj).1).2.2.2.1
theorem givenA_bound (a : Int) (xs : List Leg) (hs : small xs) : ∀ k, k ≤ xs.length → 0 ≤ givenA a (xs.take k) ∧ givenA a (xs.take k) ≤ k * 1000000000000
  | 0, _ => by simp [givenA]
  | k + 1, hk => by
    have ih := givenA_bound a xs hs k (by omega)
    have hb := hs k (by omega)
    rw [givenA_snoc a xs k (by omega)]
    split <;> omega
theorem takenA_bound (a : Int) (xs : List Leg) (hs : small xs) : ∀ k, k ≤ xs.length → -(k * 1000000000000 : Int) ≤ takenA a (xs.take k) ∧ takenA a (xs.take k) ≤ 0
  | 0, _ => by simp [takenA]
  | k + 1, hk => by
    have ih := takenA_bound a xs hs k (by omega)
    have hb := hs k (by omega)
    rw [takenA_snoc a xs k (by omega)]
    split <;> omega
set_option maxHeartbeats 1000000 in
theorem sumsOf_any (x : Value) (xs : List Leg) (asset : Int) (w : World) (hx : LegsV w x xs) (hn8 : xs.length ≤ 8) (hs : small xs) :
    Calls Try.prog 75 #[x, .int .i64 asset] w fun e w' => e = .returned (.agg #[.int .i64 (givenA asset xs), .int .i64 (takenA asset xs)]) ∧ Below w.heap.size w w' := by
  obtain ⟨ax, cx, rfl, hcx, hmx, hx⟩ := hx
  unfold maxLen at hmx
  have HS : Hid (small xs) := hs
  clear hs
  generalize hn' : xs.length = n at *
  have HN : Hid (xs.length = n) := hn'
  clear hn'
  go_enter Try.func75, Try.ntmps75
  go_wp2
  go_loopw [10] (fun i w' => ∃ k : Nat, k ≤ n ∧ i = .int .i64 k ∧ w'.cell? ⟨w.heap.size + 1, 0, none⟩ = some (.int .i64 (givenA asset (xs.take k))) ∧ w'.cell? ⟨w.heap.size + 1, 1, none⟩ = some (.int .i64 (takenA asset (xs.take k))) ∧
      (∀ o, w'.frozen? ⟨w.heap.size + 1, o, none⟩ = false) ∧ (∀ o, w'.frozen? ⟨w.heap.size, o, none⟩ = false) ∧ w'.cell? ⟨w.heap.size, 0, none⟩ = some (.int .i64 0) ∧ w'.cell? ⟨w.heap.size, 1, none⟩ = some (.int .i64 0) ∧ w.heap.size + 1 < w'.heap.size ∧ Below w.heap.size w w') (fun i _ => n - (intOf i).toNat)
  case atStart => exact ⟨0, Nat.zero_le _, rfl, by simp [go_sem, givenA], by simp [go_sem, takenA], by simp [go_sem], by simp [go_sem], by simp [go_sem], by simp [go_sem], by simp, balloc (balloc (Below.refl _ _) _) _⟩
  case round =>
    obtain ⟨k, hk, rfl, hg, ht, hf1, hf0, hr0, hr1, hz, hbl⟩ := hrel
    by_cases hlt : k < n
    · obtain ⟨bx, ox, rfl, g1⟩ := hx k hlt
      obtain ⟨l, hl⟩ : ∃ l, l = xs.getD k default := ⟨_, rfl⟩
      rw [← hl] at g1
      have HL : Hid (l = xs.getD k default) := hl
      clear hl hx
      obtain ⟨a1, a2, a3, a4⟩ := legCells_below hbl g1
      have gb := givenA_bound asset xs HS.out k (by have := HN.out; omega)
      have tb := takenA_bound asset xs HS.out k (by have := HN.out; omega)
      have sb := HS.out k (by have := HN.out; omega)
      rw [← HL.out] at sb
      obtain ⟨g, hge⟩ : ∃ g, g = givenA asset (xs.take k) := ⟨_, rfl⟩
      obtain ⟨t, hte⟩ : ∃ t, t = takenA asset (xs.take k) := ⟨_, rfl⟩
      rw [← hge] at hg gb
      rw [← hte] at ht tb
      have HG : Hid (g = givenA asset (xs.take k)) := hge
      have HT : Hid (t = takenA asset (xs.take k)) := hte
      clear hge hte
      obtain ⟨sb1, sb2⟩ := sb
      have gb1 : 0 ≤ g := gb.1
      have gb2 : g ≤ 8000000000000 := by omega
      have tb1 : -8000000000000 ≤ t := by omega
      have tb2 : t ≤ 0 := tb.2
      clear gb tb
      have hkx : k < xs.length := by have := HN.out; omega
      have eg : givenA asset (xs.take (k + 1)) = g + if l.ast = asset ∧ 0 < l.am then l.am else 0 := by rw [givenA_snoc asset xs k hkx, ← HL.out, HG.out]
      have et : takenA asset (xs.take (k + 1)) = t + if l.ast = asset ∧ ¬ 0 < l.am then l.am else 0 := by rw [takenA_snoc asset xs k hkx, ← HL.out, HT.out]
      have HEG : Hid (givenA asset (xs.take (k + 1)) = g + if l.ast = asset ∧ 0 < l.am then l.am else 0) := eg
      have HET : Hid (takenA asset (xs.take (k + 1)) = t + if l.ast = asset ∧ ¬ 0 < l.am then l.am else 0) := et
      clear eg et
      have hz0 : w.heap.size < wr.heap.size := by omega
      go_wp2
      · rename_i h1
        have h1' : ¬ l.ast = asset := by simpa using h1
        have e1 := HEG.out
        have e2 := HET.out
        rw [if_neg (fun h => h1' h.1), Int.add_zero] at e1 e2
        refine ⟨⟨k + 1, by omega, by go_num, ?_, ?_, ?_, ?_, ?_, ?_, ?_, balloc hbl _⟩, by simp [intOf]; omega⟩
        · rw [e1]; simp [go_sem, hz, hg]
        · rw [e2]; simp [go_sem, hz, ht]
        · simp [go_sem, hz, hf1]
        · simp [go_sem, hz0, hf0]
        · simp [go_sem, hz0, hr0]
        · simp [go_sem, hz0, hr1]
        · simp; omega
      · rename_i h1 h2
        have h1' : l.ast = asset := by simpa using h1
        have e1 := HEG.out
        have e2 := HET.out
        rw [if_pos ⟨h1', h2⟩] at e1
        rw [if_neg (fun h => h.2 h2), Int.add_zero] at e2
        refine ⟨⟨k + 1, by omega, by go_num, ?_, ?_, ?_, ?_, ?_, ?_, ?_, balloc (bset hbl (by simp) _) _⟩, by simp [intOf]; omega⟩
        · rw [e1, World.cell?_alloc_past _ _ _ (by simp; omega)]; exact set_same hg
        · rw [e2, World.cell?_alloc_past _ _ _ (by simp; omega), set_other (by simp)]; exact ht
        · simp [go_sem, hz, hf1]
        · simp [go_sem, hz0, hf0]
        · rw [World.cell?_alloc_past _ _ _ (by simp; omega), set_other (by simp)]; exact hr0
        · rw [World.cell?_alloc_past _ _ _ (by simp; omega), set_other (by simp)]; exact hr1
        · simp; omega
      · rename_i h1 h2
        have h1' : l.ast = asset := by simpa using h1
        have e1 := HEG.out
        have e2 := HET.out
        rw [if_neg (fun h => by omega), Int.add_zero] at e1
        rw [if_pos ⟨h1', by omega⟩] at e2
        refine ⟨⟨k + 1, by omega, by go_num, ?_, ?_, ?_, ?_, ?_, ?_, ?_, balloc (bset hbl (by simp) _) _⟩, by simp [intOf]; omega⟩
        · rw [e1, World.cell?_alloc_past _ _ _ (by simp; omega), set_other (by simp)]; exact hg
        · rw [e2, World.cell?_alloc_past _ _ _ (by simp; omega)]; exact set_same ht
        · simp [go_sem, hz, hf1]
        · simp [go_sem, hz0, hf0]
        · rw [World.cell?_alloc_past _ _ _ (by simp; omega), set_other (by simp)]; exact hr0
        · rw [World.cell?_alloc_past _ _ _ (by simp; omega), set_other (by simp)]; exact hr1
        · simp; omega
    · have hkn : k = n := by omega
      subst hkn
      have t0 : xs.take k = xs := by rw [← HN.out]; exact List.take_length
      rw [t0] at hg ht
      go_wp2
      refine bodyPost_ret (v := .agg #[.int .i64 (givenA asset xs), .int .i64 (takenA asset xs)]) ?_ rfl ⟨rfl, bset (bset hbl (by simp) _) (by simp) _⟩
      simp [results, Try.results75, go_sem, hr0, hr1]
def sumsF (xs : List Leg) : Int := if sumA 0 xs = 0 ∧ sumA 1 xs = 0 ∧ sumA 2 xs = 0 then 0 else 1
set_option maxHeartbeats 1000000 in
theorem sumsFault_any (x : Value) (xs : List Leg) (w : World) (hx : LegsV w x xs) (hn8 : xs.length ≤ 8) (hs : small xs) :
    Calls Try.prog 55 #[x] w fun e w' => e = .returned (.int .i64 (sumsF xs)) ∧ Below w.heap.size w w' := by
  have HS : Hid (small xs) := hs
  clear hs
  go_enter Try.func55, Try.ntmps55
  go_wp2
  go_loopw [3] (fun i w' => ∃ m : Nat, m ≤ 3 ∧ i = .int .i64 m ∧ (∀ j : Nat, j < m → sumA j xs = 0) ∧ Below w.heap.size w w') (fun i _ => 3 - (intOf i).toNat)
  case atStart => exact ⟨0, by omega, rfl, fun j h => by omega, Below.refl _ _⟩
  case round =>
    obtain ⟨m, hm, rfl, hp, hbl⟩ := hrel
    have HP : Hid (∀ j : Nat, j < m → sumA j xs = 0) := hp
    clear hp
    by_cases hm3 : m < 3
    · have hm3' : (m : Int) < 3 := by omega
      have gb := givenA_bound m xs HS.out xs.length (Nat.le_refl _)
      have tb := takenA_bound m xs HS.out xs.length (Nat.le_refl _)
      have gt := given_taken m xs
      rw [List.take_length] at gb tb
      go_wp2_with fail
      refine (sumsOf_any x xs m _ (LegsV_below hx hbl) hn8 HS.out).mono ?_
      rintro e w1 ⟨rfl, hb1⟩
      obtain ⟨g, hge⟩ : ∃ g, g = givenA m xs := ⟨_, rfl⟩
      obtain ⟨t, hte⟩ : ∃ t, t = takenA m xs := ⟨_, rfl⟩
      obtain ⟨s, hse⟩ : ∃ s, s = sumA m xs := ⟨_, rfl⟩
      rw [← hge, ← hte, ← hse] at gt
      rw [← hge] at gb
      rw [← hte] at tb
      rw [← hge, ← hte]
      have HSS : Hid (s = sumA m xs) := hse
      have HGT : Hid (g + t = s) := gt
      clear hge hte hse gt
      have gb1 : 0 ≤ g := gb.1
      have gb2 : g ≤ 8000000000000 := by omega
      have tb1 : -8000000000000 ≤ t := by omega
      have tb2 : t ≤ 0 := tb.2
      clear gb tb
      by_cases hs0 : g + t = 0
      · have hd : (g + t == 0) = true := by simpa using hs0
        have HD : Hid (g + t = 0) := hs0
        clear hs0
        go_wp2
        refine ⟨⟨m + 1, by omega, by go_num, fun j hj => ?_, balloc (bstep hbl hb1) _⟩, by simp [intOf]; omega⟩
        by_cases hjm : j < m
        · exact HP.out j hjm
        · have : j = m := by omega
          subst this
          rw [← HSS.out, ← HGT.out, HD.out]
      · have hd : (g + t == 0) = false := by simpa using hs0
        have HD : Hid (¬ g + t = 0) := hs0
        clear hs0
        go_wp2
        go_ret
        refine ⟨?_, balloc (bstep hbl hb1) _⟩
        rw [sumsF, if_neg]
        · rfl
        · intro ⟨z0, z1, z2⟩
          apply HD.out
          rw [HGT.out, HSS.out]
          match m, hm3 with
          | 0, _ => exact z0
          | 1, _ => exact z1
          | 2, _ => exact z2
    · have hm3' : m = 3 := by omega
      subst hm3'
      go_wp2
      go_ret
      rw [sumsF, if_pos ⟨HP.out 0 (by omega), HP.out 1 (by omega), HP.out 2 (by omega)⟩]
      exact ⟨rfl, hbl⟩
end Go.Proofs.Ytgjpafalompecaa

/-
  The program's ContractFault answers as the plain mathematics says (its loop over the legs).
-/
namespace Go.Proofs.Ytgjpafalompecaa
open Go.RowKit
set_option linter.unusedSectionVars false
variable [DecidableEq Leg] [Inhabited Leg]
attribute [local go_sem ↓] Go.wp_at_zero Go.wp_at_succ

set_option maxHeartbeats 1000000 in
theorem implFault_early (id : Int) (x : Value) (xs : List Leg) (w : World) (hx : LegsV w x xs) (h : inB id 1 1000000000 = false ∨ xs.length < 2 ∨ 8 < xs.length) :
    Calls Try.prog 30 #[.agg #[.int .i64 id, x]] w fun e w' => e = .returned (.int .i64 (contractFault id xs)) ∧ Below w.heap.size w w' := by
  obtain ⟨ax, cx, rfl, hcx, hmx, hx⟩ := hx
  unfold maxLen at hmx
  clear hx
  by_cases hid : inB id 1 1000000000 = false
  · go_enter Try.func30, Try.ntmps30
    go_wp2_with (go_at_call 31; refine (isId_any _ _).mono ?_; rintro e w' ⟨rfl, rfl⟩)
    go_ret
    exact ⟨by simp [contractFault, hid], balloc (Below.refl _ _) _⟩
  · have hid' : inB id 1 1000000000 = true := by simpa using hid
    have hn : xs.length < 2 ∨ 8 < xs.length := by
      rcases h with h | h
      · exact absurd h hid
      · exact h
    have hcf : contractFault id xs = 2 := by simp [contractFault, hid', hn]
    rw [hcf]
    generalize xs.length = n at *
    clear hid h hcf
    rcases hn with hn | hn
    · have h1 : (n : Int) < 2 := by omega
      go_enter Try.func30, Try.ntmps30
      go_wp2_with (go_at_call 31; refine (isId_any _ _).mono ?_; rintro e w' ⟨rfl, rfl⟩)
      go_ret
      exact ⟨rfl, balloc (Below.refl _ _) _⟩
    · have h1 : ¬ (n : Int) < 2 := by omega
      have h2 : (8 : Int) < (n : Int) := by omega
      go_enter Try.func30, Try.ntmps30
      go_wp2_with (go_at_call 31; refine (isId_any _ _).mono ?_; rintro e w' ⟨rfl, rfl⟩)
      go_ret
      exact ⟨rfl, balloc (Below.refl _ _) _⟩
theorem getD_takeL (xs : List Leg) (k i : Nat) (h : i < k) : (xs.take k).getD i default = xs.getD i default := by
  simp [List.getD, h]
theorem LegsV_take {w : World} {a : Option Addr} {cap n k : Nat} {xs : List Leg} (hn : xs.length = n) (hk : k ≤ n) (h1 : n ≤ cap) (h2 : cap ≤ maxLen) (h : ∀ i, i < n → ∃ b o, a = some ⟨b, o, none⟩ ∧ legCells w b (o + i * 4) (xs.getD i default)) :
    LegsV w (.slice a k cap) (xs.take k) := by
  have hl : (xs.take k).length = k := by rw [List.length_take]; omega
  refine ⟨a, cap, by rw [hl], by omega, h2, fun i hi => ?_⟩
  rw [hl] at hi
  obtain ⟨b, o, ha, hc⟩ := h i (by omega)
  exact ⟨b, o, ha, by rw [getD_takeL xs k i hi]; exact hc⟩
set_option maxHeartbeats 2000000 in
theorem implFault_late (id : Int) (x : Value) (xs : List Leg) (w : World) (hx : LegsV w x xs) (hid : inB id 1 1000000000 = true) (hn2 : 2 ≤ xs.length) (hn8 : xs.length ≤ 8) :
    Calls Try.prog 30 #[.agg #[.int .i64 id, x]] w fun e w' => e = .returned (.int .i64 (contractFault id xs)) ∧ Below w.heap.size w w' := by
  have hx0 := hx
  obtain ⟨ax, cx, rfl, hcx, hmx, hx⟩ := hx
  have HX0 : Hid (LegsV w (.slice ax xs.length cx) xs) := hx0
  clear hx0
  have HMX : Hid (cx ≤ maxLen) := hmx
  unfold maxLen at hmx
  generalize hn' : xs.length = n at *
  have HN : Hid (xs.length = n) := hn'
  clear hn'
  have h1 : ¬ (n : Int) < 2 := by omega
  have h2 : ¬ (8 : Int) < (n : Int) := by omega
  go_enter Try.func30, Try.ntmps30
  go_wp2_with (go_at_call 31; refine (isId_any _ _).mono ?_; rintro e w' ⟨rfl, rfl⟩)
  go_loopw [23] (fun i w' => ∃ k : Nat, k ≤ n ∧ i = .int .i64 k ∧ okTo xs k ∧ w'.cell? ⟨w.heap.size, 1, none⟩ = some (.slice ax n cx) ∧ w.heap.size < w'.heap.size ∧ Below w.heap.size w w') (fun i _ => n - (intOf i).toNat)
  case atStart => exact ⟨0, Nat.zero_le _, rfl, fun j h => by omega, by simp [go_sem], by simp, balloc (Below.refl _ _) _⟩
  case round =>
    obtain ⟨k, hk, rfl, hok, hcx1, hsz, hbl⟩ := hrel
    generalize wr = wo at *
    have HO : Hid (okTo xs k) := hok
    clear hok
    by_cases hlt : k < n
    · obtain ⟨bx, ox, rfl, g1⟩ := hx k hlt
      have HX : Hid (∀ i, i < n → ∃ b o, some (⟨bx, ox, none⟩ : Addr) = some ⟨b, o, none⟩ ∧ legCells w b (o + i * 4) (xs.getD i default)) := hx
      clear hx
      obtain ⟨l, hl⟩ : ∃ l, l = xs.getD k default := ⟨_, rfl⟩
      rw [← hl] at g1
      have HL : Hid (l = xs.getD k default) := hl
      clear hl
      obtain ⟨a1, a2, a3, a4⟩ := legCells_below hbl g1
      go_wp2_with fail
      refine (implLegFault_any l _).mono ?_
      rintro e w2 ⟨rfl, hb2⟩
      obtain ⟨hc2, hf2⟩ := bcell hb2
      have hbl2 : Below w.heap.size w w2 := bstep (balloc hbl _) hb2
      have hz2 : wo.heap.size < w2.heap.size := by have := hb2.size; simp at this; omega
      have hcx2 : w2.cell? ⟨w.heap.size, 1, none⟩ = some (.slice (some ⟨bx, ox, none⟩) n cx) := by
        rw [hc2 _ _ (by simp; omega)]; simp [go_sem, hcx1, show w.heap.size < wo.heap.size by omega]
      have hl2 : legCells w2 wo.heap.size 0 l := by
        refine ⟨?_, ?_, ?_, ?_⟩ <;> (rw [hc2 _ _ (by simp)]; simp [go_sem])
      clear hc2 hf2 hb2 a1 a2 a3 a4 hcx1 hbl
      by_cases hlf : legFault l = 0
      · have HF : Hid (legFault l = 0) := hlf
        rw [hlf]
        clear hlf
        have hkb : (k : Int) ≤ (cx : Int) := by omega
        have hk0 : (0 : Int) ≤ (k : Int) := by omega
        go_wp2
        go_region_held3 (fun w' => Below w2.heap.size w2 w' ∧ w'.cell? ⟨w.heap.size, 1, none⟩ = some (.slice (some ⟨bx, ox, none⟩) n cx) ∧ w'.cell? ⟨wo.heap.size, 0, none⟩ = some (.int .i64 l.sh) ∧ w'.cell? ⟨wo.heap.size, 1, none⟩ = some (.int .i64 l.ac) ∧ w'.cell? ⟨wo.heap.size, 2, none⟩ = some (.int .i64 l.ast) ∧ w'.cell? ⟨wo.heap.size, 3, none⟩ = some (.int .i64 l.am))
          ((refine (fun hb => ⟨hb, (hb.cell (p := ⟨w.heap.size, 1, none⟩) (by exact Nat.lt_trans hsz hz2)).trans hcx2, legCells_below hb hl2⟩ : Below w2.heap.size w2 _ → _) ?_; repeat (first | exact Below.refl _ _ | assumption | refine Below.drew ?_ | refine bstep ?_ (by assumption))))
          (first | (go_at_call 54; refine (hasPlaceOf_any _ (xs.take k) l _ ?_).mono ?_; exact LegsV_take HN.out hk hcx HMX.out (fun i hi => (HX.out i hi).imp fun b h => h.imp fun o h => ⟨h.1, legCells_below (bstep hbl2 (Below.refl _ _).drew) h.2⟩); rintro e w' ⟨rfl, hb3⟩))
        rename_i hH
        have hB := hH.1
        have hc1' := hH.2.1
        clear hH
        have hBw : Below w.heap.size w w' := bstep hbl2 hB
        go_wp2
        · rename_i hs
          go_ret
          refine ⟨?_, hBw⟩
          have := HN.out
          rw [cf_taken hid (by omega) (by omega) (k := k) (by omega) HO.out (by rw [← HL.out]; exact HF.out) (by rw [← HL.out]; exact hs)]
          rfl
        · rename_i hs
          refine ⟨⟨k + 1, by omega, by go_num, okTo_succ HO.out (by rw [← HL.out]; exact HF.out) (by rw [← HL.out]; simpa using hs), hc1', by have := hB.size; omega, hBw⟩, by simp [intOf]; omega⟩
      · have hd : (legFault l == 0) = false := by simpa using hlf
        go_wp2
        go_ret
        refine ⟨?_, hbl2⟩
        have := HN.out
        rw [cf_bad hid (by omega) (by omega) (k := k) (by omega) HO.out (by rw [← HL.out]; exact hlf), ← HL.out]
        rfl
    · have hkn : k = n := by omega
      subst hkn
      have HO' : Hid (okTo xs xs.length) := by rw [HN.out]; exact HO.out
      go_wp2_with fail
      refine (sumsFault_any _ xs _ (LegsV_below HX0.out hbl) (by have := HN.out; omega) (small_of_ok HO'.out)).mono ?_
      rintro e w1 ⟨rfl, hb1⟩
      go_wp2
      go_ret
      refine ⟨?_, bstep hbl hb1⟩
      have := HN.out
      have e : contractFault id xs = sumsF xs := by
        rw [cf_val hid (by omega) (by omega), scan_ok HO'.out, if_pos rfl, sumsF]
      rw [e]
      rfl
theorem implFault_any (id : Int) (x : Value) (xs : List Leg) (w : World) (hx : LegsV w x xs) :
    Calls Try.prog 30 #[.agg #[.int .i64 id, x]] w fun e w' => e = .returned (.int .i64 (contractFault id xs)) ∧ Below w.heap.size w w' := by
  by_cases h : inB id 1 1000000000 = false ∨ xs.length < 2 ∨ 8 < xs.length
  · exact implFault_early id x xs w hx h
  · have h1 : inB id 1 1000000000 = true := by
      cases hb : inB id 1 1000000000 with
      | true => rfl
      | false => exact absurd (Or.inl hb) h
    exact implFault_late id x xs w hx h1 (by omega) (by omega)
end Go.Proofs.Ytgjpafalompecaa

/-
  SumOf on both sides, and how its answers are compared.
-/
namespace Go.Proofs.Ytgjpafalompecaa
open Go.RowKit
set_option linter.unusedSectionVars false
variable [DecidableEq Leg] [Inhabited Leg]
attribute [local go_sem ↓] Go.wp_at_zero Go.wp_at_succ

theorem ok_of_scan {xs : List Leg} (h : scan [] xs = 0) : ∀ k, k ≤ xs.length → okTo xs k
  | 0, _ => fun j hj => by omega
  | k + 1, hk => by
    have ih := ok_of_scan h k (by omega)
    by_cases h0 : legFault (xs.getD k default) = 0
    · cases h1 : hasPlace (xs.take k) (xs.getD k default) with
      | false => exact okTo_succ ih h0 h1
      | true => have := scan_taken (by omega) ih h0 h1; omega
    · have := scan_bad (by omega) ih h0; omega
theorem cf_inv {id : Int} {xs : List Leg} (h : contractFault id xs = 0) : inB id 1 1000000000 = true ∧ 2 ≤ xs.length ∧ xs.length ≤ 8 ∧ okTo xs xs.length ∧ sumA 0 xs = 0 ∧ sumA 1 xs = 0 ∧ sumA 2 xs = 0 := by
  unfold contractFault at h
  split at h
  · rename_i h1
    split at h
    · omega
    · split at h
      · rename_i h3
        split at h
        · rename_i h4
          exact ⟨h1, by omega, by omega, ok_of_scan h3 _ (Nat.le_refl _), h4⟩
        · omega
      · omega
  · omega
end Go.Proofs.Ytgjpafalompecaa

/-
  Rows of impl.Leg: the uniform forms. (Written by program: nest.py.)
-/
namespace Go.Proofs.Ytgjpafalompecaa
open Go.RowKit
set_option linter.unusedSectionVars false
variable [DecidableEq Leg] [Inhabited Leg]
attribute [local go_sem ↓] Go.wp_at_zero Go.wp_at_succ

def legsR : Rep (List Leg) := fRep 40 4 legsC LegsV LegsV_below LegsV_of_owns
theorem legs_form {w : World} {v : Value} {xs : List Leg} (h : legsR.V w v xs) : ∃ a c, v = .slice a xs.length c := by
  obtain ⟨a, c, rfl, _⟩ := h
  exact ⟨_, _, rfl⟩
end Go.Proofs.Ytgjpafalompecaa


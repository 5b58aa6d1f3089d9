import Derived.Test.YteebglgbeijolaaPrnContractsLaw9
import Derived.Test.YteebglgbeijolaaPrnContractsLaw10
import Derived.Test.YteebglgbeijolaaPrnContractsLaw6
import Derived.Test.YteebglgbeijolaaPrnContractsLaw1
import Derived.Test.YteebglgbeijolaaPrnContractsLaw2
import Derived.PlainAid
import Derived.Laws.BitsAllLaws
import Derived.Deep.RegionHeld3
import Derived.Deep.DrawnRows
import Derived.Lib.ConvBytes
import Derived.Test.YteebglgbeijolaaPrnContractsLaw3
import Derived.Deep.QuietTactic
import Derived.Laws.BytesArg

/-
  A contract turned round: in mathematics.
-/
namespace Go.Proofs.Yteebglgbeijolaa
open Go.RowKit
set_option linter.unusedSectionVars false
variable [DecidableEq Leg] [Inhabited Leg]
set_option linter.unusedVariables false
set_option linter.unusedSimpArgs false

theorem turn_turn (xs : List Leg) : turn (turn xs) = xs := by
  unfold turn
  rw [List.map_map]
  have e : turnL ∘ turnL = id := by
    funext l
    obtain ⟨a, b, c, d⟩ := l
    simp [turnL]
  rw [e, List.map_id]
theorem legFault_turn (l : Leg) (h : legFault l = 0) : legFault (turnL l) = 0 := by
  have hz := legFault_zero h
  unfold legFault at h ⊢
  have hp : placeB (turnL l) = placeB l := rfl
  rw [hp]
  split at h
  · rename_i h1
    rw [Bool.and_eq_true] at h1
    have h2 : inB (turnL l).am (-1000000000000) 1000000000000 = true := (inB_iff _ _ _).2 (by simp only [turnL]; omega)
    rw [if_pos (by rw [h1.1, h2]; rfl), if_neg (by simp only [turnL]; omega)]
  · omega
theorem hasPlace_turn (xs : List Leg) (l : Leg) : hasPlace (turn xs) (turnL l) = hasPlace xs l := by
  unfold hasPlace turn
  rw [List.any_map]
  rfl
theorem sumA_turn (a : Int) : ∀ xs : List Leg, sumA a (turn xs) = - sumA a xs
  | [] => rfl
  | x :: xs => by
    have ih := sumA_turn a xs
    show sumA a (turnL x :: turn xs) = _
    simp only [sumA, ih, turnL]
    split <;> omega
theorem givenA_turn (a : Int) : ∀ xs : List Leg, givenA a (turn xs) = - takenA a xs
  | [] => by simp [turn, givenA, takenA]
  | x :: xs => by
    have ih := givenA_turn a xs
    have e0 : givenA a (turn (x :: xs)) = (if (turnL x).ast = a ∧ 0 < (turnL x).am then (turnL x).am else 0) + givenA a (turn xs) := rfl
    have e3 : takenA a (x :: xs) = (if x.ast = a ∧ ¬ 0 < x.am then x.am else 0) + takenA a xs := rfl
    have e1 : (turnL x).ast = x.ast := rfl
    have e2 : (turnL x).am = -x.am := rfl
    rw [e0, ih, e3]
    by_cases h1 : x.ast = a
    · by_cases h2 : 0 < x.am
      · rw [if_neg (fun h => by have := h.2; rw [e2] at this; omega), if_neg (fun h => h.2 h2)]
        omega
      · by_cases h3 : x.am = 0
        · rw [if_neg (fun h => by have := h.2; rw [e2] at this; omega), if_pos ⟨h1, h2⟩]
          omega
        · rw [if_pos ⟨h1, by rw [e2]; omega⟩, if_pos ⟨h1, h2⟩, e2]
          omega
    · rw [if_neg (fun h => h1 h.1), if_neg (fun h => h1 h.1)]
      omega
theorem okTo_turn {xs : List Leg} (h : okTo xs xs.length) : okTo (turn xs) (turn xs).length := fun j hj => by
  rw [turn_len] at hj
  obtain ⟨h1, h2⟩ := h j hj
  rw [turn_getD xs j hj]
  refine ⟨legFault_turn _ h1, ?_⟩
  have e : (turn xs).take j = turn (xs.take j) := by unfold turn; rw [List.map_take]
  rw [e, hasPlace_turn]
  exact h2
theorem turn_fault {id nid : Int} {xs : List Leg} (h : contractFault id xs = 0) (hn : inB nid 1 1000000000 = true) : contractFault nid (turn xs) = 0 := by
  obtain ⟨_, h2, h8, hok, s0, s1, s2⟩ := cf_inv h
  refine cf_zero hn (by rw [turn_len]; exact h2) (by rw [turn_len]; exact h8) (okTo_turn hok) ⟨?_, ?_, ?_⟩
  · rw [sumA_turn, s0]; rfl
  · rw [sumA_turn, s1]; rfl
  · rw [sumA_turn, s2]; rfl
theorem turn_sum {id nid : Int} {xs : List Leg} (h : contractFault id xs = 0) (hn : inB nid 1 1000000000 = true) {a : Int} (ha : 0 ≤ a) (hb : a ≤ 2) : sumVal id xs a = sumVal nid (turn xs) a ∧ sumCode id xs a = 0 ∧ sumCode nid (turn xs) a = 0 := by
  have hf := turn_fault h hn
  have hi : inB a 0 2 = true := (inB_iff _ _ _).2 ⟨ha, hb⟩
  unfold sumVal sumCode
  rw [if_pos ⟨h, hi⟩, if_pos ⟨hf, hi⟩, if_pos h, if_pos hf, if_pos hi]
  refine ⟨?_, rfl, rfl⟩
  obtain ⟨_, _, _, _, s0, s1, s2⟩ := cf_inv h
  have e := given_taken a xs
  have z : sumA a xs = 0 := by
    have : a = 0 ∨ a = 1 ∨ a = 2 := by omega
    rcases this with rfl | rfl | rfl
    · exact s0
    · exact s1
    · exact s2
  rw [givenA_turn]
  omega
theorem onSh_cons (s : Int) (x : Leg) (xs : List Leg) : (onSh s (x :: xs)).length = (if x.sh = s then 1 else 0) + (onSh s xs).length := by
  unfold onSh
  by_cases h : x.sh = s
  · rw [List.filter_cons_of_pos (by simpa using h), if_pos h, List.length_cons]
    omega
  · rw [List.filter_cons_of_neg (by simpa using h), if_neg h]
    omega
theorem onSh_all : ∀ {xs : List Leg}, (∀ x ∈ xs, 0 ≤ x.sh ∧ x.sh ≤ 2) → (onSh 0 xs).length + (onSh 1 xs).length + (onSh 2 xs).length = xs.length
  | [], _ => rfl
  | x :: xs, h => by
    have ih := onSh_all (xs := xs) (fun y hy => h y (List.mem_cons_of_mem _ hy))
    obtain ⟨h0, h2⟩ := h x (List.mem_cons_self ..)
    rw [onSh_cons, onSh_cons, onSh_cons, List.length_cons]
    have : x.sh = 0 ∨ x.sh = 1 ∨ x.sh = 2 := by omega
    rcases this with e | e | e <;> rw [e] <;> simp <;> omega
def legsTo (xs : List Leg) (ss : List Int) (k : Nat) : Nat := ((ss.take k).map (fun s => (onSh s xs).length)).sum
theorem legsTo_succ (xs : List Leg) (ss : List Int) (k : Nat) (hk : k < ss.length) : legsTo xs ss (k + 1) = legsTo xs ss k + (onSh (ss.getD k 0) xs).length := by
  unfold legsTo
  have e : ss.take (k + 1) = ss.take k ++ [ss.getD k 0] := by
    rw [List.take_add_one]
    simp [List.getD, hk]
  rw [e]
  simp
theorem legsTo_mono (xs : List Leg) (ss : List Int) : ∀ (d k : Nat), k + d ≤ ss.length → legsTo xs ss k ≤ legsTo xs ss (k + d)
  | 0, _, _ => Nat.le_refl _
  | d + 1, k, h => by
    have h1 := legsTo_mono xs ss d k (by omega)
    have h2 := legsTo_succ xs ss (k + d) (by omega)
    rw [show k + (d + 1) = k + d + 1 by omega]
    omega
theorem shards_mem {xs : List Leg} {s : Int} (h : s ∈ shardsL xs) : hasS xs s = true ∧ 0 ≤ s ∧ s ≤ 2 := by
  unfold shardsL sl at h
  simp only [List.mem_append] at h
  rcases h with (h | h) | h
  · split at h
    · rename_i hc
      rw [List.mem_singleton.1 h]
      exact ⟨hc, by omega, by omega⟩
    · cases h
  · split at h
    · rename_i hc
      rw [List.mem_singleton.1 h]
      exact ⟨hc, by omega, by omega⟩
    · cases h
  · split at h
    · rename_i hc
      rw [List.mem_singleton.1 h]
      exact ⟨hc, by omega, by omega⟩
    · cases h
theorem legsTo_all {id : Int} {xs : List Leg} (h : contractFault id xs = 0) : legsTo xs (shardsL xs) (shardsL xs).length = xs.length := by
  obtain ⟨_, _, _, hok, _⟩ := cf_inv h
  have hb : ∀ x ∈ xs, 0 ≤ x.sh ∧ x.sh ≤ 2 := fun x hx => by
    obtain ⟨j, hj, rfl⟩ := List.mem_iff_getElem.1 hx
    have := sh_bound hok j hj
    simpa [List.getD, hj] using this
  rw [← onSh_all hb]
  unfold legsTo
  rw [List.take_length]
  have hz : ∀ s, hasS xs s = false → (onSh s xs).length = 0 := fun s hs => by
    have := (onSh_pos xs s)
    by_cases h0 : 0 < (onSh s xs).length
    · rw [this.1 h0] at hs; cases hs
    · omega
  unfold shardsL sl
  generalize e0 : (onSh 0 xs).length = n0
  generalize e1 : (onSh 1 xs).length = n1
  generalize e2 : (onSh 2 xs).length = n2
  cases h0 : hasS xs 0 <;> cases h1 : hasS xs 1 <;> cases h2 : hasS xs 2
  all_goals
    first | (have q0 := hz 0 h0) | skip
    first | (have q1 := hz 1 h1) | skip
    first | (have q2 := hz 2 h2) | skip
    simp [e0, e1, e2] at *
    try omega
end Go.Proofs.Yteebglgbeijolaa

/-
  SameContract on both sides.
-/
namespace Go.Proofs.Yteebglgbeijolaa
open Go.RowKit
set_option linter.unusedSectionVars false
variable [DecidableEq Leg] [Inhabited Leg]
attribute [local go_sem ↓] Go.wp_at_zero Go.wp_at_succ

theorem eqGuardLeg2 : Try.prog.eqGuardType Try.prog.depth 97 = false := by kernel_rfl
theorem neqLeg (o l : Leg) (w : World) : (binOp .neq 97 (.agg #[.int .i64 o.sh, .int .i64 o.ac, .int .i64 o.ast, .int .i64 o.am]) (.agg #[.int .i64 l.sh, .int .i64 l.ac, .int .i64 l.ast, .int .i64 l.am])).run Try.prog w = .ok (.bool (!decide (o = l))) w := by
  rw [run_neq_struct, run_equalIn_struct w 9999 97 _ _ (by kernel_rfl) (by kernel_rfl)]
  have hf : (Try.prog.fieldsOf 97).toList = [{ name := "Shard", type := 2, offset := 0, embedded := false, tag := "", pkgPath := "", byteOffset := 0 }, { name := "Account", type := 2, offset := 1, embedded := false, tag := "", pkgPath := "", byteOffset := 8 }, { name := "Asset", type := 2, offset := 2, embedded := false, tag := "", pkgPath := "", byteOffset := 16 }, { name := "Amount", type := 2, offset := 3, embedded := false, tag := "", pkgPath := "", byteOffset := 24 }] := by kernel_rfl
  rw [hf]
  obtain ⟨a, b, c, d⟩ := o
  obtain ⟨a', b', c', d'⟩ := l
  simp [Op.eqFields, go_sem]
  by_cases e1 : a = a' <;> by_cases e2 : b = b' <;> by_cases e3 : c = c' <;> by_cases e4 : d = d' <;> simp [e1, e2, e3, e4]
set_option maxHeartbeats 1000000 in
theorem slicesEqual_any (x y : Value) (xs ys : List Leg) (w : World) (hx : LegsV w x xs) (hy : LegsV w y ys) :
    Calls Try.prog 60 #[x, y] w fun e w' => e = .returned (.bool (decide (xs = ys))) ∧ Below w.heap.size w w' := by
  obtain ⟨ax, cx, rfl, hcx, hmx, hx⟩ := hx
  obtain ⟨ay, cy, rfl, hcy, hmy, hy⟩ := hy
  unfold maxLen at hmx hmy
  by_cases hl : ys.length = xs.length
  · rw [hl] at hcy hy ⊢
    have HL : Hid (ys.length = xs.length) := hl
    clear hl
    generalize hn : xs.length = n at *
    have HN : Hid (xs.length = n) := hn
    clear hn
    go_enter Try.func60, Try.ntmps60
    go_wp2
    go_loopw [13] (fun i w' => ∃ k : Nat, k ≤ n ∧ i = .int .i64 k ∧ (∀ j, j < k → xs.getD j default = ys.getD j default) ∧ Below w.heap.size w w') (fun i _ => n - (intOf i).toNat)
    case atStart => exact ⟨0, Nat.zero_le _, rfl, fun j h => absurd h (Nat.not_lt_zero _), Below.refl _ _⟩
    case round =>
      obtain ⟨k, hk, rfl, hpre, hbl⟩ := hrel
      have HP : Hid (∀ j, j < k → xs.getD j default = ys.getD j default) := hpre
      clear hpre
      by_cases hlt : k < n
      · obtain ⟨bx, ox, rfl, h1⟩ := hx k hlt
        obtain ⟨b2, oy, rfl, h2⟩ := hy k hlt
        obtain ⟨l1, hl1⟩ : ∃ l, l = xs.getD k default := ⟨_, rfl⟩
        obtain ⟨l2, hl2⟩ : ∃ l, l = ys.getD k default := ⟨_, rfl⟩
        rw [← hl1] at h1
        rw [← hl2] at h2
        have H1 : Hid (l1 = xs.getD k default) := hl1
        have H2 : Hid (l2 = ys.getD k default) := hl2
        clear hl1 hl2 hx hy
        have heq := neqLeg l1 l2
        have hgd := eqGuardLeg2
        go_wp2
        go_region_held3 (fun w' => Below w.heap.size w w' ∧ (w'.cell? ⟨bx, ox + k * 4, none⟩ = some (.int .i64 l1.sh) ∧ w'.cell? ⟨bx, ox + k * 4 + 1, none⟩ = some (.int .i64 l1.ac) ∧ w'.cell? ⟨bx, ox + k * 4 + 2, none⟩ = some (.int .i64 l1.ast) ∧ w'.cell? ⟨bx, ox + k * 4 + 3, none⟩ = some (.int .i64 l1.am)) ∧ (w'.cell? ⟨b2, oy + k * 4, none⟩ = some (.int .i64 l2.sh) ∧ w'.cell? ⟨b2, oy + k * 4 + 1, none⟩ = some (.int .i64 l2.ac) ∧ w'.cell? ⟨b2, oy + k * 4 + 2, none⟩ = some (.int .i64 l2.ast) ∧ w'.cell? ⟨b2, oy + k * 4 + 3, none⟩ = some (.int .i64 l2.am))) ((refine keep2 ?_ h1 h2; repeat (first | exact Below.refl _ _ | assumption | refine Below.drew ?_ | refine balloc ?_ _ | refine bstep ?_ (by assumption)))) (fail)
        rename_i hH
        have hB := hH.1
        clear hH heq hgd
        go_wp2
        · rename_i hle
          go_ret
          refine ⟨?_, hB⟩
          have : ¬ xs = ys := fun h => by
            have : l1 = l2 := by rw [H1.out, H2.out, h]
            simp [this] at hle
          simp [this]
        · rename_i hle
          refine ⟨⟨k + 1, by omega, by go_num, fun j hj => ?_, hB⟩, by simp [intOf]; omega⟩
          by_cases hjk : j < k
          · exact HP.out j hjk
          · have : j = k := by omega
            subst this
            rw [← H1.out, ← H2.out]
            simpa using hle
      · go_wp2
        go_ret
        have : k = n := by omega
        subst this
        refine ⟨?_, hbl⟩
        have : xs = ys := list_eq_of (by rw [HL.out, HN.out]) (by rw [HN.out]; exact HP.out)
        simp [this]
  · go_enter Try.func60, Try.ntmps60
    have hl' : ((xs.length : Int) == (ys.length : Int)) = false := by simp; omega
    go_wp2
    go_ret
    have : ¬ xs = ys := fun h => hl (by rw [h])
    exact ⟨by simp [this], Below.refl _ _⟩
set_option maxHeartbeats 400000 in
theorem implSame_any (id id' : Int) (x y : Value) (xs ys : List Leg) (w : World) (hx : LegsV w x xs) (hy : LegsV w y ys) :
    Calls Try.prog 16 #[.agg #[.int .i64 id, x], .agg #[.int .i64 id', y]] w fun e w' => e = .returned (.bool (decide (id = id' ∧ xs = ys))) ∧ Below w.heap.size w w' := by
  by_cases hid : id = id'
  · have hd : (id == id') = true := by simp [hid]
    have HI : Hid (id = id') := hid
    clear hid
    go_enter Try.func16, Try.ntmps16
    go_wp2_with fail
    refine (slicesEqual_any x y xs ys _ (LegsV_below hx (balloc (balloc (Below.refl _ _) _) _)) (LegsV_below hy (balloc (balloc (Below.refl _ _) _) _))).mono ?_
    rintro e w1 ⟨rfl, hb⟩
    go_wp2
    go_ret
    exact ⟨by simp [HI.out], bstep (balloc (balloc (Below.refl _ _) _) _) hb⟩
  · have hd : (id == id') = false := by simp [hid]
    go_enter Try.func16, Try.ntmps16
    go_wp2
    go_ret
    exact ⟨by simp [hid], balloc (balloc (Below.refl _ _) _) _⟩
end Go.Proofs.Yteebglgbeijolaa

/-
  Bytes as text; one row of a row of rows; whether the code is too long.
-/
namespace Go.Proofs.Yteebglgbeijolaa
open Go.RowKit
set_option linter.unusedSectionVars false
variable [DecidableEq BytesR] [Inhabited BytesR] [DecidableEq RecsR] [Inhabited RecsR]
set_option linter.unusedSimpArgs false
attribute [local go_sem ↓] Go.wp_at_zero Go.wp_at_succ

set_option maxHeartbeats 400000 in
theorem lwBig_any (x : Value) (xs : List Byte) (w : World) (hx : bytesR.V w x xs) :
    Calls Try.prog 8 #[x] w fun e w' => e = .returned (.bool (decide (1048576 < xs.length))) ∧ w' = w := by
  obtain ⟨a, c, rfl, h1, h2, _⟩ := hx
  unfold maxLen at h2
  generalize xs.length = n at *
  go_enter Try.func8, Try.ntmps8
  by_cases h : 1048576 < n
  · have h' : (1048576 : Int) < (n : Int) := by omega
    go_wp2
    go_ret
    exact ⟨by simp [h], rfl⟩
  · have h' : ¬ (1048576 : Int) < (n : Int) := by omega
    go_wp2
    go_ret
    exact ⟨by simp [h], rfl⟩
end Go.Proofs.Yteebglgbeijolaa

/-
  A region that draws its order, none of whose operations breaks what is asked of the world.
-/
namespace Go.Proofs.Yteebglgbeijolaa
open Go.RowKit

section
variable {P : Program} {ops : Array Oper} {Q : Exit → Act → World → Prop} {md : Region.Mode} {S : World → Prop} {t : Nat}

theorem upto_firstN {i : Nat} {oi : Oper} {v : Value} (hi : ops[i]? = some oi) (hsel : Region.noSelect ops = true) (ht : ops[t]? = none)
    (hQ : ∀ c a w, Q (.panic c) (a.put oi.dst v) w → Q (.panic c) a w) :
    ∀ (f : Nat) (listed : Array Bool) (a : Act) (w : World),
      (∀ j oj, ops[j]? = some oj → j ≠ i → listed.getD j true = false → (∀ e ∈ oj.after, Region.binds md e = true → e.on ≠ i) → oi.apart ops oj = true) →
      i ∈ Region.ready md ops listed → YieldsIf P ops S oi v a → S w →
      wpUpto P md ops Q S t f (listed.setIfInBounds i true) (a.put oi.dst v) w → wpUpto P md ops Q S t (f + 1) listed a w := by
  intro f
  induction f with
  | zero =>
    intro listed a w _ hr hy hS H
    refine ⟨fun h => (by rw [h] at hr; cases hr), fun j hj => ?_⟩
    by_cases hji : j = i
    · subst hji
      exact hy.wpOp hi hS ⟨fun _ => hS, H⟩
    · have hm := ready_mono hj hji
      rw [H.1] at hm
      cases hm
  | succ f ih =>
    intro listed a w hfree hr hy hS H
    refine ⟨fun h => (by rw [h] at hr; cases hr), fun j hj => ?_⟩
    by_cases hji : j = i
    · subst hji
      exact hy.wpOp hi hS ⟨fun _ => hS, H⟩
    · obtain ⟨hjun, oj, hoj, hall⟩ := mem_ready.1 hj
      have hun := (mem_ready.1 hr).1
      have hnl : ¬ listed.getD i false = true := by
        intro h1
        rcases Nat.lt_or_ge i listed.size with h' | h'
        · simp [h'] at hun h1
          rw [hun] at h1
          cases h1
        · simp [Array.getElem?_eq_none h'] at h1
      have hnot : ∀ e ∈ oj.after, Region.binds md e = true → e.on ≠ i := fun e he hb heq => hnl (by rw [← heq]; exact hall e he hb)
      have hjt : j ≠ t := by
        rintro rfl
        rw [ht] at hoj
        cases hoj
      have h1 := H.2 j (ready_mono hj hji)
      have h2 := wpOp_putIf hoj (hfree j oj hoj hji hjun hnot) (fun cs b => Region.noSelect_spec hsel i oi cs b hi) (fun cs b => Region.noSelect_spec hsel j oj cs b hoj) hQ hy h1
      refine wpOp_mono (fun a' w' h3 => ⟨h3.2.1, ih (listed.setIfInBounds j true) a' w' ?_ (ready_mono hr (Ne.symm hji)) h3.1 (h3.2.1 hjt) ?_⟩) h2
      · intro k ok hk hki hunk hno
        refine hfree k ok hk hki ?_ hno
        by_cases hjk : j = k
        · subst hjk; exact hjun
        · rw [getD_set_ne true hjk] at hunk; exact hunk
      · rw [Array.setIfInBounds_comm _ _ hji]
        exact h3.2.2
theorem upto_takeN {i : Nat} {oi : Oper} {v : Value} {f : Nat} {listed : Array Bool} {a : Act} {w : World} (hi : ops[i]? = some oi) (hsel : Region.noSelect ops = true) (ht : ops[t]? = none)
    (hf : Region.free md ops listed i = true) (hr : (Region.ready md ops listed).contains i = true) (hQ : ∀ c a w, Q (.panic c) (a.put oi.dst v) w → Q (.panic c) a w)
    (hwd : Region.wanted oi (yielded ops a.tmps) = true) (hS : S w) (hy : ∀ w, S w → (execOp a.eval oi).run P w = .ok (.value v) w)
    (h : wpUpto P md ops Q S t f (listed.setIfInBounds i true) (a.put oi.dst v) w) : wpUpto P md ops Q S t (f + 1) listed a w :=
  upto_firstN hi hsel ht hQ f listed a w (Region.free_spec hi hf) (by simpa using hr) (Or.inl ⟨hwd, hy⟩) hS h
end

end Go.Proofs.Yteebglgbeijolaa


import Derived.Test.YtndghenlapbaaaaGreatDoorPrnShardTextLaw13
import Derived.Test.YtndghenlapbaaaaGreatDoorPrnShardTextLaw3
import Derived.Test.YtndghenlapbaaaaGreatDoorPrnShardTextLaw7
import Derived.Test.YtndghenlapbaaaaGreatDoorPrnShardTextLaw12
import Derived.Maps.RangeWalk
import Derived.WalkKit
import Derived.Sort.MapsRangeIn

/-
  BalanceOf on both sides.
-/
namespace Go.Proofs.YtndghenlapbaaaaGreatDoor
open Go.RowKit
set_option linter.unusedSectionVars false
variable [DecidableEq Bal] [Inhabited Bal] [DecidableEq Ledg] [Inhabited Ledg] [DecidableEq Leg] [Inhabited Leg]
attribute [local go_sem ↓] Go.wp_at_zero Go.wp_at_succ

set_option maxHeartbeats 1000000 in
theorem l2Has_any (x : Value) (xs : List Bal) (a s : Int) (w : World) (hx : balsR.V w x xs) :
    Calls Tryz.prog 82 #[x, .int .i64 a, .int .i64 s] w fun e w' => e = .returned (.int .i64 (hasB a s xs)) ∧ w' = w := by
  obtain ⟨ax, cx, rfl, hcx, hmx, hx⟩ := hx
  unfold maxLen at hmx
  generalize hn' : xs.length = n at *
  have HN : Hid (xs.length = n) := hn'
  clear hn'
  go_enter Tryz.func82, Tryz.ntmps82
  go_wp2
  go_loopw [7] (fun i w' => ∃ k : Nat, k ≤ n ∧ i = .int .i64 k ∧ hasB a s (xs.drop k) = hasB a s xs ∧ w' = w) (fun i _ => n - (intOf i).toNat)
  case atStart => exact ⟨0, Nat.zero_le _, rfl, rfl, rfl⟩
  case round =>
    obtain ⟨k, hk, rfl, hs, rfl⟩ := hrel
    have HS : Hid (hasB a s (xs.drop k) = hasB a s xs) := hs
    clear hs
    by_cases hlt : k < n
    · obtain ⟨bx, ox, rfl, g1⟩ := hx k hlt
      have HD : Hid (hasB a s (xs.drop k) = if (xs.getD k default).ac = a ∧ (xs.getD k default).ast = s then (xs.getD k default).am else hasB a s (xs.drop (k + 1))) := hasB_drop (by rw [HN.out]; exact hlt)
      obtain ⟨l, hl⟩ : ∃ l, l = xs.getD k default := ⟨_, rfl⟩
      rw [← hl] at g1 HD
      clear hl hx
      obtain ⟨a1, a2, a3⟩ := g1
      go_wp2
      · rename_i e1 e2
        go_ret
        refine ⟨?_, rfl⟩
        rw [← HS.out, HD.out, if_pos ⟨e1, by simpa using e2⟩]
        rfl
      · rename_i e1 e2
        refine ⟨⟨k + 1, by omega, by go_num, ?_, trivial⟩, by simp [intOf]; omega⟩
        rw [← HS.out, HD.out, if_neg (fun h => by simp_all)]
      · rename_i e1
        refine ⟨⟨k + 1, by omega, by go_num, ?_, trivial⟩, by simp [intOf]; omega⟩
        rw [← HS.out, HD.out, if_neg (fun h => by simp_all)]
    · go_wp2
      go_ret
      refine ⟨?_, rfl⟩
      rw [← HS.out, List.drop_eq_nil_of_le (by rw [HN.out]; omega)]
      rfl
end Go.Proofs.YtndghenlapbaaaaGreatDoor

/-
  What can be settled: in plain mathematics, and the specification's side.
-/
namespace Go.Proofs.YtndghenlapbaaaaGreatDoor
open Go.RowKit
set_option linter.unusedSectionVars false
variable [DecidableEq Bal] [Inhabited Bal] [DecidableEq Ledg] [Inhabited Ledg] [DecidableEq Leg] [Inhabited Leg] [DecidableEq Cont] [Inhabited Cont]
attribute [local go_sem ↓] Go.wp_at_zero Go.wp_at_succ

def canV (v : Int) : Int := if v < 0 then 6 else if 1000000000000 < v then 3 else 0
def canB (xs : List Bal) (l : Leg) : Int := canV (hasB l.ac l.ast xs + l.am)
def canL (f : Int → Int → Int → Option Int) (l : Leg) : Int := canV ((f l.sh l.ac l.ast).getD 0 + l.am)
def smallB (xs : List Bal) : Prop := ∀ a t, 0 ≤ hasB a t xs ∧ hasB a t xs ≤ 1000000000000
theorem hasB_le {a t : Int} : ∀ {xs : List Bal}, (∀ k, k < xs.length → balOk (xs.getD k default) = true) → 0 ≤ hasB a t xs ∧ hasB a t xs ≤ 1000000000000
  | [], _ => by simp [hasB]
  | x :: r, h => by
    simp only [hasB]
    split
    · have := (balOk_iff.1 (h 0 (by simp))).2
      simp only [List.getD_cons_zero] at this
      omega
    · exact hasB_le (fun k hk => by have := h (k + 1) (by simpa using hk); simpa only [List.getD_cons_succ] using this)
theorem smallB_of {xs : List Bal} (h : BalsOk xs) : smallB xs := fun _ _ => hasB_le h.ok
theorem legKeep {w w' : World} {b o : Nat} {l : Leg} (hb : Below w.heap.size w w') (h : legCells w b o l) :
    Below w.heap.size w w' ∧ w'.cell? ⟨b, o, none⟩ = some (.int .i64 l.sh) ∧ w'.cell? ⟨b, o + 1, none⟩ = some (.int .i64 l.ac) ∧ w'.cell? ⟨b, o + 2, none⟩ = some (.int .i64 l.ast) ∧ w'.cell? ⟨b, o + 3, none⟩ = some (.int .i64 l.am) :=
  ⟨hb, legCells_below hb h⟩
set_option maxHeartbeats 1000000 in
theorem l2Legs_any (x y : Value) (xs : List Bal) (ls : List Leg) (w : World) (hx : balsR.V w x xs) (hy : legsR.V w y ls) (hs : smallB xs) (ha : small ls) :
    Calls Tryz.prog 58 #[x, y] w fun e w' => e = .returned (.int .i64 (scanI (fun k => canB xs (ls.getD k default)) ls.length)) ∧ Below w.heap.size w w' := by
  have hX := hx
  obtain ⟨ax, cx, rfl⟩ := bals_form hx
  obtain ⟨ay, cy, rfl, hcy, hmy, hy⟩ := hy
  unfold maxLen at hmy
  have HA : Hid (small ls) := ha
  have HSM : Hid (smallB xs) := hs
  clear ha hs hx
  generalize hn' : ls.length = n at *
  have HN : Hid (ls.length = n) := hn'
  clear hn'
  go_enter Tryz.func58, Tryz.ntmps58
  go_wp2
  go_loopw [5] (fun i w' => ∃ k : Nat, k ≤ n ∧ i = .int .i64 k ∧ scanI (fun k => canB xs (ls.getD k default)) k = 0 ∧ Below w.heap.size w w') (fun i _ => n - (intOf i).toNat)
  case atStart => exact ⟨0, Nat.zero_le _, rfl, rfl, Below.refl _ _⟩
  case round =>
    obtain ⟨k, hk, rfl, hs, hbl⟩ := hrel
    have HS : Hid (scanI (fun k => canB xs (ls.getD k default)) k = 0) := hs
    clear hs
    by_cases hlt : k < n
    · obtain ⟨bx, ox, rfl, g1⟩ := hy k hlt
      have hsm := HA.out k (by rw [HN.out]; exact hlt)
      obtain ⟨l, hl⟩ : ∃ l, l = ls.getD k default := ⟨_, rfl⟩
      rw [← hl] at g1 hsm
      have HL : Hid (l = ls.getD k default) := hl
      clear hl hy
      have hhs := HSM.out l.ac l.ast
      have g2 := legCells_below hbl g1
      obtain ⟨a1, a2, a3, a4⟩ := g2
      have hXr := balsR.below hX hbl
      obtain ⟨v, hv⟩ : ∃ v, v = hasB l.ac l.ast xs := ⟨_, rfl⟩
      rw [← hv] at hhs
      have HV : Hid (v = hasB l.ac l.ast xs) := hv
      have v1 : IntKind.i64.wrap (v + l.am) = v + l.am := wrapId (by omega) (by omega)
      have i1 : (k : Int) < (n : Int) := by omega
      have HAT : Hid (canB xs (ls.getD k default) = canV (v + l.am)) := by show _ = _; rw [← HL.out, canB, HV.out]
      clear hsm hhs
      have g3 : legCells wr bx (ox + k * 4) l := ⟨a1, a2, a3, a4⟩
      go_wp2
      go_region_held3 (fun w' => Below wr.heap.size wr w' ∧ w'.cell? ⟨bx, ox + k * 4, none⟩ = some (.int .i64 l.sh) ∧ w'.cell? ⟨bx, ox + k * 4 + 1, none⟩ = some (.int .i64 l.ac) ∧ w'.cell? ⟨bx, ox + k * 4 + 2, none⟩ = some (.int .i64 l.ast) ∧ w'.cell? ⟨bx, ox + k * 4 + 3, none⟩ = some (.int .i64 l.am))
        ((refine legKeep ?_ g3; (repeat (first | exact Below.refl _ _ | assumption | refine Below.drew ?_ | refine balloc ?_ _ | refine bstep ?_ (by assumption)))))
        (first | (go_at_call 82; refine (l2Has_any _ xs l.ac l.ast _ (balsR.below hXr (Below.drew (Below.refl _ _)))).mono ?_; rw [← hv]; rintro e w3 ⟨rfl, rfl⟩))
      rename_i hH
      have hB := bstep hbl hH.1
      clear hH
      rw [← hv, v1]
      clear hv v1
      generalize v + l.am = z at *
      go_wp2
      · rename_i c1
        go_ret
        refine ⟨?_, hB⟩
        rw [scanI_hit HS.out (by rw [HAT.out, canV, if_pos c1]; omega) _ hlt, HAT.out, canV, if_pos c1]
        rfl
      · rename_i c1 c2
        go_ret
        refine ⟨?_, hB⟩
        rw [scanI_hit HS.out (by rw [HAT.out, canV, if_neg (by omega), if_pos c2]; omega) _ hlt, HAT.out, canV, if_neg (by omega), if_pos c2]
        rfl
      · rename_i c1 c2
        refine ⟨⟨k + 1, by omega, by go_num, scanI_succ HS.out ?_, hB⟩, by simp [intOf]; omega⟩
        rw [HAT.out, canV, if_neg (by omega), if_neg (by omega)]
    · go_wp2
      go_ret
      have hkn : k = n := by omega
      subst hkn
      refine ⟨?_, hbl⟩
      rw [HS.out]
      rfl
theorem hasB_book {g : Ledg} {l : Leg} (h0 : 0 ≤ l.sh) (h : l.sh < g.shards.length) : canB (g.shards.getD l.sh.toNat default) l = canL (bookF g.shards) l := by
  rw [canB, canL, hasB_get, bookF, if_pos ⟨h0, h⟩]
theorem canF_small {g : Ledg} (h : ledFault g = 0) : ∀ k, k < g.shards.length → smallB (g.shards.getD k default) := fun k hk => smallB_of ((ledOk_of h).2.2 k hk)
end Go.Proofs.YtndghenlapbaaaaGreatDoor

/-
  What can be settled: the program's side.
-/
namespace Go.Proofs.YtndghenlapbaaaaGreatDoor
open Go.RowKit
set_option linter.unusedSectionVars false
variable [DecidableEq Bal] [Inhabited Bal] [DecidableEq Ledg] [Inhabited Ledg] [DecidableEq Leg] [Inhabited Leg] [DecidableEq Cont] [Inhabited Cont]
attribute [local go_sem ↓] Go.wp_at_zero Go.wp_at_succ

theorem keyOfLeg_any (l : Leg) (w : World) : Calls Tryz.prog 98 #[.agg #[.int .i64 l.sh, .int .i64 l.ac, .int .i64 l.ast, .int .i64 l.am]] w fun e w' => e = .returned (kv l.sh l.ac l.ast) ∧ Below w.heap.size w w' := by
  go_enter Tryz.func98, Tryz.ntmps98
  go_wp2_with fail
  refine (keyOf_any _ _ _ _).mono ?_
  rintro e w1 ⟨rfl, hb1⟩
  have hB1 : Below w.heap.size w w1 := by (repeat (first | exact Below.refl _ _ | assumption | refine Below.drew ?_ | refine balloc ?_ _ | refine bset ?_ (by simp; omega) _ | refine bset ?_ (by simp) _ | refine bstep ?_ (by assumption)))
  have r0 : w1.cell? ⟨w.heap.size + 1, 0, none⟩ = some (.int .i64 0) := cell_keep hb1 (by simp [go_sem])
  have r1 : w1.cell? ⟨w.heap.size + 1, 1, none⟩ = some (.int .i64 0) := cell_keep hb1 (by simp [go_sem])
  have r2 : w1.cell? ⟨w.heap.size + 1, 2, none⟩ = some (.int .i64 0) := cell_keep hb1 (by simp [go_sem])
  have hrf : ∀ o, w1.frozen? ⟨w.heap.size + 1, o, none⟩ = false := fun o => by rw [(bcell hb1).2 _ _ (by simp)]; simp [go_sem]
  clear hb1
  unfold kv
  go_wp2
  refine bodyPost_ret (v := .agg #[.int .i64 l.sh, .int .i64 l.ac, .int .i64 l.ast]) ?_ rfl ⟨rfl, by (repeat (first | exact Below.refl _ _ | assumption | refine Below.drew ?_ | refine balloc ?_ _ | refine bset ?_ (by simp; omega) _ | refine bset ?_ (by simp) _ | refine bstep ?_ (by assumption)))⟩
  simp [results, Tryz.results98, go_sem, r0, r1, r2]
def smallF (f : Int → Int → Int → Option Int) : Prop := ∀ s a t, 0 ≤ (f s a t).getD 0 ∧ (f s a t).getD 0 ≤ 1000000000000
theorem smallF_of {g : Ledg} (h : ledFault g = 0) : smallF (bookF g.shards) := fun s a t => by
  unfold bookF
  split
  · rename_i hs
    rw [← hasB_get]
    exact canF_small h s.toNat (by omega) a t
  · simp
set_option maxHeartbeats 2000000 in
theorem amountsFault_any (n : Nat) (b m : Nat) (f : Int → Int → Int → Option Int) (y : Value) (ls : List Leg) (w : World) (hb : Book w b m f) (hy : legsR.V w y ls) (hs : smallF f) (hok : ∀ k, k < ls.length → legFault (ls.getD k default) = 0) :
    Calls Tryz.prog 74 #[.agg #[.int .i64 n, .map (some b)], y] w fun e w' => e = .returned (.int .i64 (scanI (fun k => canL f (ls.getD k default)) ls.length)) ∧ Below w.heap.size w w' := by
  obtain ⟨ay, cy, rfl, hcy, hmy, hy⟩ := hy
  unfold maxLen at hmy
  have HOK : Hid (∀ k, k < ls.length → legFault (ls.getD k default) = 0) := hok
  have HSM : Hid (smallF f) := hs
  clear hs hok
  generalize hn' : ls.length = q at *
  have HN : Hid (ls.length = q) := hn'
  clear hn'
  go_enter Tryz.func74, Tryz.ntmps74
  go_wp2
  go_loopw [10] (fun i w' => ∃ k : Nat, k ≤ q ∧ i = .int .i64 k ∧ scanI (fun k => canL f (ls.getD k default)) k = 0 ∧ w'.cell? ⟨w.heap.size, 1, none⟩ = some (.map (some b)) ∧ Below w.heap.size w w') (fun i _ => q - (intOf i).toNat)
  case atStart => exact ⟨0, Nat.zero_le _, rfl, rfl, by simp [go_sem], by (repeat (first | exact Below.refl _ _ | assumption | refine Below.drew ?_ | refine balloc ?_ _ | refine bset ?_ (by simp; omega) _ | refine bset ?_ (by simp) _ | refine bstep ?_ (by assumption)))⟩
  case round =>
    obtain ⟨k, hk, rfl, hs, hc1, hbl⟩ := hrel
    have HS : Hid (scanI (fun k => canL f (ls.getD k default)) k = 0) := hs
    clear hs
    by_cases hlt : k < q
    · obtain ⟨bx, ox, rfl, g1⟩ := hy k hlt
      have hlf := HOK.out k hlt
      obtain ⟨l, hl⟩ : ∃ l, l = ls.getD k default := ⟨_, rfl⟩
      rw [← hl] at g1 hlf
      have HL : Hid (l = ls.getD k default) := hl
      clear hl hy
      obtain ⟨⟨s0, s1⟩, ⟨t0, t1⟩, ⟨t2, t3⟩, ⟨t4, t5⟩, t6⟩ := legFault_zero hlf
      have hhs := HSM.out l.sh l.ac l.ast
      obtain ⟨a1, a2, a3, a4⟩ := legCells_below hbl g1
      have hw : kwf l.sh l.ac l.ast := ⟨wf_of (by omega) (by omega), wf_of (by omega) (by omega), wf_of (by omega) (by omega)⟩
      obtain ⟨v, hv⟩ : ∃ v, v = (f l.sh l.ac l.ast).getD 0 := ⟨_, rfl⟩
      rw [← hv] at hhs
      have HAT : Hid (canL f (ls.getD k default) = canV (v + l.am)) := by show _ = _; rw [← HL.out, canL, hv]
      have hlk : ∀ W, Below w.heap.size w W → (Instr.lookup 87 (.map (some b)) (kv l.sh l.ac l.ast) false).run Tryz.prog W = .ok (.int .i64 v) W := fun W hW => by rw [hv]; exact ((hb.below hW).look hw).1
      clear hv
      have v1 : IntKind.i64.wrap (v + l.am) = v + l.am := wrapId (by omega) (by omega)
      have hz : w.heap.size < wr.heap.size := World.block_lt_of_cell? _ _ hc1
      have h0 : Below w.heap.size w (wr.alloc (.cells #[.int .i64 l.sh, .int .i64 l.ac, .int .i64 l.ast, .int .i64 l.am] 119)) ∧ (wr.alloc (.cells #[.int .i64 l.sh, .int .i64 l.ac, .int .i64 l.ast, .int .i64 l.am] 119)).cell? ⟨w.heap.size, 1, none⟩ = some (.map (some b)) ∧ (wr.alloc (.cells #[.int .i64 l.sh, .int .i64 l.ac, .int .i64 l.ast, .int .i64 l.am] 119)).cell? ⟨wr.heap.size, 0, none⟩ = some (.int .i64 l.sh) ∧ (wr.alloc (.cells #[.int .i64 l.sh, .int .i64 l.ac, .int .i64 l.ast, .int .i64 l.am] 119)).cell? ⟨wr.heap.size, 1, none⟩ = some (.int .i64 l.ac) ∧ (wr.alloc (.cells #[.int .i64 l.sh, .int .i64 l.ac, .int .i64 l.ast, .int .i64 l.am] 119)).cell? ⟨wr.heap.size, 2, none⟩ = some (.int .i64 l.ast) ∧ (wr.alloc (.cells #[.int .i64 l.sh, .int .i64 l.ac, .int .i64 l.ast, .int .i64 l.am] 119)).cell? ⟨wr.heap.size, 3, none⟩ = some (.int .i64 l.am) :=
        ⟨by (repeat (first | exact Below.refl _ _ | assumption | refine Below.drew ?_ | refine balloc ?_ _ | refine bset ?_ (by simp; omega) _ | refine bset ?_ (by simp) _ | refine bstep ?_ (by assumption))), cell_keep (balloc (Below.refl _ _) _) hc1, by simp [go_sem], by simp [go_sem], by simp [go_sem], by simp [go_sem]⟩
      go_wp2
      generalize hW : wr.alloc (.cells #[.int .i64 l.sh, .int .i64 l.ac, .int .i64 l.ast, .int .i64 l.am] 119) = W at *
      clear hW a1 a2 a3 a4 g1 hc1
      go_region_held3 (fun w' => Below w.heap.size w w' ∧ w'.cell? ⟨w.heap.size, 1, none⟩ = some (.map (some b)) ∧ w'.cell? ⟨wr.heap.size, 0, none⟩ = some (.int .i64 l.sh) ∧ w'.cell? ⟨wr.heap.size, 1, none⟩ = some (.int .i64 l.ac) ∧ w'.cell? ⟨wr.heap.size, 2, none⟩ = some (.int .i64 l.ast) ∧ w'.cell? ⟨wr.heap.size, 3, none⟩ = some (.int .i64 l.am))
        ((first | exact keepS5 h0 (Below.drew (Below.refl _ _)) | exact hS3))
        (first | (go_at_call 98; refine (keyOfLeg_any l _).mono ?_; rintro e w3 ⟨rfl, hb5⟩; have hS3 := keepS5 (keepS5 h0 (Below.drew (Below.refl _ _))) hb5; have hl5 := hlk _ hS3.1))
      rename_i hH
      have hB := hH.1
      have hc2 := hH.2.1
      clear hH hS3 hl5 hlk
      generalize v + l.am = z at *
      go_wp2
      · rename_i c1
        go_ret
        refine ⟨?_, hB⟩
        rw [scanI_hit HS.out (by rw [HAT.out, canV, if_pos c1]; omega) _ hlt, HAT.out, canV, if_pos c1]
        rfl
      · rename_i c1 c2
        go_ret
        refine ⟨?_, hB⟩
        rw [scanI_hit HS.out (by rw [HAT.out, canV, if_neg (by omega), if_pos c2]; omega) _ hlt, HAT.out, canV, if_neg (by omega), if_pos c2]
        rfl
      · rename_i c1 c2
        refine ⟨⟨k + 1, by omega, by go_num, scanI_succ HS.out ?_, hc2, hB⟩, by simp [intOf]; omega⟩
        rw [HAT.out, canV, if_neg (by omega), if_neg (by omega)]
    · go_wp2
      go_ret
      have hkn : k = q := by omega
      subst hkn
      refine ⟨?_, hbl⟩
      rw [HS.out]
      rfl
end Go.Proofs.YtndghenlapbaaaaGreatDoor

/-
  maps.Keys over a book: its keys, in whatever order.
-/
namespace Go.Proofs.YtndghenlapbaaaaGreatDoor
open Go.RowKit Go.Shelf Go.Maps
set_option linter.unusedSectionVars false
variable [DecidableEq Bal] [Inhabited Bal] [DecidableEq Ledg] [Inhabited Ledg] [DecidableEq Leg] [Inhabited Leg] [DecidableEq Cont] [Inhabited Cont]
set_option linter.unusedVariables false
set_option linter.unusedSimpArgs false
attribute [local go_sem] Oper.semAt_some

def KOk (f : Int → Int → Int → Option Int) (ys : List K3) : Prop := ys.Nodup ∧ ∀ x ∈ ys, (f x.1 x.2.1 x.2.2).isSome = true
end Go.Proofs.YtndghenlapbaaaaGreatDoor


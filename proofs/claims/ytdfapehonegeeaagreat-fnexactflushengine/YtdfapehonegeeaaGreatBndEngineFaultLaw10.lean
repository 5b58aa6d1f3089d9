import Derived.Test.YtdfapehonegeeaaGreatBndEngineFaultLaw9
import Derived.Shelf.Abstract
import Derived.WalkKit
import Derived.OwnWalkIn
import Derived.TacticsInMore
import Derived.LoopNIn
import Derived.LoopIn

/-
  The program's TableFault. (src.py writes the template.)
-/
namespace Go.Proofs.YtdfapehonegeeaaGreat
open Go.RowKit
set_option linter.unusedSectionVars false
variable [DecidableEq Rw] [Inhabited Rw]
set_option linter.unusedVariables false
attribute [local go_sem ↓] Go.wp_at_zero Go.wp_at_succ

theorem run_store_func (P : Program) (w : World) (a : Addr) (m : Mode) (f : Fn) (r b : Array Value) : (store a (.func f r b) m).run P w = stored P w a (.func f r b) m := run_store P w a _ m rfl
attribute [local go_sem] run_store_func

/-- the order of rows, as a function value -/
def cmpF : Value := .func (.func 75) #[] #[]

set_option maxHeartbeats 400000 in
theorem tableOf_any (a : Option Addr) (n c : Nat) (w : World) :
    Calls Tryz.prog 76 #[.slice a n c] w fun e w' => e = .returned (.agg #[.slice a n c, cmpF]) ∧ Below w.heap.size w w' := by
  go_enter Tryz.func76, Tryz.ntmps76
  go_wp2
  exact bodyPost_ret (v := .agg #[.slice a n c, cmpF]) (by simp [results, Tryz.results76, go_sem, cmpF]) rfl ⟨rfl, balloc (Below.refl _ _) _⟩

set_option maxHeartbeats 1000000 in
theorem ends_nil (a : Option Addr) (c : Nat) (y : Rw) (w : World) :
    Calls Tryz.prog 149 #[.agg #[.slice a 0 c, cmpF], rowV y] w fun e w' => e = .returned (.bool true) ∧ Below w.heap.size w w' := by
  unfold rowV cmpF
  go_enter Tryz.func149, Tryz.ntmps149
  go_wp2
  go_quiet (fail)
  go_wp2
  go_ret
  exact ⟨rfl, bdrN (balloc (balloc (Below.refl _ _) _) _) _⟩

theorem endsKeep {w w' : World} {b o b' o' : Nat} {x y : Rw} {a1 a2 : Addr} {u1 u2 : Value} (hb : Below w.heap.size w w') (h : rowCells w b o x) (h' : rowCells w b' o' y) (g1 : w.cell? a1 = some u1) (g2 : w.cell? a2 = some u2) :
    Below w.heap.size w w' ∧ (w'.cell? ⟨b, o, none⟩ = some (.string x.key) ∧ w'.cell? ⟨b, o + 1, none⟩ = some (.int .i64 x.ver) ∧ w'.cell? ⟨b, o + 2, none⟩ = some (.string x.val) ∧ w'.cell? ⟨b, o + 3, none⟩ = some (.bool x.gone)) ∧ (w'.cell? ⟨b', o', none⟩ = some (.string y.key) ∧ w'.cell? ⟨b', o' + 1, none⟩ = some (.int .i64 y.ver) ∧ w'.cell? ⟨b', o' + 2, none⟩ = some (.string y.val) ∧ w'.cell? ⟨b', o' + 3, none⟩ = some (.bool y.gone)) ∧ w'.cell? a1 = some u1 ∧ w'.cell? a2 = some u2 :=
  ⟨hb, rowCells_below hb h, rowCells_below hb h', cell_keep hb g1, cell_keep hb g2⟩

set_option maxHeartbeats 1000000 in
theorem ends_any (b o n m c : Nat) (x y : Rw) (w : World) (hn : n = m + 1) (hc : n ≤ c) (hm : n ≤ 200) (hx : rowCells w b (o + m * 4) x) :
    Calls Tryz.prog 149 #[.agg #[.slice (some ⟨b, o, none⟩) n c, cmpF], rowV y] w fun e w' => e = .returned (.bool (ahead x y)) ∧ Below w.heap.size w w' := by
  unfold rowV cmpF
  have hlt : b < w.heap.size := World.block_lt_of_cell? _ _ hx.1
  have hi1 : IntKind.i64.wrap ((n : Int) - 1) = (m : Int) := by rw [IntKind.wrap_i64]; omega
  have hi3 : decide ((m : Int) < 0) = false := decide_eq_false (by omega)
  have hi4 : (0 : Int) ≤ m := by omega
  have hi5 : (m : Int) < n := by omega
  have eg := enters_of Tryz.func75 (by kernel_rfl) rfl
  clear hn
  go_enter Tryz.func149, Tryz.ntmps149
  go_wp2
  obtain ⟨W0, hW0⟩ : ∃ W0, (w.alloc (.cells #[.slice (some ⟨b, o, none⟩) n c, .func (.func 75) #[] #[]] 105)).alloc (.cells #[.string y.key, .int .i64 y.ver, .string y.val, .bool y.gone] 76) = W0 := ⟨_, rfl⟩
  have hB0 : Below w.heap.size w W0 := by rw [← hW0]; exact balloc (balloc (Below.refl _ _) _) _
  have r1 : rowCells W0 b (o + m * 4) x := rowCells_below hB0 hx
  have r2 : rowCells W0 (w.heap.size + 1) 0 y := by rw [← hW0]; unfold rowCells; simp [go_sem]
  have q0 : W0.cell? ⟨w.heap.size, 0, none⟩ = some (.slice (some ⟨b, o, none⟩) n c) := by rw [← hW0]; simp [go_sem]
  have q1 : W0.cell? ⟨w.heap.size, 1, none⟩ = some (.func (.func 75) #[] #[]) := by rw [← hW0]; simp [go_sem]
  rw [hW0]
  clear hW0 hx
  go_region_held3 (fun w' => Below W0.heap.size W0 w' ∧ (w'.cell? ⟨b, o + m * 4, none⟩ = some (.string x.key) ∧ w'.cell? ⟨b, o + m * 4 + 1, none⟩ = some (.int .i64 x.ver) ∧ w'.cell? ⟨b, o + m * 4 + 2, none⟩ = some (.string x.val) ∧ w'.cell? ⟨b, o + m * 4 + 3, none⟩ = some (.bool x.gone)) ∧ (w'.cell? ⟨w.heap.size + 1, 0, none⟩ = some (.string y.key) ∧ w'.cell? ⟨w.heap.size + 1, 0 + 1, none⟩ = some (.int .i64 y.ver) ∧ w'.cell? ⟨w.heap.size + 1, 0 + 2, none⟩ = some (.string y.val) ∧ w'.cell? ⟨w.heap.size + 1, 0 + 3, none⟩ = some (.bool y.gone)) ∧ w'.cell? ⟨w.heap.size, 0, none⟩ = some (.slice (some ⟨b, o, none⟩) n c) ∧ w'.cell? ⟨w.heap.size, 1, none⟩ = some (.func (.func 75) #[] #[]))
    ((refine endsKeep ?_ r1 r2 q0 q1; repeat (first | exact Below.refl _ _ | assumption | refine Below.drew ?_ | refine balloc ?_ _ | refine bstep ?_ (by assumption))))
    (first | (go_at_call 75; refine (compareRows_any x y _).mono ?_; rintro e w' ⟨rfl, hb1⟩))
  rename_i hH
  have hB := bstep hB0 hH.1
  clear hH
  go_wp2
  go_ret
  exact ⟨rfl, hB⟩

theorem tableField (a : Option Addr) (n c : Nat) (w : World) : (Instr.field 111 (.agg #[.slice a n c, .func (.func 75) #[] #[]]) 0).run Tryz.prog w = .ok (.agg #[.slice a n c, .func (.func 75) #[] #[]]) w := by kernel_rfl

theorem tabKeep {w w' : World} {b o : Nat} {y : Rw} (hb : Below w.heap.size w w') (h' : rowCells w b o y) :
    Below w.heap.size w w' ∧ w'.cell? ⟨b, o, none⟩ = some (.string y.key) ∧ w'.cell? ⟨b, o + 1, none⟩ = some (.int .i64 y.ver) ∧ w'.cell? ⟨b, o + 2, none⟩ = some (.string y.val) ∧ w'.cell? ⟨b, o + 3, none⟩ = some (.bool y.gone) :=
  ⟨hb, rowCells_below hb h'⟩

set_option maxHeartbeats 2000000 in
theorem implTableFault_any (x : Value) (xs : List Rw) (w : World) (hx : RowsV w x xs) :
    Calls Tryz.prog 108 #[x] w fun e w' => e = .returned (.int .i64 (tabF xs)) ∧ Below w.heap.size w w' := by
  obtain ⟨ax, cx, rfl, hcx, hmx, hx⟩ := hx
  unfold maxLen at hmx
  by_cases hn : 200 < xs.length
  · have e : tabF xs = 2 := by unfold tabF; rw [if_pos hn]
    rw [e]
    clear e hx
    generalize xs.length = n at *
    have h1 : (200 : Int) < n := by omega
    go_enter Tryz.func108, Tryz.ntmps108
    go_wp2
    go_ret
    exact ⟨rfl, Below.refl _ _⟩
  have HZ : Hid ((∀ j, j < xs.length → tabAt xs j = 0) → tabF xs = 0) := tabF_zero (by omega)
  have HC : Hid (∀ k, k < xs.length → (∀ j, j < k → tabAt xs j = 0) → tabAt xs k ≠ 0 → tabF xs = tabAt xs k) := fun k hk h hc => tabF_at (by omega) hk h hc
  generalize xs.length = n at *
  have h1 : ¬ (200 : Int) < n := by omega
  go_enter Tryz.func108, Tryz.ntmps108
  go_wp2
  go_loopw [11] (fun i w' => ∃ k : Nat, k ≤ n ∧ i = .int .i64 k ∧ Hid (∀ j, j < k → tabAt xs j = 0) ∧ Below w.heap.size w w') (fun i _ => n - (intOf i).toNat)
  case atStart => exact ⟨0, Nat.zero_le _, rfl, fun j h => absurd h (Nat.not_lt_zero _), Below.refl _ _⟩
  case round =>
    obtain ⟨k, hk, rfl, HP, hbl⟩ := hrel
    by_cases hlt : k < n
    · obtain ⟨bx, ox, rfl, h2⟩ := hx k hlt
      have HC2 : Hid (tabAt xs k ≠ 0 → tabF xs = tabAt xs k) := fun hc => HC.out k hlt HP.out hc
      have HK : Hid (tabAt xs k = if rowFault (xs.getD k default) ≠ 0 then rowFault (xs.getD k default) else if 0 < k ∧ ahead (xs.getD (k - 1) default) (xs.getD k default) = false then 1 else 0) := rfl
      have HX : Hid (∀ i, i < n → ∃ b o, some (⟨bx, ox, none⟩ : Addr) = some ⟨b, o, none⟩ ∧ rowCells w b (o + i * 4) (xs.getD i default)) := hx
      obtain ⟨l, hl⟩ : ∃ l, l = xs.getD k default := ⟨_, rfl⟩
      rw [← hl] at h2 HK
      clear hl hx HC HZ
      obtain ⟨a0, a1, a2, a3⟩ := rowCells_below hbl h2
      go_wp2_with fail
      refine (implRowFault_any l _).mono ?_
      rintro e wa ⟨rfl, hba⟩
      have r0 : rowCells wa wr.heap.size 0 l := rowCells_below hba (by unfold rowCells; simp [go_sem])
      have hB : Below w.heap.size w wa := by (repeat (first | exact Below.refl _ _ | assumption | refine Below.drew ?_ | refine balloc ?_ _ | refine bset ?_ (by simp; omega) _ | refine bset ?_ (by simp) _ | refine bstep ?_ (by assumption)))
      clear hba
      by_cases hf : rowFault l = 0
      · rw [hf]
        have HK2 : Hid (tabAt xs k = if 0 < k ∧ ahead (xs.getD (k - 1) default) l = false then 1 else 0) := by
          rw [Hid, HK.out, if_neg (by simp [hf])]
        clear hf HK a0 a1 a2 a3
        have hi5 : (0 : Int) ≤ k := by omega
        have hi6 : (k : Int) ≤ cx := by omega
        have hfd := tableField
        by_cases hk0 : k = 0
        · subst hk0
          go_wp2
          go_region_held3 (fun w' => Below wa.heap.size wa w' ∧ w'.cell? ⟨wr.heap.size, 0, none⟩ = some (.string l.key) ∧ w'.cell? ⟨wr.heap.size, 0 + 1, none⟩ = some (.int .i64 l.ver) ∧ w'.cell? ⟨wr.heap.size, 0 + 2, none⟩ = some (.string l.val) ∧ w'.cell? ⟨wr.heap.size, 0 + 3, none⟩ = some (.bool l.gone)) ((refine tabKeep ?_ r0; repeat (first | exact Below.refl _ _ | assumption | refine Below.drew ?_ | refine balloc ?_ _ | refine bstep ?_ (by assumption))))
            (first | (go_at_call 76; refine (tableOf_any _ _ _ _).mono ?_; rintro e wt ⟨rfl, hbt⟩; unfold cmpF) | (go_at_call 149; refine (ends_nil _ _ l _).mono ?_; rintro e w' ⟨rfl, hb1⟩))
          rename_i hH
          have hB2 := bstep hB hH.1
          clear hH
          go_wp2
          refine ⟨⟨1, by omega, by go_num, fun j hj => ?_, hB2⟩, by simp [intOf]; omega⟩
          have : j = 0 := by omega
          subst this
          rw [HK2.out]
          simp
        · obtain ⟨m, hm⟩ : ∃ m, k - 1 = m := ⟨_, rfl⟩
          obtain ⟨bp, op, ep, h3⟩ := HX.out m (by omega)
          simp only [Option.some.injEq, Addr.mk.injEq, and_true] at ep
          obtain ⟨rfl, rfl⟩ := ep
          rw [hm] at HK2
          obtain ⟨l2, hl2⟩ : ∃ l, l = xs.getD m default := ⟨_, rfl⟩
          rw [← hl2] at h3 HK2
          have HM : Hid (0 < k) := by rw [Hid]; omega
          have hkm : k = m + 1 := by omega
          have HKM : Hid (k = m + 1) := hkm
          have hk200 : k ≤ 200 := by omega
          have hkcx : k ≤ cx := by omega
          clear hl2 HX hm hk0 hkm
          have r2 := rowCells_below hB h3
          have HT : Hid (∀ b, ahead l2 l = b → tabAt xs k = if b = false then 1 else 0) := fun b hb => by
            rw [HK2.out, hb]
            have := HM.out
            simp [this]
          clear HK2 h2 h3
          cases hah : ahead l2 l
          all_goals
            have HT2 : Hid _ := HT.out _ hah
            go_wp2
            go_region_held3 (fun w' => Below wa.heap.size wa w' ∧ w'.cell? ⟨wr.heap.size, 0, none⟩ = some (.string l.key) ∧ w'.cell? ⟨wr.heap.size, 0 + 1, none⟩ = some (.int .i64 l.ver) ∧ w'.cell? ⟨wr.heap.size, 0 + 2, none⟩ = some (.string l.val) ∧ w'.cell? ⟨wr.heap.size, 0 + 3, none⟩ = some (.bool l.gone)) ((refine tabKeep ?_ r0; repeat (first | exact Below.refl _ _ | assumption | refine Below.drew ?_ | refine balloc ?_ _ | refine bstep ?_ (by assumption))))
              (first | (go_at_call 76; refine (tableOf_any _ _ _ _).mono ?_; rintro e wt ⟨rfl, hbt⟩; unfold cmpF) | (go_at_call 149; refine (ends_any _ _ k m _ l2 l _ HKM.out hkcx hk200 (rowCells_below (by repeat (first | exact Below.refl _ _ | assumption | refine Below.drew ?_ | refine balloc ?_ _ | refine bstep ?_ (by assumption))) r2)).mono ?_; rintro e w' ⟨rfl, hb1⟩; rw [hah]))
            rename_i hH
            have hB2 := bstep hB hH.1
            clear hH
            go_wp2
          · go_ret
            have hC := HC2.out (by rw [HT2.out]; simp)
            rw [HT2.out] at hC
            refine ⟨?_, hB2⟩
            rw [hC]
            rfl
          · refine ⟨⟨k + 1, by omega, by go_num, fun j hj => ?_, hB2⟩, by simp [intOf]; omega⟩
            by_cases hj2 : j < k
            · exact HP.out j hj2
            · have : j = k := by omega
              subst this
              rw [HT2.out]
              simp
      · have hf' : ((rowFault l : Int) == 0) = false := by rw [beq_eq_false_iff_ne]; exact hf
        have hK := HK.out
        rw [if_pos hf] at hK
        have hC := HC2.out (by rw [hK]; exact hf)
        have HE : Hid (tabF xs = rowFault l) := hC.trans hK
        clear hK hC
        go_wp2
        go_ret
        refine ⟨?_, hB⟩
        rw [HE.out]
        rfl
    · have hkn : k = n := by omega
      subst hkn
      have HE : Hid (tabF xs = 0) := HZ.out HP.out
      go_wp2
      go_ret
      refine ⟨?_, hbl⟩
      rw [HE.out]
      rfl

end Go.Proofs.YtdfapehonegeeaaGreat

/-
  slices.Values over the rows of a table.
-/
namespace Go.Proofs.YtdfapehonegeeaaGreat
open Go.RowKit Go.Shelf
set_option linter.unusedSectionVars false
variable [DecidableEq Rw] [Inhabited Rw]
set_option linter.unusedVariables false
attribute [local go_sem] Oper.semAt_some

/-- the rows xs lie where v says, in blocks of R -/
def TabAt (R : Nat → Prop) (W : World) (v : Value) (xs : List Rw) : Prop :=
  ∃ a cap, v = .slice a xs.length cap ∧ xs.length ≤ cap ∧ cap ≤ maxLen ∧ ∀ i, i < xs.length → ∃ b o, a = some ⟨b, o, none⟩ ∧ R b ∧ rowCells W b (o + i * 4) (xs.getD i default)
theorem rowCells_mod {F : Nat → Prop} {w w' : World} {b o : Nat} {x : Rw} (hm : Mod F w w') (hb : ¬ F b) (h : rowCells w b o x) : rowCells w' b o x :=
  ⟨hm.cell h.1 hb, hm.cell h.2.1 hb, hm.cell h.2.2.1 hb, hm.cell h.2.2.2 hb⟩
theorem TabAt.mod {R F : Nat → Prop} {w w' : World} {v : Value} {xs : List Rw} (h : TabAt R w v xs) (hm : Mod F w w') (hF : ∀ b, R b → ¬ F b) : TabAt R w' v xs := by
  obtain ⟨a, cap, e, h1, h2, h3⟩ := h
  refine ⟨a, cap, e, h1, h2, fun i hi => ?_⟩
  obtain ⟨b, o, ha, hb, hc⟩ := h3 i hi
  exact ⟨b, o, ha, hb, rowCells_mod hm (hF b hb) hc⟩
theorem TabAt.of {R : Nat → Prop} {w : World} {v : Value} {xs : List Rw} (h : RowsV w v xs) (hR : ∀ b, b < w.heap.size → R b) : TabAt R w v xs := by
  obtain ⟨a, cap, e, h1, h2, h3⟩ := h
  refine ⟨a, cap, e, h1, h2, fun i hi => ?_⟩
  obtain ⟨b, o, ha, hc⟩ := h3 i hi
  exact ⟨b, o, ha, hR b (World.block_lt_of_cell? _ _ hc.1), hc⟩
theorem TabAt.wide {R R' : Nat → Prop} {w : World} {v : Value} {xs : List Rw} (h : TabAt R w v xs) (hR : ∀ b, R b → R' b) : TabAt R' w v xs := by
  obtain ⟨a, cap, e, h1, h2, h3⟩ := h
  refine ⟨a, cap, e, h1, h2, fun i hi => ?_⟩
  obtain ⟨b, o, ha, hb, hc⟩ := h3 i hi
  exact ⟨b, o, ha, hR b hb, hc⟩

theorem take_snoc {α : Type} [Inhabited α] (xs : List α) {k : Nat} (hk : k < xs.length) : xs.take k ++ [xs.getD k default] = xs.take (k + 1) := by
  rw [List.take_add_one, List.getElem?_eq_getElem hk]
  simp [List.getD, hk]

set_option maxRecDepth 100000 in
set_option maxHeartbeats 2000000 in
theorem values_seq (Bs : Nat) (v : Value) (xs : List Rw) (R : Nat → Prop) (w : World) (hB : w.cell? ⟨Bs, 0, none⟩ = some v) (hRB : R Bs) (hT : TabAt R w v xs) (hn : xs.length ≤ 200) :
    Seqx Tryz.prog 161 #[.pointer (some ⟨Bs, 0, none⟩)] rowV xs R w := by
  intro l J Jx W X hm hXa hJ hJx hY h0
  have hBW := hm.cell hB (fun h => h hRB)
  have hTW := hT.mod hm (fun b hb h => h hb)
  clear hB hT
  obtain ⟨a, cap, rfl, hc1, hc2, hrow⟩ := hTW
  unfold maxLen at hc2
  have HP : Hid (∀ k, k < xs.length → xs.take k ++ [xs.getD k default] = xs.take (k + 1)) := fun k hk => take_snoc xs hk
  have HA : Hid (∀ k, xs.take k <+: xs) := fun k => List.take_prefix _ _
  have HE : Hid (xs.take xs.length = xs) := List.take_length
  generalize hN : xs.length = n at *
  have HN : Hid (xs.length = n) := hN
  clear hN
  refine callsIn_of_wp Tryz.func161 rfl trivial ?_ rfl
  simp only [Tryz.ntmps161, List.size_toArray, List.length_cons, List.length_nil, Nat.reduceAdd, Nat.reduceSub, Array.replicate_succ, Array.replicate_zero, List.push_toArray, List.append_toArray, List.nil_append, List.cons_append]
  gi_wp2
  gi_loopw [7] (fun i wr => ∃ k : Nat, k ≤ n ∧ i = .int .i64 k ∧ Hid (J (xs.take k) wr X) ∧ Hid (∀ b, X b → b < wr.heap.size) ∧ Mod (fun b => ¬ R b) W wr) (fun i _ => n - (intOf i).toNat)
  case atStart => exact ⟨0, Nat.zero_le _, rfl, (show J [] W X from h0), hXa, Mod.refl _ _⟩
  case round =>
    obtain ⟨k, hk, rfl, HJ, HXa, hmr⟩ := hrel
    by_cases hlt : k < n
    · obtain ⟨b, o, rfl, hRb, hc⟩ := hrow k hlt
      obtain ⟨q, hq⟩ : ∃ q, q = xs.getD k default := ⟨_, rfl⟩
      have hP := HP.out k hlt
      rw [← hq] at hc hP
      have HPk : Hid (xs.take k ++ [q] = xs.take (k + 1)) := hP
      obtain ⟨c0, c1, c2, c3⟩ := rowCells_mod hmr (fun h => h hRb) hc
      have hJ2 : J (xs.take k) (wr.alloc (.cells #[.string q.key, .int .i64 q.ver, .string q.val, .bool q.gone] 76)) X :=
        hJ _ _ _ _ _ HJ.out (mod_alloc _ _ _) (fun _ h => h) (fun b h => ⟨.inl h, by have := HXa.out b h; simp; omega⟩)
      obtain ⟨fn, tmps, assign, body, hy, hR2⟩ := hY _ q _ X hJ2 (fun _ h => h) (fun b h => by have := HXa.out b h; simp; omega) (by rw [hP]; exact HA.out _)
      unfold rowV at hy
      clear hP hq hrow hc
      gi_wp2
      refine ⟨rfl, hR2.mono ?_⟩
      rintro e W3 (⟨rfl, hJ3, hk3⟩ | ⟨rfl, hJx3, hk3⟩)
      · gi_wp2
        go_roundw
        case rel =>
          have hs := hk3.size
          simp only [World.size_alloc] at hs
          refine ⟨k + 1, by omega, by simp, ?_, fun b h => ?_, (hmr.alloc _).trans (hk3.mono (fun b h hr => h (.inl hr)))⟩
          · rw [Hid, ← HPk.out]
            exact hJ3
          · have := HXa.out b h
            omega
        case measure => simp [intOf]; omega
      · gi_wp2
        refine bodyPost_ret (results_none rfl _ _ _) rfl ?_
        exact ⟨⟨_, rfl⟩, X, fun _ h => h, .inr ⟨_, by rw [HPk.out]; exact HA.out _, hJx3⟩⟩
    · obtain rfl : k = n := by omega
      gi_wp2
      go_end0
      refine ⟨⟨_, rfl⟩, X, fun _ h => h, .inl ?_⟩
      have hj := HJ.out
      rw [HE.out] at hj
      exact hj

end Go.Proofs.YtdfapehonegeeaaGreat

/-
  What counts at a version: lastAt, as an iterator.
-/
namespace Go.Proofs.YtdfapehonegeeaaGreat
open Go.RowKit Go.Shelf
set_option linter.unusedSectionVars false
variable [DecidableEq Rw] [Inhabited Rw]
set_option linter.unusedVariables false
attribute [local go_sem] Oper.semAt_some
attribute [local go_sem] run_store_func

set_option maxHeartbeats 1000000 in
theorem values_any (a : Option Addr) (n c : Nat) (w : World) :
    Calls Tryz.prog 129 #[.slice a n c] w fun e w' => e = .returned (.func (.func 161) #[] #[.pointer (some ⟨w.heap.size, 0, none⟩)]) ∧ w' = w.alloc (.cells #[.slice a n c] 32) := by
  go_enter Tryz.func129, Tryz.ntmps129
  go_wp2
  go_ret
  exact ⟨rfl, rfl⟩
set_option maxHeartbeats 1000000 in
theorem all_any (a : Option Addr) (n c : Nat) (w : World) :
    Calls Tryz.prog 77 #[.agg #[.slice a n c, cmpF]] w fun e w' => e = .returned (.func (.func 161) #[] #[.pointer (some ⟨w.heap.size + 1, 0, none⟩)]) ∧
      w' = (w.alloc (.cells #[.slice a n c, cmpF] 105)).alloc (.cells #[.slice a n c] 32) := by
  unfold cmpF
  go_enter Tryz.func77, Tryz.ntmps77
  go_wp2_with (go_at_call 129; refine (values_any _ _ _ _).mono ?_; rintro e w' ⟨rfl, rfl⟩)
  go_ret
  exact ⟨by simp, rfl⟩
set_option maxHeartbeats 1000000 in
theorem lastAt_any (a : Option Addr) (n c : Nat) (v : Int) (w : World) :
    Calls Tryz.prog 164 #[.agg #[.slice a n c, cmpF], .int .i64 v] w fun e w' => e = .returned (.func (.func 175) #[] #[.pointer (some ⟨w.heap.size, 0, none⟩), .pointer (some ⟨w.heap.size + 1, 0, none⟩)]) ∧
      w' = (w.alloc (.cells #[.slice a n c, cmpF] 111)).alloc (.cells #[.int .i64 v] 2) := by
  unfold cmpF
  go_enter Tryz.func164, Tryz.ntmps164
  go_wp2
  go_ret
  exact ⟨rfl, rfl⟩
set_option maxHeartbeats 1000000 in
theorem livingAt_any (a : Option Addr) (n c : Nat) (v : Int) (w : World) :
    Calls Tryz.prog 137 #[.agg #[.slice a n c, cmpF], .int .i64 v] w fun e w' => e = .returned (.func (.func 163) #[] #[.pointer (some ⟨w.heap.size, 0, none⟩), .pointer (some ⟨w.heap.size + 1, 0, none⟩)]) ∧
      w' = (w.alloc (.cells #[.slice a n c, cmpF] 111)).alloc (.cells #[.int .i64 v] 2) := by
  unfold cmpF
  go_enter Tryz.func137, Tryz.ntmps137
  go_wp2
  go_ret
  exact ⟨rfl, rfl⟩

/-- told, and what was told -/
def stepL (v : Int) (s : ByteArray × List Rw) (x : Rw) : ByteArray × List Rw := if v < x.ver ∨ x.key = s.1 then s else (x.key, s.2 ++ [x])
def lastS (v : Int) (xs : List Rw) : ByteArray × List Rw := xs.foldl (stepL v) (⟨#[]⟩, [])
def lastL (v : Int) (xs : List Rw) : List Rw := (lastS v xs).2
theorem lastS_snoc (v : Int) (xs : List Rw) (x : Rw) : lastS v (xs ++ [x]) = stepL v (lastS v xs) x := by simp [lastS, List.foldl_append]
theorem stepL_pre (v : Int) (s : ByteArray × List Rw) (x : Rw) : s.2 <+: (stepL v s x).2 := by
  unfold stepL
  split
  · exact List.prefix_refl _
  · exact List.prefix_append _ _
theorem foldl_pre (v : Int) : ∀ (ys : List Rw) (s : ByteArray × List Rw), s.2 <+: (ys.foldl (stepL v) s).2
  | [], s => List.prefix_refl _
  | y :: ys, s => (stepL_pre v s y).trans (foldl_pre v ys _)
theorem lastL_pre {v : Int} {xs ys : List Rw} (h : xs <+: ys) : lastL v xs <+: lastL v ys := by
  obtain ⟨t, rfl⟩ := h
  unfold lastL lastS
  rw [List.foldl_append]
  exact foldl_pre v t _
theorem lastL_skip {v : Int} {xs : List Rw} {x : Rw} (h : v < x.ver ∨ x.key = (lastS v xs).1) : lastS v (xs ++ [x]) = lastS v xs := by
  rw [lastS_snoc]
  unfold stepL
  rw [if_pos h]
theorem lastL_take {v : Int} {xs : List Rw} {x : Rw} (h : ¬ (v < x.ver ∨ x.key = (lastS v xs).1)) : lastS v (xs ++ [x]) = (x.key, lastL v xs ++ [x]) := by
  rw [lastS_snoc]
  unfold stepL
  rw [if_neg h]
  rfl

theorem Mod.frozen {F : Nat → Prop} {w w' : World} (h : Mod F w w') {a : Addr} (ha : a.block < w.heap.size) (hn : ¬ F a.block) : w'.frozen? a = w.frozen? a := by
  have := h.block a.block ha hn
  unfold World.frozen?
  rw [this]

/-- what holds between two rounds of an iterator's own loop: J: the caller's; f: what has been told of what came; S: blocks of its own, of which C speaks; R: what is leant on -/
def ItI (J : List Rw → World → (Nat → Prop) → Prop) (f : List Rw → List Rw) (S X R : Nat → Prop) (w : World) (C : List Rw → World → Prop) (pre : List Rw) (W : World) (Y : Nat → Prop) : Prop :=
  ∃ Z, J (f pre) W Z ∧ (∀ b, Y b → Z b) ∧ (∀ b, Z b → b < W.heap.size) ∧ (∀ b, X b → Z b) ∧ (∀ b, S b → Z b) ∧ (∀ b, S b → ¬ Y b) ∧ (∀ b, Y b → ¬ R b) ∧ C pre W ∧ Mod (fun b => ¬ R b) w W
def ItX (Jx : List Rw → World → (Nat → Prop) → Prop) (f : List Rw → List Rw) (X : Nat → Prop) (c : Code) (pre : List Rw) (W : World) (Y : Nat → Prop) : Prop :=
  c = .ret ∧ ∃ Z, Jx (f pre) W Z ∧ (∀ b, Y b → Z b) ∧ (∀ b, Z b → b < W.heap.size) ∧ (∀ b, X b → Z b)

theorem growZ {W W' : World} {X X' Z : Nat → Prop} (hXn : ∀ b, X' b → (X b ∨ W.heap.size ≤ b) ∧ b < W'.heap.size) (hs : W.heap.size ≤ W'.heap.size) (hXZ : ∀ b, X b → Z b) (hZ : ∀ b, Z b → b < W.heap.size) :
    ∀ b, (Z b ∨ X' b) → (Z b ∨ W.heap.size ≤ b) ∧ b < W'.heap.size := by
  rintro b (h | h)
  · exact ⟨.inl h, by have := hZ b h; omega⟩
  · have := hXn b h
    exact ⟨this.1.imp (hXZ b) id, this.2⟩

theorem ItI_stb {J : List Rw → World → (Nat → Prop) → Prop} (hJ : Stb J) {f : List Rw → List Rw} {S X R : Nat → Prop} {w : World} {C : List Rw → World → Prop} (hR : ∀ b, R b → b < w.heap.size)
    (hC : ∀ pre W W' F, C pre W → Mod F W W' → (∀ b, S b → ¬ F b) → C pre W') : Stb (ItI J f S X R w C) := by
  rintro pre W W' Y Y' ⟨Z, hj, hYZ, hZa, hXZ, hSZ, hSY, hYR, hc, hm⟩ hmY hYY hYn
  have hs := hmY.size
  refine ⟨fun b => Z b ∨ Y' b, hJ _ _ _ Z _ hj (hmY.mono hYZ) (fun b h => .inl h) (growZ hYn hs hYZ hZa), fun b h => .inr h, fun b h => (growZ hYn hs hYZ hZa b h).2, fun b h => .inl (hXZ b h), fun b h => .inl (hSZ b h), fun b h h2 => ?_, fun b h h2 => ?_, hC _ _ _ _ hc hmY hSY, hm.trans (hmY.mono (fun b h => hYR b h))⟩
  · rcases (hYn b h2).1 with h3 | h3
    · exact hSY b h h3
    · have := hZa b (hSZ b h)
      omega
  · rcases (hYn b h).1 with h3 | h3
    · exact hYR b h3 h2
    · have := hR b h2
      have := hm.size
      omega
theorem ItX_stb {Jx : List Rw → World → (Nat → Prop) → Prop} (hJ : Stb Jx) {f : List Rw → List Rw} {X : Nat → Prop} (c : Code) : Stb (ItX Jx f X c) := by
  rintro pre W W' Y Y' ⟨e, Z, hj, hYZ, hZa, hXZ⟩ hmY hYY hYn
  have hs := hmY.size
  exact ⟨e, fun b => Z b ∨ Y' b, hJ _ _ _ Z _ hj (hmY.mono hYZ) (fun b h => .inl h) (growZ hYn hs hYZ hZa), fun b h => .inr h, fun b h => (growZ hYn hs hYZ hZa b h).2, fun b h => .inl (hXZ b h)⟩

/-- the loop's variable lies in a box -/
def RowBox (lo : Nat) (mk : Nat → Act) (x : Rw) (a' : Act) (W : World) (Y : Nat → Prop) : Prop := ∃ B, lo ≤ B ∧ B < W.heap.size ∧ rowCells W B 0 x ∧ ¬ Y B ∧ a' = mk B
theorem RowBox_stb (lo : Nat) (mk : Nat → Act) (x : Rw) (a' : Act) : Stb (fun (_ : Unit) => RowBox lo mk x a') := by
  rintro _ W W' Y Y' ⟨B, hlo, hB, hr, hY, e⟩ hm hYY hYn
  have hs := hm.size
  refine ⟨B, hlo, by omega, rowCells_mod hm hY hr, fun h => ?_, e⟩
  rcases (hYn B h).1 with h3 | h3
  · exact hY h3
  · omega

/-- lastAt's own: what was told last, and yield -/
def LastC (v : Int) (l T Yb : Nat) (pre : List Rw) (W : World) : Prop :=
  W.cell? ⟨T, 0, none⟩ = some (.string (lastS v pre).1) ∧ W.frozen? ⟨T, 0, none⟩ = false ∧ W.cell? ⟨Yb, 0, none⟩ = some (.func (.yield l) #[] #[])
theorem LastC_mod {v : Int} {l T Yb : Nat} {pre : List Rw} {W W' : World} {F : Nat → Prop} (h : LastC v l T Yb pre W) (hm : Mod F W W') (h1 : ¬ F T) (h2 : ¬ F Yb) : LastC v l T Yb pre W' := by
  have hl := World.block_lt_of_cell? _ _ h.1
  dsimp only at hl
  exact ⟨hm.cell h.1 h1, (hm.frozen (a := ⟨T, 0, none⟩) hl h1).trans h.2.1, hm.cell h.2.2 h2⟩

set_option maxRecDepth 100000 in
set_option maxHeartbeats 4000000 in
theorem lastAt_seq (B1 B2 : Nat) (sv : Value) (xs : List Rw) (v : Int) (R : Nat → Prop) (w : World) (hRa : ∀ b, R b → b < w.heap.size) (h1 : w.cell? ⟨B1, 0, none⟩ = some sv) (h1' : w.cell? ⟨B1, 1, none⟩ = some cmpF) (h2 : w.cell? ⟨B2, 0, none⟩ = some (.int .i64 v))
    (hR1 : R B1) (hR2 : R B2) (hT : TabAt R w sv xs) (hn : xs.length ≤ 200) :
    Seqx Tryz.prog 175 #[.pointer (some ⟨B1, 0, none⟩), .pointer (some ⟨B2, 0, none⟩)] rowV (lastL v xs) R w := by
  intro l J Jx W X hm hXa hJ hJx hY h0
  have hT2 := hT.mod hm (fun b hb h => h hb)
  obtain ⟨a, cap, rfl, hc1, hc2, hrow⟩ := hT
  have k1 := hm.cell h1 (fun h => h hR1)
  have k1' := hm.cell h1' (fun h => h hR1)
  have k2 := hm.cell h2 (fun h => h hR2)
  have z1 := World.block_lt_of_cell? _ _ k1
  have z2 := World.block_lt_of_cell? _ _ k2
  dsimp only at z1 z2
  unfold cmpF at k1'
  generalize hN : xs.length = n at *
  have HN : Hid (xs.length = n) := hN
  clear hN hrow
  refine callsIn_of_wp_marks Tryz.func175 rfl trivial ?_ rfl
  simp only [Tryz.ntmps175, List.size_toArray, List.length_cons, List.length_nil, Nat.reduceAdd, Nat.reduceSub, Array.replicate_succ, Array.replicate_zero, List.push_toArray, List.append_toArray, List.nil_append, List.cons_append]
  gi_wp2
  refine ⟨trivial, rfl, (callsIn_wide.2 (all_any _ _ _ _)).mono ?_⟩
  rintro e w' ⟨rfl, hw'⟩
  have hM2 : ∀ F, Mod F W w' := fun F => by rw [hw']; exact (((mod_alloc F W _).alloc _).alloc _).alloc _
  have s2 : w'.heap.size = W.heap.size + 4 := by rw [hw']; simp
  have c1 : w'.cell? ⟨W.heap.size, 0, none⟩ = some (.func (.yield l) #[] #[]) := by rw [hw']; simp [go_sem]
  have c2 : w'.cell? ⟨W.heap.size + 1, 0, none⟩ = some (.string ⟨#[]⟩) := by rw [hw']; simp [go_sem]
  have c2f : w'.frozen? ⟨W.heap.size + 1, 0, none⟩ = false := by rw [hw']; simp [go_sem]
  have c3 : w'.cell? ⟨W.heap.size + 3, 0, none⟩ = some (.slice a n cap) := by rw [hw']; simp [go_sem]
  simp only [World.size_alloc]
  clear hw'
  gi_wp2
  have s0 := hm.size
  have hlen : xs.length ≤ 200 := by rw [HN.out]; exact hn
  obtain ⟨N, hN⟩ : ∃ N, W.heap.size = N := ⟨_, rfl⟩
  rw [hN] at c1 c2 c2f c3 s2 z1 z2 s0 hXa ⊢
  have hseq := values_seq (N + 3) (.slice a n cap) xs (fun b => R b ∨ b = N + 3) w' c3 (.inr rfl) ((hT2.mod (hM2 (fun _ => False)) (fun _ _ h => h)).wide (fun b h => .inl h)) hlen
  refine wp_rangeX (gf := 161) rfl (enters_of Tryz.func161 (by kernel_rfl) rfl) hseq (fun b h => ?hR)
    (ItI J (lastL v) (fun b => b = N ∨ b = N + 1 ∨ b = N + 3) X R w (LastC v l (N + 1) N)) (ItX Jx (lastL v) X)
    (ItI_stb hJ hRa (fun pre A B F h hm hF => LastC_mod h hm (hF _ (.inr (.inl rfl))) (hF _ (.inl rfl)))) (ItX_stb hJx) (fun _ => False) (fun _ h => h.elim) ?start
    (fun x => RowBox (N + 4) (fun B => { tmps := #[.func (.yield l) #[] #[], .pointer (some ⟨B1, 0, none⟩), .pointer (some ⟨B2, 0, none⟩), .pointer (some ⟨N, 0, none⟩), .pointer (some ⟨N + 1, 0, none⟩), .pointer (some ⟨B, 0, none⟩), .pointer (some ⟨B1, 0, none⟩), .agg #[.slice a n cap, .func (.func 75) #[] #[]], .func (.func 161) #[] #[.pointer (some ⟨N + 1 + 1 + 1, 0, none⟩)], .agg #[.string x.key, .int .i64 x.ver, .string x.val, .bool x.gone], undef, undef, undef, undef, undef, undef, undef, undef, undef, undef, undef, undef, undef, undef, undef, undef], defers := [] }) x)
    (fun x a' => RowBox_stb _ _ x a') ?assign ?body ?done ?stop
  case hR =>
    rcases h with h | rfl
    · have := hRa b h
      omega
    · omega
  case start =>
    refine ⟨fun b => X b ∨ b = N ∨ b = N + 1 ∨ b = N + 3, hJ _ _ _ X _ h0 (hM2 X) (fun b h => .inl h) (fun b h => ?_), fun _ h => h.elim, fun b h => ?_, fun b h => .inl h, fun b h => .inr h, fun b h h2 => h2, fun b h => h.elim, ⟨c2, c2f, c1⟩, hm.trans (hM2 _)⟩
    · rw [hN]
      rcases h with h | h
      · exact ⟨.inl h, by have := hXa b h; omega⟩
      · exact ⟨.inr (by omega), by omega⟩
    · rcases h with h | h
      · have := hXa b h
        omega
      · omega
  case assign =>
    intro l2 pre x W3 Y K hi hYl hYa hK
    unfold rowV
    gi_wp2
    have hlo : N + 3 < W3.heap.size := by
      obtain ⟨Z, _, _, hZa, _, hSZ, _⟩ := hi
      exact hZa _ (hSZ _ (.inr (.inr rfl)))
    refine hK _ _ (mod_alloc _ _ _) ⟨W3.heap.size, hlo, by simp, by unfold rowCells; simp [go_sem], fun h => ?_, rfl⟩
    have := hYa _ h
    omega
  case body =>
    rintro l2 pre x a' W3 Y hYl hYa ⟨Z, hj, hYZ, hZa, hXZ, hSZ, hSY, hYR, ⟨t1, t2, t3⟩, hmw⟩ ⟨B, hlo, hB, hr, hYB, rfl⟩ hpre
    have kv := hmw.cell h2 (fun h => h hR2)
    obtain ⟨r0, r1, r2, r3⟩ := hr
    simp only [Nat.zero_add] at r1 r2 r3
    have HS : Hid (∀ (told : ByteArray), (lastS v pre).1 = told → v < x.ver ∨ x.key = told → lastS v (pre ++ [x]) = lastS v pre) := fun told e h => lastL_skip (by rw [e]; exact h)
    have HT : Hid (∀ (told : ByteArray), (lastS v pre).1 = told → ¬ (v < x.ver ∨ x.key = told) → lastS v (pre ++ [x]) = (x.key, lastL v pre ++ [x])) := fun told e h => lastL_take (by rw [e]; exact h)
    generalize htold : (lastS v pre).1 = told at t1
    have HTD : Hid ((lastS v pre).1 = told) := htold
    clear htold
    have HI : Hid (lastS v (pre ++ [x]) = lastS v pre → ItI J (lastL v) (fun b => b = N ∨ b = N + 1 ∨ b = N + 3) X R w (LastC v l (N + 1) N) (pre ++ [x]) W3 Y) := fun e => by
      refine ⟨Z, ?_, hYZ, hZa, hXZ, hSZ, hSY, hYR, ⟨?_, t2, t3⟩, hmw⟩
      · unfold lastL
        rw [e]
        exact hj
      · rw [e, HTD.out]
        exact t1
    by_cases hver : v < x.ver
    · have hd1 : decide (v < x.ver) = true := decide_eq_true hver
      gi_wp2
      exact ⟨Mod.refl _ _, HI.out (HS.out _ HTD.out (.inl hver))⟩
    · have hd1 : decide (v < x.ver) = false := decide_eq_false hver
      by_cases hkey : x.key = told
      · have hd2 : (x.key.toList == told.toList) = true := by rw [hkey]; simp
        gi_wp2
        exact ⟨Mod.refl _ _, HI.out (HS.out _ HTD.out (.inr hkey))⟩
      · have hd2 : (x.key.toList == told.toList) = false := by rw [beq_eq_false_iff_ne, Ne, tl_inj]; exact hkey
        have hd3 : ¬ x.key.toList = told.toList := by rw [tl_inj]; exact hkey
        have HE : Hid (lastS v (pre ++ [x]) = (x.key, lastL v pre ++ [x])) := HT.out _ HTD.out (fun h => h.elim hver hkey)
        have hTlt := World.block_lt_of_cell? _ _ t1
        dsimp only at hTlt
        have hset : Mod (fun b => b = N + 1) W3 (W3.setCell ⟨N + 1, 0, none⟩ (.string x.key)) := Mod.of_set W3 ⟨N + 1, 0, none⟩ (.string x.key)
        have hj4 : J (lastL v pre) (W3.setCell ⟨N + 1, 0, none⟩ (.string x.key)) Z := hJ _ _ _ Z Z hj (hset.mono (fun b h => hSZ b (.inr (.inl h)))) (fun _ h => h) (fun b h => ⟨.inl h, by have := hZa b h; have := hset.size; omega⟩)
        obtain ⟨fn, tmps, assign, body, hy, hR3⟩ := hY _ x _ Z hj4 hXZ (fun b h => by have := hZa b h; have := hset.size; omega) (by have h := lastL_pre (v := v) hpre; unfold lastL at h; rw [HE.out] at h; exact h)
        unfold rowV at hy
        have hNB : B ≠ N + 1 := by omega
        have hNB2 : ¬ N + 1 = B := by omega
        have q1 : (W3.setCell ⟨N + 1, 0, none⟩ (.string x.key)).cell? ⟨N + 1, 0, none⟩ = some (.string x.key) := set_same t1
        have q2 : (W3.setCell ⟨N + 1, 0, none⟩ (.string x.key)).frozen? ⟨N + 1, 0, none⟩ = false := by rw [World.frozen?_setCell]; exact t2
        have q3 : (W3.setCell ⟨N + 1, 0, none⟩ (.string x.key)).cell? ⟨N, 0, none⟩ = some (.func (.yield l) #[] #[]) := hset.cell t3 (fun h => absurd h (by simp))
        have q4 := hset.size
        gi_wp2
        refine ⟨rfl, RoundIn.mono (show RoundIn (Fence.wide.inRound l2) 0 Tryz.prog l fn tmps assign body _ _ from hR3) ?_⟩
        have hNR : ¬ ((R (N + 1) ∨ N + 1 = N + 3) ∨ Y (N + 1)) := by
          rintro ((h | h) | h)
          · have := hRa _ h
            omega
          · omega
          · exact hSY _ (.inr (.inl rfl)) h
        have kp : ∀ W5, Kp R Z (W3.setCell ⟨N + 1, 0, none⟩ (.string x.key)) W5 → Kp (fun b => R b ∨ b = N + 3) Y W3 W5 := fun W5 hk5 =>
          (hset.mono (fun b h => by rw [h]; exact hNR)).trans (hk5.mono (fun b h => by
            rintro ((h2 | h2) | h2)
            · exact h (.inl h2)
            · exact h (.inr (hSZ _ (.inr (.inr h2))))
            · exact h (.inr (hYZ _ h2))))
        rintro e W5 (⟨rfl, hJ5, hk5⟩ | ⟨rfl, hJx5, hk5⟩)
        · have q5 := hk5.size
          have c1' := hk5.cell q1 (fun h => h (.inr (hSZ _ (.inr (.inl rfl)))))
          have c2' := (hk5.frozen (a := ⟨N + 1, 0, none⟩) (by dsimp only; omega) (fun h => h (.inr (hSZ _ (.inr (.inl rfl)))))).trans q2
          have c3' := hk5.cell q3 (fun h => h (.inr (hSZ _ (.inl rfl))))
          gi_wp2
          refine ⟨kp _ hk5, Z, ?_, hYZ, fun b h => by have := hZa b h; omega, hXZ, hSZ, hSY, hYR, ⟨?_, c2', c3'⟩, (hmw.trans (hset.mono (fun b h => by rw [h]; exact fun hr => hNR (.inl (.inl hr))))).trans (hk5.mono (fun b h hr => h (.inl hr)))⟩
          · unfold lastL
            rw [HE.out]
            exact hJ5
          · rw [HE.out]
            exact c1'
        · have q5 := hk5.size
          gi_wp2
          refine ⟨kp _ hk5, rfl, Z, ?_, hYZ, fun b h => by have := hZa b h; omega, hXZ⟩
          unfold lastL
          rw [HE.out]
          exact hJx5
  case done =>
    rintro D W3 Y hD hYD hi hdef
    obtain ⟨Z, hj, hYZ, hZa, hXZ, hSZ, hSY, hYR, _, hmw⟩ := hi
    gi_wp2
    refine ⟨by simp, .inl ⟨_, _, rfl, run_takeDeferred hdef, ?_⟩⟩
    refine ⟨_, results_none rfl _ _ _, ⟨_, rfl⟩, Z, hXZ, .inl ?_⟩
    exact hJ _ _ _ Z Z hj ((mod_put _ _ _).mono (fun b h => by rw [h]; exact hYZ _ hYD)) (fun _ h => h) (fun b h => ⟨.inl h, by have := hZa b h; simpa [World.putObj] using this⟩)
  case stop =>
    rintro D c pre W3 Y hD hYD hpre ⟨rfl, Z, hj, hYZ, hZa, hXZ⟩ hdef
    gi_wp2
    refine ⟨by simp, .inl ⟨_, _, rfl, run_takeDeferred hdef, ?_⟩⟩
    refine ⟨_, results_none rfl _ _ _, ⟨_, rfl⟩, Z, hXZ, .inr ⟨_, lastL_pre hpre, ?_⟩⟩
    exact hJx _ _ _ Z Z hj ((mod_put _ _ _).mono (fun b h => by rw [h]; exact hYZ _ hYD)) (fun _ h => h) (fun b h => ⟨.inl h, by have := hZa b h; simpa [World.putObj] using this⟩)

end Go.Proofs.YtdfapehonegeeaaGreat


/-
  The program's TableFault. (src.py writes the template.)
-/
import Derived.Test.YtaahmmadcdfcpaaTabB
import Derived.Shelf.Abstract
namespace Go.Proofs.Ytaahmmadcdfcpaa
open Go.RowKit
set_option linter.unusedSectionVars false
variable [DecidableEq Rw] [Inhabited Rw]
set_option linter.unusedVariables false
attribute [local go_sem ↓] Go.wp_at_zero Go.wp_at_succ

theorem run_store_func (P : Program) (w : World) (a : Addr) (m : Mode) (f : Fn) (r b : Array Value) : (store a (.func f r b) m).run P w = stored P w a (.func f r b) m := run_store P w a _ m rfl
attribute [local go_sem] run_store_func

/-- the order of rows, as a function value -/
def cmpF : Value := .func (.func 70) #[] #[]

set_option maxHeartbeats 400000 in
theorem tableOf_any (a : Option Addr) (n c : Nat) (w : World) :
    Calls Try.prog 30 #[.slice a n c] w fun e w' => e = .returned (.agg #[.slice a n c, cmpF]) ∧ Below w.heap.size w w' := by
  go_enter Try.func30, Try.ntmps30
  go_wp2
  exact bodyPost_ret (v := .agg #[.slice a n c, cmpF]) (by simp [results, Try.results30, go_sem, cmpF]) rfl ⟨rfl, balloc (Below.refl _ _) _⟩

set_option maxHeartbeats 1000000 in
theorem ends_nil (a : Option Addr) (c : Nat) (y : Rw) (w : World) :
    Calls Try.prog 69 #[.agg #[.slice a 0 c, cmpF], rowV y] w fun e w' => e = .returned (.bool true) ∧ Below w.heap.size w w' := by
  unfold rowV cmpF
  go_enter Try.func69, Try.ntmps69
  go_wp2
  go_quiet (fail)
  go_wp2
  go_ret
  exact ⟨rfl, bdrN (balloc (balloc (Below.refl _ _) _) _) _⟩

theorem endsKeep {w w' : World} {b o b' o' : Nat} {x y : Rw} {a1 a2 : Addr} {u1 u2 : Value} (hb : Below w.heap.size w w') (h : rowCells w b o x) (h' : rowCells w b' o' y) (g1 : w.cell? a1 = some u1) (g2 : w.cell? a2 = some u2) :
    Below w.heap.size w w' ∧ (w'.cell? ⟨b, o, none⟩ = some (.string x.key) ∧ w'.cell? ⟨b, o + 1, none⟩ = some (.int .i64 x.ver) ∧ w'.cell? ⟨b, o + 2, none⟩ = some (.string x.val) ∧ w'.cell? ⟨b, o + 3, none⟩ = some (.bool x.gone)) ∧ (w'.cell? ⟨b', o', none⟩ = some (.string y.key) ∧ w'.cell? ⟨b', o' + 1, none⟩ = some (.int .i64 y.ver) ∧ w'.cell? ⟨b', o' + 2, none⟩ = some (.string y.val) ∧ w'.cell? ⟨b', o' + 3, none⟩ = some (.bool y.gone)) ∧ w'.cell? a1 = some u1 ∧ w'.cell? a2 = some u2 :=
  ⟨hb, rowCells_below hb h, rowCells_below hb h', cell_keep hb g1, cell_keep hb g2⟩

set_option maxHeartbeats 1000000 in
theorem ends_any (b o n m c : Nat) (x y : Rw) (w : World) (hn : n = m + 1) (hc : n ≤ c) (hm : n ≤ 200) (hx : rowCells w b (o + m * 4) x) :
    Calls Try.prog 69 #[.agg #[.slice (some ⟨b, o, none⟩) n c, cmpF], rowV y] w fun e w' => e = .returned (.bool (ahead x y)) ∧ Below w.heap.size w w' := by
  unfold rowV cmpF
  have hlt : b < w.heap.size := World.block_lt_of_cell? _ _ hx.1
  have hi1 : IntKind.i64.wrap ((n : Int) - 1) = (m : Int) := by rw [IntKind.wrap_i64]; omega
  have hi3 : decide ((m : Int) < 0) = false := decide_eq_false (by omega)
  have hi4 : (0 : Int) ≤ m := by omega
  have hi5 : (m : Int) < n := by omega
  have eg := enters_of Try.func70 (by kernel_rfl) rfl
  clear hn
  go_enter Try.func69, Try.ntmps69
  go_wp2
  obtain ⟨W0, hW0⟩ : ∃ W0, (w.alloc (.cells #[.slice (some ⟨b, o, none⟩) n c, .func (.func 70) #[] #[]] 76)).alloc (.cells #[.string y.key, .int .i64 y.ver, .string y.val, .bool y.gone] 38) = W0 := ⟨_, rfl⟩
  have hB0 : Below w.heap.size w W0 := by rw [← hW0]; exact balloc (balloc (Below.refl _ _) _) _
  have r1 : rowCells W0 b (o + m * 4) x := rowCells_below hB0 hx
  have r2 : rowCells W0 (w.heap.size + 1) 0 y := by rw [← hW0]; unfold rowCells; simp [go_sem]
  have q0 : W0.cell? ⟨w.heap.size, 0, none⟩ = some (.slice (some ⟨b, o, none⟩) n c) := by rw [← hW0]; simp [go_sem]
  have q1 : W0.cell? ⟨w.heap.size, 1, none⟩ = some (.func (.func 70) #[] #[]) := by rw [← hW0]; simp [go_sem]
  rw [hW0]
  clear hW0 hx
  go_region_held3 (fun w' => Below W0.heap.size W0 w' ∧ (w'.cell? ⟨b, o + m * 4, none⟩ = some (.string x.key) ∧ w'.cell? ⟨b, o + m * 4 + 1, none⟩ = some (.int .i64 x.ver) ∧ w'.cell? ⟨b, o + m * 4 + 2, none⟩ = some (.string x.val) ∧ w'.cell? ⟨b, o + m * 4 + 3, none⟩ = some (.bool x.gone)) ∧ (w'.cell? ⟨w.heap.size + 1, 0, none⟩ = some (.string y.key) ∧ w'.cell? ⟨w.heap.size + 1, 0 + 1, none⟩ = some (.int .i64 y.ver) ∧ w'.cell? ⟨w.heap.size + 1, 0 + 2, none⟩ = some (.string y.val) ∧ w'.cell? ⟨w.heap.size + 1, 0 + 3, none⟩ = some (.bool y.gone)) ∧ w'.cell? ⟨w.heap.size, 0, none⟩ = some (.slice (some ⟨b, o, none⟩) n c) ∧ w'.cell? ⟨w.heap.size, 1, none⟩ = some (.func (.func 70) #[] #[]))
    ((refine endsKeep ?_ r1 r2 q0 q1; repeat (first | exact Below.refl _ _ | assumption | refine Below.drew ?_ | refine balloc ?_ _ | refine bstep ?_ (by assumption))))
    (first | (go_at_call 70; refine (compareRows_any x y _).mono ?_; rintro e w' ⟨rfl, hb1⟩))
  rename_i hH
  have hB := bstep hB0 hH.1
  clear hH
  go_wp2
  go_ret
  exact ⟨rfl, hB⟩

theorem tableField (a : Option Addr) (n c : Nat) (w : World) : (Instr.field 78 (.agg #[.slice a n c, .func (.func 70) #[] #[]]) 0).run Try.prog w = .ok (.agg #[.slice a n c, .func (.func 70) #[] #[]]) w := by kernel_rfl

theorem tabKeep {w w' : World} {b o : Nat} {y : Rw} (hb : Below w.heap.size w w') (h' : rowCells w b o y) :
    Below w.heap.size w w' ∧ w'.cell? ⟨b, o, none⟩ = some (.string y.key) ∧ w'.cell? ⟨b, o + 1, none⟩ = some (.int .i64 y.ver) ∧ w'.cell? ⟨b, o + 2, none⟩ = some (.string y.val) ∧ w'.cell? ⟨b, o + 3, none⟩ = some (.bool y.gone) :=
  ⟨hb, rowCells_below hb h'⟩

set_option maxHeartbeats 2000000 in
theorem implTableFault_any (x : Value) (xs : List Rw) (w : World) (hx : RowsV w x xs) :
    Calls Try.prog 29 #[x] w fun e w' => e = .returned (.int .i64 (tabF xs)) ∧ Below w.heap.size w w' := by
  obtain ⟨ax, cx, rfl, hcx, hmx, hx⟩ := hx
  unfold maxLen at hmx
  by_cases hn : 200 < xs.length
  · have e : tabF xs = 2 := by unfold tabF; rw [if_pos hn]
    rw [e]
    clear e hx
    generalize xs.length = n at *
    have h1 : (200 : Int) < n := by omega
    go_enter Try.func29, Try.ntmps29
    go_wp2
    go_ret
    exact ⟨rfl, Below.refl _ _⟩
  have HZ : Hid ((∀ j, j < xs.length → tabAt xs j = 0) → tabF xs = 0) := tabF_zero (by omega)
  have HC : Hid (∀ k, k < xs.length → (∀ j, j < k → tabAt xs j = 0) → tabAt xs k ≠ 0 → tabF xs = tabAt xs k) := fun k hk h hc => tabF_at (by omega) hk h hc
  generalize xs.length = n at *
  have h1 : ¬ (200 : Int) < n := by omega
  go_enter Try.func29, Try.ntmps29
  go_wp2
  go_loopw [11] (fun i w' => ∃ k : Nat, k ≤ n ∧ i = .int .i64 k ∧ Hid (∀ j, j < k → tabAt xs j = 0) ∧ Below w.heap.size w w') (fun i _ => n - (intOf i).toNat)
  case atStart => exact ⟨0, Nat.zero_le _, rfl, fun j h => absurd h (Nat.not_lt_zero _), Below.refl _ _⟩
  case round =>
    obtain ⟨k, hk, rfl, HP, hbl⟩ := hrel
    by_cases hlt : k < n
    · obtain ⟨bx, ox, rfl, h2⟩ := hx k hlt
      have HC2 : Hid (tabAt xs k ≠ 0 → tabF xs = tabAt xs k) := fun hc => HC.out k hlt HP.out hc
      have HK : Hid (tabAt xs k = if rowFault (xs.getD k default) ≠ 0 then rowFault (xs.getD k default) else if 0 < k ∧ ahead (xs.getD (k - 1) default) (xs.getD k default) = false then 1 else 0) := rfl
      have HX : Hid (∀ i, i < n → ∃ b o, some (⟨bx, ox, none⟩ : Addr) = some ⟨b, o, none⟩ ∧ rowCells w b (o + i * 4) (xs.getD i default)) := hx
      obtain ⟨l, hl⟩ : ∃ l, l = xs.getD k default := ⟨_, rfl⟩
      rw [← hl] at h2 HK
      clear hl hx HC HZ
      obtain ⟨a0, a1, a2, a3⟩ := rowCells_below hbl h2
      go_wp2_with fail
      refine (implRowFault_any l _).mono ?_
      rintro e wa ⟨rfl, hba⟩
      have r0 : rowCells wa wr.heap.size 0 l := rowCells_below hba (by unfold rowCells; simp [go_sem])
      have hB : Below w.heap.size w wa := by (repeat (first | exact Below.refl _ _ | assumption | refine Below.drew ?_ | refine balloc ?_ _ | refine bset ?_ (by simp; omega) _ | refine bset ?_ (by simp) _ | refine bstep ?_ (by assumption)))
      clear hba
      by_cases hf : rowFault l = 0
      · rw [hf]
        have HK2 : Hid (tabAt xs k = if 0 < k ∧ ahead (xs.getD (k - 1) default) l = false then 1 else 0) := by
          rw [Hid, HK.out, if_neg (by simp [hf])]
        clear hf HK a0 a1 a2 a3
        have hi5 : (0 : Int) ≤ k := by omega
        have hi6 : (k : Int) ≤ cx := by omega
        have hfd := tableField
        by_cases hk0 : k = 0
        · subst hk0
          go_wp2
          go_region_held3 (fun w' => Below wa.heap.size wa w' ∧ w'.cell? ⟨wr.heap.size, 0, none⟩ = some (.string l.key) ∧ w'.cell? ⟨wr.heap.size, 0 + 1, none⟩ = some (.int .i64 l.ver) ∧ w'.cell? ⟨wr.heap.size, 0 + 2, none⟩ = some (.string l.val) ∧ w'.cell? ⟨wr.heap.size, 0 + 3, none⟩ = some (.bool l.gone)) ((refine tabKeep ?_ r0; repeat (first | exact Below.refl _ _ | assumption | refine Below.drew ?_ | refine balloc ?_ _ | refine bstep ?_ (by assumption))))
            (first | (go_at_call 30; refine (tableOf_any _ _ _ _).mono ?_; rintro e wt ⟨rfl, hbt⟩; unfold cmpF) | (go_at_call 69; refine (ends_nil _ _ l _).mono ?_; rintro e w' ⟨rfl, hb1⟩))
          rename_i hH
          have hB2 := bstep hB hH.1
          clear hH
          go_wp2
          refine ⟨⟨1, by omega, by go_num, fun j hj => ?_, hB2⟩, by simp [intOf]; omega⟩
          have : j = 0 := by omega
          subst this
          rw [HK2.out]
          simp
        · obtain ⟨m, hm⟩ : ∃ m, k - 1 = m := ⟨_, rfl⟩
          obtain ⟨bp, op, ep, h3⟩ := HX.out m (by omega)
          simp only [Option.some.injEq, Addr.mk.injEq, and_true] at ep
          obtain ⟨rfl, rfl⟩ := ep
          rw [hm] at HK2
          obtain ⟨l2, hl2⟩ : ∃ l, l = xs.getD m default := ⟨_, rfl⟩
          rw [← hl2] at h3 HK2
          have HM : Hid (0 < k) := by rw [Hid]; omega
          have hkm : k = m + 1 := by omega
          have HKM : Hid (k = m + 1) := hkm
          have hk200 : k ≤ 200 := by omega
          have hkcx : k ≤ cx := by omega
          clear hl2 HX hm hk0 hkm
          have r2 := rowCells_below hB h3
          have HT : Hid (∀ b, ahead l2 l = b → tabAt xs k = if b = false then 1 else 0) := fun b hb => by
            rw [HK2.out, hb]
            have := HM.out
            simp [this]
          clear HK2 h2 h3
          cases hah : ahead l2 l
          all_goals
            have HT2 : Hid _ := HT.out _ hah
            go_wp2
            go_region_held3 (fun w' => Below wa.heap.size wa w' ∧ w'.cell? ⟨wr.heap.size, 0, none⟩ = some (.string l.key) ∧ w'.cell? ⟨wr.heap.size, 0 + 1, none⟩ = some (.int .i64 l.ver) ∧ w'.cell? ⟨wr.heap.size, 0 + 2, none⟩ = some (.string l.val) ∧ w'.cell? ⟨wr.heap.size, 0 + 3, none⟩ = some (.bool l.gone)) ((refine tabKeep ?_ r0; repeat (first | exact Below.refl _ _ | assumption | refine Below.drew ?_ | refine balloc ?_ _ | refine bstep ?_ (by assumption))))
              (first | (go_at_call 30; refine (tableOf_any _ _ _ _).mono ?_; rintro e wt ⟨rfl, hbt⟩; unfold cmpF) | (go_at_call 69; refine (ends_any _ _ k m _ l2 l _ HKM.out hkcx hk200 (rowCells_below (by repeat (first | exact Below.refl _ _ | assumption | refine Below.drew ?_ | refine balloc ?_ _ | refine bstep ?_ (by assumption))) r2)).mono ?_; rintro e w' ⟨rfl, hb1⟩; rw [hah]))
            rename_i hH
            have hB2 := bstep hB hH.1
            clear hH
            go_wp2
          · go_ret
            have hC := HC2.out (by rw [HT2.out]; simp)
            rw [HT2.out] at hC
            refine ⟨?_, hB2⟩
            rw [hC]
            rfl
          · refine ⟨⟨k + 1, by omega, by go_num, fun j hj => ?_, hB2⟩, by simp [intOf]; omega⟩
            by_cases hj2 : j < k
            · exact HP.out j hj2
            · have : j = k := by omega
              subst this
              rw [HT2.out]
              simp
      · have hf' : ((rowFault l : Int) == 0) = false := by rw [beq_eq_false_iff_ne]; exact hf
        have hK := HK.out
        rw [if_pos hf] at hK
        have hC := HC2.out (by rw [hK]; exact hf)
        have HE : Hid (tabF xs = rowFault l) := hC.trans hK
        clear hK hC
        go_wp2
        go_ret
        refine ⟨?_, hB⟩
        rw [HE.out]
        rfl
    · have hkn : k = n := by omega
      subst hkn
      have HE : Hid (tabF xs = 0) := HZ.out HP.out
      go_wp2
      go_ret
      refine ⟨?_, hbl⟩
      rw [HE.out]
      rfl

end Go.Proofs.Ytaahmmadcdfcpaa

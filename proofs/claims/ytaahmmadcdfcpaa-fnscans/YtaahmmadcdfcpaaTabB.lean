/-
  The order of rows, on both sides. (Written by program: tab_gen2.py.)
-/
import Derived.Test.YtaahmmadcdfcpaaTabA
import Derived.Lib.Bytealg
import Derived.Lib.Walk
namespace Go.Proofs.Ytaahmmadcdfcpaa
open Go.RowKit
set_option linter.unusedSectionVars false
variable [DecidableEq Rw] [Inhabited Rw]
attribute [local go_sem ↓] Go.wp_at_zero Go.wp_at_succ

theorem bdrN {B : Nat} {w Y : World} (h : Below B w Y) (n : Nat) : Below B w (Y.drewN n) := h.trans ⟨rfl, rfl, rfl, Nat.le_refl _, fun _ _ => rfl⟩
/-- how two texts stand to each other: below 0: the first stands ahead -/
def cmpB (a b : ByteArray) : Int := Lib.compareBytes a.data.toList b.data.toList
def cmpI (x y : Int) : Int := if x < y then -1 else if y < x then 1 else 0
def orI (x y : Int) : Int := if x = 0 then y else x
def cmpR (a b : Rw) : Int := orI (cmpB a.key b.key) (cmpI b.ver a.ver)

theorem compareBytes_zero : ∀ a b : List UInt8, Lib.compareBytes a b = 0 ↔ a = b
  | [], [] => by simp [Lib.compareBytes]
  | [], _ :: _ => by simp [Lib.compareBytes]
  | _ :: _, [] => by simp [Lib.compareBytes]
  | x :: a, y :: b => by
    unfold Lib.compareBytes
    by_cases h1 : x < y
    · rw [if_pos h1]
      have : ¬ x = y := fun e => by subst e; exact UInt8.lt_irrefl x h1
      simp [this]
    · rw [if_neg h1]
      by_cases h2 : y < x
      · rw [if_pos h2]
        have : ¬ x = y := fun e => by subst e; exact UInt8.lt_irrefl x h2
        simp [this]
      · rw [if_neg h2, compareBytes_zero a b]
        have : x = y := UInt8.le_antisymm (UInt8.not_lt.1 h2) (UInt8.not_lt.1 h1)
        simp [this]
theorem bytesLess_cmp : ∀ a b : List UInt8, Op.bytesLess a b = decide (Lib.compareBytes a b < 0)
  | [], [] => by simp [Lib.compareBytes, Op.bytesLess]
  | [], _ :: _ => by simp [Lib.compareBytes, Op.bytesLess]
  | _ :: _, [] => by simp [Lib.compareBytes, Op.bytesLess]
  | x :: a, y :: b => by
    unfold Lib.compareBytes Op.bytesLess
    by_cases h1 : x < y
    · rw [if_pos h1]
      simp [h1]
    · rw [if_neg h1]
      by_cases h2 : y < x
      · rw [if_pos h2]
        have : ¬ x = y := fun e => by subst e; exact UInt8.lt_irrefl x h2
        simp [this, h1]
      · rw [if_neg h2, bytesLess_cmp a b]
        have : x = y := UInt8.le_antisymm (UInt8.not_lt.1 h2) (UInt8.not_lt.1 h1)
        simp [this]
theorem cmpB_zero (a b : ByteArray) : cmpB a b = 0 ↔ a = b := by
  unfold cmpB
  rw [compareBytes_zero]
  exact ⟨fun h => by cases a; cases b; simp only at h; rw [Array.toList_inj.1 h], fun h => by rw [h]⟩
theorem cmpB_neg (a b : ByteArray) : Op.bytesLess a.toList b.toList = decide (cmpB a b < 0) := by
  unfold cmpB
  rw [bytesLess_cmp, ByteArray.toList_eq, ByteArray.toList_eq]

/-- the first stands ahead of the second -/
def ahead (a b : Rw) : Bool := decide (cmpR a b < 0)
theorem ahead_key {a b : Rw} (h : a.key ≠ b.key) : ahead a b = Op.bytesLess a.key.toList b.key.toList := by
  unfold ahead cmpR orI
  rw [if_neg (fun e => h ((cmpB_zero _ _).1 e))]
  rw [cmpB_neg]
theorem ahead_ver {a b : Rw} (h : a.key = b.key) : ahead a b = decide (b.ver < a.ver) := by
  unfold ahead cmpR orI
  rw [if_pos ((cmpB_zero _ _).2 h)]
  unfold cmpI
  by_cases h1 : b.ver < a.ver
  · simp [h1]
  · rw [if_neg h1]
    split <;> simp [h1]

set_option maxHeartbeats 400000 in
theorem l5Ahead_any (x y : Rw) (w : World) :
    Calls Try.prog 74 #[rowV x, rowV y] w fun e w' => e = .returned (.bool (ahead x y)) ∧ Below w.heap.size w w' := by
  by_cases h : x.key = y.key
  · rw [ahead_ver h]
    have h' : (x.key.toList == y.key.toList) = true := by rw [h]; simp
    unfold rowV
    go_enter Try.func74, Try.ntmps74
    go_wp2
    go_ret
    exact ⟨rfl, balloc (balloc (Below.refl _ _) _) _⟩
  · rw [ahead_key h]
    have h' : (x.key.toList == y.key.toList) = false := by rw [beq_eq_false_iff_ne, Ne, tl_inj]; exact h
    unfold rowV
    go_enter Try.func74, Try.ntmps74
    go_wp2
    go_ret
    exact ⟨rfl, balloc (balloc (Below.refl _ _) _) _⟩

theorem isNaN_any (x : Int) (w : World) :
    Calls Try.prog 108 #[.int .i64 x] w fun e w' => e = .returned (.bool false) ∧ w' = w := by
  go_enter Try.func108, Try.ntmps108
  go_wp2
  go_ret
  exact ⟨rfl, rfl⟩
set_option maxHeartbeats 1000000 in
theorem cmpCompare_any (x y : Int) (w : World) :
    Calls Try.prog 97 #[.int .i64 x, .int .i64 y] w fun e w' => e = .returned (.int .i64 (cmpI x y)) ∧ w' = w := by
  go_enter Try.func97, Try.ntmps97
  go_wp2_with (go_at_call 108; refine (isNaN_any _ _).mono ?_; rintro e w' ⟨rfl, rfl⟩)
  all_goals (go_ret; refine ⟨?_, rfl⟩; unfold cmpI; (repeat' split) <;> first | rfl | (exfalso; omega))
set_option maxRecDepth 100000 in
set_option maxHeartbeats 1000000 in
theorem compareString_any (a b : ByteArray) (w : World) :
    Calls Try.prog 107 #[.string a, .string b] w fun e w' => e = .returned (.int .i64 (cmpB a b)) ∧ w' = w := by
  go_enter Try.func107, Try.ntmps107
  go_wp2
  rw [run_callFunc_extern Try.func115 (by kernel_rfl) (by kernel_rfl) (by kernel_rfl) (e := Extern.BytealgCompare.compare) (by kernel_rfl), Lib.run_compareString]
  simp only [Result.andThen]
  rw [Oper.upon_value]
  go_wp2
  go_ret
  exact ⟨rfl, rfl⟩
set_option maxHeartbeats 1000000 in
theorem stringsCompare_any (a b : ByteArray) (w : World) :
    Calls Try.prog 96 #[.string a, .string b] w fun e w' => e = .returned (.int .i64 (cmpB a b)) ∧ w' = w := by
  go_enter Try.func96, Try.ntmps96
  go_wp2_with (go_at_call 107; refine (compareString_any _ _ _).mono ?_; rintro e w' ⟨rfl, rfl⟩)
  go_ret
  exact ⟨rfl, rfl⟩

set_option maxHeartbeats 1000000 in
theorem cmpOr_any (b : Nat) (x y : Int) (w : World) (h0 : w.cell? ⟨b, 0, none⟩ = some (.int .i64 x)) (h1 : w.cell? ⟨b, 1, none⟩ = some (.int .i64 y)) :
    Calls Try.prog 95 #[.slice (some ⟨b, 0, none⟩) 2 2] w fun e w' => e = .returned (.int .i64 (orI x y)) ∧ w' = w := by
  go_enter Try.func95, Try.ntmps95
  go_wp2
  go_loopw [8] (fun i w' => ∃ k : Nat, k ≤ 2 ∧ i = .int .i64 k ∧ w' = w ∧ (0 < k → x = 0) ∧ (1 < k → y = 0)) (fun i _ => 2 - (intOf i).toNat)
  case atStart => exact ⟨0, by omega, rfl, rfl, by omega, by omega⟩
  case round =>
    obtain ⟨k, hk, rfl, rfl, p0, p1⟩ := hrel
    rcases (show k = 0 ∨ k = 1 ∨ k = 2 by omega) with rfl | rfl | rfl
    · by_cases hx : x = 0
      · subst hx
        go_wp2
        exact ⟨⟨1, by omega, by go_num, by simp⟩, by simp [intOf]⟩
      · go_wp2
        go_ret
        refine ⟨?_, rfl⟩
        unfold orI
        rw [if_neg hx]
        rfl
    · have hx := p0 (by omega)
      subst hx
      by_cases hy : y = 0
      · subst hy
        go_wp2
        exact ⟨⟨2, by omega, by go_num, by simp⟩, by simp [intOf]⟩
      · go_wp2
        go_ret
        refine ⟨?_, rfl⟩
        unfold orI
        rw [if_pos rfl]
        rfl
    · have hx := p0 (by omega)
      have hy := p1 (by omega)
      subst hx hy
      go_wp2
      go_ret
      exact ⟨rfl, rfl⟩

set_option maxHeartbeats 1000000 in
theorem compareRows_any (x y : Rw) (w : World) :
    Calls Try.prog 70 #[rowV x, rowV y] w fun e w' => e = .returned (.int .i64 (cmpR x y)) ∧ Below w.heap.size w w' := by
  unfold rowV
  go_enter Try.func70, Try.ntmps70
  go_wp2
  go_region_held3 (fun w' => Below w.heap.size w w' ∧ w'.cell? ⟨w.heap.size, 0, none⟩ = some (.string x.key) ∧ w'.cell? ⟨w.heap.size, 1, none⟩ = some (.int .i64 x.ver) ∧ w'.cell? ⟨w.heap.size + 1, 0, none⟩ = some (.string y.key) ∧ w'.cell? ⟨w.heap.size + 1, 1, none⟩ = some (.int .i64 y.ver))
    ((refine ⟨?_, ?_, ?_, ?_, ?_⟩; (repeat (first | exact Below.refl _ _ | assumption | refine Below.drew ?_ | refine balloc ?_ _)); all_goals simp [go_sem]))
    (first | (go_at_call 96; refine (stringsCompare_any _ _ _).mono ?_; rintro e w' ⟨rfl, rfl⟩) | (go_at_call 97; refine (cmpCompare_any _ _ _).mono ?_; rintro e w' ⟨rfl, rfl⟩) | (go_at_call 95; refine (cmpOr_any _ (cmpB x.key y.key) (cmpI y.ver x.ver) _ ?_ ?_).mono ?_; simp [go_sem]; simp [go_sem]; rintro e w' ⟨rfl, rfl⟩))
  all_goals
    rename_i hH
    have hB := hH.1
    clear hH
    go_wp2
    go_ret
    exact ⟨rfl, hB⟩

/-- the code of row k -/
def tabAt (xs : List Rw) (k : Nat) : Int :=
  if rowFault (xs.getD k default) ≠ 0 then rowFault (xs.getD k default) else if 0 < k ∧ ahead (xs.getD (k - 1) default) (xs.getD k default) = false then 1 else 0
def tabF (xs : List Rw) : Int :=
  if 200 < xs.length then 2 else (((List.range xs.length).map (tabAt xs)).find? (fun c => decide (c ≠ 0))).getD 0
theorem tabF_at {xs : List Rw} {k : Nat} (hn : xs.length ≤ 200) (hk : k < xs.length) (h : ∀ j, j < k → tabAt xs j = 0) (hc : tabAt xs k ≠ 0) : tabF xs = tabAt xs k := by
  unfold tabF
  rw [if_neg (by omega)]
  have e : (List.range xs.length).map (tabAt xs) = (List.range k).map (tabAt xs) ++ tabAt xs k :: (List.range (xs.length - k - 1)).map (fun i => tabAt xs (k + 1 + i)) := by
    apply List.ext_getElem
    · simp; omega
    intro i h1 h2
    simp only [List.getElem_map, List.getElem_range, List.getElem_append, List.length_map, List.length_range]
    split
    · rfl
    · rename_i hik
      obtain ⟨d, rfl⟩ : ∃ d, i = k + d := ⟨i - k, by omega⟩
      cases d with
      | zero => simp
      | succ d => simp [show k + (d + 1) - k = d + 1 by omega, Nat.add_comm, Nat.add_left_comm]
  rw [e, List.find?_append]
  have e2 : ((List.range k).map (tabAt xs)).find? (fun c => decide (c ≠ 0)) = none := by
    rw [List.find?_eq_none]
    intro c hc'
    obtain ⟨j, hj, rfl⟩ := List.mem_map.1 hc'
    simp [h j (List.mem_range.1 hj)]
  rw [e2, Option.none_or, List.find?_cons_of_pos (by simpa using hc)]
  rfl
theorem tabF_zero {xs : List Rw} (hn : xs.length ≤ 200) (h : ∀ j, j < xs.length → tabAt xs j = 0) : tabF xs = 0 := by
  unfold tabF
  rw [if_neg (by omega)]
  have e2 : ((List.range xs.length).map (tabAt xs)).find? (fun c => decide (c ≠ 0)) = none := by
    rw [List.find?_eq_none]
    intro c hc'
    obtain ⟨j, hj, rfl⟩ := List.mem_map.1 hc'
    simp [h j (List.mem_range.1 hj)]
  rw [e2]
  rfl
theorem tabF_all {xs : List Rw} (h : tabF xs = 0) : xs.length ≤ 200 ∧ ∀ j, j < xs.length → tabAt xs j = 0 := by
  unfold tabF at h
  split at h
  · cases h
  · refine ⟨by omega, fun j hj => ?_⟩
    cases hf : ((List.range xs.length).map (tabAt xs)).find? (fun c => decide (c ≠ 0)) with
    | none =>
      rw [List.find?_eq_none] at hf
      have := hf (tabAt xs j) (List.mem_map.2 ⟨j, List.mem_range.2 hj, rfl⟩)
      simpa using this
    | some c =>
      rw [hf] at h
      have := List.find?_some hf
      simp at this h
      exact absurd h this

set_option maxHeartbeats 2000000 in
theorem specTableFault_any (x : Value) (xs : List Rw) (w : World) (hx : RowsV w x xs) :
    Calls Try.prog 33 #[x] w fun e w' => e = .returned (.int .i64 (tabF xs)) ∧ Below w.heap.size w w' := by
  obtain ⟨ax, cx, rfl, hcx, hmx, hx⟩ := hx
  unfold maxLen at hmx
  by_cases hn : 200 < xs.length
  · have e : tabF xs = 2 := by unfold tabF; rw [if_pos hn]
    rw [e]
    clear e hx
    generalize xs.length = n at *
    have h1 : (200 : Int) < n := by omega
    go_enter Try.func33, Try.ntmps33
    go_wp2
    go_ret
    exact ⟨rfl, Below.refl _ _⟩
  have HZ : Hid ((∀ j, j < xs.length → tabAt xs j = 0) → tabF xs = 0) := tabF_zero (by omega)
  have HC : Hid (∀ k, k < xs.length → (∀ j, j < k → tabAt xs j = 0) → tabAt xs k ≠ 0 → tabF xs = tabAt xs k) := fun k hk h hc => tabF_at (by omega) hk h hc
  generalize xs.length = n at *
  have h1 : ¬ (200 : Int) < n := by omega
  go_enter Try.func33, Try.ntmps33
  go_wp2
  go_loopw [3] (fun i w' => ∃ k : Nat, k ≤ n ∧ i = .int .i64 k ∧ Hid (∀ j, j < k → tabAt xs j = 0) ∧ Below w.heap.size w w') (fun i _ => n - (intOf i).toNat)
  case atStart => exact ⟨0, Nat.zero_le _, rfl, fun j h => absurd h (Nat.not_lt_zero _), Below.refl _ _⟩
  case round =>
    obtain ⟨k, hk, rfl, HP, hbl⟩ := hrel
    by_cases hlt : k < n
    · obtain ⟨bx, ox, rfl, h2⟩ := hx k hlt
      have HC2 : Hid (tabAt xs k ≠ 0 → tabF xs = tabAt xs k) := fun hc => HC.out k hlt HP.out hc
      have HK : Hid (tabAt xs k = if rowFault (xs.getD k default) ≠ 0 then rowFault (xs.getD k default) else if 0 < k ∧ ahead (xs.getD (k - 1) default) (xs.getD k default) = false then 1 else 0) := rfl
      have HX : Hid (∀ i, i < n → ∃ b o, some (⟨bx, ox, none⟩ : Addr) = some ⟨b, o, none⟩ ∧ rowCells w b (o + i * 4) (xs.getD i default)) := hx
      obtain ⟨l, hl⟩ : ∃ l, l = xs.getD k default := ⟨_, rfl⟩
      rw [← hl] at h2 HK
      clear hl hx HC HZ
      obtain ⟨a0, a1, a2, a3⟩ := rowCells_below hbl h2
      go_wp2_with fail
      refine (specRowFault_any l _).mono ?_
      rintro e wa ⟨rfl, hba⟩
      have hB := bstep hbl hba
      by_cases hf : rowFault l = 0
      · rw [hf]
        have HK2 : Hid (tabAt xs k = if 0 < k ∧ ahead (xs.getD (k - 1) default) l = false then 1 else 0) := by
          rw [Hid, HK.out, if_neg (by simp [hf])]
        clear hf HK a0 a1 a2 a3
        by_cases hk0 : k = 0
        · subst hk0
          go_wp2
          go_quiet (fail)
          go_wp2
          refine ⟨⟨1, by omega, by go_num, fun j hj => ?_, bdrN hB _⟩, by simp [intOf]; omega⟩
          have : j = 0 := by omega
          subst this
          rw [HK2.out]
          simp
        · obtain ⟨m, hm⟩ : ∃ m, k - 1 = m := ⟨_, rfl⟩
          obtain ⟨bp, op, ep, h3⟩ := HX.out m (by omega)
          simp only [Option.some.injEq, Addr.mk.injEq, and_true] at ep
          obtain ⟨rfl, rfl⟩ := ep
          rw [hm] at HK2
          obtain ⟨l2, hl2⟩ : ∃ l, l = xs.getD m default := ⟨_, rfl⟩
          rw [← hl2] at h3 HK2
          clear hl2 HX
          have HM : Hid (0 < k) := by rw [Hid]; omega
          have hi1 : (0 : Int) < (k : Int) := by omega
          have hi0 : decide (0 < k) = true := decide_eq_true (by omega)
          have hi2 : IntKind.i64.wrap ((k : Int) - 1) = (m : Int) := by rw [IntKind.wrap_i64]; omega
          have hi3 : (m : Int) < n := by omega
          have hi4 : (0 : Int) ≤ m := by omega
          have hi5 : (0 : Int) ≤ k := by omega
          have hi6 : (k : Int) < n := by omega
          clear hm hk0
          have r1 := rowCells_below hB h2
          have r2 := rowCells_below hB h3
          have HT : Hid (∀ b, ahead l2 l = b → tabAt xs k = if b = false then 1 else 0) := fun b hb => by
            rw [HK2.out, hb]
            have := HM.out
            simp [this]
          clear HK2 h2 h3
          cases hah : ahead l2 l
          all_goals
            have HT2 : Hid _ := HT.out _ hah
            go_wp2
            go_region_held3 (fun w' => Below wa.heap.size wa w' ∧ (w'.cell? ⟨bx, ox + m * 4, none⟩ = some (.string l2.key) ∧ w'.cell? ⟨bx, ox + m * 4 + 1, none⟩ = some (.int .i64 l2.ver) ∧ w'.cell? ⟨bx, ox + m * 4 + 2, none⟩ = some (.string l2.val) ∧ w'.cell? ⟨bx, ox + m * 4 + 3, none⟩ = some (.bool l2.gone)) ∧ (w'.cell? ⟨bx, ox + k * 4, none⟩ = some (.string l.key) ∧ w'.cell? ⟨bx, ox + k * 4 + 1, none⟩ = some (.int .i64 l.ver) ∧ w'.cell? ⟨bx, ox + k * 4 + 2, none⟩ = some (.string l.val) ∧ w'.cell? ⟨bx, ox + k * 4 + 3, none⟩ = some (.bool l.gone))) ((refine rowKeep2 ?_ r2 r1; repeat (first | exact Below.refl _ _ | assumption | refine Below.drew ?_ | refine balloc ?_ _ | refine bstep ?_ (by assumption)))) (first | (go_at_call 74; refine (l5Ahead_any l2 l _).mono ?_; rintro e w' ⟨rfl, hb1⟩; rw [hah]))
            rename_i hH
            have hB2 := bstep hB hH.1
            clear hH
            go_wp2
          · go_ret
            have hC := HC2.out (by rw [HT2.out]; simp)
            rw [HT2.out] at hC
            refine ⟨?_, hB2⟩
            rw [hC]
            rfl
          · refine ⟨⟨k + 1, by omega, by go_num, fun j hj => ?_, hB2⟩, by simp [intOf]; omega⟩
            by_cases hj2 : j < k
            · exact HP.out j hj2
            · have : j = k := by omega
              subst this
              rw [HT2.out]
              simp
      · have hf' : ((rowFault l : Int) == 0) = false := by rw [beq_eq_false_iff_ne]; exact hf
        have hK := HK.out
        rw [if_pos hf] at hK
        have hC := HC2.out (by rw [hK]; exact hf)
        have HE : Hid (tabF xs = rowFault l) := hC.trans hK
        clear hK hC
        go_wp2
        go_ret
        refine ⟨?_, hB⟩
        rw [HE.out]
        rfl
    · have hkn : k = n := by omega
      subst hkn
      have HE : Hid (tabF xs = 0) := HZ.out HP.out
      go_wp2
      go_ret
      refine ⟨?_, hbl⟩
      rw [HE.out]
      rfl

end Go.Proofs.Ytaahmmadcdfcpaa

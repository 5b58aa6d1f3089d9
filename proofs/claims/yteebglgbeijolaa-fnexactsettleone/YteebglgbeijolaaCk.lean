/-
  compareKeys: keys of the ledger's book, compared place by place.
-/
import Derived.Test.YteebglgbeijolaaBook
import Derived.Test.YteebglgbeijolaaTabB
import Derived.Test.YteebglgbeijolaaRegN
import Derived.Test.YteebglgbeijolaaLed
namespace Go.Proofs.Yteebglgbeijolaa
open Go.RowKit
set_option linter.unusedSectionVars false
variable [DecidableEq Rw] [Inhabited Rw] [DecidableEq Bal] [Inhabited Bal] [DecidableEq Ledg] [Inhabited Ledg] [DecidableEq Leg] [Inhabited Leg]
set_option linter.unusedVariables false
set_option linter.unusedSimpArgs false
attribute [local go_sem ↓] Go.wp_at_zero Go.wp_at_succ

/-- three numbers compared place by place -/
def cmpTo (x y : Nat → Int) : Nat → Int
  | 0 => 0
  | k + 1 => if cmpTo x y k = 0 then cmpI (x k) (y k) else cmpTo x y k

set_option maxRecDepth 20000 in
set_option maxHeartbeats 4000000 in
theorem slicesCompare_any (W : World) (b1 b2 : Nat) (x y : Nat → Int) (hx : ∀ i, i < 3 → W.cell? ⟨b1, i, none⟩ = some (.int .i64 (x i))) (hy : ∀ i, i < 3 → W.cell? ⟨b2, i, none⟩ = some (.int .i64 (y i))) :
    Calls Try.prog 161 #[.slice (some ⟨b1, 0, none⟩) 3 3, .slice (some ⟨b2, 0, none⟩) 3 3] W fun e w' => e = .returned (.int .i64 (cmpTo x y 3)) ∧ w' = W := by
  have HX : Hid (∀ i, i < 3 → W.cell? ⟨b1, i, none⟩ = some (.int .i64 (x i))) := hx
  have HY : Hid (∀ i, i < 3 → W.cell? ⟨b2, i, none⟩ = some (.int .i64 (y i))) := hy
  clear hx hy
  go_enter Try.func161, Try.ntmps161
  go_wp2
  go_loopw [11] (fun i w' => ∃ k : Nat, k ≤ 3 ∧ i = .int .i64 k ∧ Hid (cmpTo x y k = 0) ∧ w' = W) (fun i _ => 3 - (intOf i).toNat)
  case atStart => exact ⟨0, by omega, rfl, rfl, rfl⟩
  case round =>
    obtain ⟨k, hk, rfl, HC, rfl⟩ := hrel
    by_cases hk3 : k < 3
    · have hk' : (k : Int) < 3 := by omega
      have hk0 : (0 : Int) ≤ k := by omega
      have hk1 : ¬ ((3 : Int) ≤ k) := by omega
      have hwk : IntKind.i64.wrap ((k : Int) + 1) = (k : Int) + 1 := wrapId (by omega) (by omega)
      have g1 := HX.out k hk3
      have g2 := HY.out k hk3
      have HS : Hid (cmpTo x y (k + 1) = cmpI (x k) (y k)) := by unfold Hid; rw [cmpTo, if_pos HC.out]
      generalize x k = xk at *
      generalize y k = yk at *
      by_cases hz : cmpI xk yk = 0
      · have HC' : Hid (cmpTo x y (k + 1) = 0) := by rw [Hid, HS.out]; exact hz
        go_wp2_with fail
        refine (cmpCompare_any xk yk _).mono ?_
        rintro e w' ⟨rfl, hw⟩
        obtain rfl := hw.symm
        rw [hz]
        go_wp2
        exact ⟨⟨k + 1, by omega, by go_num, HC', by trivial⟩, by simp [intOf]; omega⟩
      · have HE : Hid (cmpTo x y 3 = cmpI xk yk) := by
          have key : ∀ d, k + 1 + d ≤ 3 → cmpTo x y (k + 1 + d) = cmpI xk yk := by
            intro d
            induction d with
            | zero => intro _; exact HS.out
            | succ d ih =>
              intro h
              have := ih (by omega)
              rw [show k + 1 + (d + 1) = (k + 1 + d) + 1 by omega, cmpTo, if_neg (by rw [this]; exact hz), this]
          have := key (2 - k) (by omega)
          rw [show k + 1 + (2 - k) = 3 by omega] at this
          exact this
        go_wp2_with fail
        refine (cmpCompare_any xk yk _).mono ?_
        rintro e w' ⟨rfl, hw⟩
        obtain rfl := hw.symm
        generalize cmpI xk yk = r at *
        go_wp2
        go_ret
        exact ⟨by rw [HE.out]; rfl, by trivial⟩
    · have hk3' : k = 3 := by omega
      subst hk3'
      go_wp2
      go_ret
      exact ⟨by rw [HC.out]; rfl, by trivial⟩

/-- a key's three numbers -/
def k3 (s a t : Int) (i : Nat) : Int := if i = 0 then s else if i = 1 then a else t

set_option maxRecDepth 20000 in
set_option maxHeartbeats 4000000 in
theorem compareKeys_any (s a t s' a' t' : Int) (W : World) :
    Calls Try.prog 136 #[kv s a t, kv s' a' t'] W fun e w' => e = .returned (.int .i64 (cmpTo (k3 s a t) (k3 s' a' t') 3)) ∧ w' = ((W.alloc (.cells #[.int .i64 s, .int .i64 a, .int .i64 t] 180)).alloc (.cells #[.int .i64 s', .int .i64 a', .int .i64 t'] 180)).drew := by
  unfold kv
  go_enter Try.func136, Try.ntmps136
  go_wp2
  refine wp_region_noPanic ?_
  refine region_upto (fun W' => W' = ((W.alloc (.cells #[.int .i64 s, .int .i64 a, .int .i64 t] 180)).alloc (.cells #[.int .i64 s', .int .i64 a', .int .i64 t'] 180)).drew) 4 (by kernel_rfl) rfl (fun hS => ?_)
  refine upto_takeN (i := 0) (v := ?_) rfl (by kernel_rfl) (by kernel_rfl) (by kernel_rfl) (by kernel_rfl) (fun _ _ _ h => h) (by rfl) hS ?_ ?_
  rotate_left
  · intro wS hSw
    try dsimp only at hSw
    first | (go_simp; done) | (go_simp; with_reducible rfl)
  try simp only [Act.put, List.getElem_toArray, List.getElem_cons_zero, List.getElem_cons_succ, List.setIfInBounds_toArray, List.set_cons_zero, List.set_cons_succ]
  refine upto_takeN (i := 1) (v := ?_) rfl (by kernel_rfl) (by kernel_rfl) (by kernel_rfl) (by kernel_rfl) (fun _ _ _ h => h) (by rfl) hS ?_ ?_
  rotate_left
  · intro wS hSw
    try dsimp only at hSw
    first | (go_simp; done) | (go_simp; with_reducible rfl)
  try simp only [Act.put, List.getElem_toArray, List.getElem_cons_zero, List.getElem_cons_succ, List.setIfInBounds_toArray, List.set_cons_zero, List.set_cons_succ]
  refine upto_step (i := 2) (by kernel_rfl) rfl ?_
  intro K hK
  go_simp
  refine (slicesCompare_any _ W.heap.size (W.heap.size + 1) (k3 s a t) (k3 s' a' t') ?_ ?_).mono ?_
  · intro i hi
    match i, hi with
    | 0, _ => simp [go_sem, k3]
    | 1, _ => simp [go_sem, k3]
    | 2, _ => simp [go_sem, k3]
  · intro i hi
    match i, hi with
    | 0, _ => simp [go_sem, k3]
    | 1, _ => simp [go_sem, k3]
    | 2, _ => simp [go_sem, k3]
  rintro e w' ⟨rfl, hw⟩
  refine hK _ _ (fun _ => hw) ?_
  clear hK K
  obtain ⟨r, hr⟩ : ∃ r, cmpTo (k3 s a t) (k3 s' a' t') 3 = r := ⟨_, rfl⟩
  have HR : Hid (cmpTo (k3 s a t) (k3 s' a' t') 3 = r) := hr
  rw [hr]
  clear hr
  try simp only [Act.put, List.getElem_toArray, List.getElem_cons_zero, List.getElem_cons_succ, List.setIfInBounds_toArray, List.set_cons_zero, List.set_cons_succ]
  refine upto_step (i := 3) (by kernel_rfl) rfl ?_
  intro K hK
  go_simp
  refine hK _ _ (fun _ => by first | rfl | exact hw) ?_
  clear hK K
  refine upto_done (by kernel_rfl) ?_
  refine NoPanic.normal ?_
  go_wp2
  go_ret
  exact ⟨by rw [HR.out]; rfl, by first | rfl | exact hw⟩

end Go.Proofs.Yteebglgbeijolaa

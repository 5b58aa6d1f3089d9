/-
  Frames: a place in the code.
-/
import Derived.Test.YtfeolikagceohaaFrA
namespace Go.Proofs.Ytfeolikagceohaa
open Go.RowKit
set_option linter.unusedSectionVars false
variable [DecidableEq Logg] [Inhabited Logg] [DecidableEq LoggR] [Inhabited LoggR] [DecidableEq BytesR] [Inhabited BytesR] [DecidableEq RecsR] [Inhabited RecsR] [DecidableEq Leg] [Inhabited Leg]
set_option linter.unusedSimpArgs false
attribute [local go_sem ↓] Go.wp_at_zero Go.wp_at_succ

set_option maxHeartbeats 2000000 in
theorem lwAt_any (x : Value) (xs : List Byte) (w : World) (n : Int) (hx : BytesV w x xs) (hxn : xs.length ≤ 1048576) (hn1 : 1 ≤ n) (hn2 : n ≤ 100000) :
    Calls Try.prog 10 #[x, .int .i64 1, .int .i64 n] w fun e w' => ∃ r : Nat, e = .returned (.int .i64 r) ∧ (r : Int) < n ∧ Below w.heap.size w w' := by
  obtain ⟨a, cap, rfl, hkc, hcm, hby⟩ := hx
  unfold maxLen at hcm
  have hres : ∀ v : Int, 0 ≤ v → ∃ r : Nat, v % n = (r : Int) ∧ (r : Int) < n := fun v hv => by
    refine ⟨(v % n).toNat, ?_, ?_⟩
    · have := Int.emod_nonneg v (b := n) (by omega)
      omega
    · have := Int.emod_nonneg v (b := n) (by omega)
      have := Int.emod_lt_of_pos v (b := n) (by omega)
      omega
  have HR : Hid (∀ v : Int, 0 ≤ v → ∃ r : Nat, v % n = (r : Int) ∧ (r : Int) < n) := hres
  have HBY : Hid (∀ i, i < xs.length → ∃ b o, a = some ⟨b, o, none⟩ ∧ w.cell? ⟨b, o + i, none⟩ = some (.int .u8 ((xs.getD i 0).val : Int))) := hby
  clear hres hby
  by_cases hone : n ≤ 1
  · have e1 : n = 1 := by omega
    subst e1
    clear HR HBY
    generalize xs.length = k at *
    go_enter Try.func10, Try.ntmps10
    go_wp2
    go_ret
    exact ⟨0, rfl, by omega, Below.refl _ _⟩
  have hone' : ¬ n ≤ 1 := hone
  by_cases hk0 : xs.length = 0
  · obtain ⟨r, e5, r1⟩ := HR.out 7 (by omega)
    have e6 : (7 : Int).tmod n = (r : Int) := by rw [Int.tmod_eq_emod_of_nonneg (by omega)]; exact e5
    have HE : Hid ((7 : Int) % n = (r : Int)) := e5
    have HE6 : Hid ((7 : Int).tmod n = (r : Int)) := e6
    clear e5 e6 HBY
    generalize xs.length = k at *
    subst hk0
    go_enter Try.func10, Try.ntmps10
    go_wp2
    go_ret
    exact ⟨r, by have e := HE.out; have e' := HE6.out; first | rfl | (simp [e']; done) | (simp [e]; done), r1, Below.refl _ _⟩
  have hk : (0 : Int) < (xs.length : Int) := by omega
  obtain ⟨m, hm⟩ : ∃ m, m = 1 % xs.length := ⟨_, rfl⟩
  obtain ⟨m', hm'⟩ : ∃ m', m' = 2 % xs.length := ⟨_, rfl⟩
  obtain ⟨d, hdv⟩ : ∃ d, d = 1 / xs.length := ⟨_, rfl⟩
  have hml : m < xs.length := by rw [hm]; exact Nat.mod_lt _ (by omega)
  have hml' : m' < xs.length := by rw [hm']; exact Nat.mod_lt _ (by omega)
  have hdl : d ≤ 1 := by rw [hdv]; exact Nat.div_le_self _ _
  obtain ⟨b, o, rfl, hcell⟩ := HBY.out m hml
  obtain ⟨b', o', e', hcell'⟩ := HBY.out m' hml'
  simp only [Option.some.injEq, Addr.mk.injEq, and_true] at e'
  obtain ⟨rfl, rfl⟩ := e'
  have c1 := (xs.getD m 0).isLt
  have c1' := (xs.getD m' 0).isLt
  generalize (xs.getD m 0).val = cv at *
  generalize (xs.getD m' 0).val = cv' at *
  have e1 : (1 : Int) % (xs.length : Int) = (m : Int) := by rw [hm]; rfl
  have e2 : (1 : Int) / (xs.length : Int) = (d : Int) := by rw [hdv]; rfl
  have e3 : (1 : Int).tmod (xs.length : Int) = (m : Int) := by rw [Int.tmod_eq_emod_of_nonneg (by omega)]; exact e1
  have e4 : (1 : Int).tdiv (xs.length : Int) = (d : Int) := by rw [Int.tdiv_eq_ediv_of_nonneg (by omega)]; exact e2
  have e7 : (2 : Int) % (xs.length : Int) = (m' : Int) := by rw [hm']; rfl
  have e8 : (2 : Int).tmod (xs.length : Int) = (m' : Int) := by rw [Int.tmod_eq_emod_of_nonneg (by omega)]; exact e7
  clear hm hdv hm' HBY
  have q2 : (m : Int) < (xs.length : Int) := by omega
  have q2' : (m' : Int) < (xs.length : Int) := by omega
  have hd : ((xs.length : Int) == 0) = false := by rw [beq_eq_false_iff_ne]; omega
  generalize xs.length = k at *
  go_enter Try.func10, Try.ntmps10
  go_wp2
  go_region_held3 (fun w' => w' = w.drew ∧ w'.cell? ⟨b, o + m, none⟩ = some (.int .u8 (cv : Int))) (exact ⟨rfl, hcell⟩) (fail)
  rename_i hH
  clear hH
  have hv : IntKind.i64.wrap (IntKind.i64.wrap (cv : Int) + IntKind.i64.wrap (IntKind.i64.wrap (d : Int) * 3)) = cv + d * 3 := by
    rw [wrapI (cv : Int) (by omega) (by omega), wrapI (d : Int) (by omega) (by omega), wrapI ((d : Int) * 3) (by omega) (by omega), wrapI _ (by omega) (by omega)]
  rw [hv]
  obtain ⟨v, hve⟩ : ∃ v, v = (cv : Int) + (d : Int) * 3 := ⟨_, rfl⟩
  have v0 : 0 ≤ v := by omega
  have v1 : v ≤ 1000 := by omega
  rw [← hve]
  clear hv hve e1 e2 e3 e4
  by_cases h2 : 200 < n
  · have y1 : IntKind.i64.wrap (v * 251) = v * 251 := wrapI _ (by omega) (by omega)
    have y3 : IntKind.i64.wrap (cv' : Int) = cv' := wrapI _ (by omega) (by omega)
    have y5 : IntKind.i64.wrap (v * 251 + cv') = v * 251 + cv' := wrapI _ (by omega) (by omega)
    obtain ⟨r, e5, r1⟩ := HR.out (v * 251 + cv') (by omega)
    have e6 : (v * 251 + cv').tmod n = (r : Int) := by rw [Int.tmod_eq_emod_of_nonneg (by omega)]; exact e5
    have V0 : 0 ≤ v * 251 + (cv' : Int) := by omega
    go_wp2
    go_ret
    exact ⟨r, by first | rfl | (simp [e6]; done) | (simp [e5]; done), r1, by (repeat (first | exact Below.refl _ _ | assumption | refine Below.drew ?_ | refine balloc ?_ _ | refine bset ?_ (by simp; omega) _ | refine bset ?_ (by simp) _ | refine bstep ?_ (by assumption)))⟩
  · obtain ⟨r, e5, r1⟩ := HR.out v v0
    have e6 : v.tmod n = (r : Int) := by rw [Int.tmod_eq_emod_of_nonneg (by omega)]; exact e5
    have HE : Hid (v % n = (r : Int)) := e5
    clear e5
    go_wp2
    go_ret
    exact ⟨r, by have e := HE.out; first | rfl | (simp [e6]; done) | (simp [e]; done), r1, by (repeat (first | exact Below.refl _ _ | assumption | refine Below.drew ?_ | refine balloc ?_ _ | refine bset ?_ (by simp; omega) _ | refine bset ?_ (by simp) _ | refine bstep ?_ (by assumption)))⟩

end Go.Proofs.Ytfeolikagceohaa

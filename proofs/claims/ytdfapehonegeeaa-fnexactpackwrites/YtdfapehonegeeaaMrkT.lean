/-
  Marks of texts.
-/
import Derived.Test.YtdfapehonegeeaaKit
import Derived.Laws.BytesArg
import Derived.Deep.DrawnRows
namespace Go.Proofs.Ytdfapehonegeeaa
open Go.RowKit
set_option linter.unusedVariables false
set_option linter.unusedSimpArgs false
attribute [local go_sem ↓] Go.wp_at_zero Go.wp_at_succ

/-- the digits of n ahead of o -/
def mtx : Nat → Nat → ByteArray → ByteArray
  | 0, _, o => o
  | f + 1, n, o => if n = 0 then o else mtx f (n / 10) (strOfNums [48 + ((n % 10 : Nat) : Int)] ++ o)
theorem mtx_step {f n : Nat} (o : ByteArray) (h : n ≠ 0) : mtx (f + 1) n o = mtx f (n / 10) (strOfNums [48 + ((n % 10 : Nat) : Int)] ++ o) := by
  conv => lhs; unfold mtx
  rw [if_neg h]
theorem mtx_nil (f : Nat) (o : ByteArray) : mtx f 0 o = o := by
  cases f with
  | zero => rfl
  | succ f => unfold mtx; rw [if_pos rfl]
def markT (k : Int) : ByteArray := if k ≤ 0 then ⟨#[109, 48]⟩ else ⟨#[109]⟩ ++ mtx k.toNat k.toNat ⟨#[]⟩

set_option maxRecDepth 20000 in
set_option maxHeartbeats 1000000 in
theorem markText_any (k : Int) (w : World) (h0 : 0 ≤ k) (h1 : k ≤ 1073741830) :
    Calls Try.prog 71 #[.int .i64 k] w fun e w' => e = .returned (.string (markT k)) ∧ Below w.heap.size w w' := by
  by_cases hk : k ≤ 0
  · have e : markT k = ⟨#[109, 48]⟩ := by unfold markT; rw [if_pos hk]
    rw [e]
    clear e
    go_enter Try.func71, Try.ntmps71
    go_wp2
    go_ret
    exact ⟨rfl, Below.refl _ _⟩
  · obtain ⟨n, rfl⟩ : ∃ n : Nat, k = n := ⟨k.toNat, by omega⟩
    have HE : Hid (markT (n : Int) = ⟨#[109]⟩ ++ mtx n n ⟨#[]⟩) := by rw [Hid]; unfold markT; rw [if_neg hk]; rfl
    go_enter Try.func71, Try.ntmps71
    go_wp2
    go_loopw [0, 3] (fun q s w' => ∃ (m f : Nat) (o : ByteArray), q = .int .i64 m ∧ s = .string o ∧ o.size + m ≤ n ∧ Hid (m ≤ f ∧ mtx f m o = mtx n n ⟨#[]⟩) ∧ Below w.heap.size w w') (fun q _ _ => (intOf q).toNat)
    case atStart => exact ⟨n, n, _, rfl, rfl, (by show 0 + n ≤ n; omega), ⟨Nat.le_refl _, rfl⟩, Below.refl _ _⟩
    case round =>
      obtain ⟨m, f, o, rfl, rfl, hmn, HM, hbl⟩ := hrel
      by_cases hm : m = 0
      · subst hm
        have e := HM.out.2
        have e0 : mtx f 0 o = o := mtx_nil f o
        rw [e0] at e
        have HO : Hid (o = mtx n n ⟨#[]⟩) := e
        clear e e0
        have hsz : (⟨#[109]⟩ : ByteArray).size = 1 := rfl
        go_wp2
        go_ret
        refine ⟨?_, hbl⟩
        rw [HE.out, ← HO.out]
        rfl
      · have hm1 : (0 : Int) < m := by omega
        have q1 : Int.tmod (m : Int) 10 = ((m % 10 : Nat) : Int) := by rw [Int.tmod_eq_emod_of_nonneg (by omega)]; omega
        have q2 : Int.tdiv (m : Int) 10 = ((m / 10 : Nat) : Int) := by rw [Int.tdiv_eq_ediv_of_nonneg (by omega)]; omega
        have HM2 : Hid (mtx (f - 1) (m / 10) (strOfNums [48 + ((m % 10 : Nat) : Int)] ++ o) = mtx n n ⟨#[]⟩ ∧ m / 10 ≤ f - 1) := by
          have h := HM.out
          obtain ⟨f', rfl⟩ : ∃ f', f = f' + 1 := ⟨f - 1, by omega⟩
          rw [mtx_step o hm] at h
          exact ⟨h.2, by omega⟩
        obtain ⟨c, hc⟩ : ∃ c : Nat, m % 10 = c := ⟨_, rfl⟩
        obtain ⟨m2, hm2⟩ : ∃ c : Nat, m / 10 = c := ⟨_, rfl⟩
        rw [hc] at q1 HM2
        rw [hm2] at q2 HM2
        have hcv : (convert 22 9 (.slice (some ⟨wr.heap.size, 0, none⟩) 1 1)).run Try.prog (wr.alloc (.cells #[.int .u8 (48 + (c : Int))] 5)) = .ok (.string (strOfNums [48 + (c : Int)])) (wr.alloc (.cells #[.int .u8 (48 + (c : Int))] 5)) := by
          refine run_convert_bytes_arg _ 22 5 (by kernel_rfl) (by kernel_rfl) wr.heap.size 0 1 1 [48 + (c : Int)] rfl (fun i hi => ?_) 9 (by kernel_rfl)
          have : i = 0 := by simpa using hi
          subst this
          simp [go_sem]
        have hs1 : (strOfNums [48 + (c : Int)]).size = 1 := rfl
        generalize strOfNums [48 + (c : Int)] = sd at hcv hs1 HM2
        have HC : Hid (m % 10 = c ∧ m / 10 = m2) := ⟨hc, hm2⟩
        have hc9 : c < 10 := by omega
        have hm3 : m2 < m := by omega
        have hm4 : (m2 : Int) ≤ 1073741830 := by omega
        clear hc hm2
        have hw : wrap64 (m2 : Int) = m2 := by unfold wrap64; omega
        go_wp2
        refine ⟨⟨m2, f - 1, _, rfl, rfl, ?_, ⟨HM2.out.2, HM2.out.1⟩, balloc hbl _⟩, ?_⟩
        · rw [ByteArray.size_append]
          omega
        · simp only [intOf, Int.toNat_natCast]
          exact hm3

theorem mtx_size : ∀ (f n : Nat) (o : ByteArray), (mtx f n o).size ≤ o.size + f
  | 0, _, o => by simp [mtx]
  | f + 1, n, o => by
    by_cases h : n = 0
    · rw [h, mtx_nil]
      omega
    · rw [mtx_step o h]
      have := mtx_size f (n / 10) (strOfNums [48 + ((n % 10 : Nat) : Int)] ++ o)
      rw [ByteArray.size_append, strOfNums_size, List.length_singleton] at this
      omega
theorem markT_size (k : Int) : (markT k).size ≤ 2 + k.toNat := by
  unfold markT
  split
  · show 2 ≤ _
    omega
  · rw [ByteArray.size_append]
    have := mtx_size k.toNat k.toNat ⟨#[]⟩
    have e : (⟨#[]⟩ : ByteArray).size = 0 := rfl
    have e2 : (⟨#[109]⟩ : ByteArray).size = 1 := rfl
    omega

theorem grownAny {w w' : World} {r : Option Nat} (h : w.grownBy w' none) : w.grownBy w' r := ⟨h.os, h.tape, h.output, h.size, fun i hi hr => h.block i hi (by simp)⟩

end Go.Proofs.Ytdfapehonegeeaa

import Derived.Test.YtdfapehonegeeaaGreatPrnWriteBatchLaw1
import Derived.Laws.BytesArg
import Derived.Deep.DrawnRows
import Derived.Test.YtdfapehonegeeaaGreatPrnWriteBatchLaw5
import Derived.Test.YtdfapehonegeeaaGreatPrnWriteBatchLaw2

/-
  Marks of texts.
-/
namespace Go.Proofs.YtdfapehonegeeaaGreat
open Go.RowKit
set_option linter.unusedVariables false
set_option linter.unusedSimpArgs false
attribute [local go_sem ↓] Go.wp_at_zero Go.wp_at_succ

def mtx : Nat → Nat → ByteArray → ByteArray
  | 0, _, o => o
  | f + 1, n, o => if n = 0 then o else mtx f (n / 10) (strOfNums [48 + ((n % 10 : Nat) : Int)] ++ o)
theorem mtx_step {f n : Nat} (o : ByteArray) (h : n ≠ 0) : mtx (f + 1) n o = mtx f (n / 10) (strOfNums [48 + ((n % 10 : Nat) : Int)] ++ o) := by
  conv => lhs; unfold mtx
  rw [if_neg h]
theorem mtx_nil (f : Nat) (o : ByteArray) : mtx f 0 o = o := by
  cases f with
  | zero => rfl
  | succ f => unfold mtx; rw [if_pos rfl]
def markT (k : Int) : ByteArray := if k ≤ 0 then ⟨#[109, 48]⟩ else ⟨#[109]⟩ ++ mtx k.toNat k.toNat ⟨#[]⟩
set_option maxRecDepth 20000 in
set_option maxHeartbeats 1000000 in
theorem markText_any (k : Int) (w : World) (h0 : 0 ≤ k) (h1 : k ≤ 1073741830) :
    Calls Tryz.prog 84 #[.int .i64 k] w fun e w' => e = .returned (.string (markT k)) ∧ Below w.heap.size w w' := by
  by_cases hk : k ≤ 0
  · have e : markT k = ⟨#[109, 48]⟩ := by unfold markT; rw [if_pos hk]
    rw [e]
    clear e
    go_enter Tryz.func84, Tryz.ntmps84
    go_wp2
    go_ret
    exact ⟨rfl, Below.refl _ _⟩
  · obtain ⟨n, rfl⟩ : ∃ n : Nat, k = n := ⟨k.toNat, by omega⟩
    have HE : Hid (markT (n : Int) = ⟨#[109]⟩ ++ mtx n n ⟨#[]⟩) := by rw [Hid]; unfold markT; rw [if_neg hk]; rfl
    go_enter Tryz.func84, Tryz.ntmps84
    go_wp2
    go_loopw [0, 3] (fun q s w' => ∃ (m f : Nat) (o : ByteArray), q = .int .i64 m ∧ s = .string o ∧ o.size + m ≤ n ∧ Hid (m ≤ f ∧ mtx f m o = mtx n n ⟨#[]⟩) ∧ Below w.heap.size w w') (fun q _ _ => (intOf q).toNat)
    case atStart => exact ⟨n, n, _, rfl, rfl, (by show 0 + n ≤ n; omega), ⟨Nat.le_refl _, rfl⟩, Below.refl _ _⟩
    case round =>
      obtain ⟨m, f, o, rfl, rfl, hmn, HM, hbl⟩ := hrel
      by_cases hm : m = 0
      · subst hm
        have e := HM.out.2
        have e0 : mtx f 0 o = o := mtx_nil f o
        rw [e0] at e
        have HO : Hid (o = mtx n n ⟨#[]⟩) := e
        clear e e0
        have hsz : (⟨#[109]⟩ : ByteArray).size = 1 := rfl
        go_wp2
        go_ret
        refine ⟨?_, hbl⟩
        rw [HE.out, ← HO.out]
        rfl
      · have hm1 : (0 : Int) < m := by omega
        have q1 : Int.tmod (m : Int) 10 = ((m % 10 : Nat) : Int) := by rw [Int.tmod_eq_emod_of_nonneg (by omega)]; omega
        have q2 : Int.tdiv (m : Int) 10 = ((m / 10 : Nat) : Int) := by rw [Int.tdiv_eq_ediv_of_nonneg (by omega)]; omega
        have HM2 : Hid (mtx (f - 1) (m / 10) (strOfNums [48 + ((m % 10 : Nat) : Int)] ++ o) = mtx n n ⟨#[]⟩ ∧ m / 10 ≤ f - 1) := by
          have h := HM.out
          obtain ⟨f', rfl⟩ : ∃ f', f = f' + 1 := ⟨f - 1, by omega⟩
          rw [mtx_step o hm] at h
          exact ⟨h.2, by omega⟩
        obtain ⟨c, hc⟩ : ∃ c : Nat, m % 10 = c := ⟨_, rfl⟩
        obtain ⟨m2, hm2⟩ : ∃ c : Nat, m / 10 = c := ⟨_, rfl⟩
        rw [hc] at q1 HM2
        rw [hm2] at q2 HM2
        have hcv : (convert 22 9 (.slice (some ⟨wr.heap.size, 0, none⟩) 1 1)).run Tryz.prog (wr.alloc (.cells #[.int .u8 (48 + (c : Int))] 5)) = .ok (.string (strOfNums [48 + (c : Int)])) (wr.alloc (.cells #[.int .u8 (48 + (c : Int))] 5)) := by
          refine run_convert_bytes_arg _ 22 5 (by kernel_rfl) (by kernel_rfl) wr.heap.size 0 1 1 [48 + (c : Int)] rfl (fun i hi => ?_) 9 (by kernel_rfl)
          have : i = 0 := by simpa using hi
          subst this
          simp [go_sem]
        have hs1 : (strOfNums [48 + (c : Int)]).size = 1 := rfl
        generalize strOfNums [48 + (c : Int)] = sd at hcv hs1 HM2
        have HC : Hid (m % 10 = c ∧ m / 10 = m2) := ⟨hc, hm2⟩
        have hc9 : c < 10 := by omega
        have hm3 : m2 < m := by omega
        have hm4 : (m2 : Int) ≤ 1073741830 := by omega
        clear hc hm2
        have hw : wrap64 (m2 : Int) = m2 := by unfold wrap64; omega
        go_wp2
        refine ⟨⟨m2, f - 1, _, rfl, rfl, ?_, ⟨HM2.out.2, HM2.out.1⟩, balloc hbl _⟩, ?_⟩
        · rw [ByteArray.size_append]
          omega
        · simp only [intOf, Int.toNat_natCast]
          exact hm3
theorem mtx_size : ∀ (f n : Nat) (o : ByteArray), (mtx f n o).size ≤ o.size + f
  | 0, _, o => by simp [mtx]
  | f + 1, n, o => by
    by_cases h : n = 0
    · rw [h, mtx_nil]
      omega
    · rw [mtx_step o h]
      have := mtx_size f (n / 10) (strOfNums [48 + ((n % 10 : Nat) : Int)] ++ o)
      rw [ByteArray.size_append, strOfNums_size, List.length_singleton] at this
      omega
theorem markT_size (k : Int) : (markT k).size ≤ 2 + k.toNat := by
  unfold markT
  split
  · show 2 ≤ _
    omega
  · rw [ByteArray.size_append]
    have := mtx_size k.toNat k.toNat ⟨#[]⟩
    have e : (⟨#[]⟩ : ByteArray).size = 0 := rfl
    have e2 : (⟨#[109]⟩ : ByteArray).size = 1 := rfl
    omega
theorem grownAny {w w' : World} {r : Option Nat} (h : w.grownBy w' none) : w.grownBy w' r := ⟨h.os, h.tape, h.output, h.size, fun i hi hr => h.block i hi (by simp)⟩
end Go.Proofs.YtdfapehonegeeaaGreat

/-
  Marks of rows and of texts.
-/
namespace Go.Proofs.YtdfapehonegeeaaGreat
open Go.RowKit
set_option linter.unusedSectionVars false
variable [DecidableEq Rw] [Inhabited Rw]
set_option linter.unusedVariables false
set_option linter.unusedSimpArgs false
attribute [local go_sem ↓] Go.wp_at_zero Go.wp_at_succ

def rwMark (k : Int) (i : Nat) : Rw := ⟨markT (k + 4 * i), k + 4 * i + 1, markT (k + 4 * i + 1 + 1), (k + 4 * i + 1 + 1 + 1) % 3 == 0⟩
def rwMarks (k : Int) (n : Nat) : List Rw := (List.range n).map (rwMark k)
theorem length_rwMarks (k : Int) (n : Nat) : (rwMarks k n).length = n := by simp [rwMarks]
theorem getD_rwMarks (k : Int) (n i : Nat) (h : i < n) : (rwMarks k n).getD i default = rwMark k i := by simp [rwMarks, List.getD, h]
theorem rwMarks_fit {k : Int} {n : Nat} (h0 : 0 ≤ k) (h : k + 4 * n ≤ 1073741824) : Fit (rwMarks k n) := by
  intro i hi
  rw [length_rwMarks] at hi
  rw [getD_rwMarks k n i hi]
  have h1 := markT_size (k + 4 * i)
  have h2 := markT_size (k + 4 * i + 1 + 1)
  unfold rwMark maxLen
  dsimp only
  omega
set_option maxRecDepth 20000 in
set_option maxHeartbeats 2000000 in
theorem markRowS_any (v : Value) (n : Nat) (cs : List Value) (base e : Nat) (k : Int) (w : World) (ho : w.ownsRow base e 4 v n cs) (hn : n ≤ 1048576) (hk0 : 0 ≤ k) (hk1 : k + 4 * n ≤ 1073741824) :
    Calls Tryz.prog 82 #[v, .int .i64 k] w fun r w' => r = .returned (.int .i64 (k + 4 * n)) ∧ w'.ownsRow base e 4 v n (rwsC (rwMarks k n)) ∧ w.grownBy w' v.ownBlock := by
  rcases ho.2 with ⟨rfl, rfl⟩ | ⟨g, cap, cur, rfl, hb, hg, hnc, hcm, _, _⟩
  · go_enter Tryz.func82, Tryz.ntmps82
    go_wp2
    go_loopw [1, 5] (fun q i w' => q = .int .i64 k ∧ i = .int .i64 0 ∧ w' = w) (fun _ _ _ => 0)
    case atStart => exact ⟨rfl, rfl, rfl⟩
    case round =>
      obtain ⟨rfl, rfl, rfl⟩ := hrel
      go_wp2
      go_ret
      exact ⟨by simp, World.ownsRow_nil _ _ _ _, ⟨rfl, rfl, rfl, Nat.le_refl _, fun _ _ _ => rfl⟩⟩
  · unfold maxLen at hcm
    go_enter Tryz.func82, Tryz.ntmps82
    go_wp2
    go_loopw [1, 5] (fun q i w' => ∃ (j : Nat) (cs' : List Value), j ≤ n ∧ i = .int .i64 j ∧ q = .int .i64 (k + 4 * j) ∧ w'.ownsRow base e 4 (.slice (some ⟨g, 0, none⟩) n cap) n cs' ∧ Hid (rwsUpto j cs' (rwMarks k n)) ∧ w.grownBy w' (some g)) (fun _ i _ => n - (intOf i).toNat)
    case atStart => exact ⟨0, cs, Nat.zero_le _, rfl, by simp, ho, fun j h => by omega, ⟨rfl, rfl, rfl, Nat.le_refl _, fun _ _ _ => rfl⟩⟩
    case round =>
      obtain ⟨j, cs', hj, rfl, rfl, ho1, HU, hgr⟩ := hrel
      clear ho hg
      by_cases hlt : j < n
      · go_wp2_with fail
        refine (markText_any (k + 4 * j) _ (by omega) (by omega)).mono ?_
        rintro r wa ⟨rfl, hba⟩
        have ho2 := owns_below ho1 hba
        obtain ⟨u0, g0⟩ := owns_some ho2 (j * 4) (by omega)
        obtain ⟨u1, g1⟩ := owns_some ho2 (j * 4 + 1) (by omega)
        have hf := fun j => ho2.frozenAt j
        have s0 := ho2.stored (j * 4) (.string (markT (k + 4 * j)))
        have s1 := s0.1.stored (j * 4 + 1) (.int .i64 (k + 4 * j + 1))
        have hz := World.block_lt_of_cell? _ _ g0
        dsimp only at hz
        generalize hT0 : markT (k + 4 * j) = T0 at *
        have HT0 : Hid (markT (k + 4 * j) = T0) := hT0
        clear hT0
        go_wp2_with fail
        refine (markText_any (k + 4 * j + 1 + 1) _ (by omega) (by omega)).mono ?_
        rintro r wb ⟨rfl, hbb⟩
        have ho3 := owns_below s1.1 hbb
        obtain ⟨u2, g2⟩ := owns_some ho3 (j * 4 + 2) (by omega)
        obtain ⟨u3, g3⟩ := owns_some ho3 (j * 4 + 3) (by omega)
        have hf3 := fun j => ho3.frozenAt j
        generalize hT1 : markT (k + 4 * j + 1 + 1) = T1 at *
        have HT1 : Hid (markT (k + 4 * j + 1 + 1) = T1) := hT1
        clear hT1
        have s2 := ho3.stored (j * 4 + 2) (.string T1)
        have s3 := s2.1.stored (j * 4 + 3) (.bool ((k + 4 * j + 1 + 1 + 1) % 3 == 0))
        go_wp2
        refine ⟨⟨j + 1, _, by omega, by go_num, by congr 1; omega, s3.1, ?_, ?_⟩, by simp [intOf]; omega⟩
        · exact rwsUpto_set (x := ⟨T0, k + 4 * j + 1, T1, (k + 4 * j + 1 + 1 + 1) % 3 == 0⟩) HU.out (by rw [length_rwMarks]; exact hlt) (by rw [length_rwMarks]; exact ho1.1) (by rw [getD_rwMarks k n j hlt, ← HT0.out, ← HT1.out]; rfl)
        · exact grownTrans (grownTrans (grownTrans (grownTrans (grownTrans (grownTrans hgr (grownAny (grown_of_below hba))) s0.2) s1.2) (grownAny (grown_of_below hbb))) s2.2) s3.2
      · go_wp2
        go_ret
        have hjn : j = n := by omega
        subst hjn
        have e' := rwsUpto_full HU.out ho1.1 (length_rwMarks k j)
        rw [e'] at ho1
        exact ⟨rfl, ho1, hgr⟩
theorem heldKeep {w w' : World} {b o : Nat} {x : Rw} (hb : Below w.heap.size w w') (h : rowCells w b o x) : Below w.heap.size w w' ∧ w'.cell? ⟨b, o, none⟩ = some (.string x.key) ∧ w'.cell? ⟨b, o + 1, none⟩ = some (.int .i64 x.ver) ∧ w'.cell? ⟨b, o + 2, none⟩ = some (.string x.val) ∧ w'.cell? ⟨b, o + 3, none⟩ = some (.bool x.gone) := ⟨hb, rowCells_below hb h⟩
set_option maxRecDepth 20000 in
set_option maxHeartbeats 4000000 in
theorem heldRowS_any (v : Value) (n : Nat) (k : Int) (w : World) (hv : RowsV w v (rwMarks k n)) (hn : n ≤ 1048576) (hk0 : 0 ≤ k) (hk1 : k + 4 * n ≤ 1073741824) :
    Calls Tryz.prog 98 #[v, .int .i64 k] w fun r w' => r = .returned (.int .i64 (k + 4 * n)) ∧ Below w.heap.size w w' := by
  obtain ⟨a, cap, rfl, hnc, hcm, hc⟩ := hv
  rw [length_rwMarks] at hnc hc ⊢
  unfold maxLen at hcm
  go_enter Tryz.func98, Tryz.ntmps98
  go_wp2
  go_loopw [1, 5] (fun q i w' => ∃ j : Nat, j ≤ n ∧ i = .int .i64 j ∧ q = .int .i64 (k + 4 * j) ∧ Below w.heap.size w w') (fun _ i _ => n - (intOf i).toNat)
  case atStart => exact ⟨0, Nat.zero_le _, rfl, by simp, Below.refl _ _⟩
  case round =>
    obtain ⟨j, hj, rfl, rfl, hbl⟩ := hrel
    by_cases hlt : j < n
    · obtain ⟨b, o, rfl, h1⟩ := hc j hlt
      rw [getD_rwMarks k n j hlt] at h1
      replace h1 := rowCells_below hbl h1
      unfold rwMark at h1
      have hq1 : (0 : Int) ≤ k + 4 * j := by omega
      have hq2 : (0 : Int) ≤ k + 4 * j + 1 + 1 := by omega
      have hq3 : k + 4 * j ≤ 1073741830 := by omega
      have hq4 : k + 4 * j + 1 + 1 ≤ 1073741830 := by omega
      obtain ⟨T0, hT0⟩ : ∃ T, markT (k + 4 * j) = T := ⟨_, rfl⟩
      obtain ⟨T1, hT1⟩ : ∃ T, markT (k + 4 * j + 1 + 1) = T := ⟨_, rfl⟩
      rw [hT0, hT1] at h1
      have HT0 : Hid (markT (k + 4 * j) = T0) := hT0
      have HT1 : Hid (markT (k + 4 * j + 1 + 1) = T1) := hT1
      clear hc hT0 hT1
      have hjn : (j : Int) < n := by omega
      go_wp2
      go_region_held3 (fun w' => Below wr.heap.size wr w' ∧ w'.cell? ⟨b, o + j * 4, none⟩ = some (.string T0) ∧ w'.cell? ⟨b, o + j * 4 + 1, none⟩ = some (.int .i64 (k + 4 * j + 1)) ∧ w'.cell? ⟨b, o + j * 4 + 2, none⟩ = some (.string T1) ∧ w'.cell? ⟨b, o + j * 4 + 3, none⟩ = some (.bool ((k + 4 * j + 1 + 1 + 1) % 3 == 0)))
        ((refine heldKeep ?_ h1; repeat (first | exact Below.refl _ _ | assumption | refine Below.drew ?_ | refine balloc ?_ _ | refine bstep ?_ (by assumption)))) (first | (go_at_call 84; refine (markText_any (k + 4 * j) _ hq1 hq3).mono ?_; rintro e wa ⟨rfl, hba⟩; rw [HT0.out]))
      rename_i hH
      have hB := bstep hbl hH.1
      have h2 : rowCells wa b (o + j * 4) ⟨T0, k + 4 * j + 1, T1, (k + 4 * j + 1 + 1 + 1) % 3 == 0⟩ := rowCells_below hH.1 h1
      clear hH h1
      obtain ⟨c0, c1, c2, c3⟩ := h2
      dsimp only at c0 c1 c2 c3
      have h3 : rowCells wa b (o + j * 4) ⟨T0, k + 4 * j + 1, T1, (k + 4 * j + 1 + 1 + 1) % 3 == 0⟩ := ⟨c0, c1, c2, c3⟩
      go_wp2
      go_region_held3 (fun w' => Below wa.heap.size wa w' ∧ w'.cell? ⟨b, o + j * 4, none⟩ = some (.string T0) ∧ w'.cell? ⟨b, o + j * 4 + 1, none⟩ = some (.int .i64 (k + 4 * j + 1)) ∧ w'.cell? ⟨b, o + j * 4 + 2, none⟩ = some (.string T1) ∧ w'.cell? ⟨b, o + j * 4 + 3, none⟩ = some (.bool ((k + 4 * j + 1 + 1 + 1) % 3 == 0)))
        ((refine heldKeep ?_ h3; repeat (first | exact Below.refl _ _ | assumption | refine Below.drew ?_ | refine balloc ?_ _ | refine bstep ?_ (by assumption)))) (first | (go_at_call 84; refine (markText_any (k + 4 * j + 1 + 1) _ hq2 hq4).mono ?_; rintro e wb ⟨rfl, hbb⟩; rw [HT1.out]))
      rename_i hH
      have hB2 := bstep hB hH.1
      obtain ⟨_, c0', c1', c2', c3'⟩ := hH
      clear h3 c0 c1 c2 c3
      go_wp2
      refine ⟨⟨j + 1, by omega, by go_num, ?_, hB2⟩, by simp [intOf]; omega⟩
      congr 1
      omega
    · go_wp2
      go_ret
      have hjn : j = n := by omega
      subst hjn
      exact ⟨rfl, hbl⟩
def cntRows (xs : List Rw) : Nat := 4 * xs.length
def mkRows (k : Int) (xs : List Rw) : List Rw := rwMarks k xs.length
theorem rows_cnt (d : List Rw) : cntRows d ≤ 4 * wtRows d := by unfold cntRows wtRows; omega
theorem markRowS_u (v : Value) (d : List Rw) (base : Nat) (F : Nat → Prop) (k : Int) (w : World) (ho : rowsR.O w base F v d) (hw : wtRows d ≤ 1048576) (hn : k + cntRows d ≤ 1073741824) (hk0 : 0 ≤ k) :
    Calls Tryz.prog 82 #[v, .int .i64 k] w fun r w' => r = .returned (.int .i64 (k + cntRows d)) ∧ rowsR.O w' base F v (mkRows k d) ∧ Mod F w w' := by
  refine (markRowS_any v d.length _ base _ k w ho.1.1 (by unfold wtRows at hw; omega) hk0 (by unfold cntRows at hn; omega)).mono ?_
  rintro e w' ⟨rfl, h1, h2⟩
  refine ⟨by simp [cntRows], ⟨⟨?_, ho.1.2⟩, rwMarks_fit hk0 (by unfold cntRows at hn; omega)⟩, by rw [ho.1.2]; exact Mod.of_grown h2⟩
  unfold mkRows
  rw [length_rwMarks]
  exact h1
theorem heldRowS_u (v : Value) (d : List Rw) (k : Int) (w : World) (hv : rowsR.V w v (mkRows k d)) (hw : wtRows d ≤ 1048576) (hn : k + cntRows d ≤ 1073741824) (hk0 : 0 ≤ k) :
    Calls Tryz.prog 98 #[v, .int .i64 k] w fun r w' => r = .returned (.int .i64 (k + cntRows d)) ∧ Below w.heap.size w w' := by
  refine (heldRowS_any v d.length k w hv.1 (by unfold wtRows at hw; omega) hk0 (by unfold cntRows at hn; omega)).mono ?_
  rintro e w' ⟨rfl, hb⟩
  exact ⟨by simp [cntRows], hb⟩
end Go.Proofs.YtdfapehonegeeaaGreat

/-
  RowsResult. (Written by program: nest.py.)
-/
namespace Go.Proofs.YtdfapehonegeeaaGreat
open Go.RowKit
set_option linter.unusedSectionVars false
variable [DecidableEq Rw] [Inhabited Rw]
attribute [local go_sem ↓] Go.wp_at_zero Go.wp_at_succ

structure TabR where
  code : Int
  rows : List Rw
variable [DecidableEq TabR] [Inhabited TabR]

def tabRR : Rep TabR where
  V := fun w v x => ∃ u1, v = .agg #[.int .i64 x.code, u1] ∧ rowsR.V w u1 x.rows
  O := fun w base F v x => ∃ u1 F1, v = .agg #[.int .i64 x.code, u1] ∧ rowsR.O w base F1 u1 x.rows ∧ (∀ b, F b ↔ (F1 b))
  below := fun h hb => by
    obtain ⟨u1, rfl, h1⟩ := h
    exact ⟨u1, rfl, rowsR.below h1 hb⟩
  ofO := fun h => by
    obtain ⟨u1, F1, rfl, h1, _⟩ := h
    exact ⟨u1, rfl, rowsR.ofO h1⟩
  mod := fun h hm hd => by
    obtain ⟨u1, F1, rfl, h1, hF⟩ := h
    exact ⟨u1, F1, rfl, rowsR.mod h1 hm (fun b hb => hd b ((hF b).2 hb)), hF⟩
  rng := fun h b hb => by
    obtain ⟨u1, F1, rfl, h1, hF⟩ := h
    rcases (hF b).1 hb with hb
    · exact rowsR.rng h1 b hb
  base := fun h hb => by
    obtain ⟨u1, F1, rfl, h1, hF⟩ := h
    exact ⟨u1, F1, rfl, rowsR.base h1 hb, hF⟩
end Go.Proofs.YtdfapehonegeeaaGreat

/-
  Bytes as text.
-/
namespace Go.Proofs.YtdfapehonegeeaaGreat
open Go.RowKit
set_option linter.unusedSimpArgs false

def bstr (xs : List Byte) : ByteArray := strOfNums (xs.map fun b => (b.val : Int))
theorem size_bstr (xs : List Byte) : (bstr xs).size = xs.length := by
  unfold bstr strOfNums
  simp [ByteArray.size]
theorem conv_bytes {w : World} {v : Value} {xs : List Byte} (h : BytesV w v xs) : (convert 22 9 v).run Tryz.prog w = .ok (.string (bstr xs)) w := by
  obtain ⟨a, cap, rfl, _, _, hc⟩ := h
  by_cases h0 : xs.length = 0
  · have e : xs = [] := List.eq_nil_of_length_eq_zero h0
    subst e
    show (convert 22 9 (.slice a 0 cap)).run Tryz.prog w = _
    rw [run_convert_bytes_string w 22 9 5 a 0 cap (by kernel_rfl) (by kernel_rfl) (by kernel_rfl)]
    cases a <;> simp [Conv.bytesToString, loadCells]
    all_goals rfl
  · obtain ⟨b, o, rfl, _⟩ := hc 0 (by omega)
    refine run_convert_bytes_arg w 22 5 (by kernel_rfl) (by kernel_rfl) b o xs.length cap (xs.map fun b => (b.val : Int)) (by simp) (fun i hi => ?_) 9 (by kernel_rfl)
    obtain ⟨b', o', e, hh⟩ := hc i hi
    simp only [Option.some.injEq, Addr.mk.injEq, and_true] at e
    obtain ⟨rfl, rfl⟩ := e
    rw [hh]
    simp [List.getD, hi]
end Go.Proofs.YtdfapehonegeeaaGreat


import Derived.Test.YtndghenlapbaaaaGreatPrnDecideShardLaw16
import Derived.Test.YtndghenlapbaaaaGreatPrnDecideShardLaw3
import Derived.Test.YtndghenlapbaaaaGreatPrnDecideShardLaw1
import Derived.Deep.RegionHeld3
import Derived.Deep.DrawnRows
import Derived.Test.YtndghenlapbaaaaGreatPrnDecideShardLaw10
set_option linter.unusedSectionVars false
set_option linter.unusedSimpArgs false

/-
 OutcomesResult. (Written by program: nest.py.)
-/
namespace Go.Proofs.YtndghenlapbaaaaGreat
open Go.RowKit
variable [DecidableEq Leg] [Inhabited Leg] [DecidableEq Bal] [Inhabited Bal] [DecidableEq Ledg] [Inhabited Ledg]
attribute [local go_sem ↓] Go.wp_at_zero Go.wp_at_succ


structure OutcR where
 code : Int
 outcomes : List Int
 ledger : Ledg
variable [DecidableEq OutcR] [Inhabited OutcR]

end Go.Proofs.YtndghenlapbaaaaGreat

/-
 Slices of Mark: the law's own copy, comparison, count, marks. (Written by program after my texts on legs.)
-/
namespace Go.Proofs.YtndghenlapbaaaaGreat
open Go.RowKit
attribute [local go_sem ↓] Go.wp_at_zero Go.wp_at_succ

structure Mrk where
 con : Int
 val : Int
variable [DecidableEq Mrk] [Inhabited Mrk]

def mrkV (x : Mrk) : Value := .agg #[.int .i64 x.con, .int .i64 x.val]
set_option maxHeartbeats 400000 in
theorem toMark_any (x : Mrk) (w : World) :
  Calls Tryz.prog 70 #[mrkV x] w fun e w' => e = .returned (mrkV x) ∧ Below w.heap.size w w' := by
 obtain ⟨a, b⟩ := x
 unfold mrkV
 go_enter Tryz.func70, Tryz.ntmps70
 go_wp2
 exact bodyPost_ret (v := .agg #[.int .i64 a, .int .i64 b]) (by simp [results, Tryz.results70, go_sem]) rfl ⟨rfl, bA (bA (bA (Below.refl _ _) _) _) _⟩
set_option maxHeartbeats 400000 in
theorem eqMark_any (x y : Mrk) (w : World) :
  Calls Tryz.prog 85 #[mrkV x, mrkV y] w fun e w' => e = .returned (.bool (decide (x = y))) ∧ Below w.heap.size w w' := by
 obtain ⟨a, b⟩ := x
 obtain ⟨a', b'⟩ := y
 unfold mrkV
 go_enter Tryz.func85, Tryz.ntmps85
 go_wp2
 all_goals
  go_ret
  exact ⟨by simp_all, bA (bA (Below.refl _ _) _) _⟩
def mrkCells (w : World) (b o : Nat) (x : Mrk) : Prop := w.cell? ⟨b, o, none⟩ = some (.int .i64 x.con) ∧ w.cell? ⟨b, o + 1, none⟩ = some (.int .i64 x.val)
def MrksV (w : World) (v : Value) (xs : List Mrk) : Prop :=
 ∃ a cap, v = .slice a xs.length cap ∧ xs.length ≤ cap ∧ cap ≤ maxLen ∧ ∀ i, i < xs.length → ∃ b o, a = some ⟨b, o, none⟩ ∧ mrkCells w b (o + i * 2) (xs.getD i default)
theorem mrkCells_below {w w' : World} {b o : Nat} {x : Mrk} (hb : Below w.heap.size w w') (h : mrkCells w b o x) : mrkCells w' b o x := by
 obtain ⟨h0, h1⟩ := h
 exact ⟨cK hb h0, cK hb h1⟩
theorem MrksV_below {w w' : World} {v : Value} {xs : List Mrk} (h : MrksV w v xs) (hb : Below w.heap.size w w') : MrksV w' v xs := by
 obtain ⟨a, cap, rfl, h1, h2, h3⟩ := h
 exact ⟨a, cap, rfl, h1, h2, fun i hi => by
  obtain ⟨b, o, ha, hc⟩ := h3 i hi
  exact ⟨b, o, ha, mrkCells_below hb hc⟩⟩
theorem mrkKeep2 {w w' : World} {b o b' o' : Nat} {x y : Mrk} (hb : Below w.heap.size w w') (h : mrkCells w b o x) (h' : mrkCells w b' o' y) :
  Below w.heap.size w w' ∧ (w'.cell? ⟨b, o, none⟩ = some (.int .i64 x.con) ∧ w'.cell? ⟨b, o + 1, none⟩ = some (.int .i64 x.val)) ∧ (w'.cell? ⟨b', o', none⟩ = some (.int .i64 y.con) ∧ w'.cell? ⟨b', o' + 1, none⟩ = some (.int .i64 y.val)) :=
 ⟨hb, mrkCells_below hb h, mrkCells_below hb h'⟩
theorem mrks_eq_of {xs ys : List Mrk} (hl : ys.length = xs.length) (h : ∀ j, j < xs.length → xs.getD j default = ys.getD j default) : xs = ys := by
 apply List.ext_getElem (by omega)
 intro i h1 h2
 have := h i h1
 simpa [List.getD, h1, h2] using this
set_option maxHeartbeats 1000000 in
theorem eqMarkS_any (x y : Value) (xs ys : List Mrk) (w : World) (hx : MrksV w x xs) (hy : MrksV w y ys) :
  Calls Tryz.prog 42 #[x, y] w fun e w' => e = .returned (.bool (decide (xs = ys))) ∧ Below w.heap.size w w' := by
 obtain ⟨ax, cx, rfl, hcx, hmx, hx⟩ := hx
 obtain ⟨ay, cy, rfl, hcy, hmy, hy⟩ := hy
 unfold maxLen at hmx hmy
 by_cases hl : ys.length = xs.length
 ·
  rw [hl] at hcy hy ⊢
  have HL : Hid (ys.length = xs.length) := hl
  clear hl
  generalize hn : xs.length = n at *
  have HN : Hid (xs.length = n) := hn
  clear hn
  go_enter Tryz.func42, Tryz.ntmps42
  go_wp2
  go_loopw [5] (fun i w' => ∃ k : Nat, k ≤ n ∧ i = .int .i64 k ∧ (∀ j, j < k → xs.getD j default = ys.getD j default) ∧ Below w.heap.size w w') (fun i _ => n - (intOf i).toNat)
  case atStart => exact ⟨0, Nat.zero_le _, rfl, fun j h => absurd h (Nat.not_lt_zero _), Below.refl _ _⟩
  case round =>
   obtain ⟨k, hk, rfl, hpre, hbl⟩ := hrel
   have HP : Hid (∀ j, j < k → xs.getD j default = ys.getD j default) := hpre
   clear hpre
   by_cases hlt : k < n
   ·
    obtain ⟨bx, ox, rfl, h1⟩ := hx k hlt
    obtain ⟨b2, oy, rfl, h2⟩ := hy k hlt
    obtain ⟨l1, hl1⟩ : ∃ l, l = xs.getD k default := ⟨_, rfl⟩
    obtain ⟨l2, hl2⟩ : ∃ l, l = ys.getD k default := ⟨_, rfl⟩
    rw [← hl1] at h1
    rw [← hl2] at h2
    have H1 : Hid (l1 = xs.getD k default) := hl1
    have H2 : Hid (l2 = ys.getD k default) := hl2
    clear hl1 hl2 hx hy
    go_wp2
    go_region_held3 (fun w' => Below w.heap.size w w' ∧ (w'.cell? ⟨bx, ox + k * 2, none⟩ = some (.int .i64 l1.con) ∧ w'.cell? ⟨bx, ox + k * 2 + 1, none⟩ = some (.int .i64 l1.val)) ∧ (w'.cell? ⟨b2, oy + k * 2, none⟩ = some (.int .i64 l2.con) ∧ w'.cell? ⟨b2, oy + k * 2 + 1, none⟩ = some (.int .i64 l2.val))) ((refine mrkKeep2 ?_ h1 h2; repeat (first | exact bR _ _ | assumption | refine bD ?_ | refine bA ?_ _ | refine bS ?_ (by assumption)))) (first | (go_at_call 85; refine (eqMark_any l1 l2 _).mono ?_; rintro e w' ⟨rfl, hb1⟩))
    rename_i hH
    have hB := hH.1
    clear hH
    go_wp2
    ·
     rename_i hle
     go_ret
     refine ⟨?_, hB⟩
     have : ¬ xs = ys := fun h => by
      have : l1 = l2 := by rw [H1.out, H2.out, h]
      simp [this] at hle
     simp [this]
    ·
     rename_i hle
     refine ⟨⟨k + 1, by omega, by go_num, fun j hj => ?_, hB⟩, by simp [intOf]; omega⟩
     by_cases hjk : j < k
     ·
      exact HP.out j hjk
     ·
      have : j = k := by omega
      subst this
      rw [← H1.out, ← H2.out]
      simpa using hle
   ·
    go_wp2
    go_ret
    have : k = n := by omega
    subst this
    refine ⟨?_, hbl⟩
    have : xs = ys := mrks_eq_of (by rw [HL.out, HN.out]) (by rw [HN.out]; exact HP.out)
    simp [this]
 ·
  go_enter Tryz.func42, Tryz.ntmps42
  have hl' : ((xs.length : Int) == (ys.length : Int)) = false := by simp; omega
  go_wp2
  go_ret
  have : ¬ xs = ys := fun h => hl (by rw [h])
  exact ⟨by simp [this], Below.refl _ _⟩
def mrkC (x : Mrk) : List Value := [.int .i64 x.con, .int .i64 x.val]
def mrksC (xs : List Mrk) : List Value := xs.flatMap mrkC
theorem infoMrk : (Tryz.prog.info? 89).map (fun i => (i.zero, i.size, i.bytes)) = some (some (.agg #[.int .i64 0, .int .i64 0]), 2, 16) := by kernel_rfl
theorem length_mrksC (xs : List Mrk) : (mrksC xs).length = xs.length * 2 := by
 induction xs with
 | nil => rfl
 | cons x r ih =>
  have e : mrksC (x :: r) = mrkC x ++ mrksC r := by simp [mrksC]
  have l4 : (mrkC x).length = 2 := rfl
  rw [e, List.length_append, l4, ih, List.length_cons]
  omega
theorem get_mrksC (xs : List Mrk) : ∀ i, i < xs.length → (mrksC xs)[i * 2]? = some (.int .i64 (xs.getD i default).con) ∧ (mrksC xs)[i * 2 + 1]? = some (.int .i64 (xs.getD i default).val) := by
 induction xs with
 | nil => intro i h; simp at h
 | cons x r ih =>
  intro i h
  cases i with
  | zero => simp [mrksC, mrkC]
  | succ i =>
   have := ih i (by simpa using h)
   have e : mrksC (x :: r) = mrkC x ++ mrksC r := by simp [mrksC]
   have l4 : (mrkC x).length = 2 := rfl
   rw [e]
   refine ⟨?_, ?_⟩
   all_goals rw [List.getElem?_append_right (by omega), l4]
   ·
    rw [show (i + 1) * 2 - 2 = i * 2 by omega]; simpa using this.1
   ·
    rw [show (i + 1) * 2 + 1 - 2 = i * 2 + 1 by omega]; simpa using this.2
theorem MrksV_of_owns {w : World} {base e : Nat} {v : Value} {xs : List Mrk} (h : w.ownsRow base e 2 v xs.length (mrksC xs)) : MrksV w v xs := by
 rcases h.2 with ⟨rfl, hn⟩ | ⟨g, cap, cur, rfl, hb, hg, hnc, hcm, hcs, htake⟩
 ·
  exact ⟨none, 0, by rw [hn], by omega, by unfold maxLen; omega, fun i hi => by omega⟩
 ·
  refine ⟨some ⟨g, 0, none⟩, cap, rfl, hnc, hcm, fun i hi => ⟨g, 0, rfl, ?_⟩⟩
  obtain ⟨h0, h1⟩ := get_mrksC xs i hi
  simp only [Nat.zero_add, mrkCells]
  exact ⟨(h.cellAt _ (by omega)).trans h0, (h.cellAt _ (by omega)).trans h1⟩
def mrkUpto (k : Nat) (cs : List Value) (xs : List Mrk) : Prop := ∀ j, j < k * 2 → cs[j]? = (mrksC xs)[j]?
theorem mrkUpto_full {n : Nat} {cs : List Value} {xs : List Mrk} (h : mrkUpto n cs xs) (hl : cs.length = n * 2) (hn : xs.length = n) : cs = mrksC xs := by
 apply List.ext_getElem?
 intro j
 by_cases hj : j < n * 2
 ·
  exact h j hj
 ·
  rw [List.getElem?_eq_none (by omega), List.getElem?_eq_none (by rw [length_mrksC]; omega)]
theorem mrkUpto_set {k : Nat} {cs : List Value} {xs : List Mrk} {x : Mrk} (h : mrkUpto k cs xs) (hk : k < xs.length) (hl : cs.length = xs.length * 2) (he : x = xs.getD k default) :
  mrkUpto (k + 1) ((cs.set (k * 2) (.int .i64 x.con)).set (k * 2 + 1) (.int .i64 x.val)) xs := by
 intro j hj
 obtain ⟨h0, h1⟩ := get_mrksC xs k hk
 subst he
 simp only [List.getElem?_set, List.length_set]
 by_cases e1 : k * 2 + 1 = j
 ·
  subst e1; simp [h1]; omega
 by_cases e0 : k * 2 = j
 ·
  subst e0; simp [h0]; omega
 simp [e0, e1]
 exact h j (by omega)
set_option maxHeartbeats 1000000 in
theorem toMarkS_any (x : Value) (xs : List Mrk) (w : World) (hx : MrksV w x xs) (hn : xs.length ≤ 1048576) :
  Calls Tryz.prog 30 #[x] w fun e w' => ∃ v, e = .returned v ∧ w'.ownsRow w.heap.size 89 2 v xs.length (mrksC xs) ∧ Below w.heap.size w w' := by
 obtain ⟨ax, cx, rfl, hcx, hmx, hx⟩ := hx
 unfold maxLen at hmx
 obtain ⟨i0, hi, hz0, hz1, hz2⟩ := info_parts infoMrk
 obtain ⟨w1, hmk, hown, hgr⟩ := run_make_full (P := Tryz.prog) w w.heap.size 34 89 i0 _ 2 Tryz.underlying34 hi hz0 hz1 .i64 .i64 xs.length (by rw [hz2]; omega) (by unfold maxLen; omega) (Nat.le_refl _)
 have hbl0 : Below w.heap.size w w1 := (Below.refl _ _).grown hgr (Nat.le_refl _) (fun k h => by cases h)
 generalize hn' : xs.length = n at *
 have HN : Hid (xs.length = n) := hn'
 clear hn'
 go_enter Tryz.func30, Tryz.ntmps30
 go_wp2
 go_loopw [4] (fun i w' => ∃ (k : Nat) (cs : List Value), k ≤ n ∧ i = .int .i64 k ∧ w'.ownsRow w.heap.size 89 2 (.slice (some ⟨w.heap.size, 0, none⟩) n n) n cs ∧ mrkUpto k cs xs ∧ Below w.heap.size w w') (fun i _ => n - (intOf i).toNat)
 case atStart => exact ⟨0, _, Nat.zero_le _, rfl, hown, fun j h => by omega, hbl0⟩
 case round =>
  obtain ⟨k, cs, hk, rfl, ho, hup, hbl⟩ := hrel
  have HU : Hid (mrkUpto k cs xs) := hup
  clear hup hown hmk hgr hbl0
  by_cases hlt : k < n
  ·
   obtain ⟨bx, ox, rfl, h1⟩ := hx k hlt
   obtain ⟨l, hl⟩ : ∃ l, l = xs.getD k default := ⟨_, rfl⟩
   rw [← hl] at h1
   have H1 : Hid (l = xs.getD k default) := hl
   clear hl hx
   obtain ⟨a0, a1⟩ := mrkCells_below hbl h1
   go_wp2_with fail
   refine (toMark_any l _).mono ?_
   rintro e wa ⟨rfl, hba⟩
   have ho1 := owns_below ho hba
   obtain ⟨u0, g0⟩ := owns_some ho1 (k * 2) (by omega)
   obtain ⟨u1, g1⟩ := owns_some ho1 (k * 2 + 1) (by omega)
   have hf := fun j => ho1.frozenAt j
   simp only [mrkV]
   go_wp2
   have s0 := ho1.stored (k * 2) (.int .i64 l.con)
   have s1 := s0.1.stored (k * 2 + 1) (.int .i64 l.val)
   refine ⟨⟨k + 1, _, by omega, by go_num, s1.1, mrkUpto_set HU.out (by have := HN.out; omega) (by have := HN.out; have := ho.1; omega) H1.out, ?_⟩, by simp [intOf]; omega⟩
   exact ((bS hbl hba).setCell (Nat.le_refl _) _).setCell (Nat.le_refl _) _
  ·
   go_wp2
   go_ret
   have hkn : k = n := by omega
   subst hkn
   have e := mrkUpto_full HU.out ho.1 HN.out
   subst e
   exact ⟨_, rfl, ho, hbl⟩
def mrkMark (k : Int) (i : Nat) : Mrk := ⟨k + 2 * i, k + 2 * i + 1⟩
def mrkMarks (k : Int) (n : Nat) : List Mrk := (List.range n).map (mrkMark k)
theorem length_mrkMarks (k : Int) (n : Nat) : (mrkMarks k n).length = n := by simp [mrkMarks]
theorem getD_mrkMarks (k : Int) (n i : Nat) (h : i < n) : (mrkMarks k n).getD i default = mrkMark k i := by simp [mrkMarks, List.getD, h]
set_option maxHeartbeats 1000000 in
theorem markMarkS_any (v : Value) (n : Nat) (cs : List Value) (base e : Nat) (k : Int) (w : World) (ho : w.ownsRow base e 2 v n cs) (hn : n ≤ 1048576) (hk0 : 0 ≤ k) (hk1 : k ≤ 1073741824) :
  Calls Tryz.prog 47 #[v, .int .i64 k] w fun r w' => r = .returned (.int .i64 (k + 2 * n)) ∧ w'.ownsRow base e 2 v n (mrksC (mrkMarks k n)) ∧ w.grownBy w' v.ownBlock := by
 rcases ho.2 with ⟨rfl, rfl⟩ | ⟨g, cap, cur, rfl, hb, hg, hnc, hcm, _, _⟩
 ·
  go_enter Tryz.func47, Tryz.ntmps47
  go_wp2
  go_loopw [1, 5] (fun q i w' => q = .int .i64 k ∧ i = .int .i64 0 ∧ w' = w) (fun _ _ _ => 0)
  case atStart => exact ⟨rfl, rfl, rfl⟩
  case round =>
   obtain ⟨rfl, rfl, rfl⟩ := hrel
   go_wp2
   go_ret
   exact ⟨by simp, World.ownsRow_nil _ _ _ _, ⟨rfl, rfl, rfl, Nat.le_refl _, fun _ _ _ => rfl⟩⟩
 ·
  unfold maxLen at hcm
  go_enter Tryz.func47, Tryz.ntmps47
  go_wp2
  go_loopw [1, 5] (fun q i w' => ∃ (j : Nat) (cs' : List Value), j ≤ n ∧ i = .int .i64 j ∧ q = .int .i64 (k + 2 * j) ∧ w'.ownsRow base e 2 (.slice (some ⟨g, 0, none⟩) n cap) n cs' ∧ mrkUpto j cs' (mrkMarks k n) ∧ w.grownBy w' (some g)) (fun _ i _ => n - (intOf i).toNat)
  case atStart => exact ⟨0, cs, Nat.zero_le _, rfl, by simp, ho, fun j h => by omega, ⟨rfl, rfl, rfl, Nat.le_refl _, fun _ _ _ => rfl⟩⟩
  case round =>
   obtain ⟨j, cs', hj, rfl, rfl, ho1, hup, hgr⟩ := hrel
   have HU : Hid (mrkUpto j cs' (mrkMarks k n)) := hup
   clear hup ho hg
   by_cases hlt : j < n
   ·
    obtain ⟨u0, g0⟩ := owns_some ho1 (j * 2) (by omega)
    obtain ⟨u1, g1⟩ := owns_some ho1 (j * 2 + 1) (by omega)
    have hf := fun j => ho1.frozenAt j
    go_wp2
    have s0 := ho1.stored (j * 2) (.int .i64 (k + 2 * j))
    have s1 := s0.1.stored (j * 2 + 1) (.int .i64 (k + 2 * j + 1))
    refine ⟨⟨j + 1, _, by omega, by go_num, ?_, s1.1, mrkUpto_set (x := mrkMark k j) HU.out (by rw [length_mrkMarks]; exact hlt) (by rw [length_mrkMarks]; exact ho1.1) (getD_mrkMarks k n j hlt).symm, grownTrans (grownTrans (hgr) s0.2) s1.2⟩, by simp [intOf]; omega⟩
    congr 1
    omega
   ·
    go_wp2
    go_ret
    have hjn : j = n := by omega
    subst hjn
    have e' := mrkUpto_full HU.out ho1.1 (length_mrkMarks k j)
    rw [e'] at ho1
    exact ⟨rfl, ho1, hgr⟩
set_option maxHeartbeats 1000000 in
theorem heldMarkS_any (v : Value) (n : Nat) (k : Int) (w : World) (hv : MrksV w v (mrkMarks k n)) (hn : n ≤ 1048576) (hk0 : 0 ≤ k) (hk1 : k ≤ 1073741824) :
  Calls Tryz.prog 88 #[v, .int .i64 k] w fun r w' => r = .returned (.int .i64 (k + 2 * n)) ∧ w' = w := by
 obtain ⟨a, cap, rfl, hnc, hcm, hc⟩ := hv
 rw [length_mrkMarks] at hnc hc ⊢
 unfold maxLen at hcm
 go_enter Tryz.func88, Tryz.ntmps88
 go_wp2
 go_loopw [1, 5] (fun q i w' => ∃ j : Nat, j ≤ n ∧ i = .int .i64 j ∧ q = .int .i64 (k + 2 * j) ∧ w' = w) (fun _ i _ => n - (intOf i).toNat)
 case atStart => exact ⟨0, Nat.zero_le _, rfl, by simp, rfl⟩
 case round =>
  obtain ⟨j, hj, rfl, rfl, rfl⟩ := hrel
  by_cases hlt : j < n
  ·
   obtain ⟨b, o, rfl, h1⟩ := hc j hlt
   rw [getD_mrkMarks k n j hlt] at h1
   obtain ⟨g0, g1⟩ := h1
   simp only [mrkMark] at g0 g1
   clear hc
   go_wp2
   refine ⟨⟨j + 1, by omega, by go_num, ?_, trivial⟩, by simp [intOf]; omega⟩
   congr 1
   omega
  ·
   go_wp2
   go_ret
   have hjn : j = n := by omega
   subst hjn
   exact ⟨rfl, rfl⟩
set_option maxHeartbeats 400000 in
theorem szMarkS_any (x : Value) (xs : List Mrk) (left : Int) (w : World) (hx : MrksV w x xs) (h0 : 0 ≤ left) (h1 : left ≤ 1048576) :
  Calls Tryz.prog 21 #[x, .int .i64 left] w fun e w' => e = .returned (.int .i64 (szLen left xs.length)) ∧ w' = w := by
 obtain ⟨ax, cx, rfl, hcx, hmx, hx⟩ := hx
 unfold maxLen at hmx
 generalize xs.length = n at *
 clear hx
 by_cases h : left < n
 ·
  have h' : left - (n : Int) < 0 := by omega
  go_enter Tryz.func21, Tryz.ntmps21
  go_wp2
  go_ret
  exact ⟨by simp only [szLen, if_pos h]; rfl, rfl⟩
 ·
  have h' : ¬ left - (n : Int) < 0 := by omega
  go_enter Tryz.func21, Tryz.ntmps21
  go_wp2
  go_ret
  exact ⟨by rw [szLen, if_neg (by omega)]; rfl, rfl⟩
end Go.Proofs.YtndghenlapbaaaaGreat

/-
 Rows of impl.Mark: the uniform forms. (Written by program: nest.py.)
-/
namespace Go.Proofs.YtndghenlapbaaaaGreat
open Go.RowKit
variable [DecidableEq Mrk] [Inhabited Mrk]
attribute [local go_sem ↓] Go.wp_at_zero Go.wp_at_succ

def mrksR : Rep (List Mrk) := fRep 89 2 mrksC MrksV MrksV_below MrksV_of_owns
def wtMrks (xs : List Mrk) : Nat := xs.length
def cntMrks (xs : List Mrk) : Nat := 2 * xs.length
def mkMrks (k : Int) (xs : List Mrk) : List Mrk := mrkMarks k xs.length
theorem mrks_form {w : World} {v : Value} {xs : List Mrk} (h : mrksR.V w v xs) : ∃ a c, v = .slice a xs.length c := by
 obtain ⟨a, c, rfl, _⟩ := h
 exact ⟨_, _, rfl⟩
theorem mrks_cnt (d : List Mrk) : cntMrks d ≤ 2 * wtMrks d := by unfold cntMrks wtMrks; omega
theorem toMarkS_u (x : Value) (d : List Mrk) (w : World) (hx : mrksR.V w x d) (hn : wtMrks d ≤ 1048576) :
  Calls Tryz.prog 30 #[x] w fun e w' => ∃ v F, e = .returned v ∧ mrksR.O w' w.heap.size F v d ∧ Below w.heap.size w w' := by
 refine (toMarkS_any x d w hx hn).mono ?_
 rintro e w' ⟨v, rfl, ho, hb⟩
 exact ⟨v, _, rfl, ⟨ho, rfl⟩, hb⟩
theorem eqMarkS_u (x y : Value) (d d' : List Mrk) (w : World) (hx : mrksR.V w x d) (hy : mrksR.V w y d') :
  Calls Tryz.prog 42 #[x, y] w fun e w' => e = .returned (.bool (decide (d = d'))) ∧ Below w.heap.size w w' := eqMarkS_any x y d d' w hx hy
theorem szMarkS_u (x : Value) (d : List Mrk) (left : Int) (w : World) (hx : mrksR.V w x d) (h0 : 0 ≤ left) (h1 : left ≤ 1048576) :
  Calls Tryz.prog 21 #[x, .int .i64 left] w fun e w' => e = .returned (.int .i64 (szLen left (wtMrks d))) ∧ Below w.heap.size w w' := by
 refine (szMarkS_any x d left w hx h0 h1).mono ?_
 rintro e w' ⟨rfl, rfl⟩
 exact ⟨rfl, Below.refl _ _⟩
theorem markMarkS_u (v : Value) (d : List Mrk) (base : Nat) (F : Nat → Prop) (k : Int) (w : World) (ho : mrksR.O w base F v d) (hw : wtMrks d ≤ 1048576) (hn : k + cntMrks d ≤ 1073741824) (hk0 : 0 ≤ k) :
  Calls Tryz.prog 47 #[v, .int .i64 k] w fun r w' => r = .returned (.int .i64 (k + cntMrks d)) ∧ mrksR.O w' base F v (mkMrks k d) ∧ Mod F w w' := by
 refine (markMarkS_any v d.length _ base _ k w ho.1 hw hk0 (by omega)).mono ?_
 rintro e w' ⟨rfl, h1, h2⟩
 refine ⟨by simp [cntMrks], ⟨?_, ho.2⟩, by rw [ho.2]; exact Mod.of_grown h2⟩
 unfold mkMrks
 rw [length_mrkMarks]
 exact h1
theorem heldMarkS_u (v : Value) (d : List Mrk) (k : Int) (w : World) (hv : mrksR.V w v (mkMrks k d)) (hw : wtMrks d ≤ 1048576) (hn : k + cntMrks d ≤ 1073741824) (hk0 : 0 ≤ k) :
  Calls Tryz.prog 88 #[v, .int .i64 k] w fun r w' => r = .returned (.int .i64 (k + cntMrks d)) ∧ Below w.heap.size w w' := by
 refine (heldMarkS_any v d.length k w hv hw hk0 (by omega)).mono ?_
 rintro e w' ⟨rfl, rfl⟩
 exact ⟨by simp [cntMrks], Below.refl _ _⟩
end Go.Proofs.YtndghenlapbaaaaGreat

/-
 Rows of Contract. (Written by program: nest.py.)
-/
namespace Go.Proofs.YtndghenlapbaaaaGreat
open Go.RowKit
variable [DecidableEq Leg] [Inhabited Leg] [DecidableEq Cont] [Inhabited Cont]
attribute [local go_sem ↓] Go.wp_at_zero Go.wp_at_succ

def contsR : Rep (List Cont) := nRep contR 44 2 lvCont
def wtConts (xs : List Cont) : Nat := wtL wtCont xs
def cntConts (xs : List Cont) : Nat := cntL cntElCont xs
def mkConts (k : Int) (xs : List Cont) : List Cont := mkL mkElCont cntElCont k xs
theorem conts_form {w : World} {v : Value} {xs : List Cont} (h : contsR.V w v xs) : ∃ a c, v = .slice a xs.length c := by
 obtain ⟨a, c, rfl, _⟩ := h
 exact ⟨_, _, rfl⟩
theorem conts_cnt (d : List Cont) : cntConts d ≤ 5 * wtConts d := cntL_le (fun x => cont_cntEl x) d
theorem infoConts : (Tryz.prog.info? 44).map (fun i => (i.zero, i.size, i.bytes)) = some (some (.agg #[.int .i64 0, .slice none 0 0]), 2, 32) := by kernel_rfl
theorem keepConts {w w' : World} {a0 a1 a2 a3 : Addr} {x0 x1 x2 x3 : Value} (hb : Below w.heap.size w w') (g0 : w.cell? a0 = some x0) (g1 : w.cell? a1 = some x1) (g2 : w.cell? a2 = some x2) (g3 : w.cell? a3 = some x3) : Below w.heap.size w w' ∧ w'.cell? a0 = some x0 ∧ w'.cell? a1 = some x1 ∧ w'.cell? a2 = some x2 ∧ w'.cell? a3 = some x3 :=
 ⟨hb, cK hb g0, cK hb g1, cK hb g2, cK hb g3⟩
set_option maxHeartbeats 1000000 in
theorem eqContractS_u (x y : Value) (xs ys : List Cont) (w : World) (hx : contsR.V w x xs) (hy : contsR.V w y ys) :
  Calls Tryz.prog 43 #[x, y] w fun e w' => e = .returned (.bool (decide (xs = ys))) ∧ Below w.heap.size w w' := by
 obtain ⟨ax, cx, rfl, hcx, hmx, hx⟩ := hx
 obtain ⟨ay, cy, rfl, hcy, hmy, hy⟩ := hy
 unfold maxLen at hmx hmy
 by_cases hl : ys.length = xs.length
 ·
  rw [hl] at hcy hy ⊢
  have HL : Hid (ys.length = xs.length) := hl
  clear hl
  generalize hn : xs.length = n at *
  have HN : Hid (xs.length = n) := hn
  clear hn
  go_enter Tryz.func43, Tryz.ntmps43
  go_wp2
  go_loopw [5] (fun i w' => ∃ k : Nat, k ≤ n ∧ i = .int .i64 k ∧ (∀ j, j < k → xs.getD j default = ys.getD j default) ∧ Below w.heap.size w w') (fun i _ => n - (intOf i).toNat)
  case atStart => exact ⟨0, Nat.zero_le _, rfl, fun j h => absurd h (Nat.not_lt_zero _), Below.refl _ _⟩
  case round =>
   obtain ⟨k, hk, rfl, hpre, hbl⟩ := hrel
   have HP : Hid (∀ j, j < k → xs.getD j default = ys.getD j default) := hpre
   clear hpre
   by_cases hlt : k < n
   ·
    obtain ⟨bx, ox, ux, rfl, _, p1, hvx⟩ := hx k hlt
    obtain ⟨b2, oy, uy, rfl, _, p2, hvy⟩ := hy k hlt
    obtain ⟨l1, hl1⟩ : ∃ l, l = xs.getD k default := ⟨_, rfl⟩
    obtain ⟨l2, hl2⟩ : ∃ l, l = ys.getD k default := ⟨_, rfl⟩
    rw [← hl1] at hvx
    rw [← hl2] at hvy
    have H1 : Hid (l1 = xs.getD k default) := hl1
    have H2 : Hid (l2 = ys.getD k default) := hl2
    have hvx' := hvx
    obtain ⟨ux1, rfl, _⟩ := hvx'
    have hvy' := hvy
    obtain ⟨uy1, rfl, _⟩ := hvy'
    have g0 : w.cell? ⟨bx, ox + k * 2, none⟩ = some (.int .i64 l1.id) := p1 0 (by omega)
    have g1 : w.cell? ⟨bx, ox + k * 2 + 1, none⟩ = some (ux1) := p1 1 (by omega)
    have g2 : w.cell? ⟨b2, oy + k * 2, none⟩ = some (.int .i64 l2.id) := p2 0 (by omega)
    have g3 : w.cell? ⟨b2, oy + k * 2 + 1, none⟩ = some (uy1) := p2 1 (by omega)
    clear hl1 hl2 hx hy p1 p2
    go_wp2
    go_region_held3 (fun w' => Below w.heap.size w w' ∧ w'.cell? ⟨bx, ox + k * 2, none⟩ = some (.int .i64 l1.id) ∧ w'.cell? ⟨bx, ox + k * 2 + 1, none⟩ = some (ux1) ∧ w'.cell? ⟨b2, oy + k * 2, none⟩ = some (.int .i64 l2.id) ∧ w'.cell? ⟨b2, oy + k * 2 + 1, none⟩ = some (uy1)) ((refine keepConts ?_ g0 g1 g2 g3; (repeat (first | exact bR _ _ | assumption | refine bD ?_ | refine bA ?_ _ | refine bS ?_ (by assumption))))) (first | (go_at_call 13; refine (eqContract_u (.agg #[.int .i64 l1.id, ux1]) (.agg #[.int .i64 l2.id, uy1]) l1 l2 _ (contR.below hvx (by (repeat (first | exact bR _ _ | assumption | refine bD ?_ | refine bA ?_ _ | refine bS ?_ (by assumption))))) (contR.below hvy (by (repeat (first | exact bR _ _ | assumption | refine bD ?_ | refine bA ?_ _ | refine bS ?_ (by assumption)))))).mono ?_; rintro e w' ⟨rfl, hb1⟩))
    rename_i hH
    have hB := hH.1
    clear hH
    go_wp2
    ·
     rename_i hle
     go_ret
     refine ⟨?_, hB⟩
     have : ¬ xs = ys := fun h => by
      have : l1 = l2 := by rw [H1.out, H2.out, h]
      simp [this] at hle
     simp [this]
    ·
     rename_i hle
     refine ⟨⟨k + 1, by omega, by go_num, fun j hj => ?_, hB⟩, by simp [intOf]; omega⟩
     by_cases hjk : j < k
     ·
      exact HP.out j hjk
     ·
      have : j = k := by omega
      subst this
      rw [← H1.out, ← H2.out]
      simpa using hle
   ·
    go_wp2
    go_ret
    have : k = n := by omega
    subst this
    refine ⟨?_, hbl⟩
    have : xs = ys := rows_eq_of (by rw [HL.out, HN.out]) (by rw [HN.out]; exact HP.out)
    simp [this]
 ·
  go_enter Tryz.func43, Tryz.ntmps43
  have hl' : ((xs.length : Int) == (ys.length : Int)) = false := by simp; omega
  go_wp2
  go_ret
  have : ¬ xs = ys := fun h => hl (by rw [h])
  exact ⟨by simp [this], Below.refl _ _⟩
set_option maxHeartbeats 1000000 in
theorem toContractS_u (x : Value) (xs : List Cont) (w : World) (hx : contsR.V w x xs) (hn : wtConts xs ≤ 1048576) :
  Calls Tryz.prog 31 #[x] w fun e w' => ∃ v F, e = .returned v ∧ contsR.O w' w.heap.size F v xs ∧ Below w.heap.size w w' := by
 obtain ⟨ax, cx, rfl, hcx, hmx, hx⟩ := hx
 unfold maxLen at hmx
 unfold wtConts at hn
 have hlen : xs.length ≤ 1048576 := by unfold wtL at hn; omega
 have hW : ∀ k, k < xs.length → wtCont (xs.getD k default) ≤ 1048576 := fun k hk => (wt_at hn hk).1
 obtain ⟨i0, hi, hz0, hz1, hz2⟩ := info_parts infoConts
 obtain ⟨w1, hmk, hown, hgr⟩ := run_make_full (P := Tryz.prog) w w.heap.size 35 44 i0 _ 2 Tryz.underlying35 hi hz0 hz1 .i64 .i64 xs.length (by rw [hz2]; omega) (by unfold maxLen; omega) (Nat.le_refl _)
 have hbl0 : Below w.heap.size w w1 := (Below.refl _ _).grown hgr (Nat.le_refl _) (fun k h => by cases h)
 clear hn
 generalize hn' : xs.length = n at *
 have HN : Hid (xs.length = n) := hn'
 clear hn'
 go_enter Tryz.func31, Tryz.ntmps31
 go_wp2
 go_loopw [4] (fun i w' => ∃ (k : Nat) (cs : List Value) (us : Nat → Value) (fs : Nat → Nat → Prop), k ≤ n ∧ i = .int .i64 k ∧ PO contR 44 2 lvCont w' w.heap.size (.slice (some ⟨w.heap.size, 0, none⟩) n n) n k (fun i => xs.getD i default) cs us fs ∧ Below w.heap.size w w') (fun i _ => n - (intOf i).toNat)
 case atStart => exact ⟨0, _, fun _ => .int .i64 0, fun _ _ => False, Nat.zero_le _, rfl, ⟨hown, fun i h => by omega, fun i h => by omega, fun i h => by omega, fun i h => by omega, fun i j h => by omega⟩, hbl0⟩
 case round =>
  obtain ⟨k, cs, us, fs, hk, rfl, hp, hbl⟩ := hrel
  clear hown hmk hgr hbl0
  by_cases hlt : k < n
  ·
   obtain ⟨bx, ox, ux, rfl, _, p1, hvx⟩ := hx k hlt
   have hw := hW k hlt
   obtain ⟨l, hl⟩ : ∃ l, l = xs.getD k default := ⟨_, rfl⟩
   rw [← hl] at hvx hw
   have HL : Hid (l = xs.getD k default) := hl
   have hvx' := hvx
   obtain ⟨ux1, rfl, _⟩ := hvx'
   have g0 : w.cell? ⟨bx, ox + k * 2, none⟩ = some (.int .i64 l.id) := p1 0 (by omega)
   replace g0 := cK hbl g0
   have g1 : w.cell? ⟨bx, ox + k * 2 + 1, none⟩ = some (ux1) := p1 1 (by omega)
   replace g1 := cK hbl g1
   clear hx p1 hW hl
   go_wp2_with fail
   refine (toContract_u (.agg #[.int .i64 l.id, ux1]) l _ (contR.below hvx (by (repeat (first | exact bR _ _ | assumption | refine bD ?_ | refine bA ?_ _ | refine bS ?_ (by assumption))))) hw).mono ?_
   rintro e wa ⟨v1, F1, rfl, o1, b1⟩
   have ofm1 := contR.ofO o1
   obtain ⟨x1_1, rfl, y1_1⟩ := ofm1
   obtain ⟨a1_1, n1_1, rfl⟩ := legs_form y1_1
   have ho1 := (hp.keep b1).row
   obtain ⟨y0, q0⟩ := owns_some ho1 (k * 2) (by omega)
   obtain ⟨y1, q1⟩ := owns_some ho1 (k * 2 + 1) (by omega)
   have hf := fun j => ho1.frozenAt j
   go_wp2
   have s0 := ho1.stored (k * 2) (.int .i64 l.id)
   have s1 := s0.1.stored (k * 2 + 1) (.slice a1_1 l.legs.length n1_1)
   have hrow : World.ownsRow _ w.heap.size 44 2 (.slice (some ⟨w.heap.size, 0, none⟩) n n) n (setRow cs (k * 2) [.int .i64 l.id, .slice a1_1 l.legs.length n1_1]) := s1.1
   have hcl := hp.row.1
   refine ⟨⟨k + 1, _, _, _, by omega, by go_num, hp.push (u := (.agg #[.int .i64 l.id, .slice a1_1 l.legs.length n1_1])) (F := F1) hbl.size b1 (by rw [← HL.out]; exact o1) rfl hrow ((Mod.of_grown s0.2).trans (Mod.of_grown s1.2)) ?_ ?_, ?_⟩, by simp [intOf]; omega⟩
   ·
    intro i hi j hj
    exact setRow_old _ _ _ _ (.inl (by omega))
   ·
    intro j hj
    exact setRow_new _ _ _ _ (by simp only [List.length_cons, List.length_nil]; omega) hj
   ·
    exact (((bS hbl b1).setCell (Nat.le_refl _) _).setCell (Nat.le_refl _) _)
  ·
   go_wp2
   go_ret
   have hkn : k = n := by omega
   subst hkn
   have e := HN.out
   subst e
   exact ⟨_, _, rfl, ⟨cs, us, fs, hp, fun b => Iff.rfl⟩, hbl⟩
set_option maxHeartbeats 1000000 in
theorem szContractS_u (x : Value) (xs : List Cont) (left : Int) (w : World) (hx : contsR.V w x xs) (h0 : 0 ≤ left) (h1 : left ≤ 1048576) :
  Calls Tryz.prog 22 #[x, .int .i64 left] w fun e w' => e = .returned (.int .i64 (szLen left (wtConts xs))) ∧ Below w.heap.size w w' := by
 obtain ⟨ax, cx, rfl, hcx, hmx, hx⟩ := hx
 unfold maxLen at hmx
 unfold wtConts wtL
 have HT : Hid (∀ k, k < xs.length → cntTo wtCont (k + 1) xs = cntTo wtCont k xs + wtCont (xs.getD k default) ∧ cntTo wtCont (k + 1) xs ≤ cntTo wtCont xs.length xs) :=
  fun k hk => ⟨cntTo_succ _ k xs hk, cntTo_le _ _ _ _ hk⟩
 generalize xs.length = n at *
 by_cases h : left < n
 ·
  have h' : left - (n : Int) < 0 := by omega
  clear hx
  go_enter Tryz.func22, Tryz.ntmps22
  go_wp2
  go_ret
  exact ⟨by simp only [szLen]; rw [if_pos (by omega)]; rfl, Below.refl _ _⟩
 ·
  have h' : ¬ left - (n : Int) < 0 := by omega
  go_enter Tryz.func22, Tryz.ntmps22
  go_wp2
  go_loopw [1, 5] (fun l i w' => ∃ k : Nat, k ≤ n ∧ i = .int .i64 k ∧ l = .int .i64 (left - n - cntTo wtCont k xs) ∧ 0 ≤ left - n - cntTo wtCont k xs ∧ Below w.heap.size w w') (fun _ i _ => n - (intOf i).toNat)
  case atStart => exact ⟨0, Nat.zero_le _, rfl, by simp [cntTo], by simp [cntTo]; omega, Below.refl _ _⟩
  case round =>
   obtain ⟨k, hk, rfl, rfl, hpos, hbl⟩ := hrel
   by_cases hlt : k < n
   ·
    obtain ⟨bx, ox, ux, rfl, _, p1, hvx⟩ := hx k hlt
    obtain ⟨t2, t3⟩ := HT.out k hlt
    generalize xs.getD k default = l at *
    have hvx' := hvx
    obtain ⟨ux1, rfl, _⟩ := hvx'
    have g0 : w.cell? ⟨bx, ox + k * 2, none⟩ = some (.int .i64 l.id) := p1 0 (by omega)
    replace g0 := cK hbl g0
    have g1 : w.cell? ⟨bx, ox + k * 2 + 1, none⟩ = some (ux1) := p1 1 (by omega)
    replace g1 := cK hbl g1
    generalize hm : wtCont l = m at *
    have HM : Hid (wtCont l = m) := hm
    clear hx p1 hm
    generalize cntTo wtCont k xs = c at *
    go_wp2_with fail
    refine (szContract_u (.agg #[.int .i64 l.id, ux1]) l (left - n - c) _ (contR.below hvx (by (repeat (first | exact bR _ _ | assumption | refine bD ?_ | refine bA ?_ _ | refine bS ?_ (by assumption))))) hpos (by omega)).mono ?_
    rintro e wa ⟨rfl, b1⟩
    rw [HM.out]
    go_wp2
    ·
     rename_i hneg
     go_ret
     refine ⟨?_, by (repeat (first | exact bR _ _ | assumption | refine bD ?_ | refine bA ?_ _ | refine bS ?_ (by assumption)))⟩
     have : szLen left ↑(n + cntTo wtCont n xs) = -1 := by
      unfold szLen at hneg ⊢
      rw [if_pos (by split at hneg <;> omega)]
     rw [this]
     rfl
    ·
     rename_i hneg
     refine ⟨⟨k + 1, by omega, by go_num, ?_, ?_, by (repeat (first | exact bR _ _ | assumption | refine bD ?_ | refine bA ?_ _ | refine bS ?_ (by assumption)))⟩, by simp [intOf]; omega⟩
     ·
      congr 1
      unfold szLen at hneg ⊢
      split at hneg <;> omega
     ·
      unfold szLen at hneg
      split at hneg <;> omega
   ·
    go_wp2
    go_ret
    have hkn : k = n := by omega
    subst hkn
    refine ⟨?_, hbl⟩
    have : szLen left ↑(k + cntTo wtCont k xs) = left - k - cntTo wtCont k xs := by
     unfold szLen
     rw [if_neg (by omega)]
     omega
    rw [this]
    rfl
set_option maxHeartbeats 1000000 in
theorem heldContractS_u (v : Value) (xs : List Cont) (k : Int) (w : World) (hv : contsR.V w v (mkConts k xs)) (hw : wtConts xs ≤ 1048576) (hn : k + cntConts xs ≤ 1073741824) (hk0 : 0 ≤ k) :
  Calls Tryz.prog 89 #[v, .int .i64 k] w fun r w' => r = .returned (.int .i64 (k + cntConts xs)) ∧ Below w.heap.size w w' := by
 obtain ⟨a, cap, rfl, hnc, hcm, hc⟩ := hv
 unfold mkConts at hnc hc ⊢
 rw [length_mkL] at hnc hc ⊢
 unfold maxLen at hcm
 have hW : ∀ k, k < xs.length → wtCont (xs.getD k default) ≤ 1048576 := fun k hk => (wt_at hw hk).1
 unfold cntConts cntL at hn ⊢
 have HT : Hid (∀ j, j < xs.length → (mkL mkElCont cntElCont k xs).getD j default = mkElCont (k + cntTo cntElCont j xs) (xs.getD j default) ∧ cntTo cntElCont (j + 1) xs = cntTo cntElCont j xs + cntElCont (xs.getD j default) ∧ cntTo cntElCont (j + 1) xs ≤ cntTo cntElCont xs.length xs) :=
  fun j hj => ⟨getD_mkL _ _ _ _ _ hj, cntTo_succ _ j xs hj, cntTo_le _ _ _ _ hj⟩
 clear hw
 generalize xs.length = n at *
 go_enter Tryz.func89, Tryz.ntmps89
 go_wp2
 go_loopw [1, 5] (fun q i w' => ∃ j : Nat, j ≤ n ∧ i = .int .i64 j ∧ q = .int .i64 (k + cntTo cntElCont j xs) ∧ Below w.heap.size w w') (fun _ i _ => n - (intOf i).toNat)
 case atStart => exact ⟨0, Nat.zero_le _, rfl, by simp [cntTo], Below.refl _ _⟩
 case round =>
  obtain ⟨j, hj, rfl, rfl, hbl⟩ := hrel
  by_cases hlt : j < n
  ·
   obtain ⟨bx, ox, ux, rfl, _, p1, hvx⟩ := hc j hlt
   obtain ⟨t1, t2, t3⟩ := HT.out j hlt
   have hw1 := hW j hlt
   rw [t1] at hvx
   generalize xs.getD j default = l at *
   have tC : cntElCont l = 1 + cntLegs l.legs := rfl
   rw [tC] at t2
   have tW : wtCont l = wtLegs l.legs := rfl
   rw [tW] at hw1
   clear tC tW
   obtain ⟨q, hq⟩ : ∃ q, q = k + cntTo cntElCont j xs := ⟨_, rfl⟩
   have hq0 : 0 ≤ q := by omega
   rw [← hq] at hvx ⊢
   have T2 : Hid (k + cntTo cntElCont (j + 1) xs = q + 1 + cntLegs l.legs) := by show _ = _; omega
   have hq1 : q + 1 + cntLegs l.legs ≤ 1073741824 := by omega
   obtain ⟨ux1, rfl, hv1⟩ := hvx
   dsimp only [mkElCont] at hv1
   have g0 : w.cell? ⟨bx, ox + j * 2, none⟩ = some (.int .i64 (q)) := p1 0 (by omega)
   replace g0 := cK hbl g0
   have g1 : w.cell? ⟨bx, ox + j * 2 + 1, none⟩ = some (ux1) := p1 1 (by omega)
   replace g1 := cK hbl g1
   clear hc p1 t1 t2 t3 hW hq
   go_wp2_with fail
   refine (heldLegS_u ux1 l.legs (q + 1) _ (legsR.below hv1 (by (repeat (first | exact bR _ _ | assumption | refine bD ?_ | refine bA ?_ _ | refine bS ?_ (by assumption))))) (by omega) (by omega) (by omega)).mono ?_
   rintro e wb1 ⟨rfl, b1⟩
   go_wp2
   refine ⟨⟨j + 1, by omega, by go_num, ?_, by (repeat (first | exact bR _ _ | assumption | refine bD ?_ | refine bA ?_ _ | refine bS ?_ (by assumption)))⟩, by simp [intOf]; omega⟩
   rw [T2.out]
  ·
   go_wp2
   go_ret
   have hjn : j = n := by omega
   subst hjn
   exact ⟨rfl, hbl⟩
set_option maxHeartbeats 1000000 in
theorem markContractS_u (v : Value) (xs : List Cont) (base : Nat) (F : Nat → Prop) (k : Int) (w : World) (ho : contsR.O w base F v xs) (hw : wtConts xs ≤ 1048576) (hn : k + cntConts xs ≤ 1073741824) (hk0 : 0 ≤ k) :
  Calls Tryz.prog 48 #[v, .int .i64 k] w fun r w' => r = .returned (.int .i64 (k + cntConts xs)) ∧ contsR.O w' base F v (mkConts k xs) ∧ Mod F w w' := by
 obtain ⟨cs, us, fs, hp, hF⟩ := ho
 have hW : ∀ k, k < xs.length → wtCont (xs.getD k default) ≤ 1048576 := fun k hk => (wt_at hw hk).1
 unfold cntConts cntL at hn ⊢
 have HT : Hid (∀ j, j < xs.length → (mkL mkElCont cntElCont k xs).getD j default = mkElCont (k + cntTo cntElCont j xs) (xs.getD j default) ∧ cntTo cntElCont (j + 1) xs = cntTo cntElCont j xs + cntElCont (xs.getD j default) ∧ cntTo cntElCont (j + 1) xs ≤ cntTo cntElCont xs.length xs) :=
  fun j hj => ⟨getD_mkL _ _ _ _ _ hj, cntTo_succ _ j xs hj, cntTo_le _ _ _ _ hj⟩
 clear hw
 have hcap := hp.len
 obtain ⟨av, cv, hav⟩ := owns_form hp.row
 subst hav
 have HF : Hid (∀ b, F b ↔ ((Value.slice av xs.length cv).ownBlock = some b ∨ ∃ i, i < xs.length ∧ fs i b)) := hF
 have HM : Hid ((mkL mkElCont cntElCont k xs).length = xs.length) := length_mkL _ _ _ _
 clear hF
 generalize hxl : xs.length = n at *
 clear hxl
 go_enter Tryz.func48, Tryz.ntmps48
 go_wp2
 go_loopw [1, 5] (fun q i w' => ∃ (j : Nat) (cs : List Value) (us : Nat → Value), j ≤ n ∧ i = .int .i64 j ∧ q = .int .i64 (k + cntTo cntElCont j xs) ∧ PO contR 44 2 lvCont w' base (.slice av n cv) n n (fun i => if i < j then (mkL mkElCont cntElCont k xs).getD i default else xs.getD i default) cs us fs ∧ Mod F w w') (fun _ i _ => n - (intOf i).toNat)
 case atStart => exact ⟨0, cs, us, Nat.zero_le _, rfl, by simp [cntTo], hp.cast (fun i hi => by simp), Mod.refl _ _⟩
 case round =>
  clear hp
  obtain ⟨j, cs, us, hj, rfl, rfl, hp1, hm⟩ := hrel
  by_cases hlt : j < n
  ·
   have he := hp1.el j hlt
   simp only [Nat.lt_irrefl, if_false] at he
   obtain ⟨g, rfl, hcl⟩ := hp1.at hlt hlt
   obtain ⟨t1, t2, t3⟩ := HT.out j hlt
   have hw1 := hW j hlt
   obtain ⟨l, hl⟩ : ∃ l, l = xs.getD j default := ⟨_, rfl⟩
   rw [← hl] at t1 t2 hw1 he
   have tC : cntElCont l = 1 + cntLegs l.legs := rfl
   rw [tC] at t2
   have tW : wtCont l = wtLegs l.legs := rfl
   rw [tW] at hw1
   clear tC tW
   obtain ⟨q, hq⟩ : ∃ q, q = k + cntTo cntElCont j xs := ⟨_, rfl⟩
   have hq0 : 0 ≤ q := by omega
   rw [← hq] at t1 ⊢
   have T1 : Hid ((mkL mkElCont cntElCont k xs).getD j default = mkElCont q l) := t1
   have T2 : Hid (k + cntTo cntElCont (j + 1) xs = q + 1 + cntLegs l.legs) := by show _ = _; omega
   have hq1 : q + 1 + cntLegs l.legs ≤ 1073741824 := by omega
   obtain ⟨ux1, F1, hu, h1, hF⟩ := he
   rw [hu] at hcl
   have g0 : wr.cell? ⟨g, j * 2, none⟩ = some (.int .i64 l.id) := hcl 0 (by omega)
   have g1 : wr.cell? ⟨g, j * 2 + 1, none⟩ = some (ux1) := hcl 1 (by omega)
   have hrow := hp1.row
   have hclen := hrow.1
   have hf := fun j => hrow.frozenAt j
   clear hl t1 t2 t3 hW hq hcl
   go_wp2_with fail
   have st1 := hrow.stored (j * 2) (.int .i64 (q))
   replace h1 := legsR.mod h1 (Mod.of_grown st1.2) (fun b hb he => hp1.out j hlt b ((hF b).2 hb) he)
   have M1 := (Mod.of_grown st1.2).mono (G := fun b => (Value.slice (some ⟨g, 0, none⟩) n cv).ownBlock = some b ∨ fs j b) (fun b hb => .inl hb)
   refine (markLegS_u ux1 l.legs base F1 (q + 1) _ h1 (by omega) (by omega) (by omega)).mono ?_
   rintro e wb1 ⟨rfl, r1, m1⟩
   have rw1 := m1.owns st1.1 (fun b he hb => hp1.out j hlt b ((hF b).2 hb) he)
   have M2 := m1.mono (G := fun b => (Value.slice (some ⟨g, 0, none⟩) n cv).ownBlock = some b ∨ fs j b) (fun b hb => .inr ((hF b).2 hb))
   go_wp2
   have hq := hp1.turn (u := (.agg #[.int .i64 (q), ux1])) (x := mkElCont q l) hlt (M1.trans M2) ⟨ux1, F1, rfl, r1, hF⟩ rfl rw1 ?_ ?_
   ·
    refine ⟨⟨j + 1, _, _, by omega, by go_num, by rw [T2.out], hq.cast fun i hi => ?_, hm.trans ((M1.trans M2).mono fun b hb => (HF.out b).2 ?_)⟩, by simp [intOf]; omega⟩
    ·
     by_cases hij : i = j
     ·
      subst hij
      rw [upd_at, if_pos (by omega)]
      exact T1.out
     ·
      rw [upd_ne _ _ hij]
      by_cases h : i < j
      ·
       rw [if_pos h, if_pos (by omega)]
      ·
       rw [if_neg h, if_neg (by omega)]
    ·
     rcases hb with hb | hb
     ·
      exact .inl hb
     ·
      exact .inr ⟨j, hlt, hb⟩
   ·
    intro i hi hij o ho
    simp only [List.getElem?_set]
    rw [if_neg (by omega)]
   ·
    intro o ho
    have ho' : o = 0 ∨ o = 1 := by omega
    rcases ho' with rfl | rfl
    ·
     rw [show j * 2 + 0 = j * 2 from rfl, List.getElem?_set_self (by (try simp only [List.length_set]); omega)]
     rfl
    ·
     rw [List.getElem?_set_ne (by omega), hp1.cell j hlt 1 (by omega), hu]
     rfl
  ·
   go_wp2
   go_ret
   have hjn : j = n := by omega
   subst hjn
   refine ⟨rfl, ⟨cs, us, fs, ?_, ?_⟩, hm⟩
   ·
    unfold mkConts
    rw [HM.out]
    exact hp1.cast (fun i hi => by rw [if_pos hi])
   ·
    unfold mkConts
    rw [HM.out]
    exact HF.out
end Go.Proofs.YtndghenlapbaaaaGreat


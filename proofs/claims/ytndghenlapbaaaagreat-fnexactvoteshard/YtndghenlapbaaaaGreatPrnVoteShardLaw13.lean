import Derived.Test.YtndghenlapbaaaaGreatPrnVoteShardLaw1
import Derived.Deep.RegionHeld3
import Derived.Deep.DrawnRows
import Derived.Test.YtndghenlapbaaaaGreatPrnVoteShardLaw9
import Derived.Test.YtndghenlapbaaaaGreatPrnVoteShardLaw3
import Derived.Test.YtndghenlapbaaaaGreatPrnVoteShardLaw12
set_option linter.unusedSectionVars false
set_option linter.unusedSimpArgs false

/-
 Slices of Mark: the law's own copy, comparison, count, marks. (Written by program after my texts on legs.)
-/
namespace Go.Proofs.YtndghenlapbaaaaGreat
open Go.RowKit
attribute [local go_sem ↓] Go.wp_at_zero Go.wp_at_succ

structure Mrk where
 con : Int
 val : Int
variable [DecidableEq Mrk] [Inhabited Mrk]

def mrkV (x : Mrk) : Value := .agg #[.int .i64 x.con, .int .i64 x.val]
set_option maxHeartbeats 400000 in
theorem toMark_any (x : Mrk) (w : World) :
  Calls Tryz.prog 70 #[mrkV x] w fun e w' => e = .returned (mrkV x) ∧ Below w.heap.size w w' := by
 obtain ⟨a, b⟩ := x
 unfold mrkV
 go_enter Tryz.func70, Tryz.ntmps70
 go_wp2
 exact bodyPost_ret (v := .agg #[.int .i64 a, .int .i64 b]) (by simp [results, Tryz.results70, go_sem]) rfl ⟨rfl, bA (bA (bA (Below.refl _ _) _) _) _⟩
set_option maxHeartbeats 400000 in
theorem eqMark_any (x y : Mrk) (w : World) :
  Calls Tryz.prog 85 #[mrkV x, mrkV y] w fun e w' => e = .returned (.bool (decide (x = y))) ∧ Below w.heap.size w w' := by
 obtain ⟨a, b⟩ := x
 obtain ⟨a', b'⟩ := y
 unfold mrkV
 go_enter Tryz.func85, Tryz.ntmps85
 go_wp2
 all_goals
  go_ret
  exact ⟨by simp_all, bA (bA (Below.refl _ _) _) _⟩
def mrkCells (w : World) (b o : Nat) (x : Mrk) : Prop := w.cell? ⟨b, o, none⟩ = some (.int .i64 x.con) ∧ w.cell? ⟨b, o + 1, none⟩ = some (.int .i64 x.val)
def MrksV (w : World) (v : Value) (xs : List Mrk) : Prop :=
 ∃ a cap, v = .slice a xs.length cap ∧ xs.length ≤ cap ∧ cap ≤ maxLen ∧ ∀ i, i < xs.length → ∃ b o, a = some ⟨b, o, none⟩ ∧ mrkCells w b (o + i * 2) (xs.getD i default)
theorem mrkCells_below {w w' : World} {b o : Nat} {x : Mrk} (hb : Below w.heap.size w w') (h : mrkCells w b o x) : mrkCells w' b o x := by
 obtain ⟨h0, h1⟩ := h
 exact ⟨cK hb h0, cK hb h1⟩
theorem MrksV_below {w w' : World} {v : Value} {xs : List Mrk} (h : MrksV w v xs) (hb : Below w.heap.size w w') : MrksV w' v xs := by
 obtain ⟨a, cap, rfl, h1, h2, h3⟩ := h
 exact ⟨a, cap, rfl, h1, h2, fun i hi => by
  obtain ⟨b, o, ha, hc⟩ := h3 i hi
  exact ⟨b, o, ha, mrkCells_below hb hc⟩⟩
theorem mrkKeep2 {w w' : World} {b o b' o' : Nat} {x y : Mrk} (hb : Below w.heap.size w w') (h : mrkCells w b o x) (h' : mrkCells w b' o' y) :
  Below w.heap.size w w' ∧ (w'.cell? ⟨b, o, none⟩ = some (.int .i64 x.con) ∧ w'.cell? ⟨b, o + 1, none⟩ = some (.int .i64 x.val)) ∧ (w'.cell? ⟨b', o', none⟩ = some (.int .i64 y.con) ∧ w'.cell? ⟨b', o' + 1, none⟩ = some (.int .i64 y.val)) :=
 ⟨hb, mrkCells_below hb h, mrkCells_below hb h'⟩
theorem mrks_eq_of {xs ys : List Mrk} (hl : ys.length = xs.length) (h : ∀ j, j < xs.length → xs.getD j default = ys.getD j default) : xs = ys := by
 apply List.ext_getElem (by omega)
 intro i h1 h2
 have := h i h1
 simpa [List.getD, h1, h2] using this
set_option maxHeartbeats 1000000 in
theorem eqMarkS_any (x y : Value) (xs ys : List Mrk) (w : World) (hx : MrksV w x xs) (hy : MrksV w y ys) :
  Calls Tryz.prog 42 #[x, y] w fun e w' => e = .returned (.bool (decide (xs = ys))) ∧ Below w.heap.size w w' := by
 obtain ⟨ax, cx, rfl, hcx, hmx, hx⟩ := hx
 obtain ⟨ay, cy, rfl, hcy, hmy, hy⟩ := hy
 unfold maxLen at hmx hmy
 by_cases hl : ys.length = xs.length
 ·
  rw [hl] at hcy hy ⊢
  have HL : Hid (ys.length = xs.length) := hl
  clear hl
  generalize hn : xs.length = n at *
  have HN : Hid (xs.length = n) := hn
  clear hn
  go_enter Tryz.func42, Tryz.ntmps42
  go_wp2
  go_loopw [5] (fun i w' => ∃ k : Nat, k ≤ n ∧ i = .int .i64 k ∧ (∀ j, j < k → xs.getD j default = ys.getD j default) ∧ Below w.heap.size w w') (fun i _ => n - (intOf i).toNat)
  case atStart => exact ⟨0, Nat.zero_le _, rfl, fun j h => absurd h (Nat.not_lt_zero _), Below.refl _ _⟩
  case round =>
   obtain ⟨k, hk, rfl, hpre, hbl⟩ := hrel
   have HP : Hid (∀ j, j < k → xs.getD j default = ys.getD j default) := hpre
   clear hpre
   by_cases hlt : k < n
   ·
    obtain ⟨bx, ox, rfl, h1⟩ := hx k hlt
    obtain ⟨b2, oy, rfl, h2⟩ := hy k hlt
    obtain ⟨l1, hl1⟩ : ∃ l, l = xs.getD k default := ⟨_, rfl⟩
    obtain ⟨l2, hl2⟩ : ∃ l, l = ys.getD k default := ⟨_, rfl⟩
    rw [← hl1] at h1
    rw [← hl2] at h2
    have H1 : Hid (l1 = xs.getD k default) := hl1
    have H2 : Hid (l2 = ys.getD k default) := hl2
    clear hl1 hl2 hx hy
    go_wp2
    go_region_held3 (fun w' => Below w.heap.size w w' ∧ (w'.cell? ⟨bx, ox + k * 2, none⟩ = some (.int .i64 l1.con) ∧ w'.cell? ⟨bx, ox + k * 2 + 1, none⟩ = some (.int .i64 l1.val)) ∧ (w'.cell? ⟨b2, oy + k * 2, none⟩ = some (.int .i64 l2.con) ∧ w'.cell? ⟨b2, oy + k * 2 + 1, none⟩ = some (.int .i64 l2.val))) ((refine mrkKeep2 ?_ h1 h2; repeat (first | exact bR _ _ | assumption | refine bD ?_ | refine bA ?_ _ | refine bS ?_ (by assumption)))) (first | (go_at_call 85; refine (eqMark_any l1 l2 _).mono ?_; rintro e w' ⟨rfl, hb1⟩))
    rename_i hH
    have hB := hH.1
    clear hH
    go_wp2
    ·
     rename_i hle
     go_ret
     refine ⟨?_, hB⟩
     have : ¬ xs = ys := fun h => by
      have : l1 = l2 := by rw [H1.out, H2.out, h]
      simp [this] at hle
     simp [this]
    ·
     rename_i hle
     refine ⟨⟨k + 1, by omega, by go_num, fun j hj => ?_, hB⟩, by simp [intOf]; omega⟩
     by_cases hjk : j < k
     ·
      exact HP.out j hjk
     ·
      have : j = k := by omega
      subst this
      rw [← H1.out, ← H2.out]
      simpa using hle
   ·
    go_wp2
    go_ret
    have : k = n := by omega
    subst this
    refine ⟨?_, hbl⟩
    have : xs = ys := mrks_eq_of (by rw [HL.out, HN.out]) (by rw [HN.out]; exact HP.out)
    simp [this]
 ·
  go_enter Tryz.func42, Tryz.ntmps42
  have hl' : ((xs.length : Int) == (ys.length : Int)) = false := by simp; omega
  go_wp2
  go_ret
  have : ¬ xs = ys := fun h => hl (by rw [h])
  exact ⟨by simp [this], Below.refl _ _⟩
def mrkC (x : Mrk) : List Value := [.int .i64 x.con, .int .i64 x.val]
def mrksC (xs : List Mrk) : List Value := xs.flatMap mrkC
theorem infoMrk : (Tryz.prog.info? 89).map (fun i => (i.zero, i.size, i.bytes)) = some (some (.agg #[.int .i64 0, .int .i64 0]), 2, 16) := by kernel_rfl
theorem length_mrksC (xs : List Mrk) : (mrksC xs).length = xs.length * 2 := by
 induction xs with
 | nil => rfl
 | cons x r ih =>
  have e : mrksC (x :: r) = mrkC x ++ mrksC r := by simp [mrksC]
  have l4 : (mrkC x).length = 2 := rfl
  rw [e, List.length_append, l4, ih, List.length_cons]
  omega
theorem get_mrksC (xs : List Mrk) : ∀ i, i < xs.length → (mrksC xs)[i * 2]? = some (.int .i64 (xs.getD i default).con) ∧ (mrksC xs)[i * 2 + 1]? = some (.int .i64 (xs.getD i default).val) := by
 induction xs with
 | nil => intro i h; simp at h
 | cons x r ih =>
  intro i h
  cases i with
  | zero => simp [mrksC, mrkC]
  | succ i =>
   have := ih i (by simpa using h)
   have e : mrksC (x :: r) = mrkC x ++ mrksC r := by simp [mrksC]
   have l4 : (mrkC x).length = 2 := rfl
   rw [e]
   refine ⟨?_, ?_⟩
   all_goals rw [List.getElem?_append_right (by omega), l4]
   ·
    rw [show (i + 1) * 2 - 2 = i * 2 by omega]; simpa using this.1
   ·
    rw [show (i + 1) * 2 + 1 - 2 = i * 2 + 1 by omega]; simpa using this.2
theorem MrksV_of_owns {w : World} {base e : Nat} {v : Value} {xs : List Mrk} (h : w.ownsRow base e 2 v xs.length (mrksC xs)) : MrksV w v xs := by
 rcases h.2 with ⟨rfl, hn⟩ | ⟨g, cap, cur, rfl, hb, hg, hnc, hcm, hcs, htake⟩
 ·
  exact ⟨none, 0, by rw [hn], by omega, by unfold maxLen; omega, fun i hi => by omega⟩
 ·
  refine ⟨some ⟨g, 0, none⟩, cap, rfl, hnc, hcm, fun i hi => ⟨g, 0, rfl, ?_⟩⟩
  obtain ⟨h0, h1⟩ := get_mrksC xs i hi
  simp only [Nat.zero_add, mrkCells]
  exact ⟨(h.cellAt _ (by omega)).trans h0, (h.cellAt _ (by omega)).trans h1⟩
def mrkUpto (k : Nat) (cs : List Value) (xs : List Mrk) : Prop := ∀ j, j < k * 2 → cs[j]? = (mrksC xs)[j]?
theorem mrkUpto_full {n : Nat} {cs : List Value} {xs : List Mrk} (h : mrkUpto n cs xs) (hl : cs.length = n * 2) (hn : xs.length = n) : cs = mrksC xs := by
 apply List.ext_getElem?
 intro j
 by_cases hj : j < n * 2
 ·
  exact h j hj
 ·
  rw [List.getElem?_eq_none (by omega), List.getElem?_eq_none (by rw [length_mrksC]; omega)]
theorem mrkUpto_set {k : Nat} {cs : List Value} {xs : List Mrk} {x : Mrk} (h : mrkUpto k cs xs) (hk : k < xs.length) (hl : cs.length = xs.length * 2) (he : x = xs.getD k default) :
  mrkUpto (k + 1) ((cs.set (k * 2) (.int .i64 x.con)).set (k * 2 + 1) (.int .i64 x.val)) xs := by
 intro j hj
 obtain ⟨h0, h1⟩ := get_mrksC xs k hk
 subst he
 simp only [List.getElem?_set, List.length_set]
 by_cases e1 : k * 2 + 1 = j
 ·
  subst e1; simp [h1]; omega
 by_cases e0 : k * 2 = j
 ·
  subst e0; simp [h0]; omega
 simp [e0, e1]
 exact h j (by omega)
set_option maxHeartbeats 1000000 in
theorem toMarkS_any (x : Value) (xs : List Mrk) (w : World) (hx : MrksV w x xs) (hn : xs.length ≤ 1048576) :
  Calls Tryz.prog 30 #[x] w fun e w' => ∃ v, e = .returned v ∧ w'.ownsRow w.heap.size 89 2 v xs.length (mrksC xs) ∧ Below w.heap.size w w' := by
 obtain ⟨ax, cx, rfl, hcx, hmx, hx⟩ := hx
 unfold maxLen at hmx
 obtain ⟨i0, hi, hz0, hz1, hz2⟩ := info_parts infoMrk
 obtain ⟨w1, hmk, hown, hgr⟩ := run_make_full (P := Tryz.prog) w w.heap.size 34 89 i0 _ 2 Tryz.underlying34 hi hz0 hz1 .i64 .i64 xs.length (by rw [hz2]; omega) (by unfold maxLen; omega) (Nat.le_refl _)
 have hbl0 : Below w.heap.size w w1 := (Below.refl _ _).grown hgr (Nat.le_refl _) (fun k h => by cases h)
 generalize hn' : xs.length = n at *
 have HN : Hid (xs.length = n) := hn'
 clear hn'
 go_enter Tryz.func30, Tryz.ntmps30
 go_wp2
 go_loopw [4] (fun i w' => ∃ (k : Nat) (cs : List Value), k ≤ n ∧ i = .int .i64 k ∧ w'.ownsRow w.heap.size 89 2 (.slice (some ⟨w.heap.size, 0, none⟩) n n) n cs ∧ mrkUpto k cs xs ∧ Below w.heap.size w w') (fun i _ => n - (intOf i).toNat)
 case atStart => exact ⟨0, _, Nat.zero_le _, rfl, hown, fun j h => by omega, hbl0⟩
 case round =>
  obtain ⟨k, cs, hk, rfl, ho, hup, hbl⟩ := hrel
  have HU : Hid (mrkUpto k cs xs) := hup
  clear hup hown hmk hgr hbl0
  by_cases hlt : k < n
  ·
   obtain ⟨bx, ox, rfl, h1⟩ := hx k hlt
   obtain ⟨l, hl⟩ : ∃ l, l = xs.getD k default := ⟨_, rfl⟩
   rw [← hl] at h1
   have H1 : Hid (l = xs.getD k default) := hl
   clear hl hx
   obtain ⟨a0, a1⟩ := mrkCells_below hbl h1
   go_wp2_with fail
   refine (toMark_any l _).mono ?_
   rintro e wa ⟨rfl, hba⟩
   have ho1 := owns_below ho hba
   obtain ⟨u0, g0⟩ := owns_some ho1 (k * 2) (by omega)
   obtain ⟨u1, g1⟩ := owns_some ho1 (k * 2 + 1) (by omega)
   have hf := fun j => ho1.frozenAt j
   simp only [mrkV]
   go_wp2
   have s0 := ho1.stored (k * 2) (.int .i64 l.con)
   have s1 := s0.1.stored (k * 2 + 1) (.int .i64 l.val)
   refine ⟨⟨k + 1, _, by omega, by go_num, s1.1, mrkUpto_set HU.out (by have := HN.out; omega) (by have := HN.out; have := ho.1; omega) H1.out, ?_⟩, by simp [intOf]; omega⟩
   exact ((bS hbl hba).setCell (Nat.le_refl _) _).setCell (Nat.le_refl _) _
  ·
   go_wp2
   go_ret
   have hkn : k = n := by omega
   subst hkn
   have e := mrkUpto_full HU.out ho.1 HN.out
   subst e
   exact ⟨_, rfl, ho, hbl⟩
def mrkMark (k : Int) (i : Nat) : Mrk := ⟨k + 2 * i, k + 2 * i + 1⟩
def mrkMarks (k : Int) (n : Nat) : List Mrk := (List.range n).map (mrkMark k)
theorem length_mrkMarks (k : Int) (n : Nat) : (mrkMarks k n).length = n := by simp [mrkMarks]
theorem getD_mrkMarks (k : Int) (n i : Nat) (h : i < n) : (mrkMarks k n).getD i default = mrkMark k i := by simp [mrkMarks, List.getD, h]
set_option maxHeartbeats 1000000 in
theorem markMarkS_any (v : Value) (n : Nat) (cs : List Value) (base e : Nat) (k : Int) (w : World) (ho : w.ownsRow base e 2 v n cs) (hn : n ≤ 1048576) (hk0 : 0 ≤ k) (hk1 : k ≤ 1073741824) :
  Calls Tryz.prog 47 #[v, .int .i64 k] w fun r w' => r = .returned (.int .i64 (k + 2 * n)) ∧ w'.ownsRow base e 2 v n (mrksC (mrkMarks k n)) ∧ w.grownBy w' v.ownBlock := by
 rcases ho.2 with ⟨rfl, rfl⟩ | ⟨g, cap, cur, rfl, hb, hg, hnc, hcm, _, _⟩
 ·
  go_enter Tryz.func47, Tryz.ntmps47
  go_wp2
  go_loopw [1, 5] (fun q i w' => q = .int .i64 k ∧ i = .int .i64 0 ∧ w' = w) (fun _ _ _ => 0)
  case atStart => exact ⟨rfl, rfl, rfl⟩
  case round =>
   obtain ⟨rfl, rfl, rfl⟩ := hrel
   go_wp2
   go_ret
   exact ⟨by simp, World.ownsRow_nil _ _ _ _, ⟨rfl, rfl, rfl, Nat.le_refl _, fun _ _ _ => rfl⟩⟩
 ·
  unfold maxLen at hcm
  go_enter Tryz.func47, Tryz.ntmps47
  go_wp2
  go_loopw [1, 5] (fun q i w' => ∃ (j : Nat) (cs' : List Value), j ≤ n ∧ i = .int .i64 j ∧ q = .int .i64 (k + 2 * j) ∧ w'.ownsRow base e 2 (.slice (some ⟨g, 0, none⟩) n cap) n cs' ∧ mrkUpto j cs' (mrkMarks k n) ∧ w.grownBy w' (some g)) (fun _ i _ => n - (intOf i).toNat)
  case atStart => exact ⟨0, cs, Nat.zero_le _, rfl, by simp, ho, fun j h => by omega, ⟨rfl, rfl, rfl, Nat.le_refl _, fun _ _ _ => rfl⟩⟩
  case round =>
   obtain ⟨j, cs', hj, rfl, rfl, ho1, hup, hgr⟩ := hrel
   have HU : Hid (mrkUpto j cs' (mrkMarks k n)) := hup
   clear hup ho hg
   by_cases hlt : j < n
   ·
    obtain ⟨u0, g0⟩ := owns_some ho1 (j * 2) (by omega)
    obtain ⟨u1, g1⟩ := owns_some ho1 (j * 2 + 1) (by omega)
    have hf := fun j => ho1.frozenAt j
    go_wp2
    have s0 := ho1.stored (j * 2) (.int .i64 (k + 2 * j))
    have s1 := s0.1.stored (j * 2 + 1) (.int .i64 (k + 2 * j + 1))
    refine ⟨⟨j + 1, _, by omega, by go_num, ?_, s1.1, mrkUpto_set (x := mrkMark k j) HU.out (by rw [length_mrkMarks]; exact hlt) (by rw [length_mrkMarks]; exact ho1.1) (getD_mrkMarks k n j hlt).symm, grownTrans (grownTrans (hgr) s0.2) s1.2⟩, by simp [intOf]; omega⟩
    congr 1
    omega
   ·
    go_wp2
    go_ret
    have hjn : j = n := by omega
    subst hjn
    have e' := mrkUpto_full HU.out ho1.1 (length_mrkMarks k j)
    rw [e'] at ho1
    exact ⟨rfl, ho1, hgr⟩
set_option maxHeartbeats 1000000 in
theorem heldMarkS_any (v : Value) (n : Nat) (k : Int) (w : World) (hv : MrksV w v (mrkMarks k n)) (hn : n ≤ 1048576) (hk0 : 0 ≤ k) (hk1 : k ≤ 1073741824) :
  Calls Tryz.prog 88 #[v, .int .i64 k] w fun r w' => r = .returned (.int .i64 (k + 2 * n)) ∧ w' = w := by
 obtain ⟨a, cap, rfl, hnc, hcm, hc⟩ := hv
 rw [length_mrkMarks] at hnc hc ⊢
 unfold maxLen at hcm
 go_enter Tryz.func88, Tryz.ntmps88
 go_wp2
 go_loopw [1, 5] (fun q i w' => ∃ j : Nat, j ≤ n ∧ i = .int .i64 j ∧ q = .int .i64 (k + 2 * j) ∧ w' = w) (fun _ i _ => n - (intOf i).toNat)
 case atStart => exact ⟨0, Nat.zero_le _, rfl, by simp, rfl⟩
 case round =>
  obtain ⟨j, hj, rfl, rfl, rfl⟩ := hrel
  by_cases hlt : j < n
  ·
   obtain ⟨b, o, rfl, h1⟩ := hc j hlt
   rw [getD_mrkMarks k n j hlt] at h1
   obtain ⟨g0, g1⟩ := h1
   simp only [mrkMark] at g0 g1
   clear hc
   go_wp2
   refine ⟨⟨j + 1, by omega, by go_num, ?_, trivial⟩, by simp [intOf]; omega⟩
   congr 1
   omega
  ·
   go_wp2
   go_ret
   have hjn : j = n := by omega
   subst hjn
   exact ⟨rfl, rfl⟩
set_option maxHeartbeats 400000 in
theorem szMarkS_any (x : Value) (xs : List Mrk) (left : Int) (w : World) (hx : MrksV w x xs) (h0 : 0 ≤ left) (h1 : left ≤ 1048576) :
  Calls Tryz.prog 21 #[x, .int .i64 left] w fun e w' => e = .returned (.int .i64 (szLen left xs.length)) ∧ w' = w := by
 obtain ⟨ax, cx, rfl, hcx, hmx, hx⟩ := hx
 unfold maxLen at hmx
 generalize xs.length = n at *
 clear hx
 by_cases h : left < n
 ·
  have h' : left - (n : Int) < 0 := by omega
  go_enter Tryz.func21, Tryz.ntmps21
  go_wp2
  go_ret
  exact ⟨by simp only [szLen, if_pos h]; rfl, rfl⟩
 ·
  have h' : ¬ left - (n : Int) < 0 := by omega
  go_enter Tryz.func21, Tryz.ntmps21
  go_wp2
  go_ret
  exact ⟨by rw [szLen, if_neg (by omega)]; rfl, rfl⟩
end Go.Proofs.YtndghenlapbaaaaGreat

/-
 Rows of impl.Mark: the uniform forms. (Written by program: nest.py.)
-/
namespace Go.Proofs.YtndghenlapbaaaaGreat
open Go.RowKit
variable [DecidableEq Mrk] [Inhabited Mrk]
attribute [local go_sem ↓] Go.wp_at_zero Go.wp_at_succ

def mrksR : Rep (List Mrk) := fRep 89 2 mrksC MrksV MrksV_below MrksV_of_owns
def wtMrks (xs : List Mrk) : Nat := xs.length
def cntMrks (xs : List Mrk) : Nat := 2 * xs.length
def mkMrks (k : Int) (xs : List Mrk) : List Mrk := mrkMarks k xs.length
theorem mrks_form {w : World} {v : Value} {xs : List Mrk} (h : mrksR.V w v xs) : ∃ a c, v = .slice a xs.length c := by
 obtain ⟨a, c, rfl, _⟩ := h
 exact ⟨_, _, rfl⟩
theorem mrks_cnt (d : List Mrk) : cntMrks d ≤ 2 * wtMrks d := by unfold cntMrks wtMrks; omega
theorem toMarkS_u (x : Value) (d : List Mrk) (w : World) (hx : mrksR.V w x d) (hn : wtMrks d ≤ 1048576) :
  Calls Tryz.prog 30 #[x] w fun e w' => ∃ v F, e = .returned v ∧ mrksR.O w' w.heap.size F v d ∧ Below w.heap.size w w' := by
 refine (toMarkS_any x d w hx hn).mono ?_
 rintro e w' ⟨v, rfl, ho, hb⟩
 exact ⟨v, _, rfl, ⟨ho, rfl⟩, hb⟩
theorem eqMarkS_u (x y : Value) (d d' : List Mrk) (w : World) (hx : mrksR.V w x d) (hy : mrksR.V w y d') :
  Calls Tryz.prog 42 #[x, y] w fun e w' => e = .returned (.bool (decide (d = d'))) ∧ Below w.heap.size w w' := eqMarkS_any x y d d' w hx hy
theorem szMarkS_u (x : Value) (d : List Mrk) (left : Int) (w : World) (hx : mrksR.V w x d) (h0 : 0 ≤ left) (h1 : left ≤ 1048576) :
  Calls Tryz.prog 21 #[x, .int .i64 left] w fun e w' => e = .returned (.int .i64 (szLen left (wtMrks d))) ∧ Below w.heap.size w w' := by
 refine (szMarkS_any x d left w hx h0 h1).mono ?_
 rintro e w' ⟨rfl, rfl⟩
 exact ⟨rfl, Below.refl _ _⟩
theorem markMarkS_u (v : Value) (d : List Mrk) (base : Nat) (F : Nat → Prop) (k : Int) (w : World) (ho : mrksR.O w base F v d) (hw : wtMrks d ≤ 1048576) (hn : k + cntMrks d ≤ 1073741824) (hk0 : 0 ≤ k) :
  Calls Tryz.prog 47 #[v, .int .i64 k] w fun r w' => r = .returned (.int .i64 (k + cntMrks d)) ∧ mrksR.O w' base F v (mkMrks k d) ∧ Mod F w w' := by
 refine (markMarkS_any v d.length _ base _ k w ho.1 hw hk0 (by omega)).mono ?_
 rintro e w' ⟨rfl, h1, h2⟩
 refine ⟨by simp [cntMrks], ⟨?_, ho.2⟩, by rw [ho.2]; exact Mod.of_grown h2⟩
 unfold mkMrks
 rw [length_mrkMarks]
 exact h1
theorem heldMarkS_u (v : Value) (d : List Mrk) (k : Int) (w : World) (hv : mrksR.V w v (mkMrks k d)) (hw : wtMrks d ≤ 1048576) (hn : k + cntMrks d ≤ 1073741824) (hk0 : 0 ≤ k) :
  Calls Tryz.prog 88 #[v, .int .i64 k] w fun r w' => r = .returned (.int .i64 (k + cntMrks d)) ∧ Below w.heap.size w w' := by
 refine (heldMarkS_any v d.length k w hv hw hk0 (by omega)).mono ?_
 rintro e w' ⟨rfl, rfl⟩
 exact ⟨by simp [cntMrks], Below.refl _ _⟩
end Go.Proofs.YtndghenlapbaaaaGreat

/-
 Rows of Contract. (Written by program: nest.py.)
-/
namespace Go.Proofs.YtndghenlapbaaaaGreat
open Go.RowKit
variable [DecidableEq Leg] [Inhabited Leg] [DecidableEq Cont] [Inhabited Cont]
attribute [local go_sem ↓] Go.wp_at_zero Go.wp_at_succ

def contsR : Rep (List Cont) := nRep contR 44 2 lvCont
def wtConts (xs : List Cont) : Nat := wtL wtCont xs
def cntConts (xs : List Cont) : Nat := cntL cntElCont xs
def mkConts (k : Int) (xs : List Cont) : List Cont := mkL mkElCont cntElCont k xs
theorem conts_form {w : World} {v : Value} {xs : List Cont} (h : contsR.V w v xs) : ∃ a c, v = .slice a xs.length c := by
 obtain ⟨a, c, rfl, _⟩ := h
 exact ⟨_, _, rfl⟩
theorem conts_cnt (d : List Cont) : cntConts d ≤ 5 * wtConts d := cntL_le (fun x => cont_cntEl x) d
theorem infoConts : (Tryz.prog.info? 44).map (fun i => (i.zero, i.size, i.bytes)) = some (some (.agg #[.int .i64 0, .slice none 0 0]), 2, 32) := by kernel_rfl
theorem keepConts {w w' : World} {a0 a1 a2 a3 : Addr} {x0 x1 x2 x3 : Value} (hb : Below w.heap.size w w') (g0 : w.cell? a0 = some x0) (g1 : w.cell? a1 = some x1) (g2 : w.cell? a2 = some x2) (g3 : w.cell? a3 = some x3) : Below w.heap.size w w' ∧ w'.cell? a0 = some x0 ∧ w'.cell? a1 = some x1 ∧ w'.cell? a2 = some x2 ∧ w'.cell? a3 = some x3 :=
 ⟨hb, cK hb g0, cK hb g1, cK hb g2, cK hb g3⟩
set_option maxHeartbeats 1000000 in
theorem eqContractS_u (x y : Value) (xs ys : List Cont) (w : World) (hx : contsR.V w x xs) (hy : contsR.V w y ys) :
  Calls Tryz.prog 43 #[x, y] w fun e w' => e = .returned (.bool (decide (xs = ys))) ∧ Below w.heap.size w w' := by
 obtain ⟨ax, cx, rfl, hcx, hmx, hx⟩ := hx
 obtain ⟨ay, cy, rfl, hcy, hmy, hy⟩ := hy
 unfold maxLen at hmx hmy
 by_cases hl : ys.length = xs.length
 ·
  rw [hl] at hcy hy ⊢
  have HL : Hid (ys.length = xs.length) := hl
  clear hl
  generalize hn : xs.length = n at *
  have HN : Hid (xs.length = n) := hn
  clear hn
  go_enter Tryz.func43, Tryz.ntmps43
  go_wp2
  go_loopw [5] (fun i w' => ∃ k : Nat, k ≤ n ∧ i = .int .i64 k ∧ (∀ j, j < k → xs.getD j default = ys.getD j default) ∧ Below w.heap.size w w') (fun i _ => n - (intOf i).toNat)
  case atStart => exact ⟨0, Nat.zero_le _, rfl, fun j h => absurd h (Nat.not_lt_zero _), Below.refl _ _⟩
  case round =>
   obtain ⟨k, hk, rfl, hpre, hbl⟩ := hrel
   have HP : Hid (∀ j, j < k → xs.getD j default = ys.getD j default) := hpre
   clear hpre
   by_cases hlt : k < n
   ·
    obtain ⟨bx, ox, ux, rfl, _, p1, hvx⟩ := hx k hlt
    obtain ⟨b2, oy, uy, rfl, _, p2, hvy⟩ := hy k hlt
    obtain ⟨l1, hl1⟩ : ∃ l, l = xs.getD k default := ⟨_, rfl⟩
    obtain ⟨l2, hl2⟩ : ∃ l, l = ys.getD k default := ⟨_, rfl⟩
    rw [← hl1] at hvx
    rw [← hl2] at hvy
    have H1 : Hid (l1 = xs.getD k default) := hl1
    have H2 : Hid (l2 = ys.getD k default) := hl2
    have hvx' := hvx
    obtain ⟨ux1, rfl, _⟩ := hvx'
    have hvy' := hvy
    obtain ⟨uy1, rfl, _⟩ := hvy'
    have g0 : w.cell? ⟨bx, ox + k * 2, none⟩ = some (.int .i64 l1.id) := p1 0 (by omega)
    have g1 : w.cell? ⟨bx, ox + k * 2 + 1, none⟩ = some (ux1) := p1 1 (by omega)
    have g2 : w.cell? ⟨b2, oy + k * 2, none⟩ = some (.int .i64 l2.id) := p2 0 (by omega)
    have g3 : w.cell? ⟨b2, oy + k * 2 + 1, none⟩ = some (uy1) := p2 1 (by omega)
    clear hl1 hl2 hx hy p1 p2
    go_wp2
    go_region_held3 (fun w' => Below w.heap.size w w' ∧ w'.cell? ⟨bx, ox + k * 2, none⟩ = some (.int .i64 l1.id) ∧ w'.cell? ⟨bx, ox + k * 2 + 1, none⟩ = some (ux1) ∧ w'.cell? ⟨b2, oy + k * 2, none⟩ = some (.int .i64 l2.id) ∧ w'.cell? ⟨b2, oy + k * 2 + 1, none⟩ = some (uy1)) ((refine keepConts ?_ g0 g1 g2 g3; (repeat (first | exact bR _ _ | assumption | refine bD ?_ | refine bA ?_ _ | refine bS ?_ (by assumption))))) (first | (go_at_call 13; refine (eqContract_u (.agg #[.int .i64 l1.id, ux1]) (.agg #[.int .i64 l2.id, uy1]) l1 l2 _ (contR.below hvx (by (repeat (first | exact bR _ _ | assumption | refine bD ?_ | refine bA ?_ _ | refine bS ?_ (by assumption))))) (contR.below hvy (by (repeat (first | exact bR _ _ | assumption | refine bD ?_ | refine bA ?_ _ | refine bS ?_ (by assumption)))))).mono ?_; rintro e w' ⟨rfl, hb1⟩))
    rename_i hH
    have hB := hH.1
    clear hH
    go_wp2
    ·
     rename_i hle
     go_ret
     refine ⟨?_, hB⟩
     have : ¬ xs = ys := fun h => by
      have : l1 = l2 := by rw [H1.out, H2.out, h]
      simp [this] at hle
     simp [this]
    ·
     rename_i hle
     refine ⟨⟨k + 1, by omega, by go_num, fun j hj => ?_, hB⟩, by simp [intOf]; omega⟩
     by_cases hjk : j < k
     ·
      exact HP.out j hjk
     ·
      have : j = k := by omega
      subst this
      rw [← H1.out, ← H2.out]
      simpa using hle
   ·
    go_wp2
    go_ret
    have : k = n := by omega
    subst this
    refine ⟨?_, hbl⟩
    have : xs = ys := rows_eq_of (by rw [HL.out, HN.out]) (by rw [HN.out]; exact HP.out)
    simp [this]
 ·
  go_enter Tryz.func43, Tryz.ntmps43
  have hl' : ((xs.length : Int) == (ys.length : Int)) = false := by simp; omega
  go_wp2
  go_ret
  have : ¬ xs = ys := fun h => hl (by rw [h])
  exact ⟨by simp [this], Below.refl _ _⟩
set_option maxHeartbeats 1000000 in
theorem toContractS_u (x : Value) (xs : List Cont) (w : World) (hx : contsR.V w x xs) (hn : wtConts xs ≤ 1048576) :
  Calls Tryz.prog 31 #[x] w fun e w' => ∃ v F, e = .returned v ∧ contsR.O w' w.heap.size F v xs ∧ Below w.heap.size w w' := by
 obtain ⟨ax, cx, rfl, hcx, hmx, hx⟩ := hx
 unfold maxLen at hmx
 unfold wtConts at hn
 have hlen : xs.length ≤ 1048576 := by unfold wtL at hn; omega
 have hW : ∀ k, k < xs.length → wtCont (xs.getD k default) ≤ 1048576 := fun k hk => (wt_at hn hk).1
 obtain ⟨i0, hi, hz0, hz1, hz2⟩ := info_parts infoConts
 obtain ⟨w1, hmk, hown, hgr⟩ := run_make_full (P := Tryz.prog) w w.heap.size 35 44 i0 _ 2 Tryz.underlying35 hi hz0 hz1 .i64 .i64 xs.length (by rw [hz2]; omega) (by unfold maxLen; omega) (Nat.le_refl _)
 have hbl0 : Below w.heap.size w w1 := (Below.refl _ _).grown hgr (Nat.le_refl _) (fun k h => by cases h)
 clear hn
 generalize hn' : xs.length = n at *
 have HN : Hid (xs.length = n) := hn'
 clear hn'
 go_enter Tryz.func31, Tryz.ntmps31
 go_wp2
 go_loopw [4] (fun i w' => ∃ (k : Nat) (cs : List Value) (us : Nat → Value) (fs : Nat → Nat → Prop), k ≤ n ∧ i = .int .i64 k ∧ PO contR 44 2 lvCont w' w.heap.size (.slice (some ⟨w.heap.size, 0, none⟩) n n) n k (fun i => xs.getD i default) cs us fs ∧ Below w.heap.size w w') (fun i _ => n - (intOf i).toNat)
 case atStart => exact ⟨0, _, fun _ => .int .i64 0, fun _ _ => False, Nat.zero_le _, rfl, ⟨hown, fun i h => by omega, fun i h => by omega, fun i h => by omega, fun i h => by omega, fun i j h => by omega⟩, hbl0⟩
 case round =>
  obtain ⟨k, cs, us, fs, hk, rfl, hp, hbl⟩ := hrel
  clear hown hmk hgr hbl0
  by_cases hlt : k < n
  ·
   obtain ⟨bx, ox, ux, rfl, _, p1, hvx⟩ := hx k hlt
   have hw := hW k hlt
   obtain ⟨l, hl⟩ : ∃ l, l = xs.getD k default := ⟨_, rfl⟩
   rw [← hl] at hvx hw
   have HL : Hid (l = xs.getD k default) := hl
   have hvx' := hvx
   obtain ⟨ux1, rfl, _⟩ := hvx'
   have g0 : w.cell? ⟨bx, ox + k * 2, none⟩ = some (.int .i64 l.id) := p1 0 (by omega)
   replace g0 := cK hbl g0
   have g1 : w.cell? ⟨bx, ox + k * 2 + 1, none⟩ = some (ux1) := p1 1 (by omega)
   replace g1 := cK hbl g1
   clear hx p1 hW hl
   go_wp2_with fail
   refine (toContract_u (.agg #[.int .i64 l.id, ux1]) l _ (contR.below hvx (by (repeat (first | exact bR _ _ | assumption | refine bD ?_ | refine bA ?_ _ | refine bS ?_ (by assumption))))) hw).mono ?_
   rintro e wa ⟨v1, F1, rfl, o1, b1⟩
   have ofm1 := contR.ofO o1
   obtain ⟨x1_1, rfl, y1_1⟩ := ofm1
   obtain ⟨a1_1, n1_1, rfl⟩ := legs_form y1_1
   have ho1 := (hp.keep b1).row
   obtain ⟨y0, q0⟩ := owns_some ho1 (k * 2) (by omega)
   obtain ⟨y1, q1⟩ := owns_some ho1 (k * 2 + 1) (by omega)
   have hf := fun j => ho1.frozenAt j
   go_wp2
   have s0 := ho1.stored (k * 2) (.int .i64 l.id)
   have s1 := s0.1.stored (k * 2 + 1) (.slice a1_1 l.legs.length n1_1)
   have hrow : World.ownsRow _ w.heap.size 44 2 (.slice (some ⟨w.heap.size, 0, none⟩) n n) n (setRow cs (k * 2) [.int .i64 l.id, .slice a1_1 l.legs.length n1_1]) := s1.1
   have hcl := hp.row.1
   refine ⟨⟨k + 1, _, _, _, by omega, by go_num, hp.push (u := (.agg #[.int .i64 l.id, .slice a1_1 l.legs.length n1_1])) (F := F1) hbl.size b1 (by rw [← HL.out]; exact o1) rfl hrow ((Mod.of_grown s0.2).trans (Mod.of_grown s1.2)) ?_ ?_, ?_⟩, by simp [intOf]; omega⟩
   ·
    intro i hi j hj
    exact setRow_old _ _ _ _ (.inl (by omega))
   ·
    intro j hj
    exact setRow_new _ _ _ _ (by simp only [List.length_cons, List.length_nil]; omega) hj
   ·
    exact (((bS hbl b1).setCell (Nat.le_refl _) _).setCell (Nat.le_refl _) _)
  ·
   go_wp2
   go_ret
   have hkn : k = n := by omega
   subst hkn
   have e := HN.out
   subst e
   exact ⟨_, _, rfl, ⟨cs, us, fs, hp, fun b => Iff.rfl⟩, hbl⟩
set_option maxHeartbeats 1000000 in
theorem szContractS_u (x : Value) (xs : List Cont) (left : Int) (w : World) (hx : contsR.V w x xs) (h0 : 0 ≤ left) (h1 : left ≤ 1048576) :
  Calls Tryz.prog 22 #[x, .int .i64 left] w fun e w' => e = .returned (.int .i64 (szLen left (wtConts xs))) ∧ Below w.heap.size w w' := by
 obtain ⟨ax, cx, rfl, hcx, hmx, hx⟩ := hx
 unfold maxLen at hmx
 unfold wtConts wtL
 have HT : Hid (∀ k, k < xs.length → cntTo wtCont (k + 1) xs = cntTo wtCont k xs + wtCont (xs.getD k default) ∧ cntTo wtCont (k + 1) xs ≤ cntTo wtCont xs.length xs) :=
  fun k hk => ⟨cntTo_succ _ k xs hk, cntTo_le _ _ _ _ hk⟩
 generalize xs.length = n at *
 by_cases h : left < n
 ·
  have h' : left - (n : Int) < 0 := by omega
  clear hx
  go_enter Tryz.func22, Tryz.ntmps22
  go_wp2
  go_ret
  exact ⟨by simp only [szLen]; rw [if_pos (by omega)]; rfl, Below.refl _ _⟩
 ·
  have h' : ¬ left - (n : Int) < 0 := by omega
  go_enter Tryz.func22, Tryz.ntmps22
  go_wp2
  go_loopw [1, 5] (fun l i w' => ∃ k : Nat, k ≤ n ∧ i = .int .i64 k ∧ l = .int .i64 (left - n - cntTo wtCont k xs) ∧ 0 ≤ left - n - cntTo wtCont k xs ∧ Below w.heap.size w w') (fun _ i _ => n - (intOf i).toNat)
  case atStart => exact ⟨0, Nat.zero_le _, rfl, by simp [cntTo], by simp [cntTo]; omega, Below.refl _ _⟩
  case round =>
   obtain ⟨k, hk, rfl, rfl, hpos, hbl⟩ := hrel
   by_cases hlt : k < n
   ·
    obtain ⟨bx, ox, ux, rfl, _, p1, hvx⟩ := hx k hlt
    obtain ⟨t2, t3⟩ := HT.out k hlt
    generalize xs.getD k default = l at *
    have hvx' := hvx
    obtain ⟨ux1, rfl, _⟩ := hvx'
    have g0 : w.cell? ⟨bx, ox + k * 2, none⟩ = some (.int .i64 l.id) := p1 0 (by omega)
    replace g0 := cK hbl g0
    have g1 : w.cell? ⟨bx, ox + k * 2 + 1, none⟩ = some (ux1) := p1 1 (by omega)
    replace g1 := cK hbl g1
    generalize hm : wtCont l = m at *
    have HM : Hid (wtCont l = m) := hm
    clear hx p1 hm
    generalize cntTo wtCont k xs = c at *
    go_wp2_with fail
    refine (szContract_u (.agg #[.int .i64 l.id, ux1]) l (left - n - c) _ (contR.below hvx (by (repeat (first | exact bR _ _ | assumption | refine bD ?_ | refine bA ?_ _ | refine bS ?_ (by assumption))))) hpos (by omega)).mono ?_
    rintro e wa ⟨rfl, b1⟩
    rw [HM.out]
    go_wp2
    ·
     rename_i hneg
     go_ret
     refine ⟨?_, by (repeat (first | exact bR _ _ | assumption | refine bD ?_ | refine bA ?_ _ | refine bS ?_ (by assumption)))⟩
     have : szLen left ↑(n + cntTo wtCont n xs) = -1 := by
      unfold szLen at hneg ⊢
      rw [if_pos (by split at hneg <;> omega)]
     rw [this]
     rfl
    ·
     rename_i hneg
     refine ⟨⟨k + 1, by omega, by go_num, ?_, ?_, by (repeat (first | exact bR _ _ | assumption | refine bD ?_ | refine bA ?_ _ | refine bS ?_ (by assumption)))⟩, by simp [intOf]; omega⟩
     ·
      congr 1
      unfold szLen at hneg ⊢
      split at hneg <;> omega
     ·
      unfold szLen at hneg
      split at hneg <;> omega
   ·
    go_wp2
    go_ret
    have hkn : k = n := by omega
    subst hkn
    refine ⟨?_, hbl⟩
    have : szLen left ↑(k + cntTo wtCont k xs) = left - k - cntTo wtCont k xs := by
     unfold szLen
     rw [if_neg (by omega)]
     omega
    rw [this]
    rfl
set_option maxHeartbeats 1000000 in
theorem heldContractS_u (v : Value) (xs : List Cont) (k : Int) (w : World) (hv : contsR.V w v (mkConts k xs)) (hw : wtConts xs ≤ 1048576) (hn : k + cntConts xs ≤ 1073741824) (hk0 : 0 ≤ k) :
  Calls Tryz.prog 89 #[v, .int .i64 k] w fun r w' => r = .returned (.int .i64 (k + cntConts xs)) ∧ Below w.heap.size w w' := by
 obtain ⟨a, cap, rfl, hnc, hcm, hc⟩ := hv
 unfold mkConts at hnc hc ⊢
 rw [length_mkL] at hnc hc ⊢
 unfold maxLen at hcm
 have hW : ∀ k, k < xs.length → wtCont (xs.getD k default) ≤ 1048576 := fun k hk => (wt_at hw hk).1
 unfold cntConts cntL at hn ⊢
 have HT : Hid (∀ j, j < xs.length → (mkL mkElCont cntElCont k xs).getD j default = mkElCont (k + cntTo cntElCont j xs) (xs.getD j default) ∧ cntTo cntElCont (j + 1) xs = cntTo cntElCont j xs + cntElCont (xs.getD j default) ∧ cntTo cntElCont (j + 1) xs ≤ cntTo cntElCont xs.length xs) :=
  fun j hj => ⟨getD_mkL _ _ _ _ _ hj, cntTo_succ _ j xs hj, cntTo_le _ _ _ _ hj⟩
 clear hw
 generalize xs.length = n at *
 go_enter Tryz.func89, Tryz.ntmps89
 go_wp2
 go_loopw [1, 5] (fun q i w' => ∃ j : Nat, j ≤ n ∧ i = .int .i64 j ∧ q = .int .i64 (k + cntTo cntElCont j xs) ∧ Below w.heap.size w w') (fun _ i _ => n - (intOf i).toNat)
 case atStart => exact ⟨0, Nat.zero_le _, rfl, by simp [cntTo], Below.refl _ _⟩
 case round =>
  obtain ⟨j, hj, rfl, rfl, hbl⟩ := hrel
  by_cases hlt : j < n
  ·
   obtain ⟨bx, ox, ux, rfl, _, p1, hvx⟩ := hc j hlt
   obtain ⟨t1, t2, t3⟩ := HT.out j hlt
   have hw1 := hW j hlt
   rw [t1] at hvx
   generalize xs.getD j default = l at *
   have tC : cntElCont l = 1 + cntLegs l.legs := rfl
   rw [tC] at t2
   have tW : wtCont l = wtLegs l.legs := rfl
   rw [tW] at hw1
   clear tC tW
   obtain ⟨q, hq⟩ : ∃ q, q = k + cntTo cntElCont j xs := ⟨_, rfl⟩
   have hq0 : 0 ≤ q := by omega
   rw [← hq] at hvx ⊢
   have T2 : Hid (k + cntTo cntElCont (j + 1) xs = q + 1 + cntLegs l.legs) := by show _ = _; omega
   have hq1 : q + 1 + cntLegs l.legs ≤ 1073741824 := by omega
   obtain ⟨ux1, rfl, hv1⟩ := hvx
   dsimp only [mkElCont] at hv1
   have g0 : w.cell? ⟨bx, ox + j * 2, none⟩ = some (.int .i64 (q)) := p1 0 (by omega)
   replace g0 := cK hbl g0
   have g1 : w.cell? ⟨bx, ox + j * 2 + 1, none⟩ = some (ux1) := p1 1 (by omega)
   replace g1 := cK hbl g1
   clear hc p1 t1 t2 t3 hW hq
   go_wp2_with fail
   refine (heldLegS_u ux1 l.legs (q + 1) _ (legsR.below hv1 (by (repeat (first | exact bR _ _ | assumption | refine bD ?_ | refine bA ?_ _ | refine bS ?_ (by assumption))))) (by omega) (by omega) (by omega)).mono ?_
   rintro e wb1 ⟨rfl, b1⟩
   go_wp2
   refine ⟨⟨j + 1, by omega, by go_num, ?_, by (repeat (first | exact bR _ _ | assumption | refine bD ?_ | refine bA ?_ _ | refine bS ?_ (by assumption)))⟩, by simp [intOf]; omega⟩
   rw [T2.out]
  ·
   go_wp2
   go_ret
   have hjn : j = n := by omega
   subst hjn
   exact ⟨rfl, hbl⟩
set_option maxHeartbeats 1000000 in
theorem markContractS_u (v : Value) (xs : List Cont) (base : Nat) (F : Nat → Prop) (k : Int) (w : World) (ho : contsR.O w base F v xs) (hw : wtConts xs ≤ 1048576) (hn : k + cntConts xs ≤ 1073741824) (hk0 : 0 ≤ k) :
  Calls Tryz.prog 48 #[v, .int .i64 k] w fun r w' => r = .returned (.int .i64 (k + cntConts xs)) ∧ contsR.O w' base F v (mkConts k xs) ∧ Mod F w w' := by
 obtain ⟨cs, us, fs, hp, hF⟩ := ho
 have hW : ∀ k, k < xs.length → wtCont (xs.getD k default) ≤ 1048576 := fun k hk => (wt_at hw hk).1
 unfold cntConts cntL at hn ⊢
 have HT : Hid (∀ j, j < xs.length → (mkL mkElCont cntElCont k xs).getD j default = mkElCont (k + cntTo cntElCont j xs) (xs.getD j default) ∧ cntTo cntElCont (j + 1) xs = cntTo cntElCont j xs + cntElCont (xs.getD j default) ∧ cntTo cntElCont (j + 1) xs ≤ cntTo cntElCont xs.length xs) :=
  fun j hj => ⟨getD_mkL _ _ _ _ _ hj, cntTo_succ _ j xs hj, cntTo_le _ _ _ _ hj⟩
 clear hw
 have hcap := hp.len
 obtain ⟨av, cv, hav⟩ := owns_form hp.row
 subst hav
 have HF : Hid (∀ b, F b ↔ ((Value.slice av xs.length cv).ownBlock = some b ∨ ∃ i, i < xs.length ∧ fs i b)) := hF
 have HM : Hid ((mkL mkElCont cntElCont k xs).length = xs.length) := length_mkL _ _ _ _
 clear hF
 generalize hxl : xs.length = n at *
 clear hxl
 go_enter Tryz.func48, Tryz.ntmps48
 go_wp2
 go_loopw [1, 5] (fun q i w' => ∃ (j : Nat) (cs : List Value) (us : Nat → Value), j ≤ n ∧ i = .int .i64 j ∧ q = .int .i64 (k + cntTo cntElCont j xs) ∧ PO contR 44 2 lvCont w' base (.slice av n cv) n n (fun i => if i < j then (mkL mkElCont cntElCont k xs).getD i default else xs.getD i default) cs us fs ∧ Mod F w w') (fun _ i _ => n - (intOf i).toNat)
 case atStart => exact ⟨0, cs, us, Nat.zero_le _, rfl, by simp [cntTo], hp.cast (fun i hi => by simp), Mod.refl _ _⟩
 case round =>
  clear hp
  obtain ⟨j, cs, us, hj, rfl, rfl, hp1, hm⟩ := hrel
  by_cases hlt : j < n
  ·
   have he := hp1.el j hlt
   simp only [Nat.lt_irrefl, if_false] at he
   obtain ⟨g, rfl, hcl⟩ := hp1.at hlt hlt
   obtain ⟨t1, t2, t3⟩ := HT.out j hlt
   have hw1 := hW j hlt
   obtain ⟨l, hl⟩ : ∃ l, l = xs.getD j default := ⟨_, rfl⟩
   rw [← hl] at t1 t2 hw1 he
   have tC : cntElCont l = 1 + cntLegs l.legs := rfl
   rw [tC] at t2
   have tW : wtCont l = wtLegs l.legs := rfl
   rw [tW] at hw1
   clear tC tW
   obtain ⟨q, hq⟩ : ∃ q, q = k + cntTo cntElCont j xs := ⟨_, rfl⟩
   have hq0 : 0 ≤ q := by omega
   rw [← hq] at t1 ⊢
   have T1 : Hid ((mkL mkElCont cntElCont k xs).getD j default = mkElCont q l) := t1
   have T2 : Hid (k + cntTo cntElCont (j + 1) xs = q + 1 + cntLegs l.legs) := by show _ = _; omega
   have hq1 : q + 1 + cntLegs l.legs ≤ 1073741824 := by omega
   obtain ⟨ux1, F1, hu, h1, hF⟩ := he
   rw [hu] at hcl
   have g0 : wr.cell? ⟨g, j * 2, none⟩ = some (.int .i64 l.id) := hcl 0 (by omega)
   have g1 : wr.cell? ⟨g, j * 2 + 1, none⟩ = some (ux1) := hcl 1 (by omega)
   have hrow := hp1.row
   have hclen := hrow.1
   have hf := fun j => hrow.frozenAt j
   clear hl t1 t2 t3 hW hq hcl
   go_wp2_with fail
   have st1 := hrow.stored (j * 2) (.int .i64 (q))
   replace h1 := legsR.mod h1 (Mod.of_grown st1.2) (fun b hb he => hp1.out j hlt b ((hF b).2 hb) he)
   have M1 := (Mod.of_grown st1.2).mono (G := fun b => (Value.slice (some ⟨g, 0, none⟩) n cv).ownBlock = some b ∨ fs j b) (fun b hb => .inl hb)
   refine (markLegS_u ux1 l.legs base F1 (q + 1) _ h1 (by omega) (by omega) (by omega)).mono ?_
   rintro e wb1 ⟨rfl, r1, m1⟩
   have rw1 := m1.owns st1.1 (fun b he hb => hp1.out j hlt b ((hF b).2 hb) he)
   have M2 := m1.mono (G := fun b => (Value.slice (some ⟨g, 0, none⟩) n cv).ownBlock = some b ∨ fs j b) (fun b hb => .inr ((hF b).2 hb))
   go_wp2
   have hq := hp1.turn (u := (.agg #[.int .i64 (q), ux1])) (x := mkElCont q l) hlt (M1.trans M2) ⟨ux1, F1, rfl, r1, hF⟩ rfl rw1 ?_ ?_
   ·
    refine ⟨⟨j + 1, _, _, by omega, by go_num, by rw [T2.out], hq.cast fun i hi => ?_, hm.trans ((M1.trans M2).mono fun b hb => (HF.out b).2 ?_)⟩, by simp [intOf]; omega⟩
    ·
     by_cases hij : i = j
     ·
      subst hij
      rw [upd_at, if_pos (by omega)]
      exact T1.out
     ·
      rw [upd_ne _ _ hij]
      by_cases h : i < j
      ·
       rw [if_pos h, if_pos (by omega)]
      ·
       rw [if_neg h, if_neg (by omega)]
    ·
     rcases hb with hb | hb
     ·
      exact .inl hb
     ·
      exact .inr ⟨j, hlt, hb⟩
   ·
    intro i hi hij o ho
    simp only [List.getElem?_set]
    rw [if_neg (by omega)]
   ·
    intro o ho
    have ho' : o = 0 ∨ o = 1 := by omega
    rcases ho' with rfl | rfl
    ·
     rw [show j * 2 + 0 = j * 2 from rfl, List.getElem?_set_self (by (try simp only [List.length_set]); omega)]
     rfl
    ·
     rw [List.getElem?_set_ne (by omega), hp1.cell j hlt 1 (by omega), hu]
     rfl
  ·
   go_wp2
   go_ret
   have hjn : j = n := by omega
   subst hjn
   refine ⟨rfl, ⟨cs, us, fs, ?_, ?_⟩, hm⟩
   ·
    unfold mkConts
    rw [HM.out]
    exact hp1.cast (fun i hi => by rw [if_pos hi])
   ·
    unfold mkConts
    rw [HM.out]
    exact HF.out
end Go.Proofs.YtndghenlapbaaaaGreat

/-
 Shard. (Written by program: nest.py.)
-/
namespace Go.Proofs.YtndghenlapbaaaaGreat
open Go.RowKit
variable [DecidableEq Bal] [Inhabited Bal] [DecidableEq Mrk] [Inhabited Mrk] [DecidableEq Leg] [Inhabited Leg] [DecidableEq Cont] [Inhabited Cont]
attribute [local go_sem ↓] Go.wp_at_zero Go.wp_at_succ


structure Shd where
 idx : Int
 bals : List Bal
 votes : List Mrk
 held : List Cont
 done : List Mrk
 appl : List Int
variable [DecidableEq Shd] [Inhabited Shd]

def shdR : Rep Shd where
 V := fun w v x => ∃ u1 u2 u3 u4 u5, v = .agg #[.int .i64 x.idx, u1, u2, u3, u4, u5] ∧ balsR.V w u1 x.bals ∧ mrksR.V w u2 x.votes ∧ contsR.V w u3 x.held ∧ mrksR.V w u4 x.done ∧ intsR.V w u5 x.appl
 O := fun w base F v x => ∃ u1 u2 u3 u4 u5 F1 F2 F3 F4 F5, v = .agg #[.int .i64 x.idx, u1, u2, u3, u4, u5] ∧ balsR.O w base F1 u1 x.bals ∧ mrksR.O w base F2 u2 x.votes ∧ contsR.O w base F3 u3 x.held ∧ mrksR.O w base F4 u4 x.done ∧ intsR.O w base F5 u5 x.appl ∧ (∀ b, F1 b → ¬ F2 b) ∧ (∀ b, F1 b → ¬ F3 b) ∧ (∀ b, F1 b → ¬ F4 b) ∧ (∀ b, F1 b → ¬ F5 b) ∧ (∀ b, F2 b → ¬ F3 b) ∧ (∀ b, F2 b → ¬ F4 b) ∧ (∀ b, F2 b → ¬ F5 b) ∧ (∀ b, F3 b → ¬ F4 b) ∧ (∀ b, F3 b → ¬ F5 b) ∧ (∀ b, F4 b → ¬ F5 b) ∧ (∀ b, F b ↔ (F1 b ∨ F2 b ∨ F3 b ∨ F4 b ∨ F5 b))
 below := fun h hb => by
  obtain ⟨u1, u2, u3, u4, u5, rfl, h1, h2, h3, h4, h5⟩ := h
  exact ⟨u1, u2, u3, u4, u5, rfl, balsR.below h1 hb, mrksR.below h2 hb, contsR.below h3 hb, mrksR.below h4 hb, intsR.below h5 hb⟩
 ofO := fun h => by
  obtain ⟨u1, u2, u3, u4, u5, F1, F2, F3, F4, F5, rfl, h1, h2, h3, h4, h5, _⟩ := h
  exact ⟨u1, u2, u3, u4, u5, rfl, balsR.ofO h1, mrksR.ofO h2, contsR.ofO h3, mrksR.ofO h4, intsR.ofO h5⟩
 mod := fun h hm hd => by
  obtain ⟨u1, u2, u3, u4, u5, F1, F2, F3, F4, F5, rfl, h1, h2, h3, h4, h5, s12, s13, s14, s15, s23, s24, s25, s34, s35, s45, hF⟩ := h
  exact ⟨u1, u2, u3, u4, u5, F1, F2, F3, F4, F5, rfl, balsR.mod h1 hm (fun b hb => hd b ((hF b).2 (.inl hb))), mrksR.mod h2 hm (fun b hb => hd b ((hF b).2 (.inr (.inl hb)))), contsR.mod h3 hm (fun b hb => hd b ((hF b).2 (.inr (.inr (.inl hb))))), mrksR.mod h4 hm (fun b hb => hd b ((hF b).2 (.inr (.inr (.inr (.inl hb)))))), intsR.mod h5 hm (fun b hb => hd b ((hF b).2 (.inr (.inr (.inr (.inr hb)))))), s12, s13, s14, s15, s23, s24, s25, s34, s35, s45, hF⟩
 rng := fun h b hb => by
  obtain ⟨u1, u2, u3, u4, u5, F1, F2, F3, F4, F5, rfl, h1, h2, h3, h4, h5, s12, s13, s14, s15, s23, s24, s25, s34, s35, s45, hF⟩ := h
  rcases (hF b).1 hb with hb | hb | hb | hb | hb
  ·
   exact balsR.rng h1 b hb
  ·
   exact mrksR.rng h2 b hb
  ·
   exact contsR.rng h3 b hb
  ·
   exact mrksR.rng h4 b hb
  ·
   exact intsR.rng h5 b hb
 base := fun h hb => by
  obtain ⟨u1, u2, u3, u4, u5, F1, F2, F3, F4, F5, rfl, h1, h2, h3, h4, h5, s12, s13, s14, s15, s23, s24, s25, s34, s35, s45, hF⟩ := h
  exact ⟨u1, u2, u3, u4, u5, F1, F2, F3, F4, F5, rfl, balsR.base h1 hb, mrksR.base h2 hb, contsR.base h3 hb, mrksR.base h4 hb, intsR.base h5 hb, s12, s13, s14, s15, s23, s24, s25, s34, s35, s45, hF⟩
def wtShd (x : Shd) : Nat := wtBals x.bals + wtMrks x.votes + wtConts x.held + wtMrks x.done + wtInts x.appl
def cntShd (x : Shd) : Nat := cntBals x.bals + cntMrks x.votes + cntConts x.held + cntMrks x.done + cntInts x.appl
def mkShd (k : Int) (x : Shd) : Shd := { x with bals := mkBals k x.bals, votes := mkMrks (k + cntBals x.bals) x.votes, held := mkConts (k + cntBals x.bals + cntMrks x.votes) x.held, done := mkMrks (k + cntBals x.bals + cntMrks x.votes + cntConts x.held) x.done, appl := mkInts (k + cntBals x.bals + cntMrks x.votes + cntConts x.held + cntMrks x.done) x.appl }
theorem shd_form {w : World} {v : Value} {x : Shd} (h : shdR.V w v x) : ∃ a1 a2 a3 a4 a5 c1 c2 c3 c4 c5, v = .agg #[.int .i64 x.idx, .slice a1 x.bals.length c1, .slice a2 x.votes.length c2, .slice a3 x.held.length c3, .slice a4 x.done.length c4, .slice a5 x.appl.length c5] := by
 obtain ⟨u1, u2, u3, u4, u5, rfl, h1, h2, h3, h4, h5⟩ := h
 obtain ⟨a1, c1, rfl⟩ := bals_form h1
 obtain ⟨a2, c2, rfl⟩ := mrks_form h2
 obtain ⟨a3, c3, rfl⟩ := conts_form h3
 obtain ⟨a4, c4, rfl⟩ := mrks_form h4
 obtain ⟨a5, c5, rfl⟩ := ints_form h5
 exact ⟨_, _, _, _, _, _, _, _, _, _, rfl⟩
theorem shd_cnt (d : Shd) : cntShd d ≤ 5 * wtShd d := by
 unfold cntShd wtShd
 have q1 := bals_cnt d.bals
 have q2 := mrks_cnt d.votes
 have q3 := conts_cnt d.held
 have q4 := mrks_cnt d.done
 have q5 := ints_cnt d.appl
 omega
set_option maxHeartbeats 2000000 in
theorem toShard_u (x : Value) (d : Shd) (w : World) (hx : shdR.V w x d) (hn : wtShd d ≤ 1048576) :
  Calls Tryz.prog 8 #[x] w fun e w' => ∃ v F, e = .returned v ∧ shdR.O w' w.heap.size F v d ∧ Below w.heap.size w w' := by
 obtain ⟨u1, u2, u3, u4, u5, rfl, h1, h2, h3, h4, h5⟩ := hx
 unfold wtShd at hn
 go_enter Tryz.func8, Tryz.ntmps8
 go_wp2_with fail
 refine (toBalanceS_u _ d.bals _ (balsR.below h1 (qBq)) (by omega)).mono ?_
 rintro e w1 ⟨v1, F1, rfl, o1, b1⟩
 have hB1 : Below w.heap.size w w1 := bS (qBq) b1
 obtain ⟨a1, n1, rfl⟩ := bals_form (balsR.ofO o1)
 obtain ⟨c1, f1⟩ := bcell b1
 have z1 := b1.size
 simp at z1
 have l1 := fun b hb => balsR.rng o1 b hb
 simp at l1
 replace o1 := balsR.base (base' := w.heap.size + 3) o1 (by simp; try omega)
 have y0 : w1.cell? ⟨w.heap.size, 0, none⟩ = some (.int .i64 d.idx) := cK b1 (by simp [go_sem])
 have y1 : w1.cell? ⟨w.heap.size, 1, none⟩ = some (u1) := cK b1 (by simp [go_sem])
 have y2 : w1.cell? ⟨w.heap.size, 2, none⟩ = some (u2) := cK b1 (by simp [go_sem])
 have y3 : w1.cell? ⟨w.heap.size, 3, none⟩ = some (u3) := cK b1 (by simp [go_sem])
 have y4 : w1.cell? ⟨w.heap.size, 4, none⟩ = some (u4) := cK b1 (by simp [go_sem])
 have y5 : w1.cell? ⟨w.heap.size, 5, none⟩ = some (u5) := cK b1 (by simp [go_sem])
 have r0 : w1.cell? ⟨w.heap.size + 1, 0, none⟩ = some (.int .i64 0) := cK b1 (by simp [go_sem])
 have r1 : w1.cell? ⟨w.heap.size + 1, 1, none⟩ = some (.slice none 0 0) := cK b1 (by simp [go_sem])
 have r2 : w1.cell? ⟨w.heap.size + 1, 2, none⟩ = some (.slice none 0 0) := cK b1 (by simp [go_sem])
 have r3 : w1.cell? ⟨w.heap.size + 1, 3, none⟩ = some (.slice none 0 0) := cK b1 (by simp [go_sem])
 have r4 : w1.cell? ⟨w.heap.size + 1, 4, none⟩ = some (.slice none 0 0) := cK b1 (by simp [go_sem])
 have r5 : w1.cell? ⟨w.heap.size + 1, 5, none⟩ = some (.slice none 0 0) := cK b1 (by simp [go_sem])
 have s0 : w1.cell? ⟨w.heap.size + 2, 0, none⟩ = some (.int .i64 d.idx) := cK b1 (by simp [go_sem])
 have s1 : w1.cell? ⟨w.heap.size + 2, 1, none⟩ = some (.slice none 0 0) := cK b1 (by simp [go_sem])
 have s2 : w1.cell? ⟨w.heap.size + 2, 2, none⟩ = some (.slice none 0 0) := cK b1 (by simp [go_sem])
 have s3 : w1.cell? ⟨w.heap.size + 2, 3, none⟩ = some (.slice none 0 0) := cK b1 (by simp [go_sem])
 have s4 : w1.cell? ⟨w.heap.size + 2, 4, none⟩ = some (.slice none 0 0) := cK b1 (by simp [go_sem])
 have s5 : w1.cell? ⟨w.heap.size + 2, 5, none⟩ = some (.slice none 0 0) := cK b1 (by simp [go_sem])
 have t1 : ∀ o, w1.frozen? ⟨w.heap.size + 1, o, none⟩ = false := fun o => by rw [f1 _ _ (by simp; try omega)]; simp [go_sem]
 have t2 : ∀ o, w1.frozen? ⟨w.heap.size + 2, o, none⟩ = false := fun o => by rw [f1 _ _ (by simp; try omega)]; simp [go_sem]
 clear c1 f1
 have x0 := y0
 have x1 := y1
 have x2 := y2
 have x3 := y3
 have x4 := y4
 have x5 := y5
 have q0 := r0
 have q1 := r1
 have q2 := r2
 have q3 := r3
 have q4 := r4
 have q5 := r5
 have p0 := s0
 have p1 := s1
 have p2 := s2
 have p3 := s3
 have p4 := s4
 have p5 := s5
 have qf := t1
 have pf := t2
 clear t1 t2 y0 y1 y2 y3 y4 y5 r0 r1 r2 r3 r4 r5 s0 s1 s2 s3 s4 s5
 clear b1
 go_wp2_with fail
 refine (toMarkS_u _ d.votes _ (mrksR.below h2 (by (repeat (first | refine bset ?_ (by simp; omega) _ | refine bset ?_ (by simp) _ | refine bA ?_ _ | assumption)))) (by omega)).mono ?_
 rintro e w2 ⟨v2, F2, rfl, o2, b2⟩
 have hB2 : Below w.heap.size w w2 := bS (by (repeat (first | refine bset ?_ (by simp; omega) _ | refine bset ?_ (by simp) _ | refine bA ?_ _ | assumption))) b2
 obtain ⟨a2, n2, rfl⟩ := mrks_form (mrksR.ofO o2)
 obtain ⟨c2, f2⟩ := bcell b2
 have z2 := b2.size
 simp at z2
 have l2 := fun b hb => mrksR.rng o2 b hb
 simp at l2
 replace o2 := mrksR.base (base' := w.heap.size + 3) o2 (by simp; try omega)
 have hk1 : ∀ F v x, balsR.O w1 (w.heap.size + 3) F v x → balsR.O w2 (w.heap.size + 3) F v x := fun F v x o => balsR.keep (by (repeat (first | refine Rep.set _ ?_ _ (by simp; omega) | refine Rep.set _ ?_ _ (by simp) | refine Rep.alloc _ ?_ _ | assumption))) b2
 replace o1 := hk1 _ _ _ o1
 clear hk1
 have y0 : w2.cell? ⟨w.heap.size, 0, none⟩ = some (.int .i64 d.idx) := cK b2 (by simp [go_sem, x0, x1, x2, x3, x4, x5, q0, q1, q2, q3, q4, q5, p0, p1, p2, p3, p4, p5])
 have y1 : w2.cell? ⟨w.heap.size, 1, none⟩ = some (u1) := cK b2 (by simp [go_sem, x0, x1, x2, x3, x4, x5, q0, q1, q2, q3, q4, q5, p0, p1, p2, p3, p4, p5])
 have y2 : w2.cell? ⟨w.heap.size, 2, none⟩ = some (u2) := cK b2 (by simp [go_sem, x0, x1, x2, x3, x4, x5, q0, q1, q2, q3, q4, q5, p0, p1, p2, p3, p4, p5])
 have y3 : w2.cell? ⟨w.heap.size, 3, none⟩ = some (u3) := cK b2 (by simp [go_sem, x0, x1, x2, x3, x4, x5, q0, q1, q2, q3, q4, q5, p0, p1, p2, p3, p4, p5])
 have y4 : w2.cell? ⟨w.heap.size, 4, none⟩ = some (u4) := cK b2 (by simp [go_sem, x0, x1, x2, x3, x4, x5, q0, q1, q2, q3, q4, q5, p0, p1, p2, p3, p4, p5])
 have y5 : w2.cell? ⟨w.heap.size, 5, none⟩ = some (u5) := cK b2 (by simp [go_sem, x0, x1, x2, x3, x4, x5, q0, q1, q2, q3, q4, q5, p0, p1, p2, p3, p4, p5])
 have r0 : w2.cell? ⟨w.heap.size + 1, 0, none⟩ = some (.int .i64 0) := cK b2 (by simp [go_sem, x0, x1, x2, x3, x4, x5, q0, q1, q2, q3, q4, q5, p0, p1, p2, p3, p4, p5])
 have r1 : w2.cell? ⟨w.heap.size + 1, 1, none⟩ = some (.slice none 0 0) := cK b2 (by simp [go_sem, x0, x1, x2, x3, x4, x5, q0, q1, q2, q3, q4, q5, p0, p1, p2, p3, p4, p5])
 have r2 : w2.cell? ⟨w.heap.size + 1, 2, none⟩ = some (.slice none 0 0) := cK b2 (by simp [go_sem, x0, x1, x2, x3, x4, x5, q0, q1, q2, q3, q4, q5, p0, p1, p2, p3, p4, p5])
 have r3 : w2.cell? ⟨w.heap.size + 1, 3, none⟩ = some (.slice none 0 0) := cK b2 (by simp [go_sem, x0, x1, x2, x3, x4, x5, q0, q1, q2, q3, q4, q5, p0, p1, p2, p3, p4, p5])
 have r4 : w2.cell? ⟨w.heap.size + 1, 4, none⟩ = some (.slice none 0 0) := cK b2 (by simp [go_sem, x0, x1, x2, x3, x4, x5, q0, q1, q2, q3, q4, q5, p0, p1, p2, p3, p4, p5])
 have r5 : w2.cell? ⟨w.heap.size + 1, 5, none⟩ = some (.slice none 0 0) := cK b2 (by simp [go_sem, x0, x1, x2, x3, x4, x5, q0, q1, q2, q3, q4, q5, p0, p1, p2, p3, p4, p5])
 have s0 : w2.cell? ⟨w.heap.size + 2, 0, none⟩ = some (.int .i64 d.idx) := cK b2 (by simp [go_sem, x0, x1, x2, x3, x4, x5, q0, q1, q2, q3, q4, q5, p0, p1, p2, p3, p4, p5])
 have s1 : w2.cell? ⟨w.heap.size + 2, 1, none⟩ = some (.slice a1 d.bals.length n1) := cK b2 (by simp [go_sem, x0, x1, x2, x3, x4, x5, q0, q1, q2, q3, q4, q5, p0, p1, p2, p3, p4, p5])
 have s2 : w2.cell? ⟨w.heap.size + 2, 2, none⟩ = some (.slice none 0 0) := cK b2 (by simp [go_sem, x0, x1, x2, x3, x4, x5, q0, q1, q2, q3, q4, q5, p0, p1, p2, p3, p4, p5])
 have s3 : w2.cell? ⟨w.heap.size + 2, 3, none⟩ = some (.slice none 0 0) := cK b2 (by simp [go_sem, x0, x1, x2, x3, x4, x5, q0, q1, q2, q3, q4, q5, p0, p1, p2, p3, p4, p5])
 have s4 : w2.cell? ⟨w.heap.size + 2, 4, none⟩ = some (.slice none 0 0) := cK b2 (by simp [go_sem, x0, x1, x2, x3, x4, x5, q0, q1, q2, q3, q4, q5, p0, p1, p2, p3, p4, p5])
 have s5 : w2.cell? ⟨w.heap.size + 2, 5, none⟩ = some (.slice none 0 0) := cK b2 (by simp [go_sem, x0, x1, x2, x3, x4, x5, q0, q1, q2, q3, q4, q5, p0, p1, p2, p3, p4, p5])
 have t1 : ∀ o, w2.frozen? ⟨w.heap.size + 1, o, none⟩ = false := fun o => by rw [f2 _ _ (by simp; try omega)]; simp [go_sem, qf]
 have t2 : ∀ o, w2.frozen? ⟨w.heap.size + 2, o, none⟩ = false := fun o => by rw [f2 _ _ (by simp; try omega)]; simp [go_sem, pf]
 clear x0 x1 x2 x3 x4 x5 q0 q1 q2 q3 q4 q5 p0 p1 p2 p3 p4 p5 qf pf
 clear c2 f2
 have x0 := y0
 have x1 := y1
 have x2 := y2
 have x3 := y3
 have x4 := y4
 have x5 := y5
 have q0 := r0
 have q1 := r1
 have q2 := r2
 have q3 := r3
 have q4 := r4
 have q5 := r5
 have p0 := s0
 have p1 := s1
 have p2 := s2
 have p3 := s3
 have p4 := s4
 have p5 := s5
 have qf := t1
 have pf := t2
 clear t1 t2 y0 y1 y2 y3 y4 y5 r0 r1 r2 r3 r4 r5 s0 s1 s2 s3 s4 s5
 clear b2 hB1
 go_wp2_with fail
 refine (toContractS_u _ d.held _ (contsR.below h3 (by (repeat (first | refine bset ?_ (by simp; omega) _ | refine bset ?_ (by simp) _ | refine bA ?_ _ | assumption)))) (by omega)).mono ?_
 rintro e w3 ⟨v3, F3, rfl, o3, b3⟩
 have hB3 : Below w.heap.size w w3 := bS (by (repeat (first | refine bset ?_ (by simp; omega) _ | refine bset ?_ (by simp) _ | refine bA ?_ _ | assumption))) b3
 obtain ⟨a3, n3, rfl⟩ := conts_form (contsR.ofO o3)
 obtain ⟨c3, f3⟩ := bcell b3
 have z3 := b3.size
 simp at z3
 have l3 := fun b hb => contsR.rng o3 b hb
 simp at l3
 replace o3 := contsR.base (base' := w.heap.size + 3) o3 (by simp; try omega)
 have hk1 : ∀ F v x, balsR.O w2 (w.heap.size + 3) F v x → balsR.O w3 (w.heap.size + 3) F v x := fun F v x o => balsR.keep (by (repeat (first | refine Rep.set _ ?_ _ (by simp; omega) | refine Rep.set _ ?_ _ (by simp) | refine Rep.alloc _ ?_ _ | assumption))) b3
 replace o1 := hk1 _ _ _ o1
 clear hk1
 have hk2 : ∀ F v x, mrksR.O w2 (w.heap.size + 3) F v x → mrksR.O w3 (w.heap.size + 3) F v x := fun F v x o => mrksR.keep (by (repeat (first | refine Rep.set _ ?_ _ (by simp; omega) | refine Rep.set _ ?_ _ (by simp) | refine Rep.alloc _ ?_ _ | assumption))) b3
 replace o2 := hk2 _ _ _ o2
 clear hk2
 have y0 : w3.cell? ⟨w.heap.size, 0, none⟩ = some (.int .i64 d.idx) := cK b3 (by simp [go_sem, x0, x1, x2, x3, x4, x5, q0, q1, q2, q3, q4, q5, p0, p1, p2, p3, p4, p5])
 have y1 : w3.cell? ⟨w.heap.size, 1, none⟩ = some (u1) := cK b3 (by simp [go_sem, x0, x1, x2, x3, x4, x5, q0, q1, q2, q3, q4, q5, p0, p1, p2, p3, p4, p5])
 have y2 : w3.cell? ⟨w.heap.size, 2, none⟩ = some (u2) := cK b3 (by simp [go_sem, x0, x1, x2, x3, x4, x5, q0, q1, q2, q3, q4, q5, p0, p1, p2, p3, p4, p5])
 have y3 : w3.cell? ⟨w.heap.size, 3, none⟩ = some (u3) := cK b3 (by simp [go_sem, x0, x1, x2, x3, x4, x5, q0, q1, q2, q3, q4, q5, p0, p1, p2, p3, p4, p5])
 have y4 : w3.cell? ⟨w.heap.size, 4, none⟩ = some (u4) := cK b3 (by simp [go_sem, x0, x1, x2, x3, x4, x5, q0, q1, q2, q3, q4, q5, p0, p1, p2, p3, p4, p5])
 have y5 : w3.cell? ⟨w.heap.size, 5, none⟩ = some (u5) := cK b3 (by simp [go_sem, x0, x1, x2, x3, x4, x5, q0, q1, q2, q3, q4, q5, p0, p1, p2, p3, p4, p5])
 have r0 : w3.cell? ⟨w.heap.size + 1, 0, none⟩ = some (.int .i64 0) := cK b3 (by simp [go_sem, x0, x1, x2, x3, x4, x5, q0, q1, q2, q3, q4, q5, p0, p1, p2, p3, p4, p5])
 have r1 : w3.cell? ⟨w.heap.size + 1, 1, none⟩ = some (.slice none 0 0) := cK b3 (by simp [go_sem, x0, x1, x2, x3, x4, x5, q0, q1, q2, q3, q4, q5, p0, p1, p2, p3, p4, p5])
 have r2 : w3.cell? ⟨w.heap.size + 1, 2, none⟩ = some (.slice none 0 0) := cK b3 (by simp [go_sem, x0, x1, x2, x3, x4, x5, q0, q1, q2, q3, q4, q5, p0, p1, p2, p3, p4, p5])
 have r3 : w3.cell? ⟨w.heap.size + 1, 3, none⟩ = some (.slice none 0 0) := cK b3 (by simp [go_sem, x0, x1, x2, x3, x4, x5, q0, q1, q2, q3, q4, q5, p0, p1, p2, p3, p4, p5])
 have r4 : w3.cell? ⟨w.heap.size + 1, 4, none⟩ = some (.slice none 0 0) := cK b3 (by simp [go_sem, x0, x1, x2, x3, x4, x5, q0, q1, q2, q3, q4, q5, p0, p1, p2, p3, p4, p5])
 have r5 : w3.cell? ⟨w.heap.size + 1, 5, none⟩ = some (.slice none 0 0) := cK b3 (by simp [go_sem, x0, x1, x2, x3, x4, x5, q0, q1, q2, q3, q4, q5, p0, p1, p2, p3, p4, p5])
 have s0 : w3.cell? ⟨w.heap.size + 2, 0, none⟩ = some (.int .i64 d.idx) := cK b3 (by simp [go_sem, x0, x1, x2, x3, x4, x5, q0, q1, q2, q3, q4, q5, p0, p1, p2, p3, p4, p5])
 have s1 : w3.cell? ⟨w.heap.size + 2, 1, none⟩ = some (.slice a1 d.bals.length n1) := cK b3 (by simp [go_sem, x0, x1, x2, x3, x4, x5, q0, q1, q2, q3, q4, q5, p0, p1, p2, p3, p4, p5])
 have s2 : w3.cell? ⟨w.heap.size + 2, 2, none⟩ = some (.slice a2 d.votes.length n2) := cK b3 (by simp [go_sem, x0, x1, x2, x3, x4, x5, q0, q1, q2, q3, q4, q5, p0, p1, p2, p3, p4, p5])
 have s3 : w3.cell? ⟨w.heap.size + 2, 3, none⟩ = some (.slice none 0 0) := cK b3 (by simp [go_sem, x0, x1, x2, x3, x4, x5, q0, q1, q2, q3, q4, q5, p0, p1, p2, p3, p4, p5])
 have s4 : w3.cell? ⟨w.heap.size + 2, 4, none⟩ = some (.slice none 0 0) := cK b3 (by simp [go_sem, x0, x1, x2, x3, x4, x5, q0, q1, q2, q3, q4, q5, p0, p1, p2, p3, p4, p5])
 have s5 : w3.cell? ⟨w.heap.size + 2, 5, none⟩ = some (.slice none 0 0) := cK b3 (by simp [go_sem, x0, x1, x2, x3, x4, x5, q0, q1, q2, q3, q4, q5, p0, p1, p2, p3, p4, p5])
 have t1 : ∀ o, w3.frozen? ⟨w.heap.size + 1, o, none⟩ = false := fun o => by rw [f3 _ _ (by simp; try omega)]; simp [go_sem, qf]
 have t2 : ∀ o, w3.frozen? ⟨w.heap.size + 2, o, none⟩ = false := fun o => by rw [f3 _ _ (by simp; try omega)]; simp [go_sem, pf]
 clear x0 x1 x2 x3 x4 x5 q0 q1 q2 q3 q4 q5 p0 p1 p2 p3 p4 p5 qf pf
 clear c3 f3
 have x0 := y0
 have x1 := y1
 have x2 := y2
 have x3 := y3
 have x4 := y4
 have x5 := y5
 have q0 := r0
 have q1 := r1
 have q2 := r2
 have q3 := r3
 have q4 := r4
 have q5 := r5
 have p0 := s0
 have p1 := s1
 have p2 := s2
 have p3 := s3
 have p4 := s4
 have p5 := s5
 have qf := t1
 have pf := t2
 clear t1 t2 y0 y1 y2 y3 y4 y5 r0 r1 r2 r3 r4 r5 s0 s1 s2 s3 s4 s5
 clear b3 hB2
 go_wp2_with fail
 refine (toMarkS_u _ d.done _ (mrksR.below h4 (by (repeat (first | refine bset ?_ (by simp; omega) _ | refine bset ?_ (by simp) _ | refine bA ?_ _ | assumption)))) (by omega)).mono ?_
 rintro e w4 ⟨v4, F4, rfl, o4, b4⟩
 have hB4 : Below w.heap.size w w4 := bS (by (repeat (first | refine bset ?_ (by simp; omega) _ | refine bset ?_ (by simp) _ | refine bA ?_ _ | assumption))) b4
 obtain ⟨a4, n4, rfl⟩ := mrks_form (mrksR.ofO o4)
 obtain ⟨c4, f4⟩ := bcell b4
 have z4 := b4.size
 simp at z4
 have l4 := fun b hb => mrksR.rng o4 b hb
 simp at l4
 replace o4 := mrksR.base (base' := w.heap.size + 3) o4 (by simp; try omega)
 have hk1 : ∀ F v x, balsR.O w3 (w.heap.size + 3) F v x → balsR.O w4 (w.heap.size + 3) F v x := fun F v x o => balsR.keep (by (repeat (first | refine Rep.set _ ?_ _ (by simp; omega) | refine Rep.set _ ?_ _ (by simp) | refine Rep.alloc _ ?_ _ | assumption))) b4
 replace o1 := hk1 _ _ _ o1
 clear hk1
 have hk2 : ∀ F v x, mrksR.O w3 (w.heap.size + 3) F v x → mrksR.O w4 (w.heap.size + 3) F v x := fun F v x o => mrksR.keep (by (repeat (first | refine Rep.set _ ?_ _ (by simp; omega) | refine Rep.set _ ?_ _ (by simp) | refine Rep.alloc _ ?_ _ | assumption))) b4
 replace o2 := hk2 _ _ _ o2
 clear hk2
 have hk3 : ∀ F v x, contsR.O w3 (w.heap.size + 3) F v x → contsR.O w4 (w.heap.size + 3) F v x := fun F v x o => contsR.keep (by (repeat (first | refine Rep.set _ ?_ _ (by simp; omega) | refine Rep.set _ ?_ _ (by simp) | refine Rep.alloc _ ?_ _ | assumption))) b4
 replace o3 := hk3 _ _ _ o3
 clear hk3
 have y0 : w4.cell? ⟨w.heap.size, 0, none⟩ = some (.int .i64 d.idx) := cK b4 (by simp [go_sem, x0, x1, x2, x3, x4, x5, q0, q1, q2, q3, q4, q5, p0, p1, p2, p3, p4, p5])
 have y1 : w4.cell? ⟨w.heap.size, 1, none⟩ = some (u1) := cK b4 (by simp [go_sem, x0, x1, x2, x3, x4, x5, q0, q1, q2, q3, q4, q5, p0, p1, p2, p3, p4, p5])
 have y2 : w4.cell? ⟨w.heap.size, 2, none⟩ = some (u2) := cK b4 (by simp [go_sem, x0, x1, x2, x3, x4, x5, q0, q1, q2, q3, q4, q5, p0, p1, p2, p3, p4, p5])
 have y3 : w4.cell? ⟨w.heap.size, 3, none⟩ = some (u3) := cK b4 (by simp [go_sem, x0, x1, x2, x3, x4, x5, q0, q1, q2, q3, q4, q5, p0, p1, p2, p3, p4, p5])
 have y4 : w4.cell? ⟨w.heap.size, 4, none⟩ = some (u4) := cK b4 (by simp [go_sem, x0, x1, x2, x3, x4, x5, q0, q1, q2, q3, q4, q5, p0, p1, p2, p3, p4, p5])
 have y5 : w4.cell? ⟨w.heap.size, 5, none⟩ = some (u5) := cK b4 (by simp [go_sem, x0, x1, x2, x3, x4, x5, q0, q1, q2, q3, q4, q5, p0, p1, p2, p3, p4, p5])
 have r0 : w4.cell? ⟨w.heap.size + 1, 0, none⟩ = some (.int .i64 0) := cK b4 (by simp [go_sem, x0, x1, x2, x3, x4, x5, q0, q1, q2, q3, q4, q5, p0, p1, p2, p3, p4, p5])
 have r1 : w4.cell? ⟨w.heap.size + 1, 1, none⟩ = some (.slice none 0 0) := cK b4 (by simp [go_sem, x0, x1, x2, x3, x4, x5, q0, q1, q2, q3, q4, q5, p0, p1, p2, p3, p4, p5])
 have r2 : w4.cell? ⟨w.heap.size + 1, 2, none⟩ = some (.slice none 0 0) := cK b4 (by simp [go_sem, x0, x1, x2, x3, x4, x5, q0, q1, q2, q3, q4, q5, p0, p1, p2, p3, p4, p5])
 have r3 : w4.cell? ⟨w.heap.size + 1, 3, none⟩ = some (.slice none 0 0) := cK b4 (by simp [go_sem, x0, x1, x2, x3, x4, x5, q0, q1, q2, q3, q4, q5, p0, p1, p2, p3, p4, p5])
 have r4 : w4.cell? ⟨w.heap.size + 1, 4, none⟩ = some (.slice none 0 0) := cK b4 (by simp [go_sem, x0, x1, x2, x3, x4, x5, q0, q1, q2, q3, q4, q5, p0, p1, p2, p3, p4, p5])
 have r5 : w4.cell? ⟨w.heap.size + 1, 5, none⟩ = some (.slice none 0 0) := cK b4 (by simp [go_sem, x0, x1, x2, x3, x4, x5, q0, q1, q2, q3, q4, q5, p0, p1, p2, p3, p4, p5])
 have s0 : w4.cell? ⟨w.heap.size + 2, 0, none⟩ = some (.int .i64 d.idx) := cK b4 (by simp [go_sem, x0, x1, x2, x3, x4, x5, q0, q1, q2, q3, q4, q5, p0, p1, p2, p3, p4, p5])
 have s1 : w4.cell? ⟨w.heap.size + 2, 1, none⟩ = some (.slice a1 d.bals.length n1) := cK b4 (by simp [go_sem, x0, x1, x2, x3, x4, x5, q0, q1, q2, q3, q4, q5, p0, p1, p2, p3, p4, p5])
 have s2 : w4.cell? ⟨w.heap.size + 2, 2, none⟩ = some (.slice a2 d.votes.length n2) := cK b4 (by simp [go_sem, x0, x1, x2, x3, x4, x5, q0, q1, q2, q3, q4, q5, p0, p1, p2, p3, p4, p5])
 have s3 : w4.cell? ⟨w.heap.size + 2, 3, none⟩ = some (.slice a3 d.held.length n3) := cK b4 (by simp [go_sem, x0, x1, x2, x3, x4, x5, q0, q1, q2, q3, q4, q5, p0, p1, p2, p3, p4, p5])
 have s4 : w4.cell? ⟨w.heap.size + 2, 4, none⟩ = some (.slice none 0 0) := cK b4 (by simp [go_sem, x0, x1, x2, x3, x4, x5, q0, q1, q2, q3, q4, q5, p0, p1, p2, p3, p4, p5])
 have s5 : w4.cell? ⟨w.heap.size + 2, 5, none⟩ = some (.slice none 0 0) := cK b4 (by simp [go_sem, x0, x1, x2, x3, x4, x5, q0, q1, q2, q3, q4, q5, p0, p1, p2, p3, p4, p5])
 have t1 : ∀ o, w4.frozen? ⟨w.heap.size + 1, o, none⟩ = false := fun o => by rw [f4 _ _ (by simp; try omega)]; simp [go_sem, qf]
 have t2 : ∀ o, w4.frozen? ⟨w.heap.size + 2, o, none⟩ = false := fun o => by rw [f4 _ _ (by simp; try omega)]; simp [go_sem, pf]
 clear x0 x1 x2 x3 x4 x5 q0 q1 q2 q3 q4 q5 p0 p1 p2 p3 p4 p5 qf pf
 clear c4 f4
 have x0 := y0
 have x1 := y1
 have x2 := y2
 have x3 := y3
 have x4 := y4
 have x5 := y5
 have q0 := r0
 have q1 := r1
 have q2 := r2
 have q3 := r3
 have q4 := r4
 have q5 := r5
 have p0 := s0
 have p1 := s1
 have p2 := s2
 have p3 := s3
 have p4 := s4
 have p5 := s5
 have qf := t1
 have pf := t2
 clear t1 t2 y0 y1 y2 y3 y4 y5 r0 r1 r2 r3 r4 r5 s0 s1 s2 s3 s4 s5
 clear b4 hB3
 go_wp2_with fail
 refine (toInt64S_u _ d.appl _ (intsR.below h5 (by (repeat (first | refine bset ?_ (by simp; omega) _ | refine bset ?_ (by simp) _ | refine bA ?_ _ | assumption)))) (by omega)).mono ?_
 rintro e w5 ⟨v5, F5, rfl, o5, b5⟩
 have hB5 : Below w.heap.size w w5 := bS (by (repeat (first | refine bset ?_ (by simp; omega) _ | refine bset ?_ (by simp) _ | refine bA ?_ _ | assumption))) b5
 obtain ⟨a5, n5, rfl⟩ := ints_form (intsR.ofO o5)
 obtain ⟨c5, f5⟩ := bcell b5
 have z5 := b5.size
 simp at z5
 have l5 := fun b hb => intsR.rng o5 b hb
 simp at l5
 replace o5 := intsR.base (base' := w.heap.size + 3) o5 (by simp; try omega)
 have hk1 : ∀ F v x, balsR.O w4 (w.heap.size + 3) F v x → balsR.O w5 (w.heap.size + 3) F v x := fun F v x o => balsR.keep (by (repeat (first | refine Rep.set _ ?_ _ (by simp; omega) | refine Rep.set _ ?_ _ (by simp) | refine Rep.alloc _ ?_ _ | assumption))) b5
 replace o1 := hk1 _ _ _ o1
 clear hk1
 have hk2 : ∀ F v x, mrksR.O w4 (w.heap.size + 3) F v x → mrksR.O w5 (w.heap.size + 3) F v x := fun F v x o => mrksR.keep (by (repeat (first | refine Rep.set _ ?_ _ (by simp; omega) | refine Rep.set _ ?_ _ (by simp) | refine Rep.alloc _ ?_ _ | assumption))) b5
 replace o2 := hk2 _ _ _ o2
 clear hk2
 have hk3 : ∀ F v x, contsR.O w4 (w.heap.size + 3) F v x → contsR.O w5 (w.heap.size + 3) F v x := fun F v x o => contsR.keep (by (repeat (first | refine Rep.set _ ?_ _ (by simp; omega) | refine Rep.set _ ?_ _ (by simp) | refine Rep.alloc _ ?_ _ | assumption))) b5
 replace o3 := hk3 _ _ _ o3
 clear hk3
 have hk4 : ∀ F v x, mrksR.O w4 (w.heap.size + 3) F v x → mrksR.O w5 (w.heap.size + 3) F v x := fun F v x o => mrksR.keep (by (repeat (first | refine Rep.set _ ?_ _ (by simp; omega) | refine Rep.set _ ?_ _ (by simp) | refine Rep.alloc _ ?_ _ | assumption))) b5
 replace o4 := hk4 _ _ _ o4
 clear hk4
 have y0 : w5.cell? ⟨w.heap.size, 0, none⟩ = some (.int .i64 d.idx) := cK b5 (by simp [go_sem, x0, x1, x2, x3, x4, x5, q0, q1, q2, q3, q4, q5, p0, p1, p2, p3, p4, p5])
 have y1 : w5.cell? ⟨w.heap.size, 1, none⟩ = some (u1) := cK b5 (by simp [go_sem, x0, x1, x2, x3, x4, x5, q0, q1, q2, q3, q4, q5, p0, p1, p2, p3, p4, p5])
 have y2 : w5.cell? ⟨w.heap.size, 2, none⟩ = some (u2) := cK b5 (by simp [go_sem, x0, x1, x2, x3, x4, x5, q0, q1, q2, q3, q4, q5, p0, p1, p2, p3, p4, p5])
 have y3 : w5.cell? ⟨w.heap.size, 3, none⟩ = some (u3) := cK b5 (by simp [go_sem, x0, x1, x2, x3, x4, x5, q0, q1, q2, q3, q4, q5, p0, p1, p2, p3, p4, p5])
 have y4 : w5.cell? ⟨w.heap.size, 4, none⟩ = some (u4) := cK b5 (by simp [go_sem, x0, x1, x2, x3, x4, x5, q0, q1, q2, q3, q4, q5, p0, p1, p2, p3, p4, p5])
 have y5 : w5.cell? ⟨w.heap.size, 5, none⟩ = some (u5) := cK b5 (by simp [go_sem, x0, x1, x2, x3, x4, x5, q0, q1, q2, q3, q4, q5, p0, p1, p2, p3, p4, p5])
 have r0 : w5.cell? ⟨w.heap.size + 1, 0, none⟩ = some (.int .i64 0) := cK b5 (by simp [go_sem, x0, x1, x2, x3, x4, x5, q0, q1, q2, q3, q4, q5, p0, p1, p2, p3, p4, p5])
 have r1 : w5.cell? ⟨w.heap.size + 1, 1, none⟩ = some (.slice none 0 0) := cK b5 (by simp [go_sem, x0, x1, x2, x3, x4, x5, q0, q1, q2, q3, q4, q5, p0, p1, p2, p3, p4, p5])
 have r2 : w5.cell? ⟨w.heap.size + 1, 2, none⟩ = some (.slice none 0 0) := cK b5 (by simp [go_sem, x0, x1, x2, x3, x4, x5, q0, q1, q2, q3, q4, q5, p0, p1, p2, p3, p4, p5])
 have r3 : w5.cell? ⟨w.heap.size + 1, 3, none⟩ = some (.slice none 0 0) := cK b5 (by simp [go_sem, x0, x1, x2, x3, x4, x5, q0, q1, q2, q3, q4, q5, p0, p1, p2, p3, p4, p5])
 have r4 : w5.cell? ⟨w.heap.size + 1, 4, none⟩ = some (.slice none 0 0) := cK b5 (by simp [go_sem, x0, x1, x2, x3, x4, x5, q0, q1, q2, q3, q4, q5, p0, p1, p2, p3, p4, p5])
 have r5 : w5.cell? ⟨w.heap.size + 1, 5, none⟩ = some (.slice none 0 0) := cK b5 (by simp [go_sem, x0, x1, x2, x3, x4, x5, q0, q1, q2, q3, q4, q5, p0, p1, p2, p3, p4, p5])
 have s0 : w5.cell? ⟨w.heap.size + 2, 0, none⟩ = some (.int .i64 d.idx) := cK b5 (by simp [go_sem, x0, x1, x2, x3, x4, x5, q0, q1, q2, q3, q4, q5, p0, p1, p2, p3, p4, p5])
 have s1 : w5.cell? ⟨w.heap.size + 2, 1, none⟩ = some (.slice a1 d.bals.length n1) := cK b5 (by simp [go_sem, x0, x1, x2, x3, x4, x5, q0, q1, q2, q3, q4, q5, p0, p1, p2, p3, p4, p5])
 have s2 : w5.cell? ⟨w.heap.size + 2, 2, none⟩ = some (.slice a2 d.votes.length n2) := cK b5 (by simp [go_sem, x0, x1, x2, x3, x4, x5, q0, q1, q2, q3, q4, q5, p0, p1, p2, p3, p4, p5])
 have s3 : w5.cell? ⟨w.heap.size + 2, 3, none⟩ = some (.slice a3 d.held.length n3) := cK b5 (by simp [go_sem, x0, x1, x2, x3, x4, x5, q0, q1, q2, q3, q4, q5, p0, p1, p2, p3, p4, p5])
 have s4 : w5.cell? ⟨w.heap.size + 2, 4, none⟩ = some (.slice a4 d.done.length n4) := cK b5 (by simp [go_sem, x0, x1, x2, x3, x4, x5, q0, q1, q2, q3, q4, q5, p0, p1, p2, p3, p4, p5])
 have s5 : w5.cell? ⟨w.heap.size + 2, 5, none⟩ = some (.slice none 0 0) := cK b5 (by simp [go_sem, x0, x1, x2, x3, x4, x5, q0, q1, q2, q3, q4, q5, p0, p1, p2, p3, p4, p5])
 have t1 : ∀ o, w5.frozen? ⟨w.heap.size + 1, o, none⟩ = false := fun o => by rw [f5 _ _ (by simp; try omega)]; simp [go_sem, qf]
 have t2 : ∀ o, w5.frozen? ⟨w.heap.size + 2, o, none⟩ = false := fun o => by rw [f5 _ _ (by simp; try omega)]; simp [go_sem, pf]
 clear x0 x1 x2 x3 x4 x5 q0 q1 q2 q3 q4 q5 p0 p1 p2 p3 p4 p5 qf pf
 clear c5 f5
 have x0 := y0
 have x1 := y1
 have x2 := y2
 have x3 := y3
 have x4 := y4
 have x5 := y5
 have q0 := r0
 have q1 := r1
 have q2 := r2
 have q3 := r3
 have q4 := r4
 have q5 := r5
 have p0 := s0
 have p1 := s1
 have p2 := s2
 have p3 := s3
 have p4 := s4
 have p5 := s5
 have qf := t1
 have pf := t2
 clear t1 t2 y0 y1 y2 y3 y4 y5 r0 r1 r2 r3 r4 r5 s0 s1 s2 s3 s4 s5
 clear b5 hB4
 go_wp2
 refine bodyPost_ret (v := .agg #[.int .i64 d.idx, .slice a1 d.bals.length n1, .slice a2 d.votes.length n2, .slice a3 d.held.length n3, .slice a4 d.done.length n4, .slice a5 d.appl.length n5]) ?_ rfl ⟨_, fun b => F1 b ∨ F2 b ∨ F3 b ∨ F4 b ∨ F5 b, rfl, ⟨_, _, _, _, _, F1, F2, F3, F4, F5, rfl, balsR.base (base := w.heap.size + 3) (by (repeat (first | refine Rep.set _ ?_ _ (by simp; omega) | refine Rep.set _ ?_ _ (by simp) | refine Rep.alloc _ ?_ _ | assumption))) (by omega), mrksR.base (base := w.heap.size + 3) (by (repeat (first | refine Rep.set _ ?_ _ (by simp; omega) | refine Rep.set _ ?_ _ (by simp) | refine Rep.alloc _ ?_ _ | assumption))) (by omega), contsR.base (base := w.heap.size + 3) (by (repeat (first | refine Rep.set _ ?_ _ (by simp; omega) | refine Rep.set _ ?_ _ (by simp) | refine Rep.alloc _ ?_ _ | assumption))) (by omega), mrksR.base (base := w.heap.size + 3) (by (repeat (first | refine Rep.set _ ?_ _ (by simp; omega) | refine Rep.set _ ?_ _ (by simp) | refine Rep.alloc _ ?_ _ | assumption))) (by omega), intsR.base (base := w.heap.size + 3) (by (repeat (first | refine Rep.set _ ?_ _ (by simp; omega) | refine Rep.set _ ?_ _ (by simp) | refine Rep.alloc _ ?_ _ | assumption))) (by omega), fun b p q => by have := (l1 b p).2; have := (l2 b q).1; omega, fun b p q => by have := (l1 b p).2; have := (l3 b q).1; omega, fun b p q => by have := (l1 b p).2; have := (l4 b q).1; omega, fun b p q => by have := (l1 b p).2; have := (l5 b q).1; omega, fun b p q => by have := (l2 b p).2; have := (l3 b q).1; omega, fun b p q => by have := (l2 b p).2; have := (l4 b q).1; omega, fun b p q => by have := (l2 b p).2; have := (l5 b q).1; omega, fun b p q => by have := (l3 b p).2; have := (l4 b q).1; omega, fun b p q => by have := (l3 b p).2; have := (l5 b q).1; omega, fun b p q => by have := (l4 b p).2; have := (l5 b q).1; omega, fun b => Iff.rfl⟩, by (repeat (first | refine bset ?_ (by simp; omega) _ | refine bset ?_ (by simp) _ | refine bA ?_ _ | assumption))⟩
 simp [results, Tryz.results8, go_sem, q0, q1, q2, q3, q4, q5, p0, p1, p2, p3, p4, p5, qf, pf]
set_option maxHeartbeats 1000000 in
theorem szShard_u (x : Value) (d : Shd) (left : Int) (w : World) (hx : shdR.V w x d) (h0 : 0 ≤ left) (h1 : left ≤ 1048576) :
  Calls Tryz.prog 5 #[x, .int .i64 left] w fun e w' => e = .returned (.int .i64 (szLen left (wtShd d))) ∧ Below w.heap.size w w' := by
 obtain ⟨u1, u2, u3, u4, u5, rfl, k1, k2, k3, k4, k5⟩ := hx
 go_enter Tryz.func5, Tryz.ntmps5
 go_wp2_with fail
 refine (szBalanceS_u _ d.bals left _ (balsR.below k1 (qBq)) h0 h1).mono ?_
 rintro e w1 ⟨rfl, b1⟩
 have x0 : w1.cell? ⟨w.heap.size, 0, none⟩ = some (.int .i64 d.idx) := cK b1 (by simp [go_sem])
 have x1 : w1.cell? ⟨w.heap.size, 1, none⟩ = some (u1) := cK b1 (by simp [go_sem])
 have x2 : w1.cell? ⟨w.heap.size, 2, none⟩ = some (u2) := cK b1 (by simp [go_sem])
 have x3 : w1.cell? ⟨w.heap.size, 3, none⟩ = some (u3) := cK b1 (by simp [go_sem])
 have x4 : w1.cell? ⟨w.heap.size, 4, none⟩ = some (u4) := cK b1 (by simp [go_sem])
 have x5 : w1.cell? ⟨w.heap.size, 5, none⟩ = some (u5) := cK b1 (by simp [go_sem])
 go_wp2_with fail
 ·
  rename_i h
  go_ret
  refine ⟨?_, qBq⟩
  rw [szLen_neg (n := wtBals d.bals) (by omega) (wtShd d) (by unfold wtShd; omega)]
  rfl
 rename_i h
 refine (szMarkS_u _ d.votes (szLen left (wtBals d.bals : Nat)) _ (mrksR.below k2 (qBq)) (by omega) (by have := szLen_le (n := wtBals d.bals) h0; omega)).mono ?_
 rintro e w2 ⟨rfl, b2⟩
 replace x0 : w2.cell? ⟨w.heap.size, 0, none⟩ = some (.int .i64 d.idx) := cK b2 x0
 replace x1 : w2.cell? ⟨w.heap.size, 1, none⟩ = some (u1) := cK b2 x1
 replace x2 : w2.cell? ⟨w.heap.size, 2, none⟩ = some (u2) := cK b2 x2
 replace x3 : w2.cell? ⟨w.heap.size, 3, none⟩ = some (u3) := cK b2 x3
 replace x4 : w2.cell? ⟨w.heap.size, 4, none⟩ = some (u4) := cK b2 x4
 replace x5 : w2.cell? ⟨w.heap.size, 5, none⟩ = some (u5) := cK b2 x5
 rw [szLen_add (n := wtBals d.bals) (by omega)]
 go_wp2_with fail
 ·
  rename_i h
  go_ret
  refine ⟨?_, qBq⟩
  rw [szLen_neg (n := wtBals d.bals + wtMrks d.votes) (by first | omega | (rw [Int.natCast_add]; omega)) (wtShd d) (by unfold wtShd; omega)]
  rfl
 rename_i h
 refine (szContractS_u _ d.held (szLen left (wtBals d.bals + wtMrks d.votes : Nat)) _ (contsR.below k3 (qBq)) (by first | omega | (simp only [Int.natCast_add] at *; omega)) (by have := szLen_le (n := wtBals d.bals + wtMrks d.votes) h0; omega)).mono ?_
 rintro e w3 ⟨rfl, b3⟩
 replace x0 : w3.cell? ⟨w.heap.size, 0, none⟩ = some (.int .i64 d.idx) := cK b3 x0
 replace x1 : w3.cell? ⟨w.heap.size, 1, none⟩ = some (u1) := cK b3 x1
 replace x2 : w3.cell? ⟨w.heap.size, 2, none⟩ = some (u2) := cK b3 x2
 replace x3 : w3.cell? ⟨w.heap.size, 3, none⟩ = some (u3) := cK b3 x3
 replace x4 : w3.cell? ⟨w.heap.size, 4, none⟩ = some (u4) := cK b3 x4
 replace x5 : w3.cell? ⟨w.heap.size, 5, none⟩ = some (u5) := cK b3 x5
 rw [szLen_add (n := wtBals d.bals + wtMrks d.votes) (by first | omega | (simp only [Int.natCast_add] at *; omega))]
 go_wp2_with fail
 ·
  rename_i h
  go_ret
  refine ⟨?_, qBq⟩
  rw [szLen_neg (n := wtBals d.bals + wtMrks d.votes + wtConts d.held) (by first | omega | (simp only [Int.natCast_add] at *; omega)) (wtShd d) (by unfold wtShd; omega)]
  rfl
 rename_i h
 refine (szMarkS_u _ d.done (szLen left (wtBals d.bals + wtMrks d.votes + wtConts d.held : Nat)) _ (mrksR.below k4 (qBq)) (by first | omega | (simp only [Int.natCast_add] at *; omega)) (by have := szLen_le (n := wtBals d.bals + wtMrks d.votes + wtConts d.held) h0; omega)).mono ?_
 rintro e w4 ⟨rfl, b4⟩
 replace x0 : w4.cell? ⟨w.heap.size, 0, none⟩ = some (.int .i64 d.idx) := cK b4 x0
 replace x1 : w4.cell? ⟨w.heap.size, 1, none⟩ = some (u1) := cK b4 x1
 replace x2 : w4.cell? ⟨w.heap.size, 2, none⟩ = some (u2) := cK b4 x2
 replace x3 : w4.cell? ⟨w.heap.size, 3, none⟩ = some (u3) := cK b4 x3
 replace x4 : w4.cell? ⟨w.heap.size, 4, none⟩ = some (u4) := cK b4 x4
 replace x5 : w4.cell? ⟨w.heap.size, 5, none⟩ = some (u5) := cK b4 x5
 rw [szLen_add (n := wtBals d.bals + wtMrks d.votes + wtConts d.held) (by first | omega | (simp only [Int.natCast_add] at *; omega))]
 go_wp2_with fail
 ·
  rename_i h
  go_ret
  refine ⟨?_, qBq⟩
  rw [szLen_neg (n := wtBals d.bals + wtMrks d.votes + wtConts d.held + wtMrks d.done) (by first | omega | (simp only [Int.natCast_add] at *; omega)) (wtShd d) (by unfold wtShd; omega)]
  rfl
 rename_i h
 refine (szInt64S_u _ d.appl (szLen left (wtBals d.bals + wtMrks d.votes + wtConts d.held + wtMrks d.done : Nat)) _ (intsR.below k5 (qBq)) (by first | omega | (simp only [Int.natCast_add] at *; omega)) (by have := szLen_le (n := wtBals d.bals + wtMrks d.votes + wtConts d.held + wtMrks d.done) h0; omega)).mono ?_
 rintro e w5 ⟨rfl, b5⟩
 rw [szLen_add (n := wtBals d.bals + wtMrks d.votes + wtConts d.held + wtMrks d.done) (by first | omega | (simp only [Int.natCast_add] at *; omega))]
 go_wp2
 ·
  rename_i h
  go_ret
  refine ⟨?_, qBq⟩
  rw [szLen_neg (n := wtBals d.bals + wtMrks d.votes + wtConts d.held + wtMrks d.done + wtInts d.appl) (by first | omega | (simp only [Int.natCast_add] at *; omega)) (wtShd d) (by unfold wtShd; omega)]
  rfl
 rename_i h
 go_ret
 exact ⟨rfl, qBq⟩
set_option maxHeartbeats 1000000 in
theorem eqShard_u (x y : Value) (d d' : Shd) (w : World) (hx : shdR.V w x d) (hy : shdR.V w y d') :
  Calls Tryz.prog 12 #[x, y] w fun e w' => e = .returned (.bool (decide (d = d'))) ∧ Below w.heap.size w w' := by
 obtain ⟨u1, u2, u3, u4, u5, rfl, h1, h2, h3, h4, h5⟩ := hx
 obtain ⟨v1, v2, v3, v4, v5, rfl, k1, k2, k3, k4, k5⟩ := hy
 obtain ⟨idx, bals, votes, held, done, appl⟩ := d
 obtain ⟨idx', bals', votes', held', done', appl'⟩ := d'
 dsimp only at h1 k1 h2 k2 h3 k3 h4 k4 h5 k5
 go_enter Tryz.func12, Tryz.ntmps12
 go_wp2_with fail
 all_goals try (go_ret; exact ⟨by simp_all, qBq⟩)
 refine (eqBalanceS_u _ _ bals bals' _ (balsR.below h1 (qBq)) (balsR.below k1 (qBq))).mono ?_
 rintro e w1 ⟨rfl, b1⟩
 have x0 : w1.cell? ⟨w.heap.size, 0, none⟩ = some (.int .i64 idx) := cK b1 (by simp [go_sem])
 have x1 : w1.cell? ⟨w.heap.size, 1, none⟩ = some (u1) := cK b1 (by simp [go_sem])
 have x2 : w1.cell? ⟨w.heap.size, 2, none⟩ = some (u2) := cK b1 (by simp [go_sem])
 have x3 : w1.cell? ⟨w.heap.size, 3, none⟩ = some (u3) := cK b1 (by simp [go_sem])
 have x4 : w1.cell? ⟨w.heap.size, 4, none⟩ = some (u4) := cK b1 (by simp [go_sem])
 have x5 : w1.cell? ⟨w.heap.size, 5, none⟩ = some (u5) := cK b1 (by simp [go_sem])
 have y0 : w1.cell? ⟨w.heap.size + 1, 0, none⟩ = some (.int .i64 idx') := cK b1 (by simp [go_sem])
 have y1 : w1.cell? ⟨w.heap.size + 1, 1, none⟩ = some (v1) := cK b1 (by simp [go_sem])
 have y2 : w1.cell? ⟨w.heap.size + 1, 2, none⟩ = some (v2) := cK b1 (by simp [go_sem])
 have y3 : w1.cell? ⟨w.heap.size + 1, 3, none⟩ = some (v3) := cK b1 (by simp [go_sem])
 have y4 : w1.cell? ⟨w.heap.size + 1, 4, none⟩ = some (v4) := cK b1 (by simp [go_sem])
 have y5 : w1.cell? ⟨w.heap.size + 1, 5, none⟩ = some (v5) := cK b1 (by simp [go_sem])
 go_wp2_with fail
 all_goals try (go_ret; exact ⟨by simp_all, qBq⟩)
 refine (eqMarkS_u _ _ votes votes' _ (mrksR.below h2 (qBq)) (mrksR.below k2 (qBq))).mono ?_
 rintro e w2 ⟨rfl, b2⟩
 replace x0 : w2.cell? ⟨w.heap.size, 0, none⟩ = some (.int .i64 idx) := cK b2 x0
 replace x1 : w2.cell? ⟨w.heap.size, 1, none⟩ = some (u1) := cK b2 x1
 replace x2 : w2.cell? ⟨w.heap.size, 2, none⟩ = some (u2) := cK b2 x2
 replace x3 : w2.cell? ⟨w.heap.size, 3, none⟩ = some (u3) := cK b2 x3
 replace x4 : w2.cell? ⟨w.heap.size, 4, none⟩ = some (u4) := cK b2 x4
 replace x5 : w2.cell? ⟨w.heap.size, 5, none⟩ = some (u5) := cK b2 x5
 replace y0 : w2.cell? ⟨w.heap.size + 1, 0, none⟩ = some (.int .i64 idx') := cK b2 y0
 replace y1 : w2.cell? ⟨w.heap.size + 1, 1, none⟩ = some (v1) := cK b2 y1
 replace y2 : w2.cell? ⟨w.heap.size + 1, 2, none⟩ = some (v2) := cK b2 y2
 replace y3 : w2.cell? ⟨w.heap.size + 1, 3, none⟩ = some (v3) := cK b2 y3
 replace y4 : w2.cell? ⟨w.heap.size + 1, 4, none⟩ = some (v4) := cK b2 y4
 replace y5 : w2.cell? ⟨w.heap.size + 1, 5, none⟩ = some (v5) := cK b2 y5
 go_wp2_with fail
 all_goals try (go_ret; exact ⟨by simp_all, qBq⟩)
 refine (eqContractS_u _ _ held held' _ (contsR.below h3 (qBq)) (contsR.below k3 (qBq))).mono ?_
 rintro e w3 ⟨rfl, b3⟩
 replace x0 : w3.cell? ⟨w.heap.size, 0, none⟩ = some (.int .i64 idx) := cK b3 x0
 replace x1 : w3.cell? ⟨w.heap.size, 1, none⟩ = some (u1) := cK b3 x1
 replace x2 : w3.cell? ⟨w.heap.size, 2, none⟩ = some (u2) := cK b3 x2
 replace x3 : w3.cell? ⟨w.heap.size, 3, none⟩ = some (u3) := cK b3 x3
 replace x4 : w3.cell? ⟨w.heap.size, 4, none⟩ = some (u4) := cK b3 x4
 replace x5 : w3.cell? ⟨w.heap.size, 5, none⟩ = some (u5) := cK b3 x5
 replace y0 : w3.cell? ⟨w.heap.size + 1, 0, none⟩ = some (.int .i64 idx') := cK b3 y0
 replace y1 : w3.cell? ⟨w.heap.size + 1, 1, none⟩ = some (v1) := cK b3 y1
 replace y2 : w3.cell? ⟨w.heap.size + 1, 2, none⟩ = some (v2) := cK b3 y2
 replace y3 : w3.cell? ⟨w.heap.size + 1, 3, none⟩ = some (v3) := cK b3 y3
 replace y4 : w3.cell? ⟨w.heap.size + 1, 4, none⟩ = some (v4) := cK b3 y4
 replace y5 : w3.cell? ⟨w.heap.size + 1, 5, none⟩ = some (v5) := cK b3 y5
 go_wp2_with fail
 all_goals try (go_ret; exact ⟨by simp_all, qBq⟩)
 refine (eqMarkS_u _ _ done done' _ (mrksR.below h4 (qBq)) (mrksR.below k4 (qBq))).mono ?_
 rintro e w4 ⟨rfl, b4⟩
 replace x0 : w4.cell? ⟨w.heap.size, 0, none⟩ = some (.int .i64 idx) := cK b4 x0
 replace x1 : w4.cell? ⟨w.heap.size, 1, none⟩ = some (u1) := cK b4 x1
 replace x2 : w4.cell? ⟨w.heap.size, 2, none⟩ = some (u2) := cK b4 x2
 replace x3 : w4.cell? ⟨w.heap.size, 3, none⟩ = some (u3) := cK b4 x3
 replace x4 : w4.cell? ⟨w.heap.size, 4, none⟩ = some (u4) := cK b4 x4
 replace x5 : w4.cell? ⟨w.heap.size, 5, none⟩ = some (u5) := cK b4 x5
 replace y0 : w4.cell? ⟨w.heap.size + 1, 0, none⟩ = some (.int .i64 idx') := cK b4 y0
 replace y1 : w4.cell? ⟨w.heap.size + 1, 1, none⟩ = some (v1) := cK b4 y1
 replace y2 : w4.cell? ⟨w.heap.size + 1, 2, none⟩ = some (v2) := cK b4 y2
 replace y3 : w4.cell? ⟨w.heap.size + 1, 3, none⟩ = some (v3) := cK b4 y3
 replace y4 : w4.cell? ⟨w.heap.size + 1, 4, none⟩ = some (v4) := cK b4 y4
 replace y5 : w4.cell? ⟨w.heap.size + 1, 5, none⟩ = some (v5) := cK b4 y5
 go_wp2_with fail
 all_goals try (go_ret; exact ⟨by simp_all, qBq⟩)
 refine (eqInt64S_u _ _ appl appl' _ (intsR.below h5 (qBq)) (intsR.below k5 (qBq))).mono ?_
 rintro e w5 ⟨rfl, b5⟩
 go_wp2
 all_goals
  go_ret
  exact ⟨by simp_all, qBq⟩
set_option maxHeartbeats 1000000 in
theorem markShard_u (v : Value) (d : Shd) (base : Nat) (F : Nat → Prop) (k : Int) (w : World) (ho : shdR.O w base F v d) (hw : wtShd d ≤ 1048576) (hn : k + cntShd d ≤ 1073741824) (hk0 : 0 ≤ k) :
  Calls Tryz.prog 14 #[v, .int .i64 k] w fun r w' => r = .returned (.int .i64 (k + cntShd d)) ∧ shdR.O w' base F v (mkShd k d) ∧ Mod F w w' := by
 obtain ⟨u1, u2, u3, u4, u5, F1, F2, F3, F4, F5, rfl, h1, h2, h3, h4, h5, s12, s13, s14, s15, s23, s24, s25, s34, s35, s45, hF⟩ := ho
 unfold wtShd at hw
 unfold cntShd at hn ⊢
 have HF : Hid (∀ b, F b ↔ (F1 b ∨ F2 b ∨ F3 b ∨ F4 b ∨ F5 b)) := hF
 clear hF
 go_enter Tryz.func14, Tryz.ntmps14
 go_wp2_with fail
 refine (markBalanceS_u _ d.bals base F1 k _ (balsR.alloc h1 _) (by omega) (by omega) (by omega)).mono ?_
 rintro e w1 ⟨rfl, r1, m1⟩
 have h2' := mrksR.mod (mrksR.alloc h2 _) m1 (fun b p q => s12 b q p)
 have h3' := contsR.mod (contsR.alloc h3 _) m1 (fun b p q => s13 b q p)
 have h4' := mrksR.mod (mrksR.alloc h4 _) m1 (fun b p q => s14 b q p)
 have h5' := intsR.mod (intsR.alloc h5 _) m1 (fun b p q => s15 b q p)
 have x0 : w1.cell? ⟨w.heap.size, 0, none⟩ = some (.int .i64 d.idx) := m1.cell (by simp [go_sem]) (fun hf => by have := balsR.rng h1 _ hf; dsimp only at this; omega)
 have x1 : w1.cell? ⟨w.heap.size, 1, none⟩ = some (u1) := m1.cell (by simp [go_sem]) (fun hf => by have := balsR.rng h1 _ hf; dsimp only at this; omega)
 have x2 : w1.cell? ⟨w.heap.size, 2, none⟩ = some (u2) := m1.cell (by simp [go_sem]) (fun hf => by have := balsR.rng h1 _ hf; dsimp only at this; omega)
 have x3 : w1.cell? ⟨w.heap.size, 3, none⟩ = some (u3) := m1.cell (by simp [go_sem]) (fun hf => by have := balsR.rng h1 _ hf; dsimp only at this; omega)
 have x4 : w1.cell? ⟨w.heap.size, 4, none⟩ = some (u4) := m1.cell (by simp [go_sem]) (fun hf => by have := balsR.rng h1 _ hf; dsimp only at this; omega)
 have x5 : w1.cell? ⟨w.heap.size, 5, none⟩ = some (u5) := m1.cell (by simp [go_sem]) (fun hf => by have := balsR.rng h1 _ hf; dsimp only at this; omega)
 go_wp2_with fail
 refine (markMarkS_u _ d.votes base F2 (k + cntBals d.bals) _ h2' (by omega) (by omega) (by omega)).mono ?_
 rintro e w2 ⟨rfl, r2, m2⟩
 have h3'' := contsR.mod h3' m2 (fun b p q => s23 b q p)
 have h4'' := mrksR.mod h4' m2 (fun b p q => s24 b q p)
 have h5'' := intsR.mod h5' m2 (fun b p q => s25 b q p)
 replace x0 : w2.cell? ⟨w.heap.size, 0, none⟩ = some (.int .i64 d.idx) := m2.cell x0 (fun hf => by have := mrksR.rng h2 _ hf; dsimp only at this; omega)
 replace x1 : w2.cell? ⟨w.heap.size, 1, none⟩ = some (u1) := m2.cell x1 (fun hf => by have := mrksR.rng h2 _ hf; dsimp only at this; omega)
 replace x2 : w2.cell? ⟨w.heap.size, 2, none⟩ = some (u2) := m2.cell x2 (fun hf => by have := mrksR.rng h2 _ hf; dsimp only at this; omega)
 replace x3 : w2.cell? ⟨w.heap.size, 3, none⟩ = some (u3) := m2.cell x3 (fun hf => by have := mrksR.rng h2 _ hf; dsimp only at this; omega)
 replace x4 : w2.cell? ⟨w.heap.size, 4, none⟩ = some (u4) := m2.cell x4 (fun hf => by have := mrksR.rng h2 _ hf; dsimp only at this; omega)
 replace x5 : w2.cell? ⟨w.heap.size, 5, none⟩ = some (u5) := m2.cell x5 (fun hf => by have := mrksR.rng h2 _ hf; dsimp only at this; omega)
 replace r1 := balsR.mod r1 m2 (fun b p q => s12 b p q)
 go_wp2_with fail
 refine (markContractS_u _ d.held base F3 (k + cntBals d.bals + cntMrks d.votes) _ h3'' (by omega) (by omega) (by omega)).mono ?_
 rintro e w3 ⟨rfl, r3, m3⟩
 have h4''' := mrksR.mod h4'' m3 (fun b p q => s34 b q p)
 have h5''' := intsR.mod h5'' m3 (fun b p q => s35 b q p)
 replace x0 : w3.cell? ⟨w.heap.size, 0, none⟩ = some (.int .i64 d.idx) := m3.cell x0 (fun hf => by have := contsR.rng h3 _ hf; dsimp only at this; omega)
 replace x1 : w3.cell? ⟨w.heap.size, 1, none⟩ = some (u1) := m3.cell x1 (fun hf => by have := contsR.rng h3 _ hf; dsimp only at this; omega)
 replace x2 : w3.cell? ⟨w.heap.size, 2, none⟩ = some (u2) := m3.cell x2 (fun hf => by have := contsR.rng h3 _ hf; dsimp only at this; omega)
 replace x3 : w3.cell? ⟨w.heap.size, 3, none⟩ = some (u3) := m3.cell x3 (fun hf => by have := contsR.rng h3 _ hf; dsimp only at this; omega)
 replace x4 : w3.cell? ⟨w.heap.size, 4, none⟩ = some (u4) := m3.cell x4 (fun hf => by have := contsR.rng h3 _ hf; dsimp only at this; omega)
 replace x5 : w3.cell? ⟨w.heap.size, 5, none⟩ = some (u5) := m3.cell x5 (fun hf => by have := contsR.rng h3 _ hf; dsimp only at this; omega)
 replace r1 := balsR.mod r1 m3 (fun b p q => s13 b p q)
 replace r2 := mrksR.mod r2 m3 (fun b p q => s23 b p q)
 go_wp2_with fail
 refine (markMarkS_u _ d.done base F4 (k + cntBals d.bals + cntMrks d.votes + cntConts d.held) _ h4''' (by omega) (by omega) (by omega)).mono ?_
 rintro e w4 ⟨rfl, r4, m4⟩
 have h5'''' := intsR.mod h5''' m4 (fun b p q => s45 b q p)
 replace x0 : w4.cell? ⟨w.heap.size, 0, none⟩ = some (.int .i64 d.idx) := m4.cell x0 (fun hf => by have := mrksR.rng h4 _ hf; dsimp only at this; omega)
 replace x1 : w4.cell? ⟨w.heap.size, 1, none⟩ = some (u1) := m4.cell x1 (fun hf => by have := mrksR.rng h4 _ hf; dsimp only at this; omega)
 replace x2 : w4.cell? ⟨w.heap.size, 2, none⟩ = some (u2) := m4.cell x2 (fun hf => by have := mrksR.rng h4 _ hf; dsimp only at this; omega)
 replace x3 : w4.cell? ⟨w.heap.size, 3, none⟩ = some (u3) := m4.cell x3 (fun hf => by have := mrksR.rng h4 _ hf; dsimp only at this; omega)
 replace x4 : w4.cell? ⟨w.heap.size, 4, none⟩ = some (u4) := m4.cell x4 (fun hf => by have := mrksR.rng h4 _ hf; dsimp only at this; omega)
 replace x5 : w4.cell? ⟨w.heap.size, 5, none⟩ = some (u5) := m4.cell x5 (fun hf => by have := mrksR.rng h4 _ hf; dsimp only at this; omega)
 replace r1 := balsR.mod r1 m4 (fun b p q => s14 b p q)
 replace r2 := mrksR.mod r2 m4 (fun b p q => s24 b p q)
 replace r3 := contsR.mod r3 m4 (fun b p q => s34 b p q)
 go_wp2_with fail
 refine (markInt64S_u _ d.appl base F5 (k + cntBals d.bals + cntMrks d.votes + cntConts d.held + cntMrks d.done) _ h5'''' (by omega) (by omega) (by omega)).mono ?_
 rintro e w5 ⟨rfl, r5, m5⟩
 replace r1 := balsR.mod r1 m5 (fun b p q => s15 b p q)
 replace r2 := mrksR.mod r2 m5 (fun b p q => s25 b p q)
 replace r3 := contsR.mod r3 m5 (fun b p q => s35 b p q)
 replace r4 := mrksR.mod r4 m5 (fun b p q => s45 b p q)
 go_wp2
 go_ret
 refine ⟨?_, ⟨_, _, _, _, _, F1, F2, F3, F4, F5, rfl, r1, r2, r3, r4, r5, s12, s13, s14, s15, s23, s24, s25, s34, s35, s45, HF.out⟩, ((((((Mod.refl F w).alloc _).trans (m1.mono (fun b hb => (HF.out b).2 (.inl hb)))).trans (m2.mono (fun b hb => (HF.out b).2 (.inr (.inl hb))))).trans (m3.mono (fun b hb => (HF.out b).2 (.inr (.inr (.inl hb)))))).trans (m4.mono (fun b hb => (HF.out b).2 (.inr (.inr (.inr (.inl hb))))))).trans (m5.mono (fun b hb => (HF.out b).2 (.inr (.inr (.inr (.inr hb))))))⟩
 simp
 try omega
set_option maxHeartbeats 1000000 in
theorem heldShard_u (v : Value) (d : Shd) (k : Int) (w : World) (hv : shdR.V w v (mkShd k d)) (hw : wtShd d ≤ 1048576) (hn : k + cntShd d ≤ 1073741824) (hk0 : 0 ≤ k) :
  Calls Tryz.prog 51 #[v, .int .i64 k] w fun r w' => r = .returned (.int .i64 (k + cntShd d)) ∧ Below w.heap.size w w' := by
 obtain ⟨u1, u2, u3, u4, u5, rfl, h1, h2, h3, h4, h5⟩ := hv
 unfold wtShd at hw
 unfold cntShd at hn ⊢
 go_enter Tryz.func51, Tryz.ntmps51
 go_wp2_with fail
 refine (heldBalanceS_u _ d.bals k _ (balsR.below h1 (qBq)) (by omega) (by omega) (by omega)).mono ?_
 rintro e w1 ⟨rfl, b1⟩
 have x0 : w1.cell? ⟨w.heap.size, 0, none⟩ = some (.int .i64 d.idx) := cK b1 (by simp [go_sem, mkShd])
 have x1 : w1.cell? ⟨w.heap.size, 1, none⟩ = some (u1) := cK b1 (by simp [go_sem, mkShd])
 have x2 : w1.cell? ⟨w.heap.size, 2, none⟩ = some (u2) := cK b1 (by simp [go_sem, mkShd])
 have x3 : w1.cell? ⟨w.heap.size, 3, none⟩ = some (u3) := cK b1 (by simp [go_sem, mkShd])
 have x4 : w1.cell? ⟨w.heap.size, 4, none⟩ = some (u4) := cK b1 (by simp [go_sem, mkShd])
 have x5 : w1.cell? ⟨w.heap.size, 5, none⟩ = some (u5) := cK b1 (by simp [go_sem, mkShd])
 go_wp2_with fail
 refine (heldMarkS_u _ d.votes (k + cntBals d.bals) _ (mrksR.below h2 (qBq)) (by omega) (by omega) (by omega)).mono ?_
 rintro e w2 ⟨rfl, b2⟩
 replace x0 : w2.cell? ⟨w.heap.size, 0, none⟩ = some (.int .i64 d.idx) := cK b2 x0
 replace x1 : w2.cell? ⟨w.heap.size, 1, none⟩ = some (u1) := cK b2 x1
 replace x2 : w2.cell? ⟨w.heap.size, 2, none⟩ = some (u2) := cK b2 x2
 replace x3 : w2.cell? ⟨w.heap.size, 3, none⟩ = some (u3) := cK b2 x3
 replace x4 : w2.cell? ⟨w.heap.size, 4, none⟩ = some (u4) := cK b2 x4
 replace x5 : w2.cell? ⟨w.heap.size, 5, none⟩ = some (u5) := cK b2 x5
 go_wp2_with fail
 refine (heldContractS_u _ d.held (k + cntBals d.bals + cntMrks d.votes) _ (contsR.below h3 (qBq)) (by omega) (by omega) (by omega)).mono ?_
 rintro e w3 ⟨rfl, b3⟩
 replace x0 : w3.cell? ⟨w.heap.size, 0, none⟩ = some (.int .i64 d.idx) := cK b3 x0
 replace x1 : w3.cell? ⟨w.heap.size, 1, none⟩ = some (u1) := cK b3 x1
 replace x2 : w3.cell? ⟨w.heap.size, 2, none⟩ = some (u2) := cK b3 x2
 replace x3 : w3.cell? ⟨w.heap.size, 3, none⟩ = some (u3) := cK b3 x3
 replace x4 : w3.cell? ⟨w.heap.size, 4, none⟩ = some (u4) := cK b3 x4
 replace x5 : w3.cell? ⟨w.heap.size, 5, none⟩ = some (u5) := cK b3 x5
 go_wp2_with fail
 refine (heldMarkS_u _ d.done (k + cntBals d.bals + cntMrks d.votes + cntConts d.held) _ (mrksR.below h4 (qBq)) (by omega) (by omega) (by omega)).mono ?_
 rintro e w4 ⟨rfl, b4⟩
 replace x0 : w4.cell? ⟨w.heap.size, 0, none⟩ = some (.int .i64 d.idx) := cK b4 x0
 replace x1 : w4.cell? ⟨w.heap.size, 1, none⟩ = some (u1) := cK b4 x1
 replace x2 : w4.cell? ⟨w.heap.size, 2, none⟩ = some (u2) := cK b4 x2
 replace x3 : w4.cell? ⟨w.heap.size, 3, none⟩ = some (u3) := cK b4 x3
 replace x4 : w4.cell? ⟨w.heap.size, 4, none⟩ = some (u4) := cK b4 x4
 replace x5 : w4.cell? ⟨w.heap.size, 5, none⟩ = some (u5) := cK b4 x5
 go_wp2_with fail
 refine (heldInt64S_u _ d.appl (k + cntBals d.bals + cntMrks d.votes + cntConts d.held + cntMrks d.done) _ (intsR.below h5 (qBq)) (by omega) (by omega) (by omega)).mono ?_
 rintro e w5 ⟨rfl, b5⟩
 go_wp2
 go_ret
 refine ⟨?_, qBq⟩
 simp
 try omega
end Go.Proofs.YtndghenlapbaaaaGreat


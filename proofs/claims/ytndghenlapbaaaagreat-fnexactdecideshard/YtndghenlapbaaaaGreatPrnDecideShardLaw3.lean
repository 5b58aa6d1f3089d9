import Derived.Test.YtndghenlapbaaaaGreatPrnDecideShardLaw1
import Derived.Deep.RegionHeld3
import Derived.Deep.DrawnRows
set_option linter.unusedSectionVars false

/-
 Slices of Balance: the law's own copy, comparison, count, marks. (Written by program after my texts on legs.)
-/
namespace Go.Proofs.YtndghenlapbaaaaGreat
open Go.RowKit
attribute [local go_sem ↓] Go.wp_at_zero Go.wp_at_succ

structure Bal where
 ac : Int
 ast : Int
 am : Int
variable [DecidableEq Bal] [Inhabited Bal]

def balV (x : Bal) : Value := .agg #[.int .i64 x.ac, .int .i64 x.ast, .int .i64 x.am]
set_option maxHeartbeats 400000 in
theorem toBalance_any (x : Bal) (w : World) :
  Calls Tryz.prog 69 #[balV x] w fun e w' => e = .returned (balV x) ∧ Below w.heap.size w w' := by
 obtain ⟨a, b, c⟩ := x
 unfold balV
 go_enter Tryz.func69, Tryz.ntmps69
 go_wp2
 exact bodyPost_ret (v := .agg #[.int .i64 a, .int .i64 b, .int .i64 c]) (by simp [results, Tryz.results69, go_sem]) rfl ⟨rfl, bA (bA (bA (Below.refl _ _) _) _) _⟩
set_option maxHeartbeats 400000 in
theorem eqBalance_any (x y : Bal) (w : World) :
  Calls Tryz.prog 84 #[balV x, balV y] w fun e w' => e = .returned (.bool (decide (x = y))) ∧ Below w.heap.size w w' := by
 obtain ⟨a, b, c⟩ := x
 obtain ⟨a', b', c'⟩ := y
 unfold balV
 go_enter Tryz.func84, Tryz.ntmps84
 go_wp2
 all_goals
  go_ret
  exact ⟨by simp_all, bA (bA (Below.refl _ _) _) _⟩
def balCells (w : World) (b o : Nat) (x : Bal) : Prop := w.cell? ⟨b, o, none⟩ = some (.int .i64 x.ac) ∧ w.cell? ⟨b, o + 1, none⟩ = some (.int .i64 x.ast) ∧ w.cell? ⟨b, o + 2, none⟩ = some (.int .i64 x.am)
def BalsV (w : World) (v : Value) (xs : List Bal) : Prop :=
 ∃ a cap, v = .slice a xs.length cap ∧ xs.length ≤ cap ∧ cap ≤ maxLen ∧ ∀ i, i < xs.length → ∃ b o, a = some ⟨b, o, none⟩ ∧ balCells w b (o + i * 3) (xs.getD i default)
theorem balCells_below {w w' : World} {b o : Nat} {x : Bal} (hb : Below w.heap.size w w') (h : balCells w b o x) : balCells w' b o x := by
 obtain ⟨h0, h1, h2⟩ := h
 exact ⟨cK hb h0, cK hb h1, cK hb h2⟩
theorem BalsV_below {w w' : World} {v : Value} {xs : List Bal} (h : BalsV w v xs) (hb : Below w.heap.size w w') : BalsV w' v xs := by
 obtain ⟨a, cap, rfl, h1, h2, h3⟩ := h
 exact ⟨a, cap, rfl, h1, h2, fun i hi => by
  obtain ⟨b, o, ha, hc⟩ := h3 i hi
  exact ⟨b, o, ha, balCells_below hb hc⟩⟩
theorem balKeep2 {w w' : World} {b o b' o' : Nat} {x y : Bal} (hb : Below w.heap.size w w') (h : balCells w b o x) (h' : balCells w b' o' y) :
  Below w.heap.size w w' ∧ (w'.cell? ⟨b, o, none⟩ = some (.int .i64 x.ac) ∧ w'.cell? ⟨b, o + 1, none⟩ = some (.int .i64 x.ast) ∧ w'.cell? ⟨b, o + 2, none⟩ = some (.int .i64 x.am)) ∧ (w'.cell? ⟨b', o', none⟩ = some (.int .i64 y.ac) ∧ w'.cell? ⟨b', o' + 1, none⟩ = some (.int .i64 y.ast) ∧ w'.cell? ⟨b', o' + 2, none⟩ = some (.int .i64 y.am)) :=
 ⟨hb, balCells_below hb h, balCells_below hb h'⟩
theorem bals_eq_of {xs ys : List Bal} (hl : ys.length = xs.length) (h : ∀ j, j < xs.length → xs.getD j default = ys.getD j default) : xs = ys := by
 apply List.ext_getElem (by omega)
 intro i h1 h2
 have := h i h1
 simpa [List.getD, h1, h2] using this
set_option maxHeartbeats 1000000 in
theorem eqBalanceS_any (x y : Value) (xs ys : List Bal) (w : World) (hx : BalsV w x xs) (hy : BalsV w y ys) :
  Calls Tryz.prog 41 #[x, y] w fun e w' => e = .returned (.bool (decide (xs = ys))) ∧ Below w.heap.size w w' := by
 obtain ⟨ax, cx, rfl, hcx, hmx, hx⟩ := hx
 obtain ⟨ay, cy, rfl, hcy, hmy, hy⟩ := hy
 unfold maxLen at hmx hmy
 by_cases hl : ys.length = xs.length
 ·
  rw [hl] at hcy hy ⊢
  have HL : Hid (ys.length = xs.length) := hl
  clear hl
  generalize hn : xs.length = n at *
  have HN : Hid (xs.length = n) := hn
  clear hn
  go_enter Tryz.func41, Tryz.ntmps41
  go_wp2
  go_loopw [5] (fun i w' => ∃ k : Nat, k ≤ n ∧ i = .int .i64 k ∧ (∀ j, j < k → xs.getD j default = ys.getD j default) ∧ Below w.heap.size w w') (fun i _ => n - (intOf i).toNat)
  case atStart => exact ⟨0, Nat.zero_le _, rfl, fun j h => absurd h (Nat.not_lt_zero _), Below.refl _ _⟩
  case round =>
   obtain ⟨k, hk, rfl, hpre, hbl⟩ := hrel
   have HP : Hid (∀ j, j < k → xs.getD j default = ys.getD j default) := hpre
   clear hpre
   by_cases hlt : k < n
   ·
    obtain ⟨bx, ox, rfl, h1⟩ := hx k hlt
    obtain ⟨b2, oy, rfl, h2⟩ := hy k hlt
    obtain ⟨l1, hl1⟩ : ∃ l, l = xs.getD k default := ⟨_, rfl⟩
    obtain ⟨l2, hl2⟩ : ∃ l, l = ys.getD k default := ⟨_, rfl⟩
    rw [← hl1] at h1
    rw [← hl2] at h2
    have H1 : Hid (l1 = xs.getD k default) := hl1
    have H2 : Hid (l2 = ys.getD k default) := hl2
    clear hl1 hl2 hx hy
    go_wp2
    go_region_held3 (fun w' => Below w.heap.size w w' ∧ (w'.cell? ⟨bx, ox + k * 3, none⟩ = some (.int .i64 l1.ac) ∧ w'.cell? ⟨bx, ox + k * 3 + 1, none⟩ = some (.int .i64 l1.ast) ∧ w'.cell? ⟨bx, ox + k * 3 + 2, none⟩ = some (.int .i64 l1.am)) ∧ (w'.cell? ⟨b2, oy + k * 3, none⟩ = some (.int .i64 l2.ac) ∧ w'.cell? ⟨b2, oy + k * 3 + 1, none⟩ = some (.int .i64 l2.ast) ∧ w'.cell? ⟨b2, oy + k * 3 + 2, none⟩ = some (.int .i64 l2.am))) ((refine balKeep2 ?_ h1 h2; repeat (first | exact bR _ _ | assumption | refine bD ?_ | refine bA ?_ _ | refine bS ?_ (by assumption)))) (first | (go_at_call 84; refine (eqBalance_any l1 l2 _).mono ?_; rintro e w' ⟨rfl, hb1⟩))
    rename_i hH
    have hB := hH.1
    clear hH
    go_wp2
    ·
     rename_i hle
     go_ret
     refine ⟨?_, hB⟩
     have : ¬ xs = ys := fun h => by
      have : l1 = l2 := by rw [H1.out, H2.out, h]
      simp [this] at hle
     simp [this]
    ·
     rename_i hle
     refine ⟨⟨k + 1, by omega, by go_num, fun j hj => ?_, hB⟩, by simp [intOf]; omega⟩
     by_cases hjk : j < k
     ·
      exact HP.out j hjk
     ·
      have : j = k := by omega
      subst this
      rw [← H1.out, ← H2.out]
      simpa using hle
   ·
    go_wp2
    go_ret
    have : k = n := by omega
    subst this
    refine ⟨?_, hbl⟩
    have : xs = ys := bals_eq_of (by rw [HL.out, HN.out]) (by rw [HN.out]; exact HP.out)
    simp [this]
 ·
  go_enter Tryz.func41, Tryz.ntmps41
  have hl' : ((xs.length : Int) == (ys.length : Int)) = false := by simp; omega
  go_wp2
  go_ret
  have : ¬ xs = ys := fun h => hl (by rw [h])
  exact ⟨by simp [this], Below.refl _ _⟩
def balC (x : Bal) : List Value := [.int .i64 x.ac, .int .i64 x.ast, .int .i64 x.am]
def balsC (xs : List Bal) : List Value := xs.flatMap balC
theorem infoBal : (Tryz.prog.info? 99).map (fun i => (i.zero, i.size, i.bytes)) = some (some (.agg #[.int .i64 0, .int .i64 0, .int .i64 0]), 3, 24) := by kernel_rfl
theorem length_balsC (xs : List Bal) : (balsC xs).length = xs.length * 3 := by
 induction xs with
 | nil => rfl
 | cons x r ih =>
  have e : balsC (x :: r) = balC x ++ balsC r := by simp [balsC]
  have l4 : (balC x).length = 3 := rfl
  rw [e, List.length_append, l4, ih, List.length_cons]
  omega
theorem get_balsC (xs : List Bal) : ∀ i, i < xs.length → (balsC xs)[i * 3]? = some (.int .i64 (xs.getD i default).ac) ∧ (balsC xs)[i * 3 + 1]? = some (.int .i64 (xs.getD i default).ast) ∧ (balsC xs)[i * 3 + 2]? = some (.int .i64 (xs.getD i default).am) := by
 induction xs with
 | nil => intro i h; simp at h
 | cons x r ih =>
  intro i h
  cases i with
  | zero => simp [balsC, balC]
  | succ i =>
   have := ih i (by simpa using h)
   have e : balsC (x :: r) = balC x ++ balsC r := by simp [balsC]
   have l4 : (balC x).length = 3 := rfl
   rw [e]
   refine ⟨?_, ?_, ?_⟩
   all_goals rw [List.getElem?_append_right (by omega), l4]
   ·
    rw [show (i + 1) * 3 - 3 = i * 3 by omega]; simpa using this.1
   ·
    rw [show (i + 1) * 3 + 1 - 3 = i * 3 + 1 by omega]; simpa using this.2.1
   ·
    rw [show (i + 1) * 3 + 2 - 3 = i * 3 + 2 by omega]; simpa using this.2.2
theorem BalsV_of_owns {w : World} {base e : Nat} {v : Value} {xs : List Bal} (h : w.ownsRow base e 3 v xs.length (balsC xs)) : BalsV w v xs := by
 rcases h.2 with ⟨rfl, hn⟩ | ⟨g, cap, cur, rfl, hb, hg, hnc, hcm, hcs, htake⟩
 ·
  exact ⟨none, 0, by rw [hn], by omega, by unfold maxLen; omega, fun i hi => by omega⟩
 ·
  refine ⟨some ⟨g, 0, none⟩, cap, rfl, hnc, hcm, fun i hi => ⟨g, 0, rfl, ?_⟩⟩
  obtain ⟨h0, h1, h2⟩ := get_balsC xs i hi
  simp only [Nat.zero_add, balCells]
  exact ⟨(h.cellAt _ (by omega)).trans h0, (h.cellAt _ (by omega)).trans h1, (h.cellAt _ (by omega)).trans h2⟩
def balUpto (k : Nat) (cs : List Value) (xs : List Bal) : Prop := ∀ j, j < k * 3 → cs[j]? = (balsC xs)[j]?
theorem balUpto_full {n : Nat} {cs : List Value} {xs : List Bal} (h : balUpto n cs xs) (hl : cs.length = n * 3) (hn : xs.length = n) : cs = balsC xs := by
 apply List.ext_getElem?
 intro j
 by_cases hj : j < n * 3
 ·
  exact h j hj
 ·
  rw [List.getElem?_eq_none (by omega), List.getElem?_eq_none (by rw [length_balsC]; omega)]
theorem balUpto_set {k : Nat} {cs : List Value} {xs : List Bal} {x : Bal} (h : balUpto k cs xs) (hk : k < xs.length) (hl : cs.length = xs.length * 3) (he : x = xs.getD k default) :
  balUpto (k + 1) (((cs.set (k * 3) (.int .i64 x.ac)).set (k * 3 + 1) (.int .i64 x.ast)).set (k * 3 + 2) (.int .i64 x.am)) xs := by
 intro j hj
 obtain ⟨h0, h1, h2⟩ := get_balsC xs k hk
 subst he
 simp only [List.getElem?_set, List.length_set]
 by_cases e2 : k * 3 + 2 = j
 ·
  subst e2; simp [h2]; omega
 by_cases e1 : k * 3 + 1 = j
 ·
  subst e1; simp [h1]; omega
 by_cases e0 : k * 3 = j
 ·
  subst e0; simp [h0]; omega
 simp [e0, e1, e2]
 exact h j (by omega)
set_option maxHeartbeats 1000000 in
theorem toBalanceS_any (x : Value) (xs : List Bal) (w : World) (hx : BalsV w x xs) (hn : xs.length ≤ 1048576) :
  Calls Tryz.prog 29 #[x] w fun e w' => ∃ v, e = .returned v ∧ w'.ownsRow w.heap.size 99 3 v xs.length (balsC xs) ∧ Below w.heap.size w w' := by
 obtain ⟨ax, cx, rfl, hcx, hmx, hx⟩ := hx
 unfold maxLen at hmx
 obtain ⟨i0, hi, hz0, hz1, hz2⟩ := info_parts infoBal
 obtain ⟨w1, hmk, hown, hgr⟩ := run_make_full (P := Tryz.prog) w w.heap.size 33 99 i0 _ 3 Tryz.underlying33 hi hz0 hz1 .i64 .i64 xs.length (by rw [hz2]; omega) (by unfold maxLen; omega) (Nat.le_refl _)
 have hbl0 : Below w.heap.size w w1 := (Below.refl _ _).grown hgr (Nat.le_refl _) (fun k h => by cases h)
 generalize hn' : xs.length = n at *
 have HN : Hid (xs.length = n) := hn'
 clear hn'
 go_enter Tryz.func29, Tryz.ntmps29
 go_wp2
 go_loopw [4] (fun i w' => ∃ (k : Nat) (cs : List Value), k ≤ n ∧ i = .int .i64 k ∧ w'.ownsRow w.heap.size 99 3 (.slice (some ⟨w.heap.size, 0, none⟩) n n) n cs ∧ balUpto k cs xs ∧ Below w.heap.size w w') (fun i _ => n - (intOf i).toNat)
 case atStart => exact ⟨0, _, Nat.zero_le _, rfl, hown, fun j h => by omega, hbl0⟩
 case round =>
  obtain ⟨k, cs, hk, rfl, ho, hup, hbl⟩ := hrel
  have HU : Hid (balUpto k cs xs) := hup
  clear hup hown hmk hgr hbl0
  by_cases hlt : k < n
  ·
   obtain ⟨bx, ox, rfl, h1⟩ := hx k hlt
   obtain ⟨l, hl⟩ : ∃ l, l = xs.getD k default := ⟨_, rfl⟩
   rw [← hl] at h1
   have H1 : Hid (l = xs.getD k default) := hl
   clear hl hx
   obtain ⟨a0, a1, a2⟩ := balCells_below hbl h1
   go_wp2_with fail
   refine (toBalance_any l _).mono ?_
   rintro e wa ⟨rfl, hba⟩
   have ho1 := owns_below ho hba
   obtain ⟨u0, g0⟩ := owns_some ho1 (k * 3) (by omega)
   obtain ⟨u1, g1⟩ := owns_some ho1 (k * 3 + 1) (by omega)
   obtain ⟨u2, g2⟩ := owns_some ho1 (k * 3 + 2) (by omega)
   have hf := fun j => ho1.frozenAt j
   simp only [balV]
   go_wp2
   have s0 := ho1.stored (k * 3) (.int .i64 l.ac)
   have s1 := s0.1.stored (k * 3 + 1) (.int .i64 l.ast)
   have s2 := s1.1.stored (k * 3 + 2) (.int .i64 l.am)
   refine ⟨⟨k + 1, _, by omega, by go_num, s2.1, balUpto_set HU.out (by have := HN.out; omega) (by have := HN.out; have := ho.1; omega) H1.out, ?_⟩, by simp [intOf]; omega⟩
   exact (((bS hbl hba).setCell (Nat.le_refl _) _).setCell (Nat.le_refl _) _).setCell (Nat.le_refl _) _
  ·
   go_wp2
   go_ret
   have hkn : k = n := by omega
   subst hkn
   have e := balUpto_full HU.out ho.1 HN.out
   subst e
   exact ⟨_, rfl, ho, hbl⟩
def balMark (k : Int) (i : Nat) : Bal := ⟨k + 3 * i, k + 3 * i + 1, k + 3 * i + 1 + 1⟩
def balMarks (k : Int) (n : Nat) : List Bal := (List.range n).map (balMark k)
theorem length_balMarks (k : Int) (n : Nat) : (balMarks k n).length = n := by simp [balMarks]
theorem getD_balMarks (k : Int) (n i : Nat) (h : i < n) : (balMarks k n).getD i default = balMark k i := by simp [balMarks, List.getD, h]
set_option maxHeartbeats 1000000 in
theorem markBalanceS_any (v : Value) (n : Nat) (cs : List Value) (base e : Nat) (k : Int) (w : World) (ho : w.ownsRow base e 3 v n cs) (hn : n ≤ 1048576) (hk0 : 0 ≤ k) (hk1 : k ≤ 1073741824) :
  Calls Tryz.prog 46 #[v, .int .i64 k] w fun r w' => r = .returned (.int .i64 (k + 3 * n)) ∧ w'.ownsRow base e 3 v n (balsC (balMarks k n)) ∧ w.grownBy w' v.ownBlock := by
 rcases ho.2 with ⟨rfl, rfl⟩ | ⟨g, cap, cur, rfl, hb, hg, hnc, hcm, _, _⟩
 ·
  go_enter Tryz.func46, Tryz.ntmps46
  go_wp2
  go_loopw [1, 5] (fun q i w' => q = .int .i64 k ∧ i = .int .i64 0 ∧ w' = w) (fun _ _ _ => 0)
  case atStart => exact ⟨rfl, rfl, rfl⟩
  case round =>
   obtain ⟨rfl, rfl, rfl⟩ := hrel
   go_wp2
   go_ret
   exact ⟨by simp, World.ownsRow_nil _ _ _ _, ⟨rfl, rfl, rfl, Nat.le_refl _, fun _ _ _ => rfl⟩⟩
 ·
  unfold maxLen at hcm
  go_enter Tryz.func46, Tryz.ntmps46
  go_wp2
  go_loopw [1, 5] (fun q i w' => ∃ (j : Nat) (cs' : List Value), j ≤ n ∧ i = .int .i64 j ∧ q = .int .i64 (k + 3 * j) ∧ w'.ownsRow base e 3 (.slice (some ⟨g, 0, none⟩) n cap) n cs' ∧ balUpto j cs' (balMarks k n) ∧ w.grownBy w' (some g)) (fun _ i _ => n - (intOf i).toNat)
  case atStart => exact ⟨0, cs, Nat.zero_le _, rfl, by simp, ho, fun j h => by omega, ⟨rfl, rfl, rfl, Nat.le_refl _, fun _ _ _ => rfl⟩⟩
  case round =>
   obtain ⟨j, cs', hj, rfl, rfl, ho1, hup, hgr⟩ := hrel
   have HU : Hid (balUpto j cs' (balMarks k n)) := hup
   clear hup ho hg
   by_cases hlt : j < n
   ·
    obtain ⟨u0, g0⟩ := owns_some ho1 (j * 3) (by omega)
    obtain ⟨u1, g1⟩ := owns_some ho1 (j * 3 + 1) (by omega)
    obtain ⟨u2, g2⟩ := owns_some ho1 (j * 3 + 2) (by omega)
    have hf := fun j => ho1.frozenAt j
    go_wp2
    have s0 := ho1.stored (j * 3) (.int .i64 (k + 3 * j))
    have s1 := s0.1.stored (j * 3 + 1) (.int .i64 (k + 3 * j + 1))
    have s2 := s1.1.stored (j * 3 + 2) (.int .i64 (k + 3 * j + 1 + 1))
    refine ⟨⟨j + 1, _, by omega, by go_num, ?_, s2.1, balUpto_set (x := balMark k j) HU.out (by rw [length_balMarks]; exact hlt) (by rw [length_balMarks]; exact ho1.1) (getD_balMarks k n j hlt).symm, grownTrans (grownTrans (grownTrans (hgr) s0.2) s1.2) s2.2⟩, by simp [intOf]; omega⟩
    congr 1
    omega
   ·
    go_wp2
    go_ret
    have hjn : j = n := by omega
    subst hjn
    have e' := balUpto_full HU.out ho1.1 (length_balMarks k j)
    rw [e'] at ho1
    exact ⟨rfl, ho1, hgr⟩
set_option maxHeartbeats 1000000 in
theorem heldBalanceS_any (v : Value) (n : Nat) (k : Int) (w : World) (hv : BalsV w v (balMarks k n)) (hn : n ≤ 1048576) (hk0 : 0 ≤ k) (hk1 : k ≤ 1073741824) :
  Calls Tryz.prog 87 #[v, .int .i64 k] w fun r w' => r = .returned (.int .i64 (k + 3 * n)) ∧ w' = w := by
 obtain ⟨a, cap, rfl, hnc, hcm, hc⟩ := hv
 rw [length_balMarks] at hnc hc ⊢
 unfold maxLen at hcm
 go_enter Tryz.func87, Tryz.ntmps87
 go_wp2
 go_loopw [1, 5] (fun q i w' => ∃ j : Nat, j ≤ n ∧ i = .int .i64 j ∧ q = .int .i64 (k + 3 * j) ∧ w' = w) (fun _ i _ => n - (intOf i).toNat)
 case atStart => exact ⟨0, Nat.zero_le _, rfl, by simp, rfl⟩
 case round =>
  obtain ⟨j, hj, rfl, rfl, rfl⟩ := hrel
  by_cases hlt : j < n
  ·
   obtain ⟨b, o, rfl, h1⟩ := hc j hlt
   rw [getD_balMarks k n j hlt] at h1
   obtain ⟨g0, g1, g2⟩ := h1
   simp only [balMark] at g0 g1 g2
   clear hc
   go_wp2
   refine ⟨⟨j + 1, by omega, by go_num, ?_, trivial⟩, by simp [intOf]; omega⟩
   congr 1
   omega
  ·
   go_wp2
   go_ret
   have hjn : j = n := by omega
   subst hjn
   exact ⟨rfl, rfl⟩
set_option maxHeartbeats 400000 in
theorem szBalanceS_any (x : Value) (xs : List Bal) (left : Int) (w : World) (hx : BalsV w x xs) (h0 : 0 ≤ left) (h1 : left ≤ 1048576) :
  Calls Tryz.prog 20 #[x, .int .i64 left] w fun e w' => e = .returned (.int .i64 (szLen left xs.length)) ∧ w' = w := by
 obtain ⟨ax, cx, rfl, hcx, hmx, hx⟩ := hx
 unfold maxLen at hmx
 generalize xs.length = n at *
 clear hx
 by_cases h : left < n
 ·
  have h' : left - (n : Int) < 0 := by omega
  go_enter Tryz.func20, Tryz.ntmps20
  go_wp2
  go_ret
  exact ⟨by simp only [szLen, if_pos h]; rfl, rfl⟩
 ·
  have h' : ¬ left - (n : Int) < 0 := by omega
  go_enter Tryz.func20, Tryz.ntmps20
  go_wp2
  go_ret
  exact ⟨by rw [szLen, if_neg (by omega)]; rfl, rfl⟩
end Go.Proofs.YtndghenlapbaaaaGreat

/-
 Rows of impl.Balance: the uniform forms. (Written by program: nest.py.)
-/
namespace Go.Proofs.YtndghenlapbaaaaGreat
open Go.RowKit
variable [DecidableEq Bal] [Inhabited Bal]
attribute [local go_sem ↓] Go.wp_at_zero Go.wp_at_succ

def balsR : Rep (List Bal) := fRep 99 3 balsC BalsV BalsV_below BalsV_of_owns
def wtBals (xs : List Bal) : Nat := xs.length
def cntBals (xs : List Bal) : Nat := 3 * xs.length
def mkBals (k : Int) (xs : List Bal) : List Bal := balMarks k xs.length
theorem bals_form {w : World} {v : Value} {xs : List Bal} (h : balsR.V w v xs) : ∃ a c, v = .slice a xs.length c := by
 obtain ⟨a, c, rfl, _⟩ := h
 exact ⟨_, _, rfl⟩
theorem bals_cnt (d : List Bal) : cntBals d ≤ 3 * wtBals d := by unfold cntBals wtBals; omega
theorem toBalanceS_u (x : Value) (d : List Bal) (w : World) (hx : balsR.V w x d) (hn : wtBals d ≤ 1048576) :
  Calls Tryz.prog 29 #[x] w fun e w' => ∃ v F, e = .returned v ∧ balsR.O w' w.heap.size F v d ∧ Below w.heap.size w w' := by
 refine (toBalanceS_any x d w hx hn).mono ?_
 rintro e w' ⟨v, rfl, ho, hb⟩
 exact ⟨v, _, rfl, ⟨ho, rfl⟩, hb⟩
theorem eqBalanceS_u (x y : Value) (d d' : List Bal) (w : World) (hx : balsR.V w x d) (hy : balsR.V w y d') :
  Calls Tryz.prog 41 #[x, y] w fun e w' => e = .returned (.bool (decide (d = d'))) ∧ Below w.heap.size w w' := eqBalanceS_any x y d d' w hx hy
theorem szBalanceS_u (x : Value) (d : List Bal) (left : Int) (w : World) (hx : balsR.V w x d) (h0 : 0 ≤ left) (h1 : left ≤ 1048576) :
  Calls Tryz.prog 20 #[x, .int .i64 left] w fun e w' => e = .returned (.int .i64 (szLen left (wtBals d))) ∧ Below w.heap.size w w' := by
 refine (szBalanceS_any x d left w hx h0 h1).mono ?_
 rintro e w' ⟨rfl, rfl⟩
 exact ⟨rfl, Below.refl _ _⟩
theorem markBalanceS_u (v : Value) (d : List Bal) (base : Nat) (F : Nat → Prop) (k : Int) (w : World) (ho : balsR.O w base F v d) (hw : wtBals d ≤ 1048576) (hn : k + cntBals d ≤ 1073741824) (hk0 : 0 ≤ k) :
  Calls Tryz.prog 46 #[v, .int .i64 k] w fun r w' => r = .returned (.int .i64 (k + cntBals d)) ∧ balsR.O w' base F v (mkBals k d) ∧ Mod F w w' := by
 refine (markBalanceS_any v d.length _ base _ k w ho.1 hw hk0 (by omega)).mono ?_
 rintro e w' ⟨rfl, h1, h2⟩
 refine ⟨by simp [cntBals], ⟨?_, ho.2⟩, by rw [ho.2]; exact Mod.of_grown h2⟩
 unfold mkBals
 rw [length_balMarks]
 exact h1
theorem heldBalanceS_u (v : Value) (d : List Bal) (k : Int) (w : World) (hv : balsR.V w v (mkBals k d)) (hw : wtBals d ≤ 1048576) (hn : k + cntBals d ≤ 1073741824) (hk0 : 0 ≤ k) :
  Calls Tryz.prog 87 #[v, .int .i64 k] w fun r w' => r = .returned (.int .i64 (k + cntBals d)) ∧ Below w.heap.size w w' := by
 refine (heldBalanceS_any v d.length k w hv hw hk0 (by omega)).mono ?_
 rintro e w' ⟨rfl, rfl⟩
 exact ⟨by simp [cntBals], Below.refl _ _⟩
end Go.Proofs.YtndghenlapbaaaaGreat

/-
 Rows of []Balance. (Written by program: nest.py.)
-/
namespace Go.Proofs.YtndghenlapbaaaaGreat
open Go.RowKit
variable [DecidableEq Bal] [Inhabited Bal]
attribute [local go_sem ↓] Go.wp_at_zero Go.wp_at_succ

def balssR : Rep (List (List Bal)) := nRep balsR 33 1 one
theorem infoBalss : (Tryz.prog.info? 33).map (fun i => (i.zero, i.size, i.bytes)) = some (some (.slice none 0 0), 1, 24) := by kernel_rfl
end Go.Proofs.YtndghenlapbaaaaGreat

/-
 Ledger. (Written by program: nest.py.)
-/
namespace Go.Proofs.YtndghenlapbaaaaGreat
open Go.RowKit
variable [DecidableEq Bal] [Inhabited Bal]
attribute [local go_sem ↓] Go.wp_at_zero Go.wp_at_succ

structure Ledg where
 shards : List (List Bal)
variable [DecidableEq Ledg] [Inhabited Ledg]

def ledgR : Rep Ledg where
 V := fun w v x => ∃ u1, v = .agg #[u1] ∧ balssR.V w u1 x.shards
 O := fun w base F v x => ∃ u1 F1, v = .agg #[u1] ∧ balssR.O w base F1 u1 x.shards ∧ (∀ b, F b ↔ (F1 b))
 below := fun h hb => by
  obtain ⟨u1, rfl, h1⟩ := h
  exact ⟨u1, rfl, balssR.below h1 hb⟩
 ofO := fun h => by
  obtain ⟨u1, F1, rfl, h1, _⟩ := h
  exact ⟨u1, rfl, balssR.ofO h1⟩
 mod := fun h hm hd => by
  obtain ⟨u1, F1, rfl, h1, hF⟩ := h
  exact ⟨u1, F1, rfl, balssR.mod h1 hm (fun b hb => hd b ((hF b).2 hb)), hF⟩
 rng := fun h b hb => by
  obtain ⟨u1, F1, rfl, h1, hF⟩ := h
  rcases (hF b).1 hb with hb
  ·
   exact balssR.rng h1 b hb
 base := fun h hb => by
  obtain ⟨u1, F1, rfl, h1, hF⟩ := h
  exact ⟨u1, F1, rfl, balssR.base h1 hb, hF⟩
end Go.Proofs.YtndghenlapbaaaaGreat


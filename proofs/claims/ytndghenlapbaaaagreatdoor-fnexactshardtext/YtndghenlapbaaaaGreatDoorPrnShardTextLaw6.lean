import Derived.Test.YtndghenlapbaaaaGreatDoorPrnShardTextLaw5
import Derived.BigQuiet
import Derived.Deep.QuietTactic
import Derived.Deep.RegionHeld3
import Derived.Test.YtndghenlapbaaaaGreatDoorPrnShardTextLaw1
import Derived.Deep.DrawnRows
import Derived.Test.YtndghenlapbaaaaGreatDoorPrnShardTextLaw4

/-
  A word and numbers, the document's.
-/
set_option linter.unusedSimpArgs false
set_option linter.unusedVariables false
namespace Go.Proofs.YtndghenlapbaaaaGreatDoor
open Go.RowKit
set_option linter.unusedSectionVars false
variable [DecidableEq Leg] [Inhabited Leg]
attribute [local go_sem ↓] Go.wp_at_zero Go.wp_at_succ

def spB : ByteArray := ⟨#[32]⟩
def nlB : ByteArray := ⟨#[10]⟩
theorem spB_size : spB.size = 1 := rfl
theorem nlB_size : nlB.size = 1 := rfl
def numsB (wd : ByteArray) (ns : List Int) : ByteArray := ns.foldl (fun s n => s ++ spB ++ digF 20 n.toNat) wd
def lineB (wd : ByteArray) (ns : List Int) : ByteArray := numsB wd ns ++ nlB
theorem numsB_take (wd : ByteArray) (ns : List Int) {k : Nat} (hk : k < ns.length) : numsB wd (ns.take (k + 1)) = numsB wd (ns.take k) ++ spB ++ digF 20 (ns.getD k 0).toNat := by
  have e : ns.take (k + 1) = ns.take k ++ [ns.getD k 0] := by rw [List.take_add_one]; simp [List.getD, hk]
  unfold numsB
  rw [e, List.foldl_append]
  rfl
theorem numsB_size (wd : ByteArray) (ns : List Int) : (numsB wd ns).size ≤ wd.size + 22 * ns.length := by
  have h : ∀ k, k ≤ ns.length → (numsB wd (ns.take k)).size ≤ wd.size + 22 * k := fun k => by
    induction k with
    | zero => intro _; simp [numsB]
    | succ k ih =>
      intro hk
      rw [numsB_take wd ns (by omega), ByteArray.size_append, ByteArray.size_append, spB_size]
      have := ih (by omega)
      have := digF_size 20 (ns.getD k 0).toNat
      omega
  have := h ns.length (Nat.le_refl _)
  rwa [List.take_length] at this
set_option maxRecDepth 20000 in
set_option maxHeartbeats 4000000 in
theorem l10Line_any (wd : ByteArray) (x : Value) (ns : List Int) (w : World) (hx : IntsV w x ns) (hb : ∀ k, k < ns.length → 0 ≤ ns.getD k 0 ∧ ns.getD k 0 ≤ 9223372036854775807) (hn : ns.length ≤ 10) (hwd : wd.size ≤ 100) :
    Calls Tryz.prog 32 #[.string wd, x] w fun e w' => e = .returned (.string (lineB wd ns)) ∧ Below w.heap.size w w' := by
  obtain ⟨ax, cx, rfl, hcx, hmx, hx⟩ := hx
  unfold maxLen at hmx
  have HS : Hid (∀ k, k ≤ ns.length → (numsB wd (ns.take k)).size ≤ 400) := fun k hk => by have h1 := numsB_size wd (ns.take k); rw [List.length_take] at h1; omega
  have HT : Hid (∀ k, k < ns.length → numsB wd (ns.take (k + 1)) = numsB wd (ns.take k) ++ spB ++ digF 20 (ns.getD k 0).toNat) := fun k hk => numsB_take wd ns hk
  have HE : Hid (lineB wd ns = numsB wd (ns.take ns.length) ++ nlB) := by show _ = _; rw [List.take_length]; rfl
  have H0 : Hid (numsB wd (ns.take 0) = wd) := rfl
  have HD : Hid (∀ k W, k < ns.length → Calls Tryz.prog 59 #[.int .i64 (ns.getD k 0)] W fun e w' => e = .returned (.string (digF 20 (ns.getD k 0).toNat)) ∧ Below W.heap.size W w') := fun k W hk => by
    have h := hb k hk
    have h2 := l7Digits_any 20 (ns.getD k 0).toNat W (by have : (10 : Nat) ^ 21 = 1000000000000000000000 := by decide
                                                         omega) (by omega) (by omega)
    rwa [Int.toNat_of_nonneg h.1] at h2
  rw [HE.out]
  clear hb HE
  obtain ⟨n, hn'⟩ : ∃ n, n = ns.length := ⟨_, rfl⟩
  rw [← hn'] at hcx hx HS HT HD hn ⊢
  clear hn'
  go_enter Tryz.func32, Tryz.ntmps32
  go_wp2
  go_loopw [0, 5] (fun s i w' => ∃ k : Nat, k ≤ n ∧ i = .int .i64 k ∧ s = .string (numsB wd (ns.take k)) ∧ Below w.heap.size w w') (fun _ i _ => n - (intOf i).toNat)
  case atStart => exact ⟨0, Nat.zero_le _, rfl, by rw [H0.out], Below.refl _ _⟩
  case round =>
    obtain ⟨k, hk, rfl, rfl, hbl⟩ := hrel
    have hs := HS.out k hk
    by_cases hlt : k < n
    · obtain ⟨bx, ox, rfl, g1⟩ := hx k hlt
      have ht := HT.out k hlt
      have HTk : Hid (numsB wd (ns.take (k + 1)) = numsB wd (ns.take k) ++ spB ++ digF 20 (ns.getD k 0).toNat) := ht
      have HDk : Hid (∀ W, Calls Tryz.prog 59 #[.int .i64 (ns.getD k 0)] W fun e w' => e = .returned (.string (digF 20 (ns.getD k 0).toNat)) ∧ Below W.heap.size W w') := fun W => HD.out k W hlt
      have hds := digF_size 20 (ns.getD k 0).toNat
      clear hx ht
      replace g1 := cell_keep hbl g1
      generalize digF 20 (ns.getD k 0).toNat = D at *
      generalize ns.getD k 0 = v at *
      generalize numsB wd (ns.take k) = A at *
      have hti : (k : Int) < (n : Int) := by omega
      have hti0 : (0 : Int) ≤ (k : Int) := by omega
      have hc1 : ¬ 9223372036854775807 < A.size + 1 := by omega
      have hc2 : ¬ 9223372036854775807 < A.size + 1 + D.size := by omega
      have hz : (A ++ spB).size = A.size + 1 := by rw [ByteArray.size_append, spB_size]
      have hc3 : ¬ 9223372036854775807 < (A ++ spB).size + D.size := by omega
      go_wp2_with fail
      refine (HDk.out _).mono ?_
      rintro e w1 ⟨rfl, hb1⟩
      have hB1 : Below w.heap.size w w1 := bstep hbl hb1
      have hc4 : ¬ 9223372036854775807 < (A ++ (⟨#[32]⟩ : ByteArray)).size + D.size := hc3
      go_wp2
      exact ⟨⟨k + 1, by omega, by go_num, by rw [HTk.out]; rfl, hB1⟩, by simp [intOf]; omega⟩
    · obtain rfl : k = n := by omega
      have hti : ¬ (k : Int) < (k : Int) := by omega
      have hc1 : ¬ 9223372036854775807 < (numsB wd (ns.take k)).size + 1 := by omega
      go_wp2
      go_ret
      exact ⟨rfl, hbl⟩
end Go.Proofs.YtndghenlapbaaaaGreatDoor

/-
  Slices of Balance: the law's own copy, comparison, count, marks. (Written by program after my texts on legs.)
-/
namespace Go.Proofs.YtndghenlapbaaaaGreatDoor
open Go.RowKit
set_option linter.unusedSectionVars false
attribute [local go_sem ↓] Go.wp_at_zero Go.wp_at_succ

structure Bal where
  ac : Int
  ast : Int
  am : Int
variable [DecidableEq Bal] [Inhabited Bal]

def balV (x : Bal) : Value := .agg #[.int .i64 x.ac, .int .i64 x.ast, .int .i64 x.am]
set_option maxHeartbeats 400000 in
theorem toBalance_any (x : Bal) (w : World) :
    Calls Tryz.prog 33 #[balV x] w fun e w' => e = .returned (balV x) ∧ Below w.heap.size w w' := by
  obtain ⟨a, b, c⟩ := x
  unfold balV
  go_enter Tryz.func33, Tryz.ntmps33
  go_wp2
  exact bodyPost_ret (v := .agg #[.int .i64 a, .int .i64 b, .int .i64 c]) (by simp [results, Tryz.results33, go_sem]) rfl ⟨rfl, balloc (balloc (balloc (Below.refl _ _) _) _) _⟩
set_option maxHeartbeats 400000 in
theorem eqBalance_any (x y : Bal) (w : World) :
    Calls Tryz.prog 45 #[balV x, balV y] w fun e w' => e = .returned (.bool (decide (x = y))) ∧ Below w.heap.size w w' := by
  obtain ⟨a, b, c⟩ := x
  obtain ⟨a', b', c'⟩ := y
  unfold balV
  go_enter Tryz.func45, Tryz.ntmps45
  go_wp2
  all_goals
    go_ret
    exact ⟨by simp_all, balloc (balloc (Below.refl _ _) _) _⟩
def balCells (w : World) (b o : Nat) (x : Bal) : Prop := w.cell? ⟨b, o, none⟩ = some (.int .i64 x.ac) ∧ w.cell? ⟨b, o + 1, none⟩ = some (.int .i64 x.ast) ∧ w.cell? ⟨b, o + 2, none⟩ = some (.int .i64 x.am)
def BalsV (w : World) (v : Value) (xs : List Bal) : Prop :=
  ∃ a cap, v = .slice a xs.length cap ∧ xs.length ≤ cap ∧ cap ≤ maxLen ∧ ∀ i, i < xs.length → ∃ b o, a = some ⟨b, o, none⟩ ∧ balCells w b (o + i * 3) (xs.getD i default)
theorem balCells_below {w w' : World} {b o : Nat} {x : Bal} (hb : Below w.heap.size w w') (h : balCells w b o x) : balCells w' b o x := by
  obtain ⟨h0, h1, h2⟩ := h
  exact ⟨cell_keep hb h0, cell_keep hb h1, cell_keep hb h2⟩
theorem BalsV_below {w w' : World} {v : Value} {xs : List Bal} (h : BalsV w v xs) (hb : Below w.heap.size w w') : BalsV w' v xs := by
  obtain ⟨a, cap, rfl, h1, h2, h3⟩ := h
  exact ⟨a, cap, rfl, h1, h2, fun i hi => by
    obtain ⟨b, o, ha, hc⟩ := h3 i hi
    exact ⟨b, o, ha, balCells_below hb hc⟩⟩
theorem balKeep2 {w w' : World} {b o b' o' : Nat} {x y : Bal} (hb : Below w.heap.size w w') (h : balCells w b o x) (h' : balCells w b' o' y) :
    Below w.heap.size w w' ∧ (w'.cell? ⟨b, o, none⟩ = some (.int .i64 x.ac) ∧ w'.cell? ⟨b, o + 1, none⟩ = some (.int .i64 x.ast) ∧ w'.cell? ⟨b, o + 2, none⟩ = some (.int .i64 x.am)) ∧ (w'.cell? ⟨b', o', none⟩ = some (.int .i64 y.ac) ∧ w'.cell? ⟨b', o' + 1, none⟩ = some (.int .i64 y.ast) ∧ w'.cell? ⟨b', o' + 2, none⟩ = some (.int .i64 y.am)) :=
  ⟨hb, balCells_below hb h, balCells_below hb h'⟩
theorem bals_eq_of {xs ys : List Bal} (hl : ys.length = xs.length) (h : ∀ j, j < xs.length → xs.getD j default = ys.getD j default) : xs = ys := by
  apply List.ext_getElem (by omega)
  intro i h1 h2
  have := h i h1
  simpa [List.getD, h1, h2] using this
set_option maxHeartbeats 1000000 in
theorem eqBalanceS_any (x y : Value) (xs ys : List Bal) (w : World) (hx : BalsV w x xs) (hy : BalsV w y ys) :
    Calls Tryz.prog 24 #[x, y] w fun e w' => e = .returned (.bool (decide (xs = ys))) ∧ Below w.heap.size w w' := by
  obtain ⟨ax, cx, rfl, hcx, hmx, hx⟩ := hx
  obtain ⟨ay, cy, rfl, hcy, hmy, hy⟩ := hy
  unfold maxLen at hmx hmy
  by_cases hl : ys.length = xs.length
  · rw [hl] at hcy hy ⊢
    have HL : Hid (ys.length = xs.length) := hl
    clear hl
    generalize hn : xs.length = n at *
    have HN : Hid (xs.length = n) := hn
    clear hn
    go_enter Tryz.func24, Tryz.ntmps24
    go_wp2
    go_loopw [5] (fun i w' => ∃ k : Nat, k ≤ n ∧ i = .int .i64 k ∧ (∀ j, j < k → xs.getD j default = ys.getD j default) ∧ Below w.heap.size w w') (fun i _ => n - (intOf i).toNat)
    case atStart => exact ⟨0, Nat.zero_le _, rfl, fun j h => absurd h (Nat.not_lt_zero _), Below.refl _ _⟩
    case round =>
      obtain ⟨k, hk, rfl, hpre, hbl⟩ := hrel
      have HP : Hid (∀ j, j < k → xs.getD j default = ys.getD j default) := hpre
      clear hpre
      by_cases hlt : k < n
      · obtain ⟨bx, ox, rfl, h1⟩ := hx k hlt
        obtain ⟨b2, oy, rfl, h2⟩ := hy k hlt
        obtain ⟨l1, hl1⟩ : ∃ l, l = xs.getD k default := ⟨_, rfl⟩
        obtain ⟨l2, hl2⟩ : ∃ l, l = ys.getD k default := ⟨_, rfl⟩
        rw [← hl1] at h1
        rw [← hl2] at h2
        have H1 : Hid (l1 = xs.getD k default) := hl1
        have H2 : Hid (l2 = ys.getD k default) := hl2
        clear hl1 hl2 hx hy
        go_wp2
        go_region_held3 (fun w' => Below w.heap.size w w' ∧ (w'.cell? ⟨bx, ox + k * 3, none⟩ = some (.int .i64 l1.ac) ∧ w'.cell? ⟨bx, ox + k * 3 + 1, none⟩ = some (.int .i64 l1.ast) ∧ w'.cell? ⟨bx, ox + k * 3 + 2, none⟩ = some (.int .i64 l1.am)) ∧ (w'.cell? ⟨b2, oy + k * 3, none⟩ = some (.int .i64 l2.ac) ∧ w'.cell? ⟨b2, oy + k * 3 + 1, none⟩ = some (.int .i64 l2.ast) ∧ w'.cell? ⟨b2, oy + k * 3 + 2, none⟩ = some (.int .i64 l2.am))) ((refine balKeep2 ?_ h1 h2; repeat (first | exact Below.refl _ _ | assumption | refine Below.drew ?_ | refine balloc ?_ _ | refine bstep ?_ (by assumption)))) (first | (go_at_call 45; refine (eqBalance_any l1 l2 _).mono ?_; rintro e w' ⟨rfl, hb1⟩))
        rename_i hH
        have hB := hH.1
        clear hH
        go_wp2
        · rename_i hle
          go_ret
          refine ⟨?_, hB⟩
          have : ¬ xs = ys := fun h => by
            have : l1 = l2 := by rw [H1.out, H2.out, h]
            simp [this] at hle
          simp [this]
        · rename_i hle
          refine ⟨⟨k + 1, by omega, by go_num, fun j hj => ?_, hB⟩, by simp [intOf]; omega⟩
          by_cases hjk : j < k
          · exact HP.out j hjk
          · have : j = k := by omega
            subst this
            rw [← H1.out, ← H2.out]
            simpa using hle
      · go_wp2
        go_ret
        have : k = n := by omega
        subst this
        refine ⟨?_, hbl⟩
        have : xs = ys := bals_eq_of (by rw [HL.out, HN.out]) (by rw [HN.out]; exact HP.out)
        simp [this]
  · go_enter Tryz.func24, Tryz.ntmps24
    have hl' : ((xs.length : Int) == (ys.length : Int)) = false := by simp; omega
    go_wp2
    go_ret
    have : ¬ xs = ys := fun h => hl (by rw [h])
    exact ⟨by simp [this], Below.refl _ _⟩
def balC (x : Bal) : List Value := [.int .i64 x.ac, .int .i64 x.ast, .int .i64 x.am]
def balsC (xs : List Bal) : List Value := xs.flatMap balC
theorem infoBal : (Tryz.prog.info? 61).map (fun i => (i.zero, i.size, i.bytes)) = some (some (.agg #[.int .i64 0, .int .i64 0, .int .i64 0]), 3, 24) := by kernel_rfl
theorem length_balsC (xs : List Bal) : (balsC xs).length = xs.length * 3 := by
  induction xs with
  | nil => rfl
  | cons x r ih =>
    have e : balsC (x :: r) = balC x ++ balsC r := by simp [balsC]
    have l4 : (balC x).length = 3 := rfl
    rw [e, List.length_append, l4, ih, List.length_cons]
    omega
theorem get_balsC (xs : List Bal) : ∀ i, i < xs.length → (balsC xs)[i * 3]? = some (.int .i64 (xs.getD i default).ac) ∧ (balsC xs)[i * 3 + 1]? = some (.int .i64 (xs.getD i default).ast) ∧ (balsC xs)[i * 3 + 2]? = some (.int .i64 (xs.getD i default).am) := by
  induction xs with
  | nil => intro i h; simp at h
  | cons x r ih =>
    intro i h
    cases i with
    | zero => simp [balsC, balC]
    | succ i =>
      have := ih i (by simpa using h)
      have e : balsC (x :: r) = balC x ++ balsC r := by simp [balsC]
      have l4 : (balC x).length = 3 := rfl
      rw [e]
      refine ⟨?_, ?_, ?_⟩
      all_goals rw [List.getElem?_append_right (by omega), l4]
      · rw [show (i + 1) * 3 - 3 = i * 3 by omega]; simpa using this.1
      · rw [show (i + 1) * 3 + 1 - 3 = i * 3 + 1 by omega]; simpa using this.2.1
      · rw [show (i + 1) * 3 + 2 - 3 = i * 3 + 2 by omega]; simpa using this.2.2
theorem BalsV_of_owns {w : World} {base e : Nat} {v : Value} {xs : List Bal} (h : w.ownsRow base e 3 v xs.length (balsC xs)) : BalsV w v xs := by
  rcases h.2 with ⟨rfl, hn⟩ | ⟨g, cap, cur, rfl, hb, hg, hnc, hcm, hcs, htake⟩
  · exact ⟨none, 0, by rw [hn], by omega, by unfold maxLen; omega, fun i hi => by omega⟩
  · refine ⟨some ⟨g, 0, none⟩, cap, rfl, hnc, hcm, fun i hi => ⟨g, 0, rfl, ?_⟩⟩
    obtain ⟨h0, h1, h2⟩ := get_balsC xs i hi
    simp only [Nat.zero_add, balCells]
    exact ⟨(h.cellAt _ (by omega)).trans h0, (h.cellAt _ (by omega)).trans h1, (h.cellAt _ (by omega)).trans h2⟩
def balUpto (k : Nat) (cs : List Value) (xs : List Bal) : Prop := ∀ j, j < k * 3 → cs[j]? = (balsC xs)[j]?
theorem balUpto_full {n : Nat} {cs : List Value} {xs : List Bal} (h : balUpto n cs xs) (hl : cs.length = n * 3) (hn : xs.length = n) : cs = balsC xs := by
  apply List.ext_getElem?
  intro j
  by_cases hj : j < n * 3
  · exact h j hj
  · rw [List.getElem?_eq_none (by omega), List.getElem?_eq_none (by rw [length_balsC]; omega)]
theorem balUpto_set {k : Nat} {cs : List Value} {xs : List Bal} {x : Bal} (h : balUpto k cs xs) (hk : k < xs.length) (hl : cs.length = xs.length * 3) (he : x = xs.getD k default) :
    balUpto (k + 1) (((cs.set (k * 3) (.int .i64 x.ac)).set (k * 3 + 1) (.int .i64 x.ast)).set (k * 3 + 2) (.int .i64 x.am)) xs := by
  intro j hj
  obtain ⟨h0, h1, h2⟩ := get_balsC xs k hk
  subst he
  simp only [List.getElem?_set, List.length_set]
  by_cases e2 : k * 3 + 2 = j
  · subst e2; simp [h2]; omega
  by_cases e1 : k * 3 + 1 = j
  · subst e1; simp [h1]; omega
  by_cases e0 : k * 3 = j
  · subst e0; simp [h0]; omega
  simp [e0, e1, e2]
  exact h j (by omega)
set_option maxHeartbeats 1000000 in
theorem toBalanceS_any (x : Value) (xs : List Bal) (w : World) (hx : BalsV w x xs) (hn : xs.length ≤ 1048576) :
    Calls Tryz.prog 16 #[x] w fun e w' => ∃ v, e = .returned v ∧ w'.ownsRow w.heap.size 61 3 v xs.length (balsC xs) ∧ Below w.heap.size w w' := by
  obtain ⟨ax, cx, rfl, hcx, hmx, hx⟩ := hx
  unfold maxLen at hmx
  obtain ⟨i0, hi, hz0, hz1, hz2⟩ := info_parts infoBal
  obtain ⟨w1, hmk, hown, hgr⟩ := run_make_full (P := Tryz.prog) w w.heap.size 32 61 i0 _ 3 Tryz.underlying32 hi hz0 hz1 .i64 .i64 xs.length (by rw [hz2]; omega) (by unfold maxLen; omega) (Nat.le_refl _)
  have hbl0 : Below w.heap.size w w1 := (Below.refl _ _).grown hgr (Nat.le_refl _) (fun k h => by cases h)
  generalize hn' : xs.length = n at *
  have HN : Hid (xs.length = n) := hn'
  clear hn'
  go_enter Tryz.func16, Tryz.ntmps16
  go_wp2
  go_loopw [4] (fun i w' => ∃ (k : Nat) (cs : List Value), k ≤ n ∧ i = .int .i64 k ∧ w'.ownsRow w.heap.size 61 3 (.slice (some ⟨w.heap.size, 0, none⟩) n n) n cs ∧ balUpto k cs xs ∧ Below w.heap.size w w') (fun i _ => n - (intOf i).toNat)
  case atStart => exact ⟨0, _, Nat.zero_le _, rfl, hown, fun j h => by omega, hbl0⟩
  case round =>
    obtain ⟨k, cs, hk, rfl, ho, hup, hbl⟩ := hrel
    have HU : Hid (balUpto k cs xs) := hup
    clear hup hown hmk hgr hbl0
    by_cases hlt : k < n
    · obtain ⟨bx, ox, rfl, h1⟩ := hx k hlt
      obtain ⟨l, hl⟩ : ∃ l, l = xs.getD k default := ⟨_, rfl⟩
      rw [← hl] at h1
      have H1 : Hid (l = xs.getD k default) := hl
      clear hl hx
      obtain ⟨a0, a1, a2⟩ := balCells_below hbl h1
      go_wp2_with fail
      refine (toBalance_any l _).mono ?_
      rintro e wa ⟨rfl, hba⟩
      have ho1 := owns_below ho hba
      obtain ⟨u0, g0⟩ := owns_some ho1 (k * 3) (by omega)
      obtain ⟨u1, g1⟩ := owns_some ho1 (k * 3 + 1) (by omega)
      obtain ⟨u2, g2⟩ := owns_some ho1 (k * 3 + 2) (by omega)
      have hf := fun j => ho1.frozenAt j
      simp only [balV]
      go_wp2
      have s0 := ho1.stored (k * 3) (.int .i64 l.ac)
      have s1 := s0.1.stored (k * 3 + 1) (.int .i64 l.ast)
      have s2 := s1.1.stored (k * 3 + 2) (.int .i64 l.am)
      refine ⟨⟨k + 1, _, by omega, by go_num, s2.1, balUpto_set HU.out (by have := HN.out; omega) (by have := HN.out; have := ho.1; omega) H1.out, ?_⟩, by simp [intOf]; omega⟩
      exact (((bstep hbl hba).setCell (Nat.le_refl _) _).setCell (Nat.le_refl _) _).setCell (Nat.le_refl _) _
    · go_wp2
      go_ret
      have hkn : k = n := by omega
      subst hkn
      have e := balUpto_full HU.out ho.1 HN.out
      subst e
      exact ⟨_, rfl, ho, hbl⟩
set_option maxHeartbeats 400000 in
theorem szBalanceS_any (x : Value) (xs : List Bal) (left : Int) (w : World) (hx : BalsV w x xs) (h0 : 0 ≤ left) (h1 : left ≤ 1048576) :
    Calls Tryz.prog 10 #[x, .int .i64 left] w fun e w' => e = .returned (.int .i64 (szLen left xs.length)) ∧ w' = w := by
  obtain ⟨ax, cx, rfl, hcx, hmx, hx⟩ := hx
  unfold maxLen at hmx
  generalize xs.length = n at *
  clear hx
  by_cases h : left < n
  · have h' : left - (n : Int) < 0 := by omega
    go_enter Tryz.func10, Tryz.ntmps10
    go_wp2
    go_ret
    exact ⟨by simp only [szLen, if_pos h]; rfl, rfl⟩
  · have h' : ¬ left - (n : Int) < 0 := by omega
    go_enter Tryz.func10, Tryz.ntmps10
    go_wp2
    go_ret
    exact ⟨by rw [szLen, if_neg (by omega)]; rfl, rfl⟩
end Go.Proofs.YtndghenlapbaaaaGreatDoor

/-
  Rows of impl.Balance: the uniform forms. (Written by program: nest.py.)
-/
namespace Go.Proofs.YtndghenlapbaaaaGreatDoor
open Go.RowKit
set_option linter.unusedSectionVars false
variable [DecidableEq Bal] [Inhabited Bal]
attribute [local go_sem ↓] Go.wp_at_zero Go.wp_at_succ

def balsR : Rep (List Bal) := fRep 61 3 balsC BalsV BalsV_below BalsV_of_owns
def wtBals (xs : List Bal) : Nat := xs.length
theorem bals_form {w : World} {v : Value} {xs : List Bal} (h : balsR.V w v xs) : ∃ a c, v = .slice a xs.length c := by
  obtain ⟨a, c, rfl, _⟩ := h
  exact ⟨_, _, rfl⟩
theorem toBalanceS_u (x : Value) (d : List Bal) (w : World) (hx : balsR.V w x d) (hn : wtBals d ≤ 1048576) :
    Calls Tryz.prog 16 #[x] w fun e w' => ∃ v F, e = .returned v ∧ balsR.O w' w.heap.size F v d ∧ Below w.heap.size w w' := by
  refine (toBalanceS_any x d w hx hn).mono ?_
  rintro e w' ⟨v, rfl, ho, hb⟩
  exact ⟨v, _, rfl, ⟨ho, rfl⟩, hb⟩
theorem eqBalanceS_u (x y : Value) (d d' : List Bal) (w : World) (hx : balsR.V w x d) (hy : balsR.V w y d') :
    Calls Tryz.prog 24 #[x, y] w fun e w' => e = .returned (.bool (decide (d = d'))) ∧ Below w.heap.size w w' := eqBalanceS_any x y d d' w hx hy
theorem szBalanceS_u (x : Value) (d : List Bal) (left : Int) (w : World) (hx : balsR.V w x d) (h0 : 0 ≤ left) (h1 : left ≤ 1048576) :
    Calls Tryz.prog 10 #[x, .int .i64 left] w fun e w' => e = .returned (.int .i64 (szLen left (wtBals d))) ∧ Below w.heap.size w w' := by
  refine (szBalanceS_any x d left w hx h0 h1).mono ?_
  rintro e w' ⟨rfl, rfl⟩
  exact ⟨rfl, Below.refl _ _⟩
end Go.Proofs.YtndghenlapbaaaaGreatDoor

/-
  Slices of Mark: the law's own copy, comparison, count, marks. (Written by program after my texts on legs.)
-/
namespace Go.Proofs.YtndghenlapbaaaaGreatDoor
open Go.RowKit
set_option linter.unusedSectionVars false
attribute [local go_sem ↓] Go.wp_at_zero Go.wp_at_succ

structure Mrk where
  con : Int
  val : Int
variable [DecidableEq Mrk] [Inhabited Mrk]

def mrkV (x : Mrk) : Value := .agg #[.int .i64 x.con, .int .i64 x.val]
set_option maxHeartbeats 400000 in
theorem toMark_any (x : Mrk) (w : World) :
    Calls Tryz.prog 34 #[mrkV x] w fun e w' => e = .returned (mrkV x) ∧ Below w.heap.size w w' := by
  obtain ⟨a, b⟩ := x
  unfold mrkV
  go_enter Tryz.func34, Tryz.ntmps34
  go_wp2
  exact bodyPost_ret (v := .agg #[.int .i64 a, .int .i64 b]) (by simp [results, Tryz.results34, go_sem]) rfl ⟨rfl, balloc (balloc (balloc (Below.refl _ _) _) _) _⟩
set_option maxHeartbeats 400000 in
theorem eqMark_any (x y : Mrk) (w : World) :
    Calls Tryz.prog 46 #[mrkV x, mrkV y] w fun e w' => e = .returned (.bool (decide (x = y))) ∧ Below w.heap.size w w' := by
  obtain ⟨a, b⟩ := x
  obtain ⟨a', b'⟩ := y
  unfold mrkV
  go_enter Tryz.func46, Tryz.ntmps46
  go_wp2
  all_goals
    go_ret
    exact ⟨by simp_all, balloc (balloc (Below.refl _ _) _) _⟩
def mrkCells (w : World) (b o : Nat) (x : Mrk) : Prop := w.cell? ⟨b, o, none⟩ = some (.int .i64 x.con) ∧ w.cell? ⟨b, o + 1, none⟩ = some (.int .i64 x.val)
def MrksV (w : World) (v : Value) (xs : List Mrk) : Prop :=
  ∃ a cap, v = .slice a xs.length cap ∧ xs.length ≤ cap ∧ cap ≤ maxLen ∧ ∀ i, i < xs.length → ∃ b o, a = some ⟨b, o, none⟩ ∧ mrkCells w b (o + i * 2) (xs.getD i default)
theorem mrkCells_below {w w' : World} {b o : Nat} {x : Mrk} (hb : Below w.heap.size w w') (h : mrkCells w b o x) : mrkCells w' b o x := by
  obtain ⟨h0, h1⟩ := h
  exact ⟨cell_keep hb h0, cell_keep hb h1⟩
theorem MrksV_below {w w' : World} {v : Value} {xs : List Mrk} (h : MrksV w v xs) (hb : Below w.heap.size w w') : MrksV w' v xs := by
  obtain ⟨a, cap, rfl, h1, h2, h3⟩ := h
  exact ⟨a, cap, rfl, h1, h2, fun i hi => by
    obtain ⟨b, o, ha, hc⟩ := h3 i hi
    exact ⟨b, o, ha, mrkCells_below hb hc⟩⟩
theorem mrkKeep2 {w w' : World} {b o b' o' : Nat} {x y : Mrk} (hb : Below w.heap.size w w') (h : mrkCells w b o x) (h' : mrkCells w b' o' y) :
    Below w.heap.size w w' ∧ (w'.cell? ⟨b, o, none⟩ = some (.int .i64 x.con) ∧ w'.cell? ⟨b, o + 1, none⟩ = some (.int .i64 x.val)) ∧ (w'.cell? ⟨b', o', none⟩ = some (.int .i64 y.con) ∧ w'.cell? ⟨b', o' + 1, none⟩ = some (.int .i64 y.val)) :=
  ⟨hb, mrkCells_below hb h, mrkCells_below hb h'⟩
theorem mrks_eq_of {xs ys : List Mrk} (hl : ys.length = xs.length) (h : ∀ j, j < xs.length → xs.getD j default = ys.getD j default) : xs = ys := by
  apply List.ext_getElem (by omega)
  intro i h1 h2
  have := h i h1
  simpa [List.getD, h1, h2] using this
set_option maxHeartbeats 1000000 in
theorem eqMarkS_any (x y : Value) (xs ys : List Mrk) (w : World) (hx : MrksV w x xs) (hy : MrksV w y ys) :
    Calls Tryz.prog 25 #[x, y] w fun e w' => e = .returned (.bool (decide (xs = ys))) ∧ Below w.heap.size w w' := by
  obtain ⟨ax, cx, rfl, hcx, hmx, hx⟩ := hx
  obtain ⟨ay, cy, rfl, hcy, hmy, hy⟩ := hy
  unfold maxLen at hmx hmy
  by_cases hl : ys.length = xs.length
  · rw [hl] at hcy hy ⊢
    have HL : Hid (ys.length = xs.length) := hl
    clear hl
    generalize hn : xs.length = n at *
    have HN : Hid (xs.length = n) := hn
    clear hn
    go_enter Tryz.func25, Tryz.ntmps25
    go_wp2
    go_loopw [5] (fun i w' => ∃ k : Nat, k ≤ n ∧ i = .int .i64 k ∧ (∀ j, j < k → xs.getD j default = ys.getD j default) ∧ Below w.heap.size w w') (fun i _ => n - (intOf i).toNat)
    case atStart => exact ⟨0, Nat.zero_le _, rfl, fun j h => absurd h (Nat.not_lt_zero _), Below.refl _ _⟩
    case round =>
      obtain ⟨k, hk, rfl, hpre, hbl⟩ := hrel
      have HP : Hid (∀ j, j < k → xs.getD j default = ys.getD j default) := hpre
      clear hpre
      by_cases hlt : k < n
      · obtain ⟨bx, ox, rfl, h1⟩ := hx k hlt
        obtain ⟨b2, oy, rfl, h2⟩ := hy k hlt
        obtain ⟨l1, hl1⟩ : ∃ l, l = xs.getD k default := ⟨_, rfl⟩
        obtain ⟨l2, hl2⟩ : ∃ l, l = ys.getD k default := ⟨_, rfl⟩
        rw [← hl1] at h1
        rw [← hl2] at h2
        have H1 : Hid (l1 = xs.getD k default) := hl1
        have H2 : Hid (l2 = ys.getD k default) := hl2
        clear hl1 hl2 hx hy
        go_wp2
        go_region_held3 (fun w' => Below w.heap.size w w' ∧ (w'.cell? ⟨bx, ox + k * 2, none⟩ = some (.int .i64 l1.con) ∧ w'.cell? ⟨bx, ox + k * 2 + 1, none⟩ = some (.int .i64 l1.val)) ∧ (w'.cell? ⟨b2, oy + k * 2, none⟩ = some (.int .i64 l2.con) ∧ w'.cell? ⟨b2, oy + k * 2 + 1, none⟩ = some (.int .i64 l2.val))) ((refine mrkKeep2 ?_ h1 h2; repeat (first | exact Below.refl _ _ | assumption | refine Below.drew ?_ | refine balloc ?_ _ | refine bstep ?_ (by assumption)))) (first | (go_at_call 46; refine (eqMark_any l1 l2 _).mono ?_; rintro e w' ⟨rfl, hb1⟩))
        rename_i hH
        have hB := hH.1
        clear hH
        go_wp2
        · rename_i hle
          go_ret
          refine ⟨?_, hB⟩
          have : ¬ xs = ys := fun h => by
            have : l1 = l2 := by rw [H1.out, H2.out, h]
            simp [this] at hle
          simp [this]
        · rename_i hle
          refine ⟨⟨k + 1, by omega, by go_num, fun j hj => ?_, hB⟩, by simp [intOf]; omega⟩
          by_cases hjk : j < k
          · exact HP.out j hjk
          · have : j = k := by omega
            subst this
            rw [← H1.out, ← H2.out]
            simpa using hle
      · go_wp2
        go_ret
        have : k = n := by omega
        subst this
        refine ⟨?_, hbl⟩
        have : xs = ys := mrks_eq_of (by rw [HL.out, HN.out]) (by rw [HN.out]; exact HP.out)
        simp [this]
  · go_enter Tryz.func25, Tryz.ntmps25
    have hl' : ((xs.length : Int) == (ys.length : Int)) = false := by simp; omega
    go_wp2
    go_ret
    have : ¬ xs = ys := fun h => hl (by rw [h])
    exact ⟨by simp [this], Below.refl _ _⟩
def mrkC (x : Mrk) : List Value := [.int .i64 x.con, .int .i64 x.val]
def mrksC (xs : List Mrk) : List Value := xs.flatMap mrkC
theorem infoMrk : (Tryz.prog.info? 63).map (fun i => (i.zero, i.size, i.bytes)) = some (some (.agg #[.int .i64 0, .int .i64 0]), 2, 16) := by kernel_rfl
theorem length_mrksC (xs : List Mrk) : (mrksC xs).length = xs.length * 2 := by
  induction xs with
  | nil => rfl
  | cons x r ih =>
    have e : mrksC (x :: r) = mrkC x ++ mrksC r := by simp [mrksC]
    have l4 : (mrkC x).length = 2 := rfl
    rw [e, List.length_append, l4, ih, List.length_cons]
    omega
theorem get_mrksC (xs : List Mrk) : ∀ i, i < xs.length → (mrksC xs)[i * 2]? = some (.int .i64 (xs.getD i default).con) ∧ (mrksC xs)[i * 2 + 1]? = some (.int .i64 (xs.getD i default).val) := by
  induction xs with
  | nil => intro i h; simp at h
  | cons x r ih =>
    intro i h
    cases i with
    | zero => simp [mrksC, mrkC]
    | succ i =>
      have := ih i (by simpa using h)
      have e : mrksC (x :: r) = mrkC x ++ mrksC r := by simp [mrksC]
      have l4 : (mrkC x).length = 2 := rfl
      rw [e]
      refine ⟨?_, ?_⟩
      all_goals rw [List.getElem?_append_right (by omega), l4]
      · rw [show (i + 1) * 2 - 2 = i * 2 by omega]; simpa using this.1
      · rw [show (i + 1) * 2 + 1 - 2 = i * 2 + 1 by omega]; simpa using this.2
theorem MrksV_of_owns {w : World} {base e : Nat} {v : Value} {xs : List Mrk} (h : w.ownsRow base e 2 v xs.length (mrksC xs)) : MrksV w v xs := by
  rcases h.2 with ⟨rfl, hn⟩ | ⟨g, cap, cur, rfl, hb, hg, hnc, hcm, hcs, htake⟩
  · exact ⟨none, 0, by rw [hn], by omega, by unfold maxLen; omega, fun i hi => by omega⟩
  · refine ⟨some ⟨g, 0, none⟩, cap, rfl, hnc, hcm, fun i hi => ⟨g, 0, rfl, ?_⟩⟩
    obtain ⟨h0, h1⟩ := get_mrksC xs i hi
    simp only [Nat.zero_add, mrkCells]
    exact ⟨(h.cellAt _ (by omega)).trans h0, (h.cellAt _ (by omega)).trans h1⟩
def mrkUpto (k : Nat) (cs : List Value) (xs : List Mrk) : Prop := ∀ j, j < k * 2 → cs[j]? = (mrksC xs)[j]?
theorem mrkUpto_full {n : Nat} {cs : List Value} {xs : List Mrk} (h : mrkUpto n cs xs) (hl : cs.length = n * 2) (hn : xs.length = n) : cs = mrksC xs := by
  apply List.ext_getElem?
  intro j
  by_cases hj : j < n * 2
  · exact h j hj
  · rw [List.getElem?_eq_none (by omega), List.getElem?_eq_none (by rw [length_mrksC]; omega)]
theorem mrkUpto_set {k : Nat} {cs : List Value} {xs : List Mrk} {x : Mrk} (h : mrkUpto k cs xs) (hk : k < xs.length) (hl : cs.length = xs.length * 2) (he : x = xs.getD k default) :
    mrkUpto (k + 1) ((cs.set (k * 2) (.int .i64 x.con)).set (k * 2 + 1) (.int .i64 x.val)) xs := by
  intro j hj
  obtain ⟨h0, h1⟩ := get_mrksC xs k hk
  subst he
  simp only [List.getElem?_set, List.length_set]
  by_cases e1 : k * 2 + 1 = j
  · subst e1; simp [h1]; omega
  by_cases e0 : k * 2 = j
  · subst e0; simp [h0]; omega
  simp [e0, e1]
  exact h j (by omega)
set_option maxHeartbeats 1000000 in
theorem toMarkS_any (x : Value) (xs : List Mrk) (w : World) (hx : MrksV w x xs) (hn : xs.length ≤ 1048576) :
    Calls Tryz.prog 17 #[x] w fun e w' => ∃ v, e = .returned v ∧ w'.ownsRow w.heap.size 63 2 v xs.length (mrksC xs) ∧ Below w.heap.size w w' := by
  obtain ⟨ax, cx, rfl, hcx, hmx, hx⟩ := hx
  unfold maxLen at hmx
  obtain ⟨i0, hi, hz0, hz1, hz2⟩ := info_parts infoMrk
  obtain ⟨w1, hmk, hown, hgr⟩ := run_make_full (P := Tryz.prog) w w.heap.size 33 63 i0 _ 2 Tryz.underlying33 hi hz0 hz1 .i64 .i64 xs.length (by rw [hz2]; omega) (by unfold maxLen; omega) (Nat.le_refl _)
  have hbl0 : Below w.heap.size w w1 := (Below.refl _ _).grown hgr (Nat.le_refl _) (fun k h => by cases h)
  generalize hn' : xs.length = n at *
  have HN : Hid (xs.length = n) := hn'
  clear hn'
  go_enter Tryz.func17, Tryz.ntmps17
  go_wp2
  go_loopw [4] (fun i w' => ∃ (k : Nat) (cs : List Value), k ≤ n ∧ i = .int .i64 k ∧ w'.ownsRow w.heap.size 63 2 (.slice (some ⟨w.heap.size, 0, none⟩) n n) n cs ∧ mrkUpto k cs xs ∧ Below w.heap.size w w') (fun i _ => n - (intOf i).toNat)
  case atStart => exact ⟨0, _, Nat.zero_le _, rfl, hown, fun j h => by omega, hbl0⟩
  case round =>
    obtain ⟨k, cs, hk, rfl, ho, hup, hbl⟩ := hrel
    have HU : Hid (mrkUpto k cs xs) := hup
    clear hup hown hmk hgr hbl0
    by_cases hlt : k < n
    · obtain ⟨bx, ox, rfl, h1⟩ := hx k hlt
      obtain ⟨l, hl⟩ : ∃ l, l = xs.getD k default := ⟨_, rfl⟩
      rw [← hl] at h1
      have H1 : Hid (l = xs.getD k default) := hl
      clear hl hx
      obtain ⟨a0, a1⟩ := mrkCells_below hbl h1
      go_wp2_with fail
      refine (toMark_any l _).mono ?_
      rintro e wa ⟨rfl, hba⟩
      have ho1 := owns_below ho hba
      obtain ⟨u0, g0⟩ := owns_some ho1 (k * 2) (by omega)
      obtain ⟨u1, g1⟩ := owns_some ho1 (k * 2 + 1) (by omega)
      have hf := fun j => ho1.frozenAt j
      simp only [mrkV]
      go_wp2
      have s0 := ho1.stored (k * 2) (.int .i64 l.con)
      have s1 := s0.1.stored (k * 2 + 1) (.int .i64 l.val)
      refine ⟨⟨k + 1, _, by omega, by go_num, s1.1, mrkUpto_set HU.out (by have := HN.out; omega) (by have := HN.out; have := ho.1; omega) H1.out, ?_⟩, by simp [intOf]; omega⟩
      exact ((bstep hbl hba).setCell (Nat.le_refl _) _).setCell (Nat.le_refl _) _
    · go_wp2
      go_ret
      have hkn : k = n := by omega
      subst hkn
      have e := mrkUpto_full HU.out ho.1 HN.out
      subst e
      exact ⟨_, rfl, ho, hbl⟩
set_option maxHeartbeats 400000 in
theorem szMarkS_any (x : Value) (xs : List Mrk) (left : Int) (w : World) (hx : MrksV w x xs) (h0 : 0 ≤ left) (h1 : left ≤ 1048576) :
    Calls Tryz.prog 11 #[x, .int .i64 left] w fun e w' => e = .returned (.int .i64 (szLen left xs.length)) ∧ w' = w := by
  obtain ⟨ax, cx, rfl, hcx, hmx, hx⟩ := hx
  unfold maxLen at hmx
  generalize xs.length = n at *
  clear hx
  by_cases h : left < n
  · have h' : left - (n : Int) < 0 := by omega
    go_enter Tryz.func11, Tryz.ntmps11
    go_wp2
    go_ret
    exact ⟨by simp only [szLen, if_pos h]; rfl, rfl⟩
  · have h' : ¬ left - (n : Int) < 0 := by omega
    go_enter Tryz.func11, Tryz.ntmps11
    go_wp2
    go_ret
    exact ⟨by rw [szLen, if_neg (by omega)]; rfl, rfl⟩
end Go.Proofs.YtndghenlapbaaaaGreatDoor


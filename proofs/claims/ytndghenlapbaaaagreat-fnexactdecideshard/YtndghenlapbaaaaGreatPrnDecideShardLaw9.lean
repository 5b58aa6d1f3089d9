import Derived.Test.YtndghenlapbaaaaGreatPrnDecideShardLaw8
import Derived.Test.YtndghenlapbaaaaGreatPrnDecideShardLaw1
set_option linter.unusedSectionVars false

/-
 The program's ContractFault answers as the plain mathematics says (its loop over the legs).
-/
namespace Go.Proofs.YtndghenlapbaaaaGreat
open Go.RowKit
variable [DecidableEq Leg] [Inhabited Leg]
attribute [local go_sem ↓] Go.wp_at_zero Go.wp_at_succ

set_option maxHeartbeats 1000000 in
theorem implFault_early (id : Int) (x : Value) (xs : List Leg) (w : World) (hx : LegsV w x xs) (h : inB id 1 1000000000 = false ∨ xs.length < 2 ∨ 8 < xs.length) :
  Calls Tryz.prog 72 #[.agg #[.int .i64 id, x]] w fun e w' => e = .returned (.int .i64 (contractFault id xs)) ∧ Below w.heap.size w w' := by
 obtain ⟨ax, cx, rfl, hcx, hmx, hx⟩ := hx
 unfold maxLen at hmx
 clear hx
 by_cases hid : inB id 1 1000000000 = false
 ·
  go_enter Tryz.func72, Tryz.ntmps72
  go_wp2_with (go_at_call 56; refine (isId_any _ _).mono ?_; rintro e w' ⟨rfl, rfl⟩)
  go_ret
  exact ⟨by simp [contractFault, hid], bA (Below.refl _ _) _⟩
 ·
  have hid' : inB id 1 1000000000 = true := by simpa using hid
  have hn : xs.length < 2 ∨ 8 < xs.length := by
   rcases h with h | h
   ·
    exact absurd h hid
   ·
    exact h
  have hcf : contractFault id xs = 2 := by simp [contractFault, hid', hn]
  rw [hcf]
  generalize xs.length = n at *
  clear hid h hcf
  rcases hn with hn | hn
  ·
   have h1 : (n : Int) < 2 := by omega
   go_enter Tryz.func72, Tryz.ntmps72
   go_wp2_with (go_at_call 56; refine (isId_any _ _).mono ?_; rintro e w' ⟨rfl, rfl⟩)
   go_ret
   exact ⟨rfl, bA (Below.refl _ _) _⟩
  ·
   have h1 : ¬ (n : Int) < 2 := by omega
   have h2 : (8 : Int) < (n : Int) := by omega
   go_enter Tryz.func72, Tryz.ntmps72
   go_wp2_with (go_at_call 56; refine (isId_any _ _).mono ?_; rintro e w' ⟨rfl, rfl⟩)
   go_ret
   exact ⟨rfl, bA (Below.refl _ _) _⟩
theorem getD_takeL (xs : List Leg) (k i : Nat) (h : i < k) : (xs.take k).getD i default = xs.getD i default := by
 simp [List.getD, h]
theorem LegsV_take {w : World} {a : Option Addr} {cap n k : Nat} {xs : List Leg} (hn : xs.length = n) (hk : k ≤ n) (h1 : n ≤ cap) (h2 : cap ≤ maxLen) (h : ∀ i, i < n → ∃ b o, a = some ⟨b, o, none⟩ ∧ legCells w b (o + i * 4) (xs.getD i default)) :
  LegsV w (.slice a k cap) (xs.take k) := by
 have hl : (xs.take k).length = k := by rw [List.length_take]; omega
 refine ⟨a, cap, by rw [hl], by omega, h2, fun i hi => ?_⟩
 rw [hl] at hi
 obtain ⟨b, o, ha, hc⟩ := h i (by omega)
 exact ⟨b, o, ha, by rw [getD_takeL xs k i hi]; exact hc⟩
set_option maxHeartbeats 2000000 in
theorem implFault_late (id : Int) (x : Value) (xs : List Leg) (w : World) (hx : LegsV w x xs) (hid : inB id 1 1000000000 = true) (hn2 : 2 ≤ xs.length) (hn8 : xs.length ≤ 8) :
  Calls Tryz.prog 72 #[.agg #[.int .i64 id, x]] w fun e w' => e = .returned (.int .i64 (contractFault id xs)) ∧ Below w.heap.size w w' := by
 have hx0 := hx
 obtain ⟨ax, cx, rfl, hcx, hmx, hx⟩ := hx
 have HX0 : Hid (LegsV w (.slice ax xs.length cx) xs) := hx0
 clear hx0
 have HMX : Hid (cx ≤ maxLen) := hmx
 unfold maxLen at hmx
 generalize hn' : xs.length = n at *
 have HN : Hid (xs.length = n) := hn'
 clear hn'
 have h1 : ¬ (n : Int) < 2 := by omega
 have h2 : ¬ (8 : Int) < (n : Int) := by omega
 go_enter Tryz.func72, Tryz.ntmps72
 go_wp2_with (go_at_call 56; refine (isId_any _ _).mono ?_; rintro e w' ⟨rfl, rfl⟩)
 go_loopw [23] (fun i w' => ∃ k : Nat, k ≤ n ∧ i = .int .i64 k ∧ okTo xs k ∧ w'.cell? ⟨w.heap.size, 1, none⟩ = some (.slice ax n cx) ∧ w.heap.size < w'.heap.size ∧ Below w.heap.size w w') (fun i _ => n - (intOf i).toNat)
 case atStart => exact ⟨0, Nat.zero_le _, rfl, fun j h => by omega, by simp [go_sem], by simp, bA (Below.refl _ _) _⟩
 case round =>
  obtain ⟨k, hk, rfl, hok, hcx1, hsz, hbl⟩ := hrel
  generalize wr = wo at *
  have HO : Hid (okTo xs k) := hok
  clear hok
  by_cases hlt : k < n
  ·
   obtain ⟨bx, ox, rfl, g1⟩ := hx k hlt
   have HX : Hid (∀ i, i < n → ∃ b o, some (⟨bx, ox, none⟩ : Addr) = some ⟨b, o, none⟩ ∧ legCells w b (o + i * 4) (xs.getD i default)) := hx
   clear hx
   obtain ⟨l, hl⟩ : ∃ l, l = xs.getD k default := ⟨_, rfl⟩
   rw [← hl] at g1
   have HL : Hid (l = xs.getD k default) := hl
   clear hl
   obtain ⟨a1, a2, a3, a4⟩ := legCells_below hbl g1
   go_wp2_with fail
   refine (implLegFault_any l _).mono ?_
   rintro e w2 ⟨rfl, hb2⟩
   obtain ⟨hc2, hf2⟩ := bcell hb2
   have hbl2 : Below w.heap.size w w2 := bS (bA hbl _) hb2
   have hz2 : wo.heap.size < w2.heap.size := by have := hb2.size; simp at this; omega
   have hcx2 : w2.cell? ⟨w.heap.size, 1, none⟩ = some (.slice (some ⟨bx, ox, none⟩) n cx) := by
    rw [hc2 _ _ (by simp; omega)]; simp [go_sem, hcx1, show w.heap.size < wo.heap.size by omega]
   have hl2 : legCells w2 wo.heap.size 0 l := by
    refine ⟨?_, ?_, ?_, ?_⟩ <;> (rw [hc2 _ _ (by simp)]; simp [go_sem])
   clear hc2 hf2 hb2 a1 a2 a3 a4 hcx1 hbl
   by_cases hlf : legFault l = 0
   ·
    have HF : Hid (legFault l = 0) := hlf
    rw [hlf]
    clear hlf
    have hkb : (k : Int) ≤ (cx : Int) := by omega
    have hk0 : (0 : Int) ≤ (k : Int) := by omega
    go_wp2
    go_region_held3 (fun w' => Below w2.heap.size w2 w' ∧ w'.cell? ⟨w.heap.size, 1, none⟩ = some (.slice (some ⟨bx, ox, none⟩) n cx) ∧ w'.cell? ⟨wo.heap.size, 0, none⟩ = some (.int .i64 l.sh) ∧ w'.cell? ⟨wo.heap.size, 1, none⟩ = some (.int .i64 l.ac) ∧ w'.cell? ⟨wo.heap.size, 2, none⟩ = some (.int .i64 l.ast) ∧ w'.cell? ⟨wo.heap.size, 3, none⟩ = some (.int .i64 l.am))
     ((refine (fun hb => ⟨hb, (hb.cell (p := ⟨w.heap.size, 1, none⟩) (by exact Nat.lt_trans hsz hz2)).trans hcx2, legCells_below hb hl2⟩ : Below w2.heap.size w2 _ → _) ?_; repeat (first | exact bR _ _ | assumption | refine bD ?_ | refine bS ?_ (by assumption))))
     (first | (go_at_call 105; refine (hasPlaceOf_any _ (xs.take k) l _ ?_).mono ?_; exact LegsV_take HN.out hk hcx HMX.out (fun i hi => (HX.out i hi).imp fun b h => h.imp fun o h => ⟨h.1, legCells_below (bS hbl2 (Below.refl _ _).drew) h.2⟩); rintro e w' ⟨rfl, hb3⟩))
    rename_i hH
    have hB := hH.1
    have hc1' := hH.2.1
    clear hH
    have hBw : Below w.heap.size w w' := bS hbl2 hB
    go_wp2
    ·
     rename_i hs
     go_ret
     refine ⟨?_, hBw⟩
     have := HN.out
     rw [cf_taken hid (by omega) (by omega) (k := k) (by omega) HO.out (by rw [← HL.out]; exact HF.out) (by rw [← HL.out]; exact hs)]
     rfl
    ·
     rename_i hs
     refine ⟨⟨k + 1, by omega, by go_num, okTo_succ HO.out (by rw [← HL.out]; exact HF.out) (by rw [← HL.out]; simpa using hs), hc1', by have := hB.size; omega, hBw⟩, by simp [intOf]; omega⟩
   ·
    have hd : (legFault l == 0) = false := by simpa using hlf
    go_wp2
    go_ret
    refine ⟨?_, hbl2⟩
    have := HN.out
    rw [cf_bad hid (by omega) (by omega) (k := k) (by omega) HO.out (by rw [← HL.out]; exact hlf), ← HL.out]
    rfl
  ·
   have hkn : k = n := by omega
   subst hkn
   have HO' : Hid (okTo xs xs.length) := by rw [HN.out]; exact HO.out
   go_wp2_with fail
   refine (sumsFault_any _ xs _ (LegsV_below HX0.out hbl) (by have := HN.out; omega) (small_of_ok HO'.out)).mono ?_
   rintro e w1 ⟨rfl, hb1⟩
   go_wp2
   go_ret
   refine ⟨?_, bS hbl hb1⟩
   have := HN.out
   have e : contractFault id xs = sumsF xs := by
    rw [cf_val hid (by omega) (by omega), scan_ok HO'.out, if_pos rfl, sumsF]
   rw [e]
   rfl
theorem implFault_any (id : Int) (x : Value) (xs : List Leg) (w : World) (hx : LegsV w x xs) :
  Calls Tryz.prog 72 #[.agg #[.int .i64 id, x]] w fun e w' => e = .returned (.int .i64 (contractFault id xs)) ∧ Below w.heap.size w w' := by
 by_cases h : inB id 1 1000000000 = false ∨ xs.length < 2 ∨ 8 < xs.length
 ·
  exact implFault_early id x xs w hx h
 ·
  have h1 : inB id 1 1000000000 = true := by
   cases hb : inB id 1 1000000000 with
   | true => rfl
   | false => exact absurd (Or.inl hb) h
  exact implFault_late id x xs w hx h1 (by omega) (by omega)
end Go.Proofs.YtndghenlapbaaaaGreat

/-
 SumOf on both sides, and how its answers are compared.
-/
namespace Go.Proofs.YtndghenlapbaaaaGreat
open Go.RowKit
variable [DecidableEq Leg] [Inhabited Leg]
attribute [local go_sem ↓] Go.wp_at_zero Go.wp_at_succ

theorem ok_of_scan {xs : List Leg} (h : scan [] xs = 0) : ∀ k, k ≤ xs.length → okTo xs k
 | 0, _ => fun j hj => by omega
 | k + 1, hk => by
  have ih := ok_of_scan h k (by omega)
  by_cases h0 : legFault (xs.getD k default) = 0
  ·
   cases h1 : hasPlace (xs.take k) (xs.getD k default) with
   | false => exact okTo_succ ih h0 h1
   | true => have := scan_taken (by omega) ih h0 h1; omega
  ·
   have := scan_bad (by omega) ih h0; omega
theorem cf_inv {id : Int} {xs : List Leg} (h : contractFault id xs = 0) : inB id 1 1000000000 = true ∧ 2 ≤ xs.length ∧ xs.length ≤ 8 ∧ okTo xs xs.length ∧ sumA 0 xs = 0 ∧ sumA 1 xs = 0 ∧ sumA 2 xs = 0 := by
 unfold contractFault at h
 split at h
 ·
  rename_i h1
  split at h
  ·
   omega
  ·
   split at h
   ·
    rename_i h3
    split at h
    ·
     rename_i h4
     exact ⟨h1, by omega, by omega, ok_of_scan h3 _ (Nat.le_refl _), h4⟩
    ·
     omega
   ·
    omega
 ·
  omega
end Go.Proofs.YtndghenlapbaaaaGreat

/-
 Marks written into a row of legs that the law owns, and read back.
-/
namespace Go.Proofs.YtndghenlapbaaaaGreat
open Go.RowKit
variable [DecidableEq Leg] [Inhabited Leg]
attribute [local go_sem ↓] Go.wp_at_zero Go.wp_at_succ

def markL (k : Int) (i : Nat) : Leg := ⟨k + 4 * i, k + 4 * i + 1, k + 4 * i + 1 + 1, k + 4 * i + 1 + 1 + 1⟩
def marksL (k : Int) (n : Nat) : List Leg := (List.range n).map (markL k)
theorem length_marksL (k : Int) (n : Nat) : (marksL k n).length = n := by simp [marksL]
theorem getD_marksL (k : Int) (n i : Nat) (h : i < n) : (marksL k n).getD i default = markL k i := by simp [marksL, List.getD, h]
theorem grown_refl (w : World) (r : Option Nat) : w.grownBy w r := ⟨rfl, rfl, rfl, Nat.le_refl _, fun _ _ _ => rfl⟩
theorem grown_trans {w w1 w2 : World} {r : Option Nat} (h : w.grownBy w1 r) (k : w1.grownBy w2 r) : w.grownBy w2 r :=
 ⟨k.os.trans h.os, k.tape.trans h.tape, k.output.trans h.output, Nat.le_trans h.size k.size, fun i hi hr => (k.block i (Nat.lt_of_lt_of_le hi h.size) hr).trans (h.block i hi hr)⟩
set_option maxHeartbeats 1000000 in
theorem markLegS_any (v : Value) (n : Nat) (cs : List Value) (base e : Nat) (k : Int) (w : World) (ho : w.ownsRow base e 4 v n cs) (hn : n ≤ 1048576) (hk0 : 0 ≤ k) (hk1 : k ≤ 1073741824) :
  Calls Tryz.prog 50 #[v, .int .i64 k] w fun r w' => r = .returned (.int .i64 (k + 4 * n)) ∧ w'.ownsRow base e 4 v n (legsC (marksL k n)) ∧ w.grownBy w' v.ownBlock := by
 rcases ho.2 with ⟨rfl, rfl⟩ | ⟨g, cap, cur, rfl, hb, hg, hnc, hcm, _, _⟩
 ·
  go_enter Tryz.func50, Tryz.ntmps50
  go_wp2
  go_loopw [1, 5] (fun q i w' => q = .int .i64 k ∧ i = .int .i64 0 ∧ w' = w) (fun _ _ _ => 0)
  case atStart => exact ⟨rfl, rfl, rfl⟩
  case round =>
   obtain ⟨rfl, rfl, rfl⟩ := hrel
   go_wp2
   go_ret
   exact ⟨by simp, World.ownsRow_nil _ _ _ _, grown_refl _ _⟩
 ·
  unfold maxLen at hcm
  go_enter Tryz.func50, Tryz.ntmps50
  go_wp2
  go_loopw [1, 5] (fun q i w' => ∃ (j : Nat) (cs' : List Value), j ≤ n ∧ i = .int .i64 j ∧ q = .int .i64 (k + 4 * j) ∧ w'.ownsRow base e 4 (.slice (some ⟨g, 0, none⟩) n cap) n cs' ∧ upto j cs' (marksL k n) ∧ w.grownBy w' (some g)) (fun _ i _ => n - (intOf i).toNat)
  case atStart => exact ⟨0, cs, Nat.zero_le _, rfl, by simp, ho, fun j h => by omega, grown_refl _ _⟩
  case round =>
   obtain ⟨j, cs', hj, rfl, rfl, ho1, hup, hgr⟩ := hrel
   have HU : Hid (upto j cs' (marksL k n)) := hup
   clear hup ho hg
   by_cases hlt : j < n
   ·
    obtain ⟨u0, g0⟩ := owns_some ho1 (j * 4) (by omega)
    obtain ⟨u1, g1⟩ := owns_some ho1 (j * 4 + 1) (by omega)
    obtain ⟨u2, g2⟩ := owns_some ho1 (j * 4 + 2) (by omega)
    obtain ⟨u3, g3⟩ := owns_some ho1 (j * 4 + 3) (by omega)
    have hf := fun j => ho1.frozenAt j
    go_wp2
    have s0 := ho1.stored (j * 4) (.int .i64 (k + 4 * j))
    have s1 := s0.1.stored (j * 4 + 1) (.int .i64 (k + 4 * j + 1))
    have s2 := s1.1.stored (j * 4 + 2) (.int .i64 (k + 4 * j + 1 + 1))
    have s3 := s2.1.stored (j * 4 + 3) (.int .i64 (k + 4 * j + 1 + 1 + 1))
    refine ⟨⟨j + 1, _, by omega, by go_num, ?_, s3.1, upto_set (l := markL k j) HU.out (by rw [length_marksL]; exact hlt) (by rw [length_marksL]; exact ho1.1) (getD_marksL k n j hlt).symm, grown_trans (grown_trans (grown_trans (grown_trans hgr s0.2) s1.2) s2.2) s3.2⟩, by simp [intOf]; omega⟩
    congr 1
    omega
   ·
    go_wp2
    go_ret
    have hjn : j = n := by omega
    subst hjn
    have e' := upto_full HU.out ho1.1 (length_marksL k j)
    rw [e'] at ho1
    exact ⟨rfl, ho1, hgr⟩
set_option maxHeartbeats 1000000 in
theorem heldLegS_any (v : Value) (n : Nat) (k : Int) (w : World) (hv : LegsV w v (marksL k n)) (hn : n ≤ 1048576) (hk0 : 0 ≤ k) (hk1 : k ≤ 1073741824) :
  Calls Tryz.prog 117 #[v, .int .i64 k] w fun r w' => r = .returned (.int .i64 (k + 4 * n)) ∧ w' = w := by
 obtain ⟨a, cap, rfl, hnc, hcm, hc⟩ := hv
 rw [length_marksL] at hnc hc ⊢
 unfold maxLen at hcm
 go_enter Tryz.func117, Tryz.ntmps117
 go_wp2
 go_loopw [1, 5] (fun q i w' => ∃ j : Nat, j ≤ n ∧ i = .int .i64 j ∧ q = .int .i64 (k + 4 * j) ∧ w' = w) (fun _ i _ => n - (intOf i).toNat)
 case atStart => exact ⟨0, Nat.zero_le _, rfl, by simp, rfl⟩
 case round =>
  obtain ⟨j, hj, rfl, rfl, rfl⟩ := hrel
  by_cases hlt : j < n
  ·
   obtain ⟨b, o, rfl, h1⟩ := hc j hlt
   rw [getD_marksL k n j hlt] at h1
   obtain ⟨g0, g1, g2, g3⟩ := h1
   simp only [markL] at g0 g1 g2 g3
   clear hc
   go_wp2
   refine ⟨⟨j + 1, by omega, by go_num, ?_, trivial⟩, by simp [intOf]; omega⟩
   congr 1
   omega
  ·
   go_wp2
   go_ret
   have hjn : j = n := by omega
   subst hjn
   exact ⟨rfl, rfl⟩
end Go.Proofs.YtndghenlapbaaaaGreat

/-
 Rows of impl.Leg: the uniform forms. (Written by program: nest.py.)
-/
namespace Go.Proofs.YtndghenlapbaaaaGreat
open Go.RowKit
variable [DecidableEq Leg] [Inhabited Leg]
attribute [local go_sem ↓] Go.wp_at_zero Go.wp_at_succ

def legsR : Rep (List Leg) := fRep 93 4 legsC LegsV LegsV_below LegsV_of_owns
def wtLegs (xs : List Leg) : Nat := xs.length
def cntLegs (xs : List Leg) : Nat := 4 * xs.length
def mkLegs (k : Int) (xs : List Leg) : List Leg := marksL k xs.length
theorem legs_form {w : World} {v : Value} {xs : List Leg} (h : legsR.V w v xs) : ∃ a c, v = .slice a xs.length c := by
 obtain ⟨a, c, rfl, _⟩ := h
 exact ⟨_, _, rfl⟩
theorem legs_cnt (d : List Leg) : cntLegs d ≤ 4 * wtLegs d := by unfold cntLegs wtLegs; omega
theorem toLegS_u (x : Value) (d : List Leg) (w : World) (hx : legsR.V w x d) (hn : wtLegs d ≤ 1048576) :
  Calls Tryz.prog 33 #[x] w fun e w' => ∃ v F, e = .returned v ∧ legsR.O w' w.heap.size F v d ∧ Below w.heap.size w w' := by
 refine (toLegS_any x d w hx hn).mono ?_
 rintro e w' ⟨v, rfl, ho, hb⟩
 exact ⟨v, _, rfl, ⟨ho, rfl⟩, hb⟩
theorem eqLegS_u (x y : Value) (d d' : List Leg) (w : World) (hx : legsR.V w x d) (hy : legsR.V w y d') :
  Calls Tryz.prog 45 #[x, y] w fun e w' => e = .returned (.bool (decide (d = d'))) ∧ Below w.heap.size w w' := eqLegS_any x y d d' w hx hy
theorem szLegS_u (x : Value) (d : List Leg) (left : Int) (w : World) (hx : legsR.V w x d) (h0 : 0 ≤ left) (h1 : left ≤ 1048576) :
  Calls Tryz.prog 24 #[x, .int .i64 left] w fun e w' => e = .returned (.int .i64 (szLen left (wtLegs d))) ∧ Below w.heap.size w w' := by
 refine (szLegS_any x d left w hx h0 h1).mono ?_
 rintro e w' ⟨rfl, rfl⟩
 exact ⟨rfl, Below.refl _ _⟩
theorem markLegS_u (v : Value) (d : List Leg) (base : Nat) (F : Nat → Prop) (k : Int) (w : World) (ho : legsR.O w base F v d) (hw : wtLegs d ≤ 1048576) (hn : k + cntLegs d ≤ 1073741824) (hk0 : 0 ≤ k) :
  Calls Tryz.prog 50 #[v, .int .i64 k] w fun r w' => r = .returned (.int .i64 (k + cntLegs d)) ∧ legsR.O w' base F v (mkLegs k d) ∧ Mod F w w' := by
 refine (markLegS_any v d.length _ base _ k w ho.1 hw hk0 (by omega)).mono ?_
 rintro e w' ⟨rfl, h1, h2⟩
 refine ⟨by simp [cntLegs], ⟨?_, ho.2⟩, by rw [ho.2]; exact Mod.of_grown h2⟩
 unfold mkLegs
 rw [length_marksL]
 exact h1
theorem heldLegS_u (v : Value) (d : List Leg) (k : Int) (w : World) (hv : legsR.V w v (mkLegs k d)) (hw : wtLegs d ≤ 1048576) (hn : k + cntLegs d ≤ 1073741824) (hk0 : 0 ≤ k) :
  Calls Tryz.prog 117 #[v, .int .i64 k] w fun r w' => r = .returned (.int .i64 (k + cntLegs d)) ∧ Below w.heap.size w w' := by
 refine (heldLegS_any v d.length k w hv hw hk0 (by omega)).mono ?_
 rintro e w' ⟨rfl, rfl⟩
 exact ⟨by simp [cntLegs], Below.refl _ _⟩
end Go.Proofs.YtndghenlapbaaaaGreat


import Derived.Test.YtdfapehonegeeaaGreatBndEngineFaultLaw17
import Derived.Test.YtdfapehonegeeaaGreatBndEngineFaultLaw1
import Derived.BigQuiet
import Derived.Deep.QuietTactic

/-
  UnframeAll on both sides.
-/
namespace Go.Proofs.YtdfapehonegeeaaGreat
open Go.RowKit
set_option linter.unusedSectionVars false
variable [DecidableEq BytesR] [Inhabited BytesR] [DecidableEq RecsR] [Inhabited RecsR]
attribute [local go_sem ↓] Go.wp_at_zero Go.wp_at_succ

def recsD (xs : List Byte) : RecsR := if xs.length ≤ 6000 then ⟨0, recU xs, recL xs⟩ else ⟨2, 0, []⟩
theorem recsR_nil (w : World) (base : Nat) (c u : Int) : recsRR.O w base none_ (.agg #[.int .i64 c, .int .i64 u, .slice none 0 0]) ⟨c, u, []⟩ :=
  ⟨.slice none 0 0, none_, rfl, ⟨[], fun _ => .int .i64 0, fun _ _ => False, ⟨World.ownsRow_nil w base 22 1, fun _ h => absurd h (Nat.not_lt_zero _), fun _ h => absurd h (Nat.not_lt_zero _), fun _ h => absurd h (Nat.not_lt_zero _), fun _ h => absurd h (Nat.not_lt_zero _), fun _ _ h => absurd h (Nat.not_lt_zero _)⟩, fun b => by simp [none_, Value.ownBlock]⟩, fun b => Iff.rfl⟩

set_option maxHeartbeats 2000000 in
theorem implUnframe_u (x : Value) (xs : List Byte) (w : World) (hx : bytesR.V w x xs) :
    Calls Tryz.prog 166 #[x] w fun e w' => ∃ v F, e = .returned v ∧ recsRR.O w' w.heap.size F v (recsD xs) ∧ Below w.heap.size w w' := by
  have hX := hx
  obtain ⟨ax, cx, rfl, hcx, hmx, hx⟩ := hx
  unfold maxLen at hmx
  by_cases h : xs.length ≤ 6000
  · have HD : Hid (recsD xs = ⟨0, recU xs, recL xs⟩) := if_pos h
    go_enter Tryz.func166, Tryz.ntmps166
    go_wp2_with fail
    refine (frameSize_any _ xs _ (bytesR.below hX (by (repeat (first | exact Below.refl _ _ | assumption | refine Below.drew ?_ | refine balloc ?_ _ | refine bset ?_ (by simp; omega) _ | refine bset ?_ (by simp) _ | refine bstep ?_ (by assumption)))))).mono ?_
    rintro e w1 ⟨rfl, hb1⟩
    have hr0 : w1.cell? ⟨w.heap.size, 0, none⟩ = some (.int .i64 0) := cell_keep hb1 (by simp [go_sem])
    have hr1 : w1.cell? ⟨w.heap.size, 1, none⟩ = some (.int .i64 0) := cell_keep hb1 (by simp [go_sem])
    have hr2 : w1.cell? ⟨w.heap.size, 2, none⟩ = some (.slice none 0 0) := cell_keep hb1 (by simp [go_sem])
    have hrf : (∀ o, w1.frozen? ⟨w.heap.size, o, none⟩ = false) ∧ w.heap.size < w1.heap.size := (boxNew3 hb1 rfl).2.2.2
    have hB1 : Below w.heap.size w w1 := by (repeat (first | exact Below.refl _ _ | assumption | refine Below.drew ?_ | refine balloc ?_ _ | refine bset ?_ (by simp; omega) _ | refine bset ?_ (by simp) _ | refine bstep ?_ (by assumption)))
    have HS : Hid (frameSz (xs.drop 0) = frameSz xs) := by simp [Hid]
    clear hb1
    go_wp2
    go_loopw [3, 4, 5] (fun v i j w' => ∃ (k sz : Nat) (out : List (List Byte)), i = .int .i64 k ∧ j = .int .i64 sz ∧ frameSz (xs.drop k) = sz ∧ SoFar xs k out ∧ RowsB w' (w.heap.size + 1) v out ∧
        (w'.cell? ⟨w.heap.size, 0, none⟩ = some (.int .i64 0) ∧ w'.cell? ⟨w.heap.size, 1, none⟩ = some (.int .i64 0) ∧ w'.cell? ⟨w.heap.size, 2, none⟩ = some (.slice none 0 0)) ∧ ((∀ o, w'.frozen? ⟨w.heap.size, o, none⟩ = false) ∧ w.heap.size < w'.heap.size) ∧ Below w.heap.size w w') (fun _ i _ _ => xs.length - (intOf i).toNat)
    case atStart =>
      refine ⟨0, frameSz xs, [], rfl, rfl, HS.out, soFar_start xs, rowsB_nil (World.ownsRow_nil _ _ _ _), ⟨hr0, hr1, hr2⟩, hrf, hB1⟩
    case round =>
      clear hr0 hr1 hr2 hrf hB1
      obtain ⟨k, sz, out, rfl, rfl, hsz, hso, hro, ⟨hr0, hr1, hr2⟩, hrf, hbl⟩ := hrel
      have hkn := hso.1
      have hok := hso.2.1
      obtain ⟨av, cv, rfl⟩ := rowsB_form hro
      have HSo : Hid (SoFar xs k out) := hso
      have HSz : Hid (frameSz (xs.drop k) = sz) := hsz
      clear hso hsz
      by_cases h0 : sz = 0
      · subst h0
        obtain ⟨⟨F, hO⟩, hU⟩ := rec_end HSo.out HSz.out hro
        obtain ⟨hrf, hlt⟩ := hrf
        have HO : Hid (bytessR.O wr (w.heap.size + 1) F (.slice av out.length cv) (recL xs)) := hO
        clear hO hro
        go_wp2
        refine bodyPost_ret (v := .agg #[.int .i64 0, .int .i64 k, .slice av out.length cv]) ?_ rfl ?_
        · simp [results, Tryz.results166, go_sem, hr0, hr1, hr2]
        · rw [HD.out, hU]
          have ho2 := bytessR.set (bytessR.set (bytessR.set HO.out (p := ⟨w.heap.size, 0, none⟩) (.int .i64 0) (by simp)) (p := ⟨w.heap.size, 1, none⟩) (.int .i64 k) (by simp)) (p := ⟨w.heap.size, 2, none⟩) (.slice av out.length cv) (by simp)
          first | exact ⟨_, F, rfl, ⟨_, F, rfl, bytessR.base ho2 (by omega), fun b => Iff.rfl⟩, by (repeat (first | exact Below.refl _ _ | assumption | refine Below.drew ?_ | refine balloc ?_ _ | refine bset ?_ (by simp; omega) _ | refine bset ?_ (by simp) _ | refine bstep ?_ (by assumption)))⟩ | exact ⟨_, rfl, ⟨F, ⟨_, F, rfl, bytessR.base ho2 (by omega), fun b => Iff.rfl⟩⟩, by (repeat (first | exact Below.refl _ _ | assumption | refine Below.drew ?_ | refine balloc ?_ _ | refine bset ?_ (by simp; omega) _ | refine bset ?_ (by simp) _ | refine bstep ?_ (by assumption)))⟩
      · have hp := frameSz_pos (xs := xs.drop k) (by rw [HSz.out]; exact h0)
        rw [HSz.out, List.length_drop] at hp
        obtain ⟨m, hm⟩ : ∃ m, fN (xs.drop k) = m := ⟨_, rfl⟩
        rw [hm] at hp
        obtain ⟨rfl, hm1, hm2, hm3⟩ := hp
        clear hm h0
        have hm4 : k + 4 + m ≤ xs.length := by omega
        obtain ⟨b, o, rfl, _⟩ := hx 0 (by omega)
        have hbs : w.heap.size + 1 ≤ wr.heap.size := hrf.2
        have HV2 := bytes_cut hX (k + 4) (k + (4 + m)) (by omega) (by omega)
        rw [if_neg (by omega)] at HV2
        simp only [Option.map_some, Nat.mul_one, addP] at HV2
        replace HV2 := BytesV_below HV2 hbl
        have HV3 := bytes_cut hX (k + (4 + m)) xs.length (by omega) (by omega)
        simp only [Option.map_some, Nat.mul_one, addP] at HV3
        rw [show (xs.drop (k + (4 + m))).take (xs.length - (k + (4 + m))) = xs.drop (k + (4 + m)) from List.take_of_length_le (by rw [List.length_drop]; omega)] at HV3
        rw [show (xs.drop (k + 4)).take (k + (4 + m) - (k + 4)) = (xs.drop (k + 4)).take m by rw [show k + (4 + m) - (k + 4) = m by omega]] at HV2
        obtain ⟨rr, hrr⟩ : ∃ rr, (xs.drop (k + 4)).take m = rr := ⟨_, rfl⟩
        rw [hrr] at HV2
        have hrl : [rr].flatten.length ≤ 1073741824 := by
          simp only [List.flatten_cons, List.flatten_nil, List.append_nil]
          rw [← hrr, List.length_take, List.length_drop]; omega
        have HRL : Hid ([rr].flatten.length ≤ 1073741824) := hrl
        have HRR : Hid ((xs.drop (k + 4)).take m = rr) := hrr
        have HZ : Hid (frameSz (xs.drop k) = 4 + m) := HSz.out
        clear hrr HSz hrl hx
        go_wp2_with fail
        generalize Value.slice (some ⟨b, o + (k + 4), none⟩) (k + (4 + m) - (k + 4)) (cx - (k + 4)) = sv at *
        refine (joined_any _ [rr] _ (bytess1 (g := wr.heap.size) (by simp [go_sem]) (bytesR.below HV2 (by (repeat (first | exact Below.refl _ _ | assumption | refine Below.drew ?_ | refine balloc ?_ _ | refine bset ?_ (by simp; omega) _ | refine bset ?_ (by simp) _ | refine bstep ?_ (by assumption)))))) HRL.out).mono ?_
        rintro e w4 ⟨v3, F3, rfl, o3, hb4⟩
        have hs4 := hb4.size
        rw [World.size_alloc] at hs4
        have o3' : bytesR.O w4 wr.heap.size F3 v3 rr := bytesR.base (by simpa using o3) (by simp)
        have hb4' : Below wr.heap.size wr w4 := by (repeat (first | exact Below.refl _ _ | assumption | refine Below.drew ?_ | refine balloc ?_ _ | refine bset ?_ (by simp; omega) _ | refine bset ?_ (by simp) _ | refine bstep ?_ (by assumption)))
        obtain ⟨a3, c3, rfl⟩ := bytes_form (bytesR.ofO o3')
        clear o3 HV2 hb4
        have hol : out.length ≤ 1048576 := by omega
        go_wp2_with (at_builtin; refine wpList_pushB wr w4 rfl _ _ rfl (w.heap.size + 1) _ out hro hbs hb4' _ _ rr o3' rfl rfl hol ?_)
        intro v5 w5 hR5 hB
        have hb5 := hB wr (Below.refl _ _)
        replace hr0 := (hb5.cell (p := ⟨w.heap.size, 0, none⟩) (by simp)).trans hr0
        replace hr1 := (hb5.cell (p := ⟨w.heap.size, 1, none⟩) (by simp)).trans hr1
        replace hr2 := (hb5.cell (p := ⟨w.heap.size, 2, none⟩) (by simp)).trans hr2
        have hrg : (∀ o, w5.frozen? ⟨w.heap.size, o, none⟩ = false) ∧ w.heap.size < w5.heap.size := ⟨fun o => (hb5.frozen (p := ⟨w.heap.size, o, none⟩) (by simp)).trans (hrf.1 o), Nat.lt_of_lt_of_le hrf.2 hb5.size⟩
        have hbw : Below w.heap.size w w5 := hbl.trans (hb5.mono (by omega))
        have HR5 : Hid (RowsB w5 (w.heap.size + 1) v5 (out ++ [rr])) := hR5
        obtain ⟨a5, c5, rfl⟩ := rowsB_form hR5
        have HS5 := soFar_step HSo.out HZ.out hm1
        rw [HRR.out, show k + 4 + m = k + (4 + m) by omega] at HS5
        have HS6 : Hid (SoFar xs (k + (4 + m)) (out ++ [rr])) := HS5
        have HV4 := BytesV_below HV3 hbw
        clear HS5 hR5 hB hb5 hrf hro o3' hb4' hbl HV3
        by_cases hck : cx = k + (4 + m)
        · rw [if_pos hck, show cx - (k + (4 + m)) = 0 by omega] at HV4
          go_wp2_with fail
          refine (frameSize_any _ (xs.drop (k + (4 + m))) _ HV4).mono ?_
          rintro e w6 ⟨rfl, hb6⟩
          replace hr0 := cell_keep hb6 hr0
          replace hr1 := cell_keep hb6 hr1
          replace hr2 := cell_keep hb6 hr2
          replace hrg := boxKeep hrg hb6
          have hbz := bstep hbw hb6
          have HR6 := rowsB_below HR5.out hb6
          rw [List.length_append, List.length_singleton] at HR6
          clear hb6 hbw HV4 hck
          go_wp2
          refine ⟨⟨k + (4 + m), _, out ++ [rr], by go_num, rfl, rfl, HS6.out, HR6, ⟨hr0, hr1, hr2⟩, hrg, hbz⟩, by simp [intOf]; omega⟩
        · rw [if_neg hck] at HV4
          go_wp2_with fail
          refine (frameSize_any _ (xs.drop (k + (4 + m))) _ HV4).mono ?_
          rintro e w6 ⟨rfl, hb6⟩
          replace hr0 := cell_keep hb6 hr0
          replace hr1 := cell_keep hb6 hr1
          replace hr2 := cell_keep hb6 hr2
          replace hrg := boxKeep hrg hb6
          have hbz := bstep hbw hb6
          have HR6 := rowsB_below HR5.out hb6
          rw [List.length_append, List.length_singleton] at HR6
          clear hb6 hbw HV4
          go_wp2
          refine ⟨⟨k + (4 + m), _, out ++ [rr], by go_num, rfl, rfl, HS6.out, HR6, ⟨hr0, hr1, hr2⟩, hrg, hbz⟩, by simp [intOf]; omega⟩
  · have HD : Hid (recsD xs = ⟨2, 0, []⟩) := if_neg h
    generalize xs.length = n at *
    go_enter Tryz.func166, Tryz.ntmps166
    go_wp2
    refine bodyPost_ret (v := .agg #[.int .i64 2, .int .i64 0, .slice none 0 0]) ?_ rfl ?_
    · simp [results, Tryz.results166, go_sem]
    · rw [HD.out]
      first | exact ⟨_, none_, rfl, recsR_nil _ _ _ _, by (repeat (first | exact Below.refl _ _ | assumption | refine Below.drew ?_ | refine balloc ?_ _ | refine bset ?_ (by simp; omega) _ | refine bset ?_ (by simp) _ | refine bstep ?_ (by assumption)))⟩ | exact ⟨_, rfl, ⟨none_, recsR_nil _ _ _ _⟩, by (repeat (first | exact Below.refl _ _ | assumption | refine Below.drew ?_ | refine balloc ?_ _ | refine bset ?_ (by simp; omega) _ | refine bset ?_ (by simp) _ | refine bstep ?_ (by assumption)))⟩

theorem recL_wt (xs : List Byte) : (recL xs).length + cntTo List.length (recL xs).length (recL xs) ≤ xs.length := by
  have H : ∀ n (xs : List Byte), xs.length ≤ n → (recL xs).length + cntTo List.length (recL xs).length (recL xs) ≤ xs.length := by
    intro n
    induction n with
    | zero =>
      intro xs h
      rw [recL_end (frameSz_short (by omega))]
      simp [cntTo]
    | succ n ih =>
      intro xs h
      by_cases hz : frameSz xs = 0
      · rw [recL_end hz]
        simp [cntTo]
      · have hp := frameSz_pos hz
        rw [recL_step hz]
        have := ih (xs.drop (frameSz xs)) (by rw [List.length_drop]; omega)
        rw [List.length_drop] at this
        simp only [List.length_cons, cntTo, List.length_take, List.length_drop]
        omega
  exact H _ xs (Nat.le_refl _)
theorem recsD_wt (xs : List Byte) : wtRecsR (recsD xs) ≤ xs.length := by
  unfold recsD
  split
  · unfold wtRecsR wtBytess wtL
    have := recL_wt xs
    have e : wtBytes = (List.length : List Byte → Nat) := rfl
    rw [e]
    exact this
  · simp [wtRecsR, wtBytess, wtL, cntTo]

end Go.Proofs.YtdfapehonegeeaaGreat

/-
  A leg as a value: the law's own copy and comparison of one leg.
-/
namespace Go.Proofs.YtdfapehonegeeaaGreat
open Go.RowKit
set_option linter.unusedSectionVars false

/-- A leg. -/
structure Leg where
  sh : Int
  ac : Int
  ast : Int
  am : Int

variable [DecidableEq Leg] [Inhabited Leg]

def legV (l : Leg) : Value := .agg #[.int .i64 l.sh, .int .i64 l.ac, .int .i64 l.ast, .int .i64 l.am]

end Go.Proofs.YtdfapehonegeeaaGreat

/-
  Contracts of the small functions of chapter 1: a number within bounds, what is asked of one leg, on both sides (specification and program).
-/
namespace Go.Proofs.YtdfapehonegeeaaGreat
open Go.RowKit
set_option linter.unusedSectionVars false
variable [DecidableEq Leg] [Inhabited Leg]

def inB (n lo hi : Int) : Bool := decide (lo ≤ n) && decide (n ≤ hi)

set_option maxHeartbeats 400000 in
theorem l1In_any (n lo hi : Int) (w : World) :
    Calls Tryz.prog 44 #[.int .i64 n, .int .i64 lo, .int .i64 hi] w fun e w' => e = .returned (.bool (inB n lo hi)) ∧ w' = w := by
  by_cases h1 : lo ≤ n
  all_goals
    go_enter Tryz.func44, Tryz.ntmps44
    go_wp2
    go_ret
    exact ⟨by first | (simp [inB, h1]; done) | (simp [inB]; omega), rfl⟩

set_option maxHeartbeats 400000 in
theorem within_any (n lo hi : Int) (w : World) :
    Calls Tryz.prog 109 #[.int .i64 n, .int .i64 lo, .int .i64 hi] w fun e w' => e = .returned (.bool (inB n lo hi)) ∧ w' = w := by
  by_cases h1 : lo ≤ n
  all_goals
    go_enter Tryz.func109, Tryz.ntmps109
    go_wp2
    go_ret
    exact ⟨by first | (simp [inB, h1]; done) | (simp [inB]; omega), rfl⟩

def placeB (l : Leg) : Bool := inB l.sh 0 2 && inB l.ac 0 5 && inB l.ast 0 2
def legFault (l : Leg) : Int := if placeB l && inB l.am (-1000000000000) 1000000000000 then (if l.am = 0 then 1 else 0) else 3

end Go.Proofs.YtdfapehonegeeaaGreat


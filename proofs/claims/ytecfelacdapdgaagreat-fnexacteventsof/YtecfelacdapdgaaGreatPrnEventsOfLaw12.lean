import Derived.Test.YtecfelacdapdgaaGreatPrnEventsOfLaw11
import Derived.Test.YtecfelacdapdgaaGreatPrnEventsOfLaw10
import Derived.Test.YtecfelacdapdgaaGreatPrnEventsOfLaw9
import Derived.Test.YtecfelacdapdgaaGreatPrnEventsOfLaw7
import Derived.Test.YtecfelacdapdgaaGreatPrnEventsOfLaw6
import Derived.Test.YtecfelacdapdgaaGreatPrnEventsOfLaw8
import Derived.BigQuiet
import Derived.Deep.QuietTactic
import Derived.Deep.RegionHeld3

/-
  UnframeAll on both sides.
-/
namespace Go.Proofs.YtecfelacdapdgaaGreat
open Go.RowKit
set_option linter.unusedSectionVars false
variable [DecidableEq BytesR] [Inhabited BytesR] [DecidableEq RecsR] [Inhabited RecsR]
attribute [local go_sem ↓] Go.wp_at_zero Go.wp_at_succ

def recsD (xs : List Byte) : RecsR := if xs.length ≤ 6000 then ⟨0, recU xs, recL xs⟩ else ⟨2, 0, []⟩
theorem recsR_nil (w : World) (base : Nat) (c u : Int) : recsRR.O w base none_ (.agg #[.int .i64 c, .int .i64 u, .slice none 0 0]) ⟨c, u, []⟩ :=
  ⟨.slice none 0 0, none_, rfl, ⟨[], fun _ => .int .i64 0, fun _ _ => False, ⟨World.ownsRow_nil w base 37 1, fun _ h => absurd h (Nat.not_lt_zero _), fun _ h => absurd h (Nat.not_lt_zero _), fun _ h => absurd h (Nat.not_lt_zero _), fun _ h => absurd h (Nat.not_lt_zero _), fun _ _ h => absurd h (Nat.not_lt_zero _)⟩, fun b => by simp [none_, Value.ownBlock]⟩, fun b => Iff.rfl⟩
set_option maxHeartbeats 2000000 in
theorem implUnframe_u (x : Value) (xs : List Byte) (w : World) (hx : bytesR.V w x xs) :
    Calls Tryz.prog 105 #[x] w fun e w' => ∃ v F, e = .returned v ∧ recsRR.O w' w.heap.size F v (recsD xs) ∧ Below w.heap.size w w' := by
  have hX := hx
  obtain ⟨ax, cx, rfl, hcx, hmx, hx⟩ := hx
  unfold maxLen at hmx
  by_cases h : xs.length ≤ 6000
  · have HD : Hid (recsD xs = ⟨0, recU xs, recL xs⟩) := if_pos h
    go_enter Tryz.func105, Tryz.ntmps105
    go_wp2_with fail
    refine (frameSize_any _ xs _ (bytesR.below hX (by (repeat (first | exact Below.refl _ _ | assumption | refine Below.drew ?_ | refine balloc ?_ _ | refine bset ?_ (by simp; omega) _ | refine bset ?_ (by simp) _ | refine bstep ?_ (by assumption)))))).mono ?_
    rintro e w1 ⟨rfl, hb1⟩
    have hr0 : w1.cell? ⟨w.heap.size, 0, none⟩ = some (.int .i64 0) := cell_keep hb1 (by simp [go_sem])
    have hr1 : w1.cell? ⟨w.heap.size, 1, none⟩ = some (.int .i64 0) := cell_keep hb1 (by simp [go_sem])
    have hr2 : w1.cell? ⟨w.heap.size, 2, none⟩ = some (.slice none 0 0) := cell_keep hb1 (by simp [go_sem])
    have hrf : (∀ o, w1.frozen? ⟨w.heap.size, o, none⟩ = false) ∧ w.heap.size < w1.heap.size := (boxNew3 hb1 rfl).2.2.2
    have hB1 : Below w.heap.size w w1 := by (repeat (first | exact Below.refl _ _ | assumption | refine Below.drew ?_ | refine balloc ?_ _ | refine bset ?_ (by simp; omega) _ | refine bset ?_ (by simp) _ | refine bstep ?_ (by assumption)))
    have HS : Hid (frameSz (xs.drop 0) = frameSz xs) := by simp [Hid]
    clear hb1
    go_wp2
    go_loopw [3, 4, 5] (fun v i j w' => ∃ (k sz : Nat) (out : List (List Byte)), i = .int .i64 k ∧ j = .int .i64 sz ∧ frameSz (xs.drop k) = sz ∧ SoFar xs k out ∧ RowsB w' (w.heap.size + 1) v out ∧
        (w'.cell? ⟨w.heap.size, 0, none⟩ = some (.int .i64 0) ∧ w'.cell? ⟨w.heap.size, 1, none⟩ = some (.int .i64 0) ∧ w'.cell? ⟨w.heap.size, 2, none⟩ = some (.slice none 0 0)) ∧ ((∀ o, w'.frozen? ⟨w.heap.size, o, none⟩ = false) ∧ w.heap.size < w'.heap.size) ∧ Below w.heap.size w w') (fun _ i _ _ => xs.length - (intOf i).toNat)
    case atStart =>
      refine ⟨0, frameSz xs, [], rfl, rfl, HS.out, soFar_start xs, rowsB_nil (World.ownsRow_nil _ _ _ _), ⟨hr0, hr1, hr2⟩, hrf, hB1⟩
    case round =>
      clear hr0 hr1 hr2 hrf hB1
      obtain ⟨k, sz, out, rfl, rfl, hsz, hso, hro, ⟨hr0, hr1, hr2⟩, hrf, hbl⟩ := hrel
      have hkn := hso.1
      have hok := hso.2.1
      obtain ⟨av, cv, rfl⟩ := rowsB_form hro
      have HSo : Hid (SoFar xs k out) := hso
      have HSz : Hid (frameSz (xs.drop k) = sz) := hsz
      clear hso hsz
      by_cases h0 : sz = 0
      · subst h0
        obtain ⟨⟨F, hO⟩, hU⟩ := rec_end HSo.out HSz.out hro
        obtain ⟨hrf, hlt⟩ := hrf
        have HO : Hid (bytessR.O wr (w.heap.size + 1) F (.slice av out.length cv) (recL xs)) := hO
        clear hO hro
        go_wp2
        refine bodyPost_ret (v := .agg #[.int .i64 0, .int .i64 k, .slice av out.length cv]) ?_ rfl ?_
        · simp [results, Tryz.results105, go_sem, hr0, hr1, hr2]
        · rw [HD.out, hU]
          have ho2 := bytessR.set (bytessR.set (bytessR.set HO.out (p := ⟨w.heap.size, 0, none⟩) (.int .i64 0) (by simp)) (p := ⟨w.heap.size, 1, none⟩) (.int .i64 k) (by simp)) (p := ⟨w.heap.size, 2, none⟩) (.slice av out.length cv) (by simp)
          first | exact ⟨_, F, rfl, ⟨_, F, rfl, bytessR.base ho2 (by omega), fun b => Iff.rfl⟩, by (repeat (first | exact Below.refl _ _ | assumption | refine Below.drew ?_ | refine balloc ?_ _ | refine bset ?_ (by simp; omega) _ | refine bset ?_ (by simp) _ | refine bstep ?_ (by assumption)))⟩ | exact ⟨_, rfl, ⟨F, ⟨_, F, rfl, bytessR.base ho2 (by omega), fun b => Iff.rfl⟩⟩, by (repeat (first | exact Below.refl _ _ | assumption | refine Below.drew ?_ | refine balloc ?_ _ | refine bset ?_ (by simp; omega) _ | refine bset ?_ (by simp) _ | refine bstep ?_ (by assumption)))⟩
      · have hp := frameSz_pos (xs := xs.drop k) (by rw [HSz.out]; exact h0)
        rw [HSz.out, List.length_drop] at hp
        obtain ⟨m, hm⟩ : ∃ m, fN (xs.drop k) = m := ⟨_, rfl⟩
        rw [hm] at hp
        obtain ⟨rfl, hm1, hm2, hm3⟩ := hp
        clear hm h0
        have hm4 : k + 4 + m ≤ xs.length := by omega
        obtain ⟨b, o, rfl, _⟩ := hx 0 (by omega)
        have hbs : w.heap.size + 1 ≤ wr.heap.size := hrf.2
        have HV2 := bytes_cut hX (k + 4) (k + (4 + m)) (by omega) (by omega)
        rw [if_neg (by omega)] at HV2
        simp only [Option.map_some, Nat.mul_one, addP] at HV2
        replace HV2 := BytesV_below HV2 hbl
        have HV3 := bytes_cut hX (k + (4 + m)) xs.length (by omega) (by omega)
        simp only [Option.map_some, Nat.mul_one, addP] at HV3
        rw [show (xs.drop (k + (4 + m))).take (xs.length - (k + (4 + m))) = xs.drop (k + (4 + m)) from List.take_of_length_le (by rw [List.length_drop]; omega)] at HV3
        rw [show (xs.drop (k + 4)).take (k + (4 + m) - (k + 4)) = (xs.drop (k + 4)).take m by rw [show k + (4 + m) - (k + 4) = m by omega]] at HV2
        obtain ⟨rr, hrr⟩ : ∃ rr, (xs.drop (k + 4)).take m = rr := ⟨_, rfl⟩
        rw [hrr] at HV2
        have hrl : [rr].flatten.length ≤ 1073741824 := by
          simp only [List.flatten_cons, List.flatten_nil, List.append_nil]
          rw [← hrr, List.length_take, List.length_drop]; omega
        have HRL : Hid ([rr].flatten.length ≤ 1073741824) := hrl
        have HRR : Hid ((xs.drop (k + 4)).take m = rr) := hrr
        have HZ : Hid (frameSz (xs.drop k) = 4 + m) := HSz.out
        clear hrr HSz hrl hx
        go_wp2_with fail
        generalize Value.slice (some ⟨b, o + (k + 4), none⟩) (k + (4 + m) - (k + 4)) (cx - (k + 4)) = sv at *
        refine (joined_any _ [rr] _ (bytess1 (g := wr.heap.size) (by simp [go_sem]) (bytesR.below HV2 (by (repeat (first | exact Below.refl _ _ | assumption | refine Below.drew ?_ | refine balloc ?_ _ | refine bset ?_ (by simp; omega) _ | refine bset ?_ (by simp) _ | refine bstep ?_ (by assumption)))))) HRL.out).mono ?_
        rintro e w4 ⟨v3, F3, rfl, o3, hb4⟩
        have hs4 := hb4.size
        rw [World.size_alloc] at hs4
        have o3' : bytesR.O w4 wr.heap.size F3 v3 rr := bytesR.base (by simpa using o3) (by simp)
        have hb4' : Below wr.heap.size wr w4 := by (repeat (first | exact Below.refl _ _ | assumption | refine Below.drew ?_ | refine balloc ?_ _ | refine bset ?_ (by simp; omega) _ | refine bset ?_ (by simp) _ | refine bstep ?_ (by assumption)))
        obtain ⟨a3, c3, rfl⟩ := bytes_form (bytesR.ofO o3')
        clear o3 HV2 hb4
        have hol : out.length ≤ 1048576 := by omega
        go_wp2_with (at_builtin; refine wpList_pushB wr w4 rfl _ _ rfl (w.heap.size + 1) _ out hro hbs hb4' _ _ rr o3' rfl rfl hol ?_)
        intro v5 w5 hR5 hB
        have hb5 := hB wr (Below.refl _ _)
        replace hr0 := (hb5.cell (p := ⟨w.heap.size, 0, none⟩) (by simp)).trans hr0
        replace hr1 := (hb5.cell (p := ⟨w.heap.size, 1, none⟩) (by simp)).trans hr1
        replace hr2 := (hb5.cell (p := ⟨w.heap.size, 2, none⟩) (by simp)).trans hr2
        have hrg : (∀ o, w5.frozen? ⟨w.heap.size, o, none⟩ = false) ∧ w.heap.size < w5.heap.size := ⟨fun o => (hb5.frozen (p := ⟨w.heap.size, o, none⟩) (by simp)).trans (hrf.1 o), Nat.lt_of_lt_of_le hrf.2 hb5.size⟩
        have hbw : Below w.heap.size w w5 := hbl.trans (hb5.mono (by omega))
        have HR5 : Hid (RowsB w5 (w.heap.size + 1) v5 (out ++ [rr])) := hR5
        obtain ⟨a5, c5, rfl⟩ := rowsB_form hR5
        have HS5 := soFar_step HSo.out HZ.out hm1
        rw [HRR.out, show k + 4 + m = k + (4 + m) by omega] at HS5
        have HS6 : Hid (SoFar xs (k + (4 + m)) (out ++ [rr])) := HS5
        have HV4 := BytesV_below HV3 hbw
        clear HS5 hR5 hB hb5 hrf hro o3' hb4' hbl HV3
        by_cases hck : cx = k + (4 + m)
        · rw [if_pos hck, show cx - (k + (4 + m)) = 0 by omega] at HV4
          go_wp2_with fail
          refine (frameSize_any _ (xs.drop (k + (4 + m))) _ HV4).mono ?_
          rintro e w6 ⟨rfl, hb6⟩
          replace hr0 := cell_keep hb6 hr0
          replace hr1 := cell_keep hb6 hr1
          replace hr2 := cell_keep hb6 hr2
          replace hrg := boxKeep hrg hb6
          have hbz := bstep hbw hb6
          have HR6 := rowsB_below HR5.out hb6
          rw [List.length_append, List.length_singleton] at HR6
          clear hb6 hbw HV4 hck
          go_wp2
          refine ⟨⟨k + (4 + m), _, out ++ [rr], by go_num, rfl, rfl, HS6.out, HR6, ⟨hr0, hr1, hr2⟩, hrg, hbz⟩, by simp [intOf]; omega⟩
        · rw [if_neg hck] at HV4
          go_wp2_with fail
          refine (frameSize_any _ (xs.drop (k + (4 + m))) _ HV4).mono ?_
          rintro e w6 ⟨rfl, hb6⟩
          replace hr0 := cell_keep hb6 hr0
          replace hr1 := cell_keep hb6 hr1
          replace hr2 := cell_keep hb6 hr2
          replace hrg := boxKeep hrg hb6
          have hbz := bstep hbw hb6
          have HR6 := rowsB_below HR5.out hb6
          rw [List.length_append, List.length_singleton] at HR6
          clear hb6 hbw HV4
          go_wp2
          refine ⟨⟨k + (4 + m), _, out ++ [rr], by go_num, rfl, rfl, HS6.out, HR6, ⟨hr0, hr1, hr2⟩, hrg, hbz⟩, by simp [intOf]; omega⟩
  · have HD : Hid (recsD xs = ⟨2, 0, []⟩) := if_neg h
    generalize xs.length = n at *
    go_enter Tryz.func105, Tryz.ntmps105
    go_wp2
    refine bodyPost_ret (v := .agg #[.int .i64 2, .int .i64 0, .slice none 0 0]) ?_ rfl ?_
    · simp [results, Tryz.results105, go_sem]
    · rw [HD.out]
      first | exact ⟨_, none_, rfl, recsR_nil _ _ _ _, by (repeat (first | exact Below.refl _ _ | assumption | refine Below.drew ?_ | refine balloc ?_ _ | refine bset ?_ (by simp; omega) _ | refine bset ?_ (by simp) _ | refine bstep ?_ (by assumption)))⟩ | exact ⟨_, rfl, ⟨none_, recsR_nil _ _ _ _⟩, by (repeat (first | exact Below.refl _ _ | assumption | refine Below.drew ?_ | refine balloc ?_ _ | refine bset ?_ (by simp; omega) _ | refine bset ?_ (by simp) _ | refine bstep ?_ (by assumption)))⟩
end Go.Proofs.YtecfelacdapdgaaGreat

/-
  A log: its parts on both sides.
-/
namespace Go.Proofs.YtecfelacdapdgaaGreat
open Go.RowKit
set_option linter.unusedSectionVars false
variable [DecidableEq Logg] [Inhabited Logg] [DecidableEq LoggR] [Inhabited LoggR] [DecidableEq BytesR] [Inhabited BytesR] [DecidableEq RecsR] [Inhabited RecsR] [DecidableEq Leg] [Inhabited Leg]
set_option linter.unusedSimpArgs false
attribute [local go_sem ↓] Go.wp_at_zero Go.wp_at_succ

theorem step_appB (Y : World) {ops : Array Oper} {o : Oper} {a : Act} {K : Act → World → Prop} {Q : Exit → Act → World → Prop} {E : Prop} (hgd : o.guard = none) (s x : Operand)
    (ho : o.op = .call { callee := .builtin .append, args := #[s, x], argTypes := #[37, 37] })
    (base : Nat) (v : Value) (xs : List Byte) (hs : a.eval s = v) (u : Value) (ys : List Byte) (hx : a.eval x = u)
    (hown : Y.ownsRow base 5 1 v xs.length (bytesC xs)) (hsrc : AppAny Y u ys.length (bytesC ys)) (hlen : xs.length + ys.length ≤ 1073741824) (hbase : base ≤ Y.heap.size)
    (h : ∀ v' w', w'.ownsRow base 5 1 v' (xs ++ ys).length (bytesC (xs ++ ys)) → Y.grownBy w' v.ownBlock → (∀ W : World, Below base W Y → Below base W w') → K (a.put o.dst v') w') :
    if Region.wanted o (yielded ops a.tmps) = true then Oper.wp Tryz.prog o a Y K Q else E := by
  obtain ⟨i0, hi, hz0, hz1, hz2⟩ := info_parts infoByte
  refine step_appAny Y hgd s x 37 ho base 5 i0 _ 1 1 Tryz.underlying37 hi hz0 hz1 hz2 rfl (by decide) v xs.length (bytesC xs) hs u ys.length (bytesC ys) hx hown hsrc (by rw [length_bytesC]; omega) (bytesC_one ys) (by unfold maxLen; omega) (by omega) hbase ?_
  intro v' w' h1 h2 h3
  refine h v' w' ?_ h2 h3
  rw [List.length_append, bytesC_append]
  exact h1
theorem nil_owns {W Y : World} {base : Nat} (hb : Below (W.alloc (.cells #[] 5)).heap.size (W.alloc (.cells #[] 5)) Y) (g : Nat) (hg : g = W.heap.size) (h : base ≤ g) : Y.ownsRow base 5 1 (.slice (some ⟨g, 0, none⟩) 0 0) ([] : List Byte).length (bytesC []) := by
  subst hg
  exact owns_below (World.ownsRow_lit (base := base) (e := 5) (size := 1) W #[] 0 h (by unfold maxLen; omega) rfl) hb
theorem bytes_nil (w : World) (base : Nat) : bytesR.O w base none_ (.slice none 0 0) [] :=
  ⟨by simpa [bytesC] using World.ownsRow_nil w base 5 1, by funext b; simp [none_, Value.ownBlock]⟩
theorem logg_one {w : World} {base : Nat} {F : Nat → Prop} {v : Value} {xs : List Byte} (h : bytesR.O w base F v xs) : loggR.O w base F (.agg #[v, .slice none 0 0]) ⟨xs, []⟩ :=
  ⟨_, _, F, none_, rfl, h, bytes_nil w base, fun _ _ h => h.elim, fun b => by simp [none_]⟩
theorem recU_le (xs : List Byte) : recU xs ≤ xs.length := by
  have H : ∀ n (xs : List Byte), xs.length ≤ n → recU xs ≤ xs.length := by
    intro n
    induction n with
    | zero => intro xs h; rw [recU_end (frameSz_nil (by omega))]; omega
    | succ n ih =>
      intro xs h
      by_cases hz : frameSz xs = 0
      · rw [recU_end hz]; omega
      · have hp := frameSz_pos hz
        have := ih (xs.drop (frameSz xs)) (by rw [List.length_drop]; omega)
        rw [recU_step hz]
        rw [List.length_drop] at this
        omega
  exact H _ xs (Nat.le_refl _)
def logF (d : Logg) : Int := if 6000 < d.synced.length + d.loose.length then 2 else 0
set_option maxHeartbeats 400000 in
theorem specLogF_any (x : Value) (d : Logg) (w : World) (hx : loggR.V w x d) (hn : wtLogg d ≤ 1048576) :
    Calls Tryz.prog 51 #[x] w fun e w' => e = .returned (.int .i64 (logF d)) ∧ Below w.heap.size w w' := by
  obtain ⟨a1, a2, c1, c2, rfl⟩ := logg_form hx
  unfold wtLogg wtBytes at hn
  unfold logF
  clear hx
  generalize d.synced.length = n1 at *
  generalize d.loose.length = n2 at *
  have v1 : IntKind.i64.wrap ((n1 : Int) + n2) = n1 + n2 := by rw [IntKind.wrap_i64]; omega
  by_cases h : 6000 < n1 + n2
  · have HV := h
    have v2 : (6000 : Int) < (n1 : Int) + n2 := by omega
    go_enter Tryz.func51, Tryz.ntmps51
    go_wp2
    go_ret
    exact ⟨by simp [HV], by (repeat (first | exact Below.refl _ _ | assumption | refine Below.drew ?_ | refine balloc ?_ _ | refine bset ?_ (by simp; omega) _ | refine bset ?_ (by simp) _ | refine bstep ?_ (by assumption)))⟩
  · have HV := h
    have v2 : ¬ (6000 : Int) < (n1 : Int) + n2 := by omega
    go_enter Tryz.func51, Tryz.ntmps51
    go_wp2
    go_ret
    exact ⟨by simp [HV], by (repeat (first | exact Below.refl _ _ | assumption | refine Below.drew ?_ | refine balloc ?_ _ | refine bset ?_ (by simp; omega) _ | refine bset ?_ (by simp) _ | refine bstep ?_ (by assumption)))⟩
set_option maxHeartbeats 400000 in
theorem implLogF_any (x : Value) (d : Logg) (w : World) (hx : loggR.V w x d) (hn : wtLogg d ≤ 1048576) :
    Calls Tryz.prog 85 #[x] w fun e w' => e = .returned (.int .i64 (logF d)) ∧ Below w.heap.size w w' := by
  obtain ⟨a1, a2, c1, c2, rfl⟩ := logg_form hx
  unfold wtLogg wtBytes at hn
  unfold logF
  clear hx
  generalize d.synced.length = n1 at *
  generalize d.loose.length = n2 at *
  have v1 : IntKind.i64.wrap ((n1 : Int) + n2) = n1 + n2 := by rw [IntKind.wrap_i64]; omega
  by_cases h : 6000 < n1 + n2
  · have HV := h
    have v2 : (6000 : Int) < (n1 : Int) + n2 := by omega
    go_enter Tryz.func85, Tryz.ntmps85
    go_wp2
    go_ret
    exact ⟨by simp [HV], by (repeat (first | exact Below.refl _ _ | assumption | refine Below.drew ?_ | refine balloc ?_ _ | refine bset ?_ (by simp; omega) _ | refine bset ?_ (by simp) _ | refine bstep ?_ (by assumption)))⟩
  · have HV := h
    have v2 : ¬ (6000 : Int) < (n1 : Int) + n2 := by omega
    go_enter Tryz.func85, Tryz.ntmps85
    go_wp2
    go_ret
    exact ⟨by simp [HV], by (repeat (first | exact Below.refl _ _ | assumption | refine Below.drew ?_ | refine balloc ?_ _ | refine bset ?_ (by simp; omega) _ | refine bset ?_ (by simp) _ | refine bstep ?_ (by assumption)))⟩
set_option maxHeartbeats 2000000 in
theorem l4Sync_any (x : Value) (d : Logg) (w : World) (hx : loggR.V w x d) (hn : wtLogg d ≤ 1048576) :
    Calls Tryz.prog 83 #[x] w fun e w' => ∃ v F, e = .returned v ∧ loggR.O w' w.heap.size F v ⟨d.synced ++ d.loose, []⟩ ∧ Below w.heap.size w w' := by
  have hX := hx
  obtain ⟨u1, u2, rfl, h1, h2⟩ := hx
  obtain ⟨a1, c1, rfl⟩ := bytes_form h1
  obtain ⟨a2, c2, rfl⟩ := bytes_form h2
  unfold wtLogg wtBytes at hn
  go_enter Tryz.func83, Tryz.ntmps83
  go_wp2
  refine wp_region_noPanic ?_
  refine region_upto (fun w' => Below w.heap.size w w' ∧ w'.cell? ⟨w.heap.size, 0, none⟩ = some (.slice a1 d.synced.length c1) ∧ w'.cell? ⟨w.heap.size, 1, none⟩ = some (.slice a2 d.loose.length c2)) 8 (by kernel_rfl) ⟨by (repeat (first | exact Below.refl _ _ | assumption | refine Below.drew ?_ | refine balloc ?_ _ | refine bset ?_ (by simp; omega) _ | refine bset ?_ (by simp) _ | refine bstep ?_ (by assumption))), by simp [go_sem], by simp [go_sem]⟩ (fun hS => ?_)
  refine upto_take (i := 1) (v := ?_) rfl (by kernel_rfl) (by kernel_rfl) (by kernel_rfl) (by kernel_rfl) (fun _ _ _ h => h) (by rfl) hS ?_ ?_
  rotate_left
  · intro wS hSw
    try dsimp only at hSw
    first | (go_simp; done) | (go_simp; with_reducible rfl)
  try simp only [Act.put, List.getElem_toArray, List.getElem_cons_zero, List.getElem_cons_succ, List.setIfInBounds_toArray, List.set_cons_zero, List.set_cons_succ]
  refine upto_take (i := 2) (v := ?_) rfl (by kernel_rfl) (by kernel_rfl) (by kernel_rfl) (by kernel_rfl) (fun _ _ _ h => h) (by rfl) hS ?_ ?_
  rotate_left
  · intro wS hSw
    try dsimp only at hSw
    first | (go_simp; done) | (go_simp; with_reducible rfl)
  try simp only [Act.put, List.getElem_toArray, List.getElem_cons_zero, List.getElem_cons_succ, List.setIfInBounds_toArray, List.set_cons_zero, List.set_cons_succ]
  refine upto_take (i := 4) (v := ?_) rfl (by kernel_rfl) (by kernel_rfl) (by kernel_rfl) (by kernel_rfl) (fun _ _ _ h => h) (by rfl) hS ?_ ?_
  rotate_left
  · intro wS hSw
    try dsimp only at hSw
    first | (go_simp; done) | (go_simp; with_reducible rfl)
  try simp only [Act.put, List.getElem_toArray, List.getElem_cons_zero, List.getElem_cons_succ, List.setIfInBounds_toArray, List.set_cons_zero, List.set_cons_succ]
  refine upto_take (i := 5) (v := ?_) rfl (by kernel_rfl) (by kernel_rfl) (by kernel_rfl) (by kernel_rfl) (fun _ _ _ h => h) (by rfl) hS ?_ ?_
  rotate_left
  · intro wS hSw
    try dsimp only at hSw
    first | (go_simp; done) | (go_simp; with_reducible rfl)
  try simp only [Act.put, List.getElem_toArray, List.getElem_cons_zero, List.getElem_cons_succ, List.setIfInBounds_toArray, List.set_cons_zero, List.set_cons_succ]
  refine upto_step (i := 0) (by kernel_rfl) rfl ?_
  intro K hK
  go_simp
  refine hK _ _ (fun _ => ⟨by (repeat (first | exact Below.refl _ _ | assumption | refine Below.drew ?_ | refine balloc ?_ _ | refine bset ?_ (by simp; omega) _ | refine bset ?_ (by simp) _ | refine bstep ?_ (by assumption))), by simp [go_sem], by simp [go_sem]⟩) ?_
  clear hK K
  try simp only [Act.put, List.getElem_toArray, List.getElem_cons_zero, List.getElem_cons_succ, List.setIfInBounds_toArray, List.set_cons_zero, List.set_cons_succ]
  refine upto_step (i := 3) (by kernel_rfl) rfl ?_
  intro K hK
  refine step_appB _ rfl _ _ rfl (w.heap.size + 2) (.slice (some ⟨w.heap.size + 2, 0, none⟩) 0 0) [] rfl _ d.synced rfl (nil_owns (W := (w.alloc _).alloc _) (Below.drew (Below.refl _ _)) _ (by simp) (by omega)) (appAny_bytes (bytesR.below h1 (by (repeat (first | exact Below.refl _ _ | assumption | refine Below.drew ?_ | refine balloc ?_ _ | refine bset ?_ (by simp; omega) _ | refine bset ?_ (by simp) _ | refine bstep ?_ (by assumption)))))) (by simp; omega) (by simp) ?_
  intro v6 w6 o6 hg6 hB6
  have hw6 := hB6 ((w.alloc _).alloc _) (Below.drew (Below.alloc (Below.refl _ _) (by simp) _))
  have hb6 : Below w.heap.size w w6 := Below.trans (by (repeat (first | exact Below.refl _ _ | assumption | refine Below.drew ?_ | refine balloc ?_ _ | refine bset ?_ (by simp; omega) _ | refine bset ?_ (by simp) _ | refine bstep ?_ (by assumption)))) (hw6.mono (by omega))
  clear hB6 hg6
  obtain ⟨p6, q6, rfl⟩ := owns_form o6
  have g6 := hw6.size
  simp at g6
  refine hK _ _ (fun _ => ⟨hb6, (hw6.cell (p := ⟨w.heap.size, 0, none⟩) (by simp)).trans (by simp [go_sem]), (hw6.cell (p := ⟨w.heap.size, 1, none⟩) (by simp)).trans (by simp [go_sem])⟩) ?_
  clear hK K
  try simp only [Act.put, List.getElem_toArray, List.getElem_cons_zero, List.getElem_cons_succ, List.setIfInBounds_toArray, List.set_cons_zero, List.set_cons_succ]
  refine upto_step (i := 6) (by kernel_rfl) rfl ?_
  intro K hK
  have k2 : AppAny w6 _ (d.loose).length (bytesC (d.loose)) := appAny_bytes (bytesR.below h2 hb6)
  refine step_appB _ rfl _ _ rfl (w.heap.size + 2) _ ([] ++ d.synced) rfl _ (d.loose) rfl o6 k2 (by simp; omega) g6 ?_
  intro v9 w9 o9 hg9 hB9
  have hw9 := hB9 _ hw6
  have hb9 : Below w.heap.size w w9 := Below.trans (by (repeat (first | exact Below.refl _ _ | assumption | refine Below.drew ?_ | refine balloc ?_ _ | refine bset ?_ (by simp; omega) _ | refine bset ?_ (by simp) _ | refine bstep ?_ (by assumption)))) (hw9.mono (by omega))
  clear hB9 hg9 k2 hw6 hb6 o6 g6
  obtain ⟨p9, q9, rfl⟩ := owns_form o9
  have g9 := hw9.size
  simp at g9
  refine hK _ _ (fun _ => ⟨hb9, (hw9.cell (p := ⟨w.heap.size, 0, none⟩) (by simp)).trans (by simp [go_sem]), (hw9.cell (p := ⟨w.heap.size, 1, none⟩) (by simp)).trans (by simp [go_sem])⟩) ?_
  clear hK K
  try simp only [Act.put, List.getElem_toArray, List.getElem_cons_zero, List.getElem_cons_succ, List.setIfInBounds_toArray, List.set_cons_zero, List.set_cons_succ]
  have hS9 : (fun w' => Below w.heap.size w w' ∧ w'.cell? ⟨w.heap.size, 0, none⟩ = some (.slice a1 d.synced.length c1) ∧ w'.cell? ⟨w.heap.size, 1, none⟩ = some (.slice a2 d.loose.length c2)) w9 := ⟨hb9, (hw9.cell (p := ⟨w.heap.size, 0, none⟩) (by simp)).trans (by simp [go_sem]), (hw9.cell (p := ⟨w.heap.size, 1, none⟩) (by simp)).trans (by simp [go_sem])⟩
  have r0 : w9.cell? ⟨w.heap.size + 1, 0, none⟩ = some (.slice none 0 0) := (hw9.cell (p := ⟨w.heap.size + 1, 0, none⟩) (by simp)).trans (by simp [go_sem])
  have r1 : w9.cell? ⟨w.heap.size + 1, 1, none⟩ = some (.slice none 0 0) := (hw9.cell (p := ⟨w.heap.size + 1, 1, none⟩) (by simp)).trans (by simp [go_sem])
  have rf : ∀ o, w9.frozen? ⟨w.heap.size + 1, o, none⟩ = false := fun o => (hw9.frozen (p := ⟨w.heap.size + 1, o, none⟩) (by simp)).trans (by simp [go_sem])
  have HO : Hid (World.ownsRow w9 (w.heap.size + 2) 5 1 _ _ _) := o9
  clear o9 hw9
  refine upto_take (i := 7) (v := ?_) rfl (by kernel_rfl) (by kernel_rfl) (by kernel_rfl) (by kernel_rfl) (fun _ _ _ h => h) (by rfl) hS9 ?_ ?_
  rotate_left
  · intro wS hSw
    try dsimp only at hSw
    first | (go_simp; done) | (go_simp; with_reducible rfl)
  try simp only [Act.put, List.getElem_toArray, List.getElem_cons_zero, List.getElem_cons_succ, List.setIfInBounds_toArray, List.set_cons_zero, List.set_cons_succ]
  refine upto_step (i := 8) (by kernel_rfl) rfl ?_
  intro K hK
  go_simp
  refine hK _ _ (fun h => absurd rfl h) ?_
  clear hK K
  refine upto_done (by kernel_rfl) ?_
  refine NoPanic.normal ?_
  clear hS hS9
  go_wp2
  have ho : bytesR.O w9 (w.heap.size + 2) _ (.slice p9 (d.synced.length + d.loose.length) q9) (d.synced ++ d.loose) := ⟨by have h := HO.out; simpa using h, rfl⟩
  refine bodyPost_ret (v := .agg #[.slice p9 (d.synced.length + d.loose.length) q9, .slice none 0 0]) ?_ rfl ⟨_, _, rfl, logg_one (bytesR.base (bytesR.set (bytesR.set ho _ (by simp)) _ (by simp)) (by omega)), by (repeat (first | exact Below.refl _ _ | assumption | refine Below.drew ?_ | refine balloc ?_ _ | refine bset ?_ (by simp; omega) _ | refine bset ?_ (by simp) _ | refine bstep ?_ (by assumption)))⟩
  simp [results, Tryz.results83, go_sem, r0, r1]
end Go.Proofs.YtecfelacdapdgaaGreat

/-
  EventFault, PackEvent: the document's.
-/
set_option linter.unusedSimpArgs false
set_option linter.unusedVariables false
namespace Go.Proofs.YtecfelacdapdgaaGreat
open Go.RowKit
set_option linter.unusedSectionVars false
variable [DecidableEq Leg] [Inhabited Leg] [DecidableEq Cont] [Inhabited Cont] [DecidableEq Evt] [Inhabited Evt] [DecidableEq EvtR] [Inhabited EvtR] [DecidableEq BytesR] [Inhabited BytesR] [DecidableEq ContR] [Inhabited ContR] [DecidableEq Logg] [Inhabited Logg] [DecidableEq LoggR] [Inhabited LoggR] [DecidableEq RecsR] [Inhabited RecsR]
attribute [local go_sem ↓] Go.wp_at_zero Go.wp_at_succ

theorem evt_open {w : World} {x : Value} {d : Evt} (hx : evtR.V w x d) : ∃ a c, x = .agg #[.bool d.vote, .int .i64 d.con.id, .slice a d.con.legs.length c, .int .i64 d.out] ∧ LegsV w (.slice a d.con.legs.length c) d.con.legs := by
  obtain ⟨u, rfl, h1⟩ := evtf_V.2 hx
  obtain ⟨a, c, rfl⟩ := legs_form h1
  exact ⟨a, c, rfl, h1⟩
set_option maxHeartbeats 2000000 in
theorem specEvF_any (x : Value) (d : Evt) (w : World) (hx : evtR.V w x d) :
    Calls Tryz.prog 8 #[x] w fun e w' => e = .returned (.int .i64 (evtF d)) ∧ Below w.heap.size w w' := by
  obtain ⟨a, c, rfl, hl⟩ := evt_open hx
  obtain ⟨b, ⟨id, ls⟩, o⟩ := d
  dsimp only at hl ⊢
  clear hx
  cases b
  · have HD : Hid (evtF ⟨false, ⟨id, ls⟩, o⟩ = if (inB id 1 1000000000 && inB o 1 2) = true then (if ls.length = 0 then 0 else 1) else 3) := rfl
    generalize evtF ⟨false, ⟨id, ls⟩, o⟩ = R at *
    generalize ls.length = n at *
    clear hl
    cases hk : inB id 1 1000000000
    · rw [hk] at HD
      go_enter Tryz.func8, Tryz.ntmps8
      go_wp2_with (first | (go_at_call 37; refine (l1Id_any _ _).mono ?_; rintro e w' ⟨rfl, hw⟩; obtain rfl := hw.symm; rw [hk]))
      go_ret
      exact ⟨by rw [HD.out]; rfl, by (repeat (first | exact Below.refl _ _ | assumption | refine Below.drew ?_ | refine balloc ?_ _ | refine bset ?_ (by simp; omega) _ | refine bset ?_ (by simp) _ | refine bstep ?_ (by assumption)))⟩
    · cases ho : inB o 1 2
      · rw [hk, ho] at HD
        go_enter Tryz.func8, Tryz.ntmps8
        go_wp2_with (first | (go_at_call 37; refine (l1Id_any _ _).mono ?_; rintro e w' ⟨rfl, hw⟩; obtain rfl := hw.symm; rw [hk]) | (go_at_call 38; refine (l1In_any _ _ _ _).mono ?_; rintro e w' ⟨rfl, hw⟩; obtain rfl := hw.symm; rw [ho]))
        go_ret
        exact ⟨by rw [HD.out]; rfl, by (repeat (first | exact Below.refl _ _ | assumption | refine Below.drew ?_ | refine balloc ?_ _ | refine bset ?_ (by simp; omega) _ | refine bset ?_ (by simp) _ | refine bstep ?_ (by assumption)))⟩
      · rw [hk, ho] at HD
        by_cases hn : n = 0
        · have HE : Hid (R = 0) := by show _ = _; rw [HD.out, hn]; rfl
          have hn' : ¬ (0 : Int) < (n : Int) := by omega
          clear HD hn
          go_enter Tryz.func8, Tryz.ntmps8
          go_wp2_with (first | (go_at_call 37; refine (l1Id_any _ _).mono ?_; rintro e w' ⟨rfl, hw⟩; obtain rfl := hw.symm; rw [hk]) | (go_at_call 38; refine (l1In_any _ _ _ _).mono ?_; rintro e w' ⟨rfl, hw⟩; obtain rfl := hw.symm; rw [ho]))
          go_ret
          exact ⟨by rw [HE.out]; rfl, by (repeat (first | exact Below.refl _ _ | assumption | refine Below.drew ?_ | refine balloc ?_ _ | refine bset ?_ (by simp; omega) _ | refine bset ?_ (by simp) _ | refine bstep ?_ (by assumption)))⟩
        · have HE : Hid (R = 1) := by show _ = _; rw [HD.out, if_neg hn]; rfl
          have hn' : (0 : Int) < (n : Int) := by omega
          clear HD hn
          go_enter Tryz.func8, Tryz.ntmps8
          go_wp2_with (first | (go_at_call 37; refine (l1Id_any _ _).mono ?_; rintro e w' ⟨rfl, hw⟩; obtain rfl := hw.symm; rw [hk]) | (go_at_call 38; refine (l1In_any _ _ _ _).mono ?_; rintro e w' ⟨rfl, hw⟩; obtain rfl := hw.symm; rw [ho]))
          go_ret
          exact ⟨by rw [HE.out]; rfl, by (repeat (first | exact Below.refl _ _ | assumption | refine Below.drew ?_ | refine balloc ?_ _ | refine bset ?_ (by simp; omega) _ | refine bset ?_ (by simp) _ | refine bstep ?_ (by assumption)))⟩
  · have HD : Hid (evtF ⟨true, ⟨id, ls⟩, o⟩ = if contractFault id ls = 0 then (if o = 0 then 0 else 1) else contractFault id ls) := rfl
    have HC : Hid (∀ W, Below w.heap.size w W → Calls Tryz.prog 36 #[.agg #[.int .i64 id, .slice a ls.length c]] W fun e w' => e = .returned (.int .i64 (contractFault id ls)) ∧ Below W.heap.size W w') := fun W hW => specFault_any id _ ls W (LegsV_below hl hW)
    generalize evtF ⟨true, ⟨id, ls⟩, o⟩ = R at *
    clear hl
    generalize contractFault id ls = cf at *
    generalize ls.length = n at *
    go_enter Tryz.func8, Tryz.ntmps8
    go_wp2_with fail
    refine (HC.out _ (by (repeat (first | exact Below.refl _ _ | assumption | refine Below.drew ?_ | refine balloc ?_ _ | refine bset ?_ (by simp; omega) _ | refine bset ?_ (by simp) _ | refine bstep ?_ (by assumption))))).mono ?_
    rintro e w1 ⟨rfl, hb1⟩
    have hB1 : Below w.heap.size w w1 := by (repeat (first | exact Below.refl _ _ | assumption | refine Below.drew ?_ | refine balloc ?_ _ | refine bset ?_ (by simp; omega) _ | refine bset ?_ (by simp) _ | refine bstep ?_ (by assumption)))
    have y3 : w1.cell? ⟨w.heap.size, 3, none⟩ = some (.int .i64 o) := cell_keep hb1 (by simp [go_sem])
    clear hb1 HC
    by_cases hc : cf = 0
    · rw [hc] at HD ⊢
      by_cases ho : o = 0
      · have HE : Hid (R = 0) := by show _ = _; rw [HD.out, ho]; rfl
        have ho' : (o != 0) = false := by simp [ho]
        clear HD ho hc
        go_wp2
        go_ret
        exact ⟨by rw [HE.out]; rfl, by (repeat (first | exact Below.refl _ _ | assumption | refine Below.drew ?_ | refine balloc ?_ _ | refine bset ?_ (by simp; omega) _ | refine bset ?_ (by simp) _ | refine bstep ?_ (by assumption)))⟩
      · have HE : Hid (R = 1) := by show _ = _; rw [HD.out, if_neg ho]; rfl
        have ho' : (o != 0) = true := by simp [ho]
        clear HD ho hc
        go_wp2
        go_ret
        exact ⟨by rw [HE.out]; rfl, by (repeat (first | exact Below.refl _ _ | assumption | refine Below.drew ?_ | refine balloc ?_ _ | refine bset ?_ (by simp; omega) _ | refine bset ?_ (by simp) _ | refine bstep ?_ (by assumption)))⟩
    · have HE : Hid (R = cf) := by show _ = _; rw [HD.out, if_neg hc]
      have hc' : (cf != 0) = true := by simp [hc]
      clear HD hc
      go_wp2
      go_ret
      exact ⟨by rw [HE.out]; rfl, by (repeat (first | exact Below.refl _ _ | assumption | refine Below.drew ?_ | refine balloc ?_ _ | refine bset ?_ (by simp; omega) _ | refine bset ?_ (by simp) _ | refine bstep ?_ (by assumption)))⟩
end Go.Proofs.YtecfelacdapdgaaGreat

/-
  UnpackEvent, the document's.
-/
set_option linter.unusedSimpArgs false
set_option linter.unusedVariables false
namespace Go.Proofs.YtecfelacdapdgaaGreat
open Go.RowKit
set_option linter.unusedSectionVars false
variable [DecidableEq Leg] [Inhabited Leg] [DecidableEq Cont] [Inhabited Cont] [DecidableEq Evt] [Inhabited Evt] [DecidableEq EvtR] [Inhabited EvtR] [DecidableEq BytesR] [Inhabited BytesR] [DecidableEq ContR] [Inhabited ContR] [DecidableEq Logg] [Inhabited Logg] [DecidableEq LoggR] [Inhabited LoggR] [DecidableEq RecsR] [Inhabited RecsR]
attribute [local go_sem ↓] Go.wp_at_zero Go.wp_at_succ

theorem legs_nil14 (w : World) (base : Nat) : legsR.O w base none_ (.slice none 0 0) [] := ⟨by simpa [legsC] using World.ownsRow_nil w base 110 4, by funext b; simp [none_, Value.ownBlock]⟩
theorem evt_nil14 (w : World) (base : Nat) (b : Bool) (i o : Int) : evtR.O w base none_ (.agg #[.bool b, .int .i64 i, .slice none 0 0, .int .i64 o]) ⟨b, ⟨i, []⟩, o⟩ :=
  evtf_O.1 ⟨.slice none 0 0, none_, rfl, legs_nil14 w base, fun _ => Iff.rfl⟩
theorem evt_of_cont {w : World} {base : Nat} {F : Nat → Prop} {i : Int} {u : Value} {y : Cont} (h : contR.O w base F (.agg #[.int .i64 i, u]) y) (b : Bool) (o : Int) : evtR.O w base F (.agg #[.bool b, .int .i64 i, u, .int .i64 o]) ⟨b, y, o⟩ := by
  obtain ⟨u1, F1, he, h1, h2⟩ := h
  simp only [Value.agg.injEq, Array.mk.injEq, List.cons.injEq, and_true, Value.int.injEq, true_and] at he
  obtain ⟨rfl, rfl⟩ := he
  exact evtf_O.1 ⟨u, F1, rfl, h1, h2⟩
theorem contO_form {w : World} {base : Nat} {F : Nat → Prop} {v : Value} {y : Cont} (h : contR.O w base F v y) : ∃ a c, v = .agg #[.int .i64 y.id, .slice a y.legs.length c] := by
  obtain ⟨u1, F1, rfl, h1, _⟩ := h
  obtain ⟨a, c, rfl⟩ := legs_form (legsR.ofO h1)
  exact ⟨a, c, rfl⟩
theorem evtR_of14 {w : World} {base : Nat} {F : Nat → Prop} {c : Int} {b : Bool} {i o : Int} {u : Value} {y : Evt} (h : evtR.O w base F (.agg #[.bool b, .int .i64 i, u, .int .i64 o]) y) : evtRR.O w base F (.agg #[.int .i64 c, .bool b, .int .i64 i, u, .int .i64 o]) ⟨c, y⟩ := by
  obtain ⟨u1, F1, he, h1, h2⟩ := evtf_O.2 h
  simp only [Value.agg.injEq, Array.mk.injEq, List.cons.injEq, and_true, Value.int.injEq, Value.bool.injEq, true_and] at he
  obtain ⟨rfl, rfl, rfl, rfl⟩ := he
  exact ⟨u, F, rfl, h, fun _ => Iff.rfl⟩
theorem evtO_form {w : World} {base : Nat} {F : Nat → Prop} {v : Value} {y : Evt} (h : evtR.O w base F v y) : ∃ a c, v = .agg #[.bool y.vote, .int .i64 y.con.id, .slice a y.con.legs.length c, .int .i64 y.out] := by
  obtain ⟨u1, F1, rfl, h1, _⟩ := evtf_O.2 h
  obtain ⟨a, c, rfl⟩ := legs_form (legsR.ofO h1)
  exact ⟨a, c, rfl⟩
theorem unKeep4_14 {w W : World} {a1 a2 a3 a4 : Value} (h : Below w.heap.size w W ∧ W.cell? ⟨w.heap.size + 1, 0, none⟩ = some a1 ∧ W.cell? ⟨w.heap.size + 1, 1, none⟩ = some a2 ∧ W.cell? ⟨w.heap.size + 1, 2, none⟩ = some a3 ∧ W.cell? ⟨w.heap.size + 1, 3, none⟩ = some a4) (u0 u1 u2 u3 : Value) :
    Below w.heap.size w ((((W.setCell ⟨w.heap.size, 0, none⟩ u0).setCell ⟨w.heap.size, 1, none⟩ u1).setCell ⟨w.heap.size, 2, none⟩ u2).setCell ⟨w.heap.size, 3, none⟩ u3) ∧ ((((W.setCell ⟨w.heap.size, 0, none⟩ u0).setCell ⟨w.heap.size, 1, none⟩ u1).setCell ⟨w.heap.size, 2, none⟩ u2).setCell ⟨w.heap.size, 3, none⟩ u3).cell? ⟨w.heap.size + 1, 0, none⟩ = some a1 ∧ ((((W.setCell ⟨w.heap.size, 0, none⟩ u0).setCell ⟨w.heap.size, 1, none⟩ u1).setCell ⟨w.heap.size, 2, none⟩ u2).setCell ⟨w.heap.size, 3, none⟩ u3).cell? ⟨w.heap.size + 1, 1, none⟩ = some a2 ∧ ((((W.setCell ⟨w.heap.size, 0, none⟩ u0).setCell ⟨w.heap.size, 1, none⟩ u1).setCell ⟨w.heap.size, 2, none⟩ u2).setCell ⟨w.heap.size, 3, none⟩ u3).cell? ⟨w.heap.size + 1, 2, none⟩ = some a3 ∧ ((((W.setCell ⟨w.heap.size, 0, none⟩ u0).setCell ⟨w.heap.size, 1, none⟩ u1).setCell ⟨w.heap.size, 2, none⟩ u2).setCell ⟨w.heap.size, 3, none⟩ u3).cell? ⟨w.heap.size + 1, 3, none⟩ = some a4 := by
  obtain ⟨hb, h0, h1, h2, h3⟩ := h
  refine ⟨?_, ?_, ?_, ?_, ?_⟩
  · iterate 4 (refine bset ?_ (by simp) _)
    exact hb
  · simp [go_sem, h0]
  · simp [go_sem, h1]
  · simp [go_sem, h2]
  · simp [go_sem, h3]
theorem unpE_err14 {xs : List Byte} (h : ¬ (unpE xs).code = 0) : unpE xs = errE := by
  unfold unpE at h ⊢
  by_cases h0 : xs.length = 0
  · rw [if_pos h0]
  rw [if_neg h0] at h ⊢
  by_cases h1 : (xs.getD 0 0).val = 1
  · rw [if_pos h1] at h ⊢
    by_cases h2 : (unpD (xs.drop 1)).code = 0
    · rw [if_pos h2] at h; exact absurd rfl h
    · rw [if_neg h2]
  rw [if_neg h1] at h ⊢
  by_cases h2 : (xs.getD 0 0).val = 2 ∧ xs.length = 10
  · rw [if_pos h2] at h ⊢
    by_cases h3 : evtF (outE xs) = 0
    · rw [if_pos h3] at h; exact absurd rfl h
    · rw [if_neg h3]
  · rw [if_neg h2]
def UnpE14 (w : World) (xs : List Byte) (e : Ending) (w' : World) : Prop := ∃ v F y, e = .returned (.tuple #[v, .bool (decide ((unpE xs).code = 0))]) ∧ evtR.O w' w.heap.size F v y ∧ ((unpE xs).code = 0 → unpE xs = ⟨0, y⟩) ∧ Below w.heap.size w w'
theorem unpE_bad14 {w W : World} {xs : List Byte} {b : Bool} {i o : Int} (h : unpE xs = errE) (hb : Below w.heap.size w W) : UnpE14 w xs (.returned (.tuple #[.agg #[.bool b, .int .i64 i, .slice none 0 0, .int .i64 o], .bool false])) W :=
  ⟨_, none_, ⟨b, ⟨i, []⟩, o⟩, by rw [h]; rfl, evt_nil14 _ _ _ _ _, fun h0 => (by rw [h] at h0; cases h0), hb⟩
theorem unpE_nil14 {xs : List Byte} (h : xs.length = 0) : unpE xs = errE := if_pos h
theorem unpE_vote14 {xs : List Byte} (h0 : ¬ xs.length = 0) (h : (xs.getD 0 0).val = 1) : unpE xs = if (unpD (xs.drop 1)).code = 0 then ⟨0, ⟨true, (unpD (xs.drop 1)).contract, 0⟩⟩ else errE := by unfold unpE; rw [if_neg h0, if_pos h]
theorem unpE_out14 {xs : List Byte} (h0 : ¬ xs.length = 0) (h1 : ¬ (xs.getD 0 0).val = 1) (h : (xs.getD 0 0).val = 2 ∧ xs.length = 10) : unpE xs = if evtF (outE xs) = 0 then ⟨0, outE xs⟩ else errE := by unfold unpE; rw [if_neg h0, if_neg h1, if_pos h]
theorem unpE_no14 {xs : List Byte} (h0 : ¬ xs.length = 0) (h1 : ¬ (xs.getD 0 0).val = 1) (h : ¬ ((xs.getD 0 0).val = 2 ∧ xs.length = 10)) : unpE xs = errE := by unfold unpE; rw [if_neg h0, if_neg h1, if_neg h]
theorem l3Unc_u (x : Value) (xs : List Byte) (w : World) (hx : bytesR.V w x xs) :
    Calls Tryz.prog 76 #[x] w fun e w' => ∃ v F y, e = .returned (.tuple #[v, .bool (decide ((unpD xs).code = 0))]) ∧ contR.O w' w.heap.size F v y ∧ ((unpD xs).code = 0 → (unpD xs).contract = y) ∧ Below w.heap.size w w' := by
  by_cases h : 8 ≤ xs.length ∧ (xs.length - 8) % 11 = 0 ∧ xs.length ≤ 96
  · refine (l3Uncontract_ok x xs w hx h.1 h.2.1 h.2.2).mono ?_
    rintro e w' ⟨v, F, rfl, ho, hb⟩
    refine ⟨_, F, unCont xs, ?_, ⟨v, F, rfl, ho, fun _ => Iff.rfl⟩, ?_, hb⟩
    · by_cases hc : contractFault (unCont xs).id (unCont xs).legs = 0
      · have e1 : unpD xs = ⟨0, unCont xs⟩ := if_pos ⟨h, hc⟩
        rw [e1, hc]
      · have e1 : unpD xs = ⟨5, ⟨0, []⟩⟩ := if_neg (fun k => hc k.2)
        rw [e1, decide_eq_false hc]
        rfl
    · intro h0
      by_cases hc : contractFault (unCont xs).id (unCont xs).legs = 0
      · have e1 : unpD xs = ⟨0, unCont xs⟩ := if_pos ⟨h, hc⟩
        rw [e1]
      · have e1 : unpD xs = ⟨5, ⟨0, []⟩⟩ := if_neg (fun k => hc k.2)
        rw [e1] at h0
        cases h0
  · refine (l3Uncontract_bad x xs w hx h).mono ?_
    rintro e w' ⟨rfl, hb⟩
    have e1 : unpD xs = ⟨5, ⟨0, []⟩⟩ := if_neg (fun k => h k.1)
    refine ⟨_, none_, ⟨0, []⟩, by rw [e1]; rfl, ⟨.slice none 0 0, none_, rfl, legs_nil14 _ _, fun _ => Iff.rfl⟩, fun h0 => (by rw [e1] at h0; cases h0), hb⟩
set_option maxRecDepth 20000 in
set_option maxHeartbeats 4000000 in
theorem l14Unpack_u (x : Value) (xs : List Byte) (w : World) (hx : bytesR.V w x xs) :
    Calls Tryz.prog 46 #[x] w (UnpE14 w xs) := by
  have hX := hx
  obtain ⟨ax, cx, rfl, hcx, hmx, hx⟩ := hx
  unfold maxLen at hmx
  by_cases h0 : xs.length = 0
  · have HD : Hid (unpE xs = errE) := unpE_nil14 h0
    clear hx hX
    rw [h0] at hcx ⊢
    go_enter Tryz.func46, Tryz.ntmps46
    go_wp2
    exact bodyPost_ret (v := .tuple #[.agg #[.bool false, .int .i64 0, .slice none 0 0, .int .i64 0], .bool false]) (by simp [results, Tryz.results46, go_sem]) rfl (unpE_bad14 HD.out (by (repeat (first | exact Below.refl _ _ | assumption | refine Below.drew ?_ | refine balloc ?_ _ | refine bset ?_ (by simp; omega) _ | refine bset ?_ (by simp) _ | refine bstep ?_ (by assumption)))))
  have hl1 : 1 ≤ xs.length := Nat.pos_of_ne_zero h0
  obtain ⟨bb, oo', rfl, hc0⟩ := hx 0 (by omega)
  have hd0 : ((xs.length : Int) == 0) = false := beq_eq_false_iff_ne.2 (by omega)
  by_cases h1 : (xs.getD 0 0).val = 1
  · have HD : Hid (unpE xs = if (unpD (xs.drop 1)).code = 0 then ⟨0, ⟨true, (unpD (xs.drop 1)).contract, 0⟩⟩ else errE) := unpE_vote14 h0 h1
    obtain ⟨a', c', run, hv⟩ := cutL (a := some ⟨bb, oo', none⟩) (n := xs.length) (cap := cx) 1 (by omega) (by omega) hcx
    have HC : Hid (∀ W, Below w.heap.size w W → Calls Tryz.prog 76 #[.slice a' (xs.length - (1 : Int).toNat) c'] W fun e w' => ∃ v F y, e = .returned (.tuple #[v, .bool (decide ((unpD (xs.drop 1)).code = 0))]) ∧ contR.O w' W.heap.size F v y ∧ ((unpD (xs.drop 1)).code = 0 → (unpD (xs.drop 1)).contract = y) ∧ Below W.heap.size W w') := fun W hW => l3Unc_u _ (xs.drop 1) W (hv W xs rfl (bytesR.below hX hW))
    have g0 : w.cell? ⟨bb, oo', none⟩ = some (.int .u8 1) := by have h := hc0; rw [h1, Nat.add_zero] at h; exact h
    have hlt : (0 : Int) < (xs.length : Int) := by omega
    clear hx hX hv hc0 h1
    obtain ⟨D, hD⟩ : ∃ D, unpD (xs.drop 1) = D := ⟨_, rfl⟩
    rw [hD] at HC HD
    clear hD
    obtain ⟨cd, ct⟩ := D
    dsimp only at HC HD
    have zb : bb < w.heap.size := World.block_lt_of_cell? w _ g0
    go_enter Tryz.func46, Tryz.ntmps46
    go_wp2_with fail
    refine (HC.out _ (by (repeat (first | exact Below.refl _ _ | assumption | refine Below.drew ?_ | refine balloc ?_ _ | refine bset ?_ (by simp; omega) _ | refine bset ?_ (by simp) _ | refine bstep ?_ (by assumption))))).mono ?_
    rintro e w1 ⟨v1, F1, y1, rfl, o1, hy, hb1⟩
    obtain ⟨p, q, rfl⟩ := contO_form o1
    have hB1 : Below w.heap.size w w1 := bstep (by (repeat (first | exact Below.refl _ _ | assumption | refine Below.drew ?_ | refine balloc ?_ _ | refine bset ?_ (by simp; omega) _ | refine bset ?_ (by simp) _ | refine bstep ?_ (by assumption)))) hb1
    have r0 : w1.cell? ⟨w.heap.size, 0, none⟩ = some (.bool false) := cell_keep hb1 (by simp [go_sem])
    have r1 : w1.cell? ⟨w.heap.size, 1, none⟩ = some (.int .i64 0) := cell_keep hb1 (by simp [go_sem])
    have r2 : w1.cell? ⟨w.heap.size, 2, none⟩ = some (.slice none 0 0) := cell_keep hb1 (by simp [go_sem])
    have r3 : w1.cell? ⟨w.heap.size, 3, none⟩ = some (.int .i64 0) := cell_keep hb1 (by simp [go_sem])
    have rf : ∀ o, w1.frozen? ⟨w.heap.size, o, none⟩ = false := fun o => by rw [(bcell hb1).2 _ _ (by simp; omega)]; simp [go_sem]
    have s0 : w1.cell? ⟨w.heap.size + 1, 0, none⟩ = some (.bool false) := cell_keep hb1 (by simp [go_sem])
    have s1 : w1.cell? ⟨w.heap.size + 1, 1, none⟩ = some (.int .i64 0) := cell_keep hb1 (by simp [go_sem])
    have s2 : w1.cell? ⟨w.heap.size + 1, 2, none⟩ = some (.slice none 0 0) := cell_keep hb1 (by simp [go_sem])
    have s3 : w1.cell? ⟨w.heap.size + 1, 3, none⟩ = some (.int .i64 0) := cell_keep hb1 (by simp [go_sem])
    have sf : ∀ o, w1.frozen? ⟨w.heap.size + 1, o, none⟩ = false := fun o => by rw [(bcell hb1).2 _ _ (by simp)]; simp [go_sem]
    have hz : w.heap.size + 2 ≤ w1.heap.size := by have := hb1.size; simp at this; omega
    have HO : Hid (contR.O w1 (w.heap.size + 2) F1 (.agg #[.int .i64 y1.id, .slice p y1.legs.length q]) y1) := contR.base o1 (by simp)
    clear o1 hb1 HC run
    have z1 : w.heap.size < w1.heap.size := by omega
    have z2 : w.heap.size + 1 < w1.heap.size := by omega
    generalize hm : y1.legs.length = m at *
    have HY : Hid (cd = 0 → ct = y1) := hy
    clear hm hy
    go_wp2
    refine bodyPost_ret (v := .tuple #[.agg #[.bool true, .int .i64 y1.id, .slice p m q, .int .i64 0], .bool (decide (cd = 0))]) (by simp [results, Tryz.results46, go_sem, r0, r1, r2, r3, rf, s0, s1, s2, s3, sf, z1]) rfl ?_
    have hbe : ∀ W W' : World, Below W.heap.size W W' → Below W.heap.size W W' := fun _ _ h => h
    refine ⟨.agg #[.bool true, .int .i64 y1.id, .slice p m q, .int .i64 0], F1, ⟨true, y1, 0⟩, ?_, evt_of_cont (i := y1.id) (u := .slice p m q) (contR.base (base := w.heap.size + 2) ?_ (by omega)) true 0, ?_, ?_⟩
    · rw [HD.out]
      by_cases hc : cd = 0
      · rw [if_pos hc, decide_eq_true hc]
        rfl
      · rw [if_neg hc, decide_eq_false hc]
        rfl
    · refine contR.alloc ?_ _
      iterate 7 (refine contR.set ?_ _ (by simp))
      exact HO.out
    · intro h
      rw [HD.out] at h ⊢
      by_cases hc : cd = 0
      · rw [if_pos hc, HY.out hc]
      · rw [if_neg hc] at h
        cases h
    · refine balloc ?_ _
      iterate 7 (refine bset ?_ (by simp) _)
      exact hB1
  by_cases h2 : (xs.getD 0 0).val = 2 ∧ xs.length = 10
  · obtain ⟨h2, h10⟩ := h2
    have HD : Hid (unpE xs = if evtF (outE xs) = 0 then ⟨0, outE xs⟩ else errE) := unpE_out14 h0 h1 ⟨h2, h10⟩
    obtain ⟨a', c', run, hv⟩ := cutB (a := some ⟨bb, oo', none⟩) (n := xs.length) (cap := cx) 1 9 (by omega) (by omega) (by omega) hcx
    have hV9 := hv w xs rfl hX
    rw [show ((9 : Int) - 1).toNat = 8 by omega, show (1 : Int).toNat = 1 by omega] at hV9
    rw [show ((9 : Int) - 1).toNat = 8 by omega] at run
    have hl8 : ((xs.drop 1).take 8).length = 8 := by rw [List.length_take, List.length_drop]; omega
    have ht8 : ((xs.drop 1).take 8).take 8 = (xs.drop 1).take 8 := List.take_of_length_le (by omega)
    obtain ⟨_, _, e9, hc9⟩ := hx 9 (by omega)
    simp only [Option.some.injEq, Addr.mk.injEq, and_true] at e9
    obtain ⟨rfl, rfl⟩ := e9
    have g0 : w.cell? ⟨bb, oo', none⟩ = some (.int .u8 2) := by have h := hc0; rw [h2, Nat.add_zero] at h; exact h
    have hw9 : IntKind.i64.wrap ((xs.getD 9 0).val : Int) = ((xs.getD 9 0).val : Int) := by rw [IntKind.wrap_i64]; have := (xs.getD 9 0).isLt; omega
    have HX : Hid (outE xs = ⟨false, ⟨IntKind.i64.wrap (hiN ((xs.drop 1).take 8)), []⟩, ((xs.getD 9 0).val : Int)⟩) := rfl
    have HN : Hid (∀ W, Below w.heap.size w W → Calls Tryz.prog 77 #[.slice a' 8 c'] W fun e w' => e = .returned (.int .i64 (IntKind.i64.wrap (hiN ((xs.drop 1).take 8)))) ∧ w' = W) := fun W hW => by
      have := l3Number_any _ _ W (BytesV_below hV9 hW) (by omega)
      rw [ht8] at this
      exact this
    generalize IntKind.i64.wrap (hiN ((xs.drop 1).take 8)) = id at *
    generalize ((xs.getD 9 0).val : Int) = oo at *
    have zb : bb < w.heap.size := World.block_lt_of_cell? w _ g0
    have HF : Hid (∀ W, Calls Tryz.prog 8 #[.agg #[.bool false, .int .i64 id, .slice none 0 0, .int .i64 oo]] W fun e w' => e = .returned (.int .i64 (evtF ⟨false, ⟨id, []⟩, oo⟩)) ∧ Below W.heap.size W w') := fun W => specEvF_any _ ⟨false, ⟨id, []⟩, oo⟩ W (evtR.ofO (evt_nil14 W 0 false id oo))
    rw [HX.out] at HD
    clear hx hX hv hV9 hc0 h1 h2 hl8 ht8 HX
    rw [h10] at hcx run hd0 ⊢
    generalize evtF ⟨false, ⟨id, []⟩, oo⟩ = ef at *
    go_enter Tryz.func46, Tryz.ntmps46
    go_wp2_with fail
    refine (HN.out _ (by (repeat (first | exact Below.refl _ _ | assumption | refine Below.drew ?_ | refine balloc ?_ _ | refine bset ?_ (by simp; omega) _ | refine bset ?_ (by simp) _ | refine bstep ?_ (by assumption))))).mono ?_
    rintro e w1 ⟨rfl, hw⟩
    obtain rfl := hw.symm
    clear HN
    go_wp2
    obtain ⟨wq, hwq⟩ : ∃ wq, wq = (w.alloc (.cells #[.bool false, .int .i64 0, .slice none 0 0, .int .i64 0] 33)).alloc (.cells #[.bool false, .int .i64 id, .slice none 0 0, .int .i64 oo] 33) := ⟨_, rfl⟩
    have h0 : Below w.heap.size w wq ∧ wq.cell? ⟨w.heap.size + 1, 0, none⟩ = some (.bool false) ∧ wq.cell? ⟨w.heap.size + 1, 1, none⟩ = some (.int .i64 id) ∧ wq.cell? ⟨w.heap.size + 1, 2, none⟩ = some (.slice none 0 0) ∧ wq.cell? ⟨w.heap.size + 1, 3, none⟩ = some (.int .i64 oo) := by
      rw [hwq]
      exact ⟨by (repeat (first | exact Below.refl _ _ | assumption | refine Below.drew ?_ | refine balloc ?_ _ | refine bset ?_ (by simp; omega) _ | refine bset ?_ (by simp) _ | refine bstep ?_ (by assumption))), by simp [go_sem], by simp [go_sem], by simp [go_sem], by simp [go_sem]⟩
    have r0 : wq.cell? ⟨w.heap.size, 0, none⟩ = some (.bool false) := by rw [hwq]; simp [go_sem]
    have r1 : wq.cell? ⟨w.heap.size, 1, none⟩ = some (.int .i64 0) := by rw [hwq]; simp [go_sem]
    have r2 : wq.cell? ⟨w.heap.size, 2, none⟩ = some (.slice none 0 0) := by rw [hwq]; simp [go_sem]
    have r3 : wq.cell? ⟨w.heap.size, 3, none⟩ = some (.int .i64 0) := by rw [hwq]; simp [go_sem]
    have rf : ∀ o, wq.frozen? ⟨w.heap.size, o, none⟩ = false := fun o => by rw [hwq]; simp [go_sem]
    have hz0 : w.heap.size < wq.drew.heap.size := by show w.heap.size < wq.heap.size; rw [hwq]; simp; omega
    rw [← hwq]
    clear hwq g0 zb run
    go_region_held3 (fun W => Below w.heap.size w W ∧ W.cell? ⟨w.heap.size + 1, 0, none⟩ = some (.bool false) ∧ W.cell? ⟨w.heap.size + 1, 1, none⟩ = some (.int .i64 id) ∧ W.cell? ⟨w.heap.size + 1, 2, none⟩ = some (.slice none 0 0) ∧ W.cell? ⟨w.heap.size + 1, 3, none⟩ = some (.int .i64 oo))
      ((first | exact keepS4 h0 (Below.drew (Below.refl _ _)) | exact hS3 | exact unKeep4_14 hS3 _ _ _ _))
      (first | (go_at_call 8; refine (HF.out _).mono ?_; rintro e w3 ⟨rfl, hb3⟩; have hS3 := keepS4 (keepS4 h0 (Below.drew (Below.refl _ _))) hb3; have e0 := cell_keep hb3 (cell_keep (Below.drew (Below.refl _ _)) r0); have e1 := cell_keep hb3 (cell_keep (Below.drew (Below.refl _ _)) r1); have e2 := cell_keep hb3 (cell_keep (Below.drew (Below.refl _ _)) r2); have e3 := cell_keep hb3 (cell_keep (Below.drew (Below.refl _ _)) r3); have ef' := fun o => ((bcell hb3).2 w.heap.size o hz0).trans (rf o)))
    have hB3 : Below w.heap.size w w3 := hS3.1
    clear hS3 hb3 h0 HF
    go_wp2
    refine bodyPost_ret (v := .tuple #[.agg #[.bool false, .int .i64 id, .slice none 0 0, .int .i64 oo], .bool (ef == 0)]) (by simp [results, Tryz.results46, go_sem, e0, e1, e2, e3, ef']) rfl ?_
    refine ⟨_, none_, ⟨false, ⟨id, []⟩, oo⟩, ?_, evt_nil14 _ _ _ _ _, ?_, ?_⟩
    · rw [HD.out]
      by_cases hc : ef = 0
      · rw [if_pos hc, hc]
        rfl
      · rw [if_neg hc]
        have : (ef == 0) = false := by simpa using hc
        rw [this]
        rfl
    · intro h
      rw [HD.out] at h ⊢
      by_cases hc : ef = 0
      · rw [if_pos hc]
      · rw [if_neg hc] at h
        cases h
    · iterate 4 (refine bset ?_ (by simp) _)
      exact hB3
  · have HD : Hid (unpE xs = errE) := unpE_no14 h0 h1 h2
    have hlt : (0 : Int) < (xs.length : Int) := by omega
    have hd1 : (((xs.getD 0 0).val : Int) == 1) = false := beq_eq_false_iff_ne.2 (by omega)
    rw [Nat.add_zero] at hc0
    have zb : bb < w.heap.size := World.block_lt_of_cell? w _ hc0
    clear hx hX
    by_cases h3 : (xs.getD 0 0).val = 2
    · have hd2 : (((xs.getD 0 0).val : Int) != 2) = false := by rw [h3]; rfl
      have hd3 : ((xs.length : Int) != 10) = true := by simp only [bne_iff_ne, ne_eq]; exact fun h => h2 ⟨h3, by omega⟩
      clear h0 h1 h2 h3 hl1
      generalize ((xs.getD 0 0).val : Int) = q at *
      generalize xs.length = n at *
      go_enter Tryz.func46, Tryz.ntmps46
      go_wp2
      exact bodyPost_ret (v := .tuple #[.agg #[.bool false, .int .i64 0, .slice none 0 0, .int .i64 0], .bool false]) (by simp [results, Tryz.results46, go_sem]) rfl (unpE_bad14 HD.out (by (repeat (first | exact Below.refl _ _ | assumption | refine Below.drew ?_ | refine balloc ?_ _ | refine bset ?_ (by simp; omega) _ | refine bset ?_ (by simp) _ | refine bstep ?_ (by assumption)))))
    · have hd2 : (((xs.getD 0 0).val : Int) != 2) = true := by simp only [bne_iff_ne, ne_eq]; omega
      clear h0 h1 h2 h3 hl1
      generalize ((xs.getD 0 0).val : Int) = q at *
      generalize xs.length = n at *
      go_enter Tryz.func46, Tryz.ntmps46
      go_wp2
      exact bodyPost_ret (v := .tuple #[.agg #[.bool false, .int .i64 0, .slice none 0 0, .int .i64 0], .bool false]) (by simp [results, Tryz.results46, go_sem]) rfl (unpE_bad14 HD.out (by (repeat (first | exact Below.refl _ _ | assumption | refine Below.drew ?_ | refine balloc ?_ _ | refine bset ?_ (by simp; omega) _ | refine bset ?_ (by simp) _ | refine bstep ?_ (by assumption)))))
theorem errE_O14 (w : World) (base : Nat) : evtRR.O w base none_ (.agg #[.int .i64 5, .bool false, .int .i64 0, .slice none 0 0, .int .i64 0]) errE := evtR_of14 (evt_nil14 w base false 0 0)
end Go.Proofs.YtecfelacdapdgaaGreat


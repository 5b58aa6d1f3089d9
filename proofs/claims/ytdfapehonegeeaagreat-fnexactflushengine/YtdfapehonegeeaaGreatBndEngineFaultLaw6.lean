import Derived.Test.YtdfapehonegeeaaGreatBndEngineFaultLaw4
import Derived.Test.YtdfapehonegeeaaGreatBndEngineFaultLaw5
import Derived.Test.YtdfapehonegeeaaGreatBndEngineFaultLaw1
import Derived.Deep.RegionHeld3
import Derived.Deep.DrawnRows
import Derived.BigQuiet

/-
  FrameRecord on both sides.
-/
namespace Go.Proofs.YtdfapehonegeeaaGreat
open Go.RowKit
set_option linter.unusedSectionVars false
variable [DecidableEq BytesR] [Inhabited BytesR]
attribute [local go_sem ↓] Go.wp_at_zero Go.wp_at_succ

theorem hiB_two (n : Int) : hiB n 2 = [toB (n / 256), toB n] := by
  have h : List.range 2 = [0, 1] := rfl
  simp [hiB, h]
theorem wrapU {n : Int} (h0 : 0 ≤ n) (h1 : n ≤ 18446744073709551615) : IntKind.u64.wrap n = n := by rw [IntKind.wrap_u64]; omega

set_option maxHeartbeats 400000 in
theorem l3Short_any (n : Int) (w : World) (h0 : 0 ≤ n) (h1 : n < 65536) :
    Calls Tryz.prog 153 #[.int .i64 n] w fun e w' => ∃ v F, e = .returned v ∧ bytesR.O w' w.heap.size F v (hiB n 2) ∧ Below w.heap.size w w' := by
  have v1 : n.tdiv 256 = n / 256 := Int.tdiv_eq_ediv_of_nonneg h0
  have v2 : n.tmod 256 = n % 256 := Int.tmod_eq_emod_of_nonneg h0
  have v3 : IntKind.i64.wrap (n / 256) = n / 256 := by rw [IntKind.wrap_i64]; omega
  have v4 : IntKind.i64.wrap (n % 256) = n % 256 := by rw [IntKind.wrap_i64]; omega
  obtain ⟨p, hp⟩ : ∃ p, IntKind.u8.wrap (n / 256) = p := ⟨_, rfl⟩
  obtain ⟨q, hq⟩ : ∃ q, IntKind.u8.wrap (n % 256) = q := ⟨_, rfl⟩
  go_enter Tryz.func153, Tryz.ntmps153
  go_wp2
  go_ret
  refine ⟨_, _, rfl, ⟨?_, rfl⟩, by (repeat (first | exact Below.refl _ _ | assumption | refine Below.drew ?_ | refine balloc ?_ _ | refine bset ?_ (by simp; omega) _ | refine bset ?_ (by simp) _ | refine bstep ?_ (by assumption)))⟩
  have hr := World.ownsRow_lit (base := w.heap.size) (e := 5) (size := 1) w #[.int .u8 p, .int .u8 q] 2 (by simp) (by unfold maxLen; omega) rfl
  have e1 : q = ((toB n).val : Int) := by rw [← hq, wrapB, toB_val, toB_val]; omega
  have e2 : p = ((toB (n / 256)).val : Int) := by rw [← hp, wrapB]
  rw [hiB_two]
  simpa [bytesC, ← e1, ← e2] using hr

/-- a record's frame -/
def frameB (xs : List Byte) : List Byte := hiB xs.length 2 ++ hiB (chk xs) 2 ++ xs
theorem length_frameB (xs : List Byte) : (frameB xs).length = xs.length + 4 := by
  simp only [frameB, List.length_append, length_hiB]; omega

set_option maxHeartbeats 1000000 in
theorem l3Frame_any (x : Value) (xs : List Byte) (w : World) (hx : bytesR.V w x xs) (hn : xs.length ≤ 500) :
    Calls Tryz.prog 116 #[x] w fun e w' => ∃ v F, e = .returned v ∧ bytesR.O w' w.heap.size F v (frameB xs) ∧ Below w.heap.size w w' := by
  have hX := hx
  obtain ⟨ax, cx, rfl, hcx, hmx, _⟩ := hx
  obtain ⟨c0, c1⟩ := chk_rng xs
  have HF : Hid (frameB xs = hiB xs.length 2 ++ hiB (chk xs) 2 ++ xs) := rfl
  have HL1 : Hid ((hiB xs.length 2).length = 2) := length_hiB _ _
  have HL2 : Hid ((hiB (chk xs) 2).length = 2) := length_hiB _ _
  go_enter Tryz.func116, Tryz.ntmps116
  go_wp2_with fail
  refine (l3Short_any (xs.length : Int) _ (by omega) (by omega)).mono ?_
  rintro e w1 ⟨v1, F1, rfl, o1, hb1⟩
  obtain ⟨a1, n1, rfl⟩ := bytes_form (bytesR.ofO o1)
  go_wp2_with fail
  refine (specChk_any _ xs _ (bytesR.below hX (by (repeat (first | exact Below.refl _ _ | assumption | refine Below.drew ?_ | refine balloc ?_ _ | refine bset ?_ (by simp; omega) _ | refine bset ?_ (by simp) _ | refine bstep ?_ (by assumption)))))).mono ?_
  rintro e w2 ⟨rfl, rfl⟩
  generalize hiB xs.length 2 = d1 at *
  go_wp2_with fail
  refine (l3Short_any (chk xs) _ c0 (by omega)).mono ?_
  rintro e w3 ⟨v2, F2, rfl, o2, hb2⟩
  obtain ⟨a2, n2, rfl⟩ := bytes_form (bytesR.ofO o2)
  generalize hiB (chk xs) 2 = d2 at *
  have o1' := bytesR.keep o1 hb2
  have s1 := hb1.size
  have s2 := hb2.size
  have hB2 : Below w.heap.size w w3 := by (repeat (first | exact Below.refl _ _ | assumption | refine Below.drew ?_ | refine balloc ?_ _ | refine bset ?_ (by simp; omega) _ | refine bset ?_ (by simp) _ | refine bstep ?_ (by assumption)))
  have t2 := appAny_bytes (bytesR.ofO o2)
  have l2 : d1.length + d2.length ≤ 1073741824 := by have := HL1.out; have := HL2.out; omega
  have l3 : (d1 ++ d2).length + xs.length ≤ 1073741824 := by rw [List.length_append]; have := HL1.out; have := HL2.out; omega
  go_wp2_with (at_builtin; refine wpList_appB _ rfl _ _ rfl w.heap.size _ d1 rfl _ d2 rfl o1'.1 t2 l2 (Nat.le_trans s1 s2) ?_)
  intro v3 w4 o3 hg hB
  have hB4 := hB w hB2
  clear o1 o1' o2 hb1 hb2 hg hB hB2 t2 l2
  have s4 := hB4.size
  have t3 := appAny_bytes (bytesR.below hX hB4)
  have o3' : World.ownsRow w4 w.heap.size 5 1 v3 (d1 ++ d2).length (bytesC (d1 ++ d2)) := by simpa using o3
  clear o3
  generalize d1 ++ d2 = d3 at *
  obtain ⟨a3, n3, rfl⟩ := owns_form o3'
  go_wp2_with (at_builtin; refine wpList_appB _ rfl _ _ rfl w.heap.size _ d3 rfl _ xs rfl o3' t3 l3 s4 ?_)
  intro v4 w5 o4 hg hB
  have hB5 := hB w hB4
  have o4' : World.ownsRow w5 w.heap.size 5 1 v4 (d3 ++ xs).length (bytesC (d3 ++ xs)) := by simpa using o4
  have HO : Hid (World.ownsRow w5 w.heap.size 5 1 v4 (d3 ++ xs).length (bytesC (d3 ++ xs))) := o4'
  obtain ⟨a4, n4, rfl⟩ := owns_form o4'
  clear o4 o4' hg hB o3' t3 l3
  go_wp2
  go_ret
  refine ⟨_, _, rfl, ⟨?_, rfl⟩, hB5⟩
  rw [HF.out]
  exact HO.out

def frameD (xs : List Byte) : BytesR := if 1 ≤ xs.length ∧ xs.length ≤ 500 then ⟨0, frameB xs⟩ else ⟨2, []⟩
theorem bytesR_nil (w : World) (base : Nat) (c : Int) : bytesRR.O w base none_ (.agg #[.int .i64 c, .slice none 0 0]) ⟨c, []⟩ :=
  ⟨.slice none 0 0, none_, rfl, ⟨by simpa [bytesC] using World.ownsRow_nil w base 5 1, by funext b; simp [none_, Value.ownBlock]⟩, fun b => Iff.rfl⟩

set_option maxHeartbeats 1000000 in
theorem implFrame_u (x : Value) (xs : List Byte) (w : World) (hx : bytesR.V w x xs) :
    Calls Tryz.prog 120 #[x] w fun e w' => ∃ v F, e = .returned v ∧ bytesRR.O w' w.heap.size F v (frameD xs) ∧ Below w.heap.size w w' := by
  have hX := hx
  obtain ⟨ax, cx, rfl, hcx, hmx, _⟩ := hx
  unfold maxLen at hmx
  by_cases h : 1 ≤ xs.length ∧ xs.length ≤ 500
  · have HD : Hid (frameD xs = ⟨0, frameB xs⟩) := if_pos h
    obtain ⟨h1, h2⟩ := h
    obtain ⟨c0, c1⟩ := chk_rng xs
    have HF : Hid (frameB xs = [hiB xs.length 2, hiB (chk xs) 2, xs].flatten) := by simp [Hid, frameB]
    have HL : Hid ([hiB xs.length 2, hiB (chk xs) 2, xs].flatten.length ≤ 1073741824) := by
      simp only [Hid, List.flatten_cons, List.flatten_nil, List.length_append, length_hiB, List.length_nil]; omega
    have u1 : IntKind.u64.wrap (xs.length : Int) = xs.length := wrapU (by omega) (by omega)
    have u2 : IntKind.u64.wrap (chk xs) = chk xs := wrapU (by omega) (by omega)
    go_enter Tryz.func120, Tryz.ntmps120
    go_wp2_with fail
    refine (highest_any _ 2 2 _ rfl (by omega)).mono ?_
    rintro e w1 ⟨v1, rfl, o1, hb1⟩
    have V1 : bytesR.V w1 v1 (hiB xs.length 2) := BytesV_of_owns (by rw [length_hiB]; exact o1)
    clear o1
    obtain ⟨a1, n1, rfl⟩ := bytes_form V1
    generalize hiB xs.length 2 = d1 at *
    have hr0 : w1.cell? ⟨w.heap.size, 0, none⟩ = some (.int .i64 0) := cell_keep hb1 (by simp [go_sem])
    have hr1 : w1.cell? ⟨w.heap.size, 1, none⟩ = some (.slice none 0 0) := cell_keep hb1 (by simp [go_sem])
    have hrf : (∀ o, w1.frozen? ⟨w.heap.size, o, none⟩ = false) ∧ w.heap.size < w1.heap.size := (boxNew2 hb1 rfl).2.2
    have hB1 : Below w.heap.size w w1 := by (repeat (first | exact Below.refl _ _ | assumption | refine Below.drew ?_ | refine balloc ?_ _ | refine bset ?_ (by simp; omega) _ | refine bset ?_ (by simp) _ | refine bstep ?_ (by assumption)))
    go_wp2_with fail
    refine (implChk_any _ xs _ (bytesR.below hX (by (repeat (first | exact Below.refl _ _ | assumption | refine Below.drew ?_ | refine balloc ?_ _ | refine bset ?_ (by simp; omega) _ | refine bset ?_ (by simp) _ | refine bstep ?_ (by assumption)))))).mono ?_
    rintro e w2 ⟨rfl, rfl⟩
    go_wp2_with fail
    refine (highest_any _ 2 2 _ rfl (by omega)).mono ?_
    rintro e w3 ⟨v2, rfl, o2, hb3⟩
    have V2 : bytesR.V w3 v2 (hiB (chk xs) 2) := BytesV_of_owns (by rw [length_hiB]; exact o2)
    clear o2
    obtain ⟨a2, n2, rfl⟩ := bytes_form V2
    generalize hiB (chk xs) 2 = d2 at *
    replace V1 := bytesR.below V1 hb3
    replace hr0 := cell_keep hb3 hr0
    replace hr1 := cell_keep hb3 hr1
    replace hrf := boxKeep hrf hb3
    have hB3 : Below w.heap.size w w3 := by (repeat (first | exact Below.refl _ _ | assumption | refine Below.drew ?_ | refine balloc ?_ _ | refine bset ?_ (by simp; omega) _ | refine bset ?_ (by simp) _ | refine bstep ?_ (by assumption)))
    clear hb1 hb3 hB1
    go_wp2_with fail
    refine (joined_any _ [d1, d2, xs] _ (bytess3 (g := w3.heap.size) (by simp [go_sem]) (by simp [go_sem]) (by simp [go_sem]) (bytesR.below V1 (by (repeat (first | exact Below.refl _ _ | assumption | refine Below.drew ?_ | refine balloc ?_ _ | refine bset ?_ (by simp; omega) _ | refine bset ?_ (by simp) _ | refine bstep ?_ (by assumption))))) (bytesR.below V2 (by (repeat (first | exact Below.refl _ _ | assumption | refine Below.drew ?_ | refine balloc ?_ _ | refine bset ?_ (by simp; omega) _ | refine bset ?_ (by simp) _ | refine bstep ?_ (by assumption))))) (bytesR.below hX (by (repeat (first | exact Below.refl _ _ | assumption | refine Below.drew ?_ | refine balloc ?_ _ | refine bset ?_ (by simp; omega) _ | refine bset ?_ (by simp) _ | refine bstep ?_ (by assumption)))))) HL.out).mono ?_
    rintro e w4 ⟨v3, F3, rfl, o3, hb4⟩
    replace hr0 := cell_keep hb4 (cell_keep (by (repeat (first | exact Below.refl _ _ | assumption | refine Below.drew ?_ | refine balloc ?_ _ | refine bset ?_ (by simp; omega) _ | refine bset ?_ (by simp) _ | refine bstep ?_ (by assumption)))) hr0)
    replace hr1 := cell_keep hb4 (cell_keep (by (repeat (first | exact Below.refl _ _ | assumption | refine Below.drew ?_ | refine balloc ?_ _ | refine bset ?_ (by simp; omega) _ | refine bset ?_ (by simp) _ | refine bstep ?_ (by assumption)))) hr1)
    replace hrf := boxKeep (boxKeep hrf (by (repeat (first | exact Below.refl _ _ | assumption | refine Below.drew ?_ | refine balloc ?_ _ | refine bset ?_ (by simp; omega) _ | refine bset ?_ (by simp) _ | refine bstep ?_ (by assumption))))) hb4
    obtain ⟨hrf, hlt⟩ := hrf
    have hB4 : Below w.heap.size w w4 := by (repeat (first | exact Below.refl _ _ | assumption | refine Below.drew ?_ | refine balloc ?_ _ | refine bset ?_ (by simp; omega) _ | refine bset ?_ (by simp) _ | refine bstep ?_ (by assumption)))
    have hsz := hB3.size
    have o3' := bytesR.base (base' := w.heap.size + 1) o3 (by simp; omega)
    rw [← HF.out] at o3'
    obtain ⟨a3, n3, rfl⟩ := bytes_form (bytesR.ofO o3')
    clear o3 V1 V2 hb4 hB3
    go_wp2
    refine bodyPost_ret (v := .agg #[.int .i64 0, .slice a3 (frameB xs).length n3]) ?_ rfl ⟨_, F3, rfl, ?_, by (repeat (first | exact Below.refl _ _ | assumption | refine Below.drew ?_ | refine balloc ?_ _ | refine bset ?_ (by simp; omega) _ | refine bset ?_ (by simp) _ | refine bstep ?_ (by assumption)))⟩
    · simp [results, Tryz.results120, go_sem, hr0, hr1]
    · rw [HD.out]
      exact ⟨_, F3, rfl, bytesR.base (base := w.heap.size + 1) (bytesR.set (bytesR.set o3' _ (by simp)) _ (by simp)) (by omega), fun b => Iff.rfl⟩
  · have HD : Hid (frameD xs = ⟨2, []⟩) := if_neg h
    have h' : xs.length < 1 ∨ 500 < xs.length := by omega
    generalize xs.length = n at *
    go_enter Tryz.func120, Tryz.ntmps120
    rcases h' with h1 | h1
    all_goals
      clear h
      go_wp2
      refine bodyPost_ret (v := .agg #[.int .i64 2, .slice none 0 0]) ?_ rfl ?_
      · simp [results, Tryz.results120, go_sem]
      · rw [HD.out]
        first | exact ⟨_, none_, rfl, bytesR_nil _ _ _, by (repeat (first | exact Below.refl _ _ | assumption | refine Below.drew ?_ | refine balloc ?_ _ | refine bset ?_ (by simp; omega) _ | refine bset ?_ (by simp) _ | refine bstep ?_ (by assumption)))⟩ | exact ⟨_, rfl, ⟨none_, bytesR_nil _ _ _⟩, by (repeat (first | exact Below.refl _ _ | assumption | refine Below.drew ?_ | refine balloc ?_ _ | refine bset ?_ (by simp; omega) _ | refine bset ?_ (by simp) _ | refine bstep ?_ (by assumption)))⟩

end Go.Proofs.YtdfapehonegeeaaGreat

/-
  PackText on both sides.
-/
namespace Go.Proofs.YtdfapehonegeeaaGreat
open Go.RowKit
set_option linter.unusedSectionVars false
variable [DecidableEq BytesR] [Inhabited BytesR]
attribute [local go_sem ↓] Go.wp_at_zero Go.wp_at_succ

theorem frozen_grown {w w' : World} {row : Option Nat} {a : Addr} (hg : w.grownBy w' row) (h : w.frozen? a = false) (hlt : a.block < w.heap.size) (hne : some a.block ≠ row) : w'.frozen? a = false := by
  have e := hg.block a.block hlt hne
  unfold World.frozen? at h ⊢
  rw [e]
  exact h

def textD (s : ByteArray) : BytesR := if s.size ≤ 200 then ⟨0, [toB s.size] ++ strB s⟩ else ⟨2, []⟩

set_option maxHeartbeats 1000000 in
theorem specText_u (s : ByteArray) (hs : s.size ≤ maxLen) (w : World) :
    Calls Tryz.prog 118 #[.string s] w fun e w' => ∃ v F, e = .returned v ∧ bytesRR.O w' w.heap.size F v (textD s) ∧ Below w.heap.size w w' := by
  have hs' := hs
  unfold maxLen at hs'
  by_cases h : s.size ≤ 200
  · have HD : Hid (textD s = ⟨0, [toB s.size] ++ strB s⟩) := if_pos h
    have hc := fun w => Lib.run_convert_string_bytes (P := Tryz.prog) w 9 22 5 s Tryz.underlying9 Tryz.underlying22 Tryz.underlying5
    obtain ⟨q, hq⟩ : ∃ q, IntKind.u8.wrap (s.size : Int) = q := ⟨_, rfl⟩
    have HQ : Hid (q = ((toB s.size).val : Int)) := by rw [← hq]; exact wrapB _
    have HL : Hid ((strB s).length = s.size) := length_strB s
    go_enter Tryz.func118, Tryz.ntmps118
    have r0 := World.ownsRow_lit (base := w.heap.size + 1) (e := 5) (size := 1) (w.alloc (.cells #[.int .i64 0, .slice none 0 0] 146)) #[.int .u8 q] 1 (by simp) (by unfold maxLen; omega) rfl
    have r1 := owns_below r0 (below_bytesWorld _ 5 s)
    have t1 := appAny_bytes (bytesV_str ((w.alloc (.cells #[.int .i64 0, .slice none 0 0] 146)).alloc (.cells #[.int .u8 q] 5)) 5 s hs)
    have hbw := below_bytesWorld ((w.alloc (.cells #[.int .i64 0, .slice none 0 0] 146)).alloc (.cells #[.int .u8 q] 5)) 5 s
    have hB0 : Below w.heap.size w (Lib.bytesWorld ((w.alloc (.cells #[.int .i64 0, .slice none 0 0] 146)).alloc (.cells #[.int .u8 q] 5)) 5 s) := by (repeat (first | exact Below.refl _ _ | assumption | refine Below.drew ?_ | refine balloc ?_ _ | refine bset ?_ (by simp; omega) _ | refine bset ?_ (by simp) _ | refine bstep ?_ (by assumption)))
    have hr0 := cell_keep (a := ⟨w.heap.size, 0, none⟩) (v := .int .i64 0) hbw (by simp [go_sem])
    have hr1 := cell_keep (a := ⟨w.heap.size, 1, none⟩) (v := .slice none 0 0) hbw (by simp [go_sem])
    have hrf : ∀ o, (Lib.bytesWorld ((w.alloc (.cells #[.int .i64 0, .slice none 0 0] 146)).alloc (.cells #[.int .u8 q] 5)) 5 s).frozen? ⟨w.heap.size, o, none⟩ = false := fun o => by rw [(bcell hbw).2 _ _ (by simp; omega)]; simp [go_sem]
    have hz : w.heap.size + 1 ≤ (Lib.bytesWorld ((w.alloc (.cells #[.int .i64 0, .slice none 0 0] 146)).alloc (.cells #[.int .u8 q] 5)) 5 s).heap.size := by have := hbw.size; simp at this; omega
    simp only [World.size_alloc] at r1 t1
    have e1 : bytesC [toB s.size] = [.int .u8 q] := by rw [HQ.out]; rfl
    have l2 : [toB (s.size : Int)].length + (strB s).length ≤ 1073741824 := by rw [HL.out]; simp; omega
    generalize hY : Lib.bytesWorld ((w.alloc (.cells #[.int .i64 0, .slice none 0 0] 146)).alloc (.cells #[.int .u8 q] 5)) 5 s = Y at *
    clear hbw r0
    rw [← e1] at r1
    clear e1
    go_wp2_with (at_builtin; refine wpList_appB _ rfl _ _ rfl (w.heap.size + 1) _ [toB (s.size : Int)] rfl _ (strB s) rfl r1 t1 l2 hz ?_)
    intro v' w1 ho' hg hB
    have hB1 : Below w.heap.size w w1 := hB0.grown hg hB0.size (fun k hk => by have := r1.lt k hk; omega)
    have n0 : some w.heap.size ≠ (Value.slice (some ⟨w.heap.size + 1, 0, none⟩) 1 1).ownBlock := by simp [Value.ownBlock]
    replace hr0 := hg.cell hr0 n0
    replace hr1 := hg.cell hr1 n0
    have hrf1 : ∀ o, w1.frozen? ⟨w.heap.size, o, none⟩ = false := fun o => frozen_grown hg (hrf o) (by dsimp only; omega) n0
    have o1 : bytesR.O w1 (w.heap.size + 1) (fun b => v'.ownBlock = some b) v' ([toB (s.size : Int)] ++ strB s) := ⟨by simpa using ho', rfl⟩
    clear hg hB ho' hrf hB0 r1 t1 l2 hz hY hc hq
    rw [← HL.out] at h
    obtain ⟨a1, n1, rfl⟩ := bytes_form (bytesR.ofO o1)
    generalize [toB (s.size : Int)] ++ strB s = D at *
    go_wp2
    refine bodyPost_ret (v := .agg #[.int .i64 0, .slice a1 D.length n1]) ?_ rfl ⟨_, (fun b => (Value.slice a1 D.length n1).ownBlock = some b), rfl, ?_, by (repeat (first | exact Below.refl _ _ | assumption | refine Below.drew ?_ | refine balloc ?_ _ | refine bset ?_ (by simp; omega) _ | refine bset ?_ (by simp) _ | refine bstep ?_ (by assumption)))⟩
    · simp [results, Tryz.results118, go_sem, hr0, hr1]
    · rw [HD.out]
      exact ⟨_, _, rfl, bytesR.base (base := w.heap.size + 1) (bytesR.set (bytesR.set o1 _ (by simp)) _ (by simp)) (by omega), fun b => Iff.rfl⟩
  · have HD : Hid (textD s = ⟨2, []⟩) := if_neg h
    go_enter Tryz.func118, Tryz.ntmps118
    go_wp2
    refine bodyPost_ret (v := .agg #[.int .i64 2, .slice none 0 0]) ?_ rfl ?_
    · simp [results, Tryz.results118, go_sem]
    · rw [HD.out]
      first | exact ⟨_, none_, rfl, bytesR_nil _ _ _, by (repeat (first | exact Below.refl _ _ | assumption | refine Below.drew ?_ | refine balloc ?_ _ | refine bset ?_ (by simp; omega) _ | refine bset ?_ (by simp) _ | refine bstep ?_ (by assumption)))⟩ | exact ⟨_, rfl, ⟨none_, bytesR_nil _ _ _⟩, by (repeat (first | exact Below.refl _ _ | assumption | refine Below.drew ?_ | refine balloc ?_ _ | refine bset ?_ (by simp; omega) _ | refine bset ?_ (by simp) _ | refine bstep ?_ (by assumption)))⟩

set_option maxHeartbeats 1000000 in
theorem implText_u (s : ByteArray) (hs : s.size ≤ maxLen) (w : World) :
    Calls Tryz.prog 124 #[.string s] w fun e w' => ∃ v F, e = .returned v ∧ bytesRR.O w' w.heap.size F v (textD s) ∧ Below w.heap.size w w' := by
  have hs' := hs
  unfold maxLen at hs'
  by_cases h : s.size ≤ 200
  · have HD : Hid (textD s = ⟨0, [toB s.size] ++ strB s⟩) := if_pos h
    have HF : Hid ([[toB s.size], strB s].flatten = [toB s.size] ++ strB s) := by simp [Hid]
    have HL : Hid ([[toB s.size], strB s].flatten.length ≤ 1073741824) := by
      simp only [Hid, List.flatten_cons, List.flatten_nil, List.length_append, length_strB, List.length_nil, List.length_cons]; omega
    have hc := fun w => Lib.run_convert_string_bytes (P := Tryz.prog) w 9 22 5 s Tryz.underlying9 Tryz.underlying22 Tryz.underlying5
    go_enter Tryz.func124, Tryz.ntmps124
    go_wp2_with fail
    refine (singles_any _ [(s.size : Int)] _ (nums1 (g := w.heap.size + 1) (by simp [go_sem])) (by simp)).mono ?_
    rintro e w1 ⟨v1, F1, rfl, o1, hb1⟩
    have hr0 : w1.cell? ⟨w.heap.size, 0, none⟩ = some (.int .i64 0) := cell_keep hb1 (by simp [go_sem])
    have hr1 : w1.cell? ⟨w.heap.size, 1, none⟩ = some (.slice none 0 0) := cell_keep hb1 (by simp [go_sem])
    have hrf : ∀ o, w1.frozen? ⟨w.heap.size, o, none⟩ = false := fun o => by rw [(bcell hb1).2 _ _ (by simp; omega)]; simp [go_sem]
    have hz : w.heap.size < w1.heap.size := World.block_lt_of_cell? _ _ hr0
    have V1 := bytesR.ofO o1
    rw [show [(s.size : Int)].map toB = [toB s.size] from rfl] at V1
    have hB1 : Below w.heap.size w w1 := by (repeat (first | exact Below.refl _ _ | assumption | refine Below.drew ?_ | refine balloc ?_ _ | refine bset ?_ (by simp; omega) _ | refine bset ?_ (by simp) _ | refine bstep ?_ (by assumption)))
    clear o1 hb1
    obtain ⟨a1, n1, rfl⟩ := bytes_form V1
    have hbw := below_bytesWorld w1 5 s
    have V2 : bytesR.V _ _ (strB s) := bytesV_str w1 5 s hs
    replace V1 := bytesR.below V1 hbw
    replace hr0 := cell_keep hbw hr0
    replace hr1 := cell_keep hbw hr1
    have hrg := boxKeep ⟨hrf, hz⟩ hbw
    have hB2 : Below w.heap.size w (Lib.bytesWorld w1 5 s) := bstep hB1 hbw
    have hzz := hbw.size
    clear hbw hrf hB1
    go_wp2_with fail
    refine (joined_any _ [[toB s.size], strB s] _ (bytess2 (g := (Lib.bytesWorld w1 5 s).heap.size) (by simp [go_sem]) (by simp [go_sem]) (bytesR.below V1 (by (repeat (first | exact Below.refl _ _ | assumption | refine Below.drew ?_ | refine balloc ?_ _ | refine bset ?_ (by simp; omega) _ | refine bset ?_ (by simp) _ | refine bstep ?_ (by assumption))))) (bytesR.below V2 (by (repeat (first | exact Below.refl _ _ | assumption | refine Below.drew ?_ | refine balloc ?_ _ | refine bset ?_ (by simp; omega) _ | refine bset ?_ (by simp) _ | refine bstep ?_ (by assumption)))))) HL.out).mono ?_
    rintro e w4 ⟨v3, F3, rfl, o3, hb4⟩
    replace hr0 := cell_keep hb4 (cell_keep (by (repeat (first | exact Below.refl _ _ | assumption | refine Below.drew ?_ | refine balloc ?_ _ | refine bset ?_ (by simp; omega) _ | refine bset ?_ (by simp) _ | refine bstep ?_ (by assumption)))) hr0)
    replace hr1 := cell_keep hb4 (cell_keep (by (repeat (first | exact Below.refl _ _ | assumption | refine Below.drew ?_ | refine balloc ?_ _ | refine bset ?_ (by simp; omega) _ | refine bset ?_ (by simp) _ | refine bstep ?_ (by assumption)))) hr1)
    replace hrg := boxKeep (boxKeep hrg (by (repeat (first | exact Below.refl _ _ | assumption | refine Below.drew ?_ | refine balloc ?_ _ | refine bset ?_ (by simp; omega) _ | refine bset ?_ (by simp) _ | refine bstep ?_ (by assumption))))) hb4
    obtain ⟨hrf, hlt⟩ := hrg
    have hB4 : Below w.heap.size w w4 := by (repeat (first | exact Below.refl _ _ | assumption | refine Below.drew ?_ | refine balloc ?_ _ | refine bset ?_ (by simp; omega) _ | refine bset ?_ (by simp) _ | refine bstep ?_ (by assumption)))
    have o3' := bytesR.base (base' := w.heap.size + 1) o3 (by simp; omega)
    rw [HF.out] at o3'
    obtain ⟨a3, n3, rfl⟩ := bytes_form (bytesR.ofO o3')
    clear o3 V1 V2 hb4 hB2 hzz hc
    generalize [toB (s.size : Int)] ++ strB s = D at *
    go_wp2
    refine bodyPost_ret (v := .agg #[.int .i64 0, .slice a3 D.length n3]) ?_ rfl ⟨_, F3, rfl, ?_, by (repeat (first | exact Below.refl _ _ | assumption | refine Below.drew ?_ | refine balloc ?_ _ | refine bset ?_ (by simp; omega) _ | refine bset ?_ (by simp) _ | refine bstep ?_ (by assumption)))⟩
    · simp [results, Tryz.results124, go_sem, hr0, hr1]
    · rw [HD.out]
      exact ⟨_, F3, rfl, bytesR.base (base := w.heap.size + 1) (bytesR.set (bytesR.set o3' _ (by simp)) _ (by simp)) (by omega), fun b => Iff.rfl⟩
  · have HD : Hid (textD s = ⟨2, []⟩) := if_neg h
    go_enter Tryz.func124, Tryz.ntmps124
    go_wp2
    refine bodyPost_ret (v := .agg #[.int .i64 2, .slice none 0 0]) ?_ rfl ?_
    · simp [results, Tryz.results124, go_sem]
    · rw [HD.out]
      first | exact ⟨_, none_, rfl, bytesR_nil _ _ _, by (repeat (first | exact Below.refl _ _ | assumption | refine Below.drew ?_ | refine balloc ?_ _ | refine bset ?_ (by simp; omega) _ | refine bset ?_ (by simp) _ | refine bstep ?_ (by assumption)))⟩ | exact ⟨_, rfl, ⟨none_, bytesR_nil _ _ _⟩, by (repeat (first | exact Below.refl _ _ | assumption | refine Below.drew ?_ | refine balloc ?_ _ | refine bset ?_ (by simp; omega) _ | refine bset ?_ (by simp) _ | refine bstep ?_ (by assumption)))⟩

theorem textD_le (s : ByteArray) : (textD s).bytes.length ≤ 201 := by
  unfold textD
  split
  · simp only [List.length_append, length_strB, List.length_cons, List.length_nil]; omega
  · simp
theorem frameD_le (xs : List Byte) : (frameD xs).bytes.length ≤ 504 := by
  unfold frameD
  split
  · rw [length_frameB]; omega
  · simp

end Go.Proofs.YtdfapehonegeeaaGreat

/-
  A row of a table: the law's own copy, comparison, count; RowFault on both sides.
-/
namespace Go.Proofs.YtdfapehonegeeaaGreat
open Go.RowKit
set_option linter.unusedSectionVars false
attribute [local go_sem ↓] Go.wp_at_zero Go.wp_at_succ
set_option linter.unusedSimpArgs false

structure Rw where
  key : ByteArray
  ver : Int
  val : ByteArray
  gone : Bool

variable [DecidableEq Rw] [Inhabited Rw]

def rowV (x : Rw) : Value := .agg #[.string x.key, .int .i64 x.ver, .string x.val, .bool x.gone]

set_option maxHeartbeats 400000 in
theorem toRow_any (x : Rw) (w : World) :
    Calls Tryz.prog 106 #[rowV x] w fun e w' => e = .returned (rowV x) ∧ Below w.heap.size w w' := by
  obtain ⟨a, b, c, d⟩ := x
  unfold rowV
  go_enter Tryz.func106, Tryz.ntmps106
  go_wp2
  exact bodyPost_ret (v := .agg #[.string a, .int .i64 b, .string c, .bool d]) (by simp [results, Tryz.results106, go_sem]) rfl ⟨rfl, balloc (balloc (balloc (Below.refl _ _) _) _) _⟩

set_option maxHeartbeats 400000 in
theorem eqRow_any (x y : Rw) (w : World) :
    Calls Tryz.prog 114 #[rowV x, rowV y] w fun e w' => e = .returned (.bool (decide (x = y))) ∧ Below w.heap.size w w' := by
  obtain ⟨a, b, c, d⟩ := x
  obtain ⟨a', b', c', d'⟩ := y
  unfold rowV
  go_enter Tryz.func114, Tryz.ntmps114
  go_wp2
  all_goals
    go_ret
    exact ⟨by simp_all [tl_inj], balloc (balloc (Below.refl _ _) _) _⟩

def inR (a lo hi : Int) : Bool := decide (lo ≤ a ∧ a ≤ hi)

theorem l1InR_any (a lo hi : Int) (w : World) :
    Calls Tryz.prog 44 #[.int .i64 a, .int .i64 lo, .int .i64 hi] w fun e w' => e = .returned (.bool (inR a lo hi)) ∧ w' = w := by
  go_enter Tryz.func44, Tryz.ntmps44
  go_wp2
  all_goals
    go_ret
    exact ⟨by unfold inR; simp_all <;> omega, rfl⟩

theorem withinR_any (a lo hi : Int) (w : World) :
    Calls Tryz.prog 109 #[.int .i64 a, .int .i64 lo, .int .i64 hi] w fun e w' => e = .returned (.bool (inR a lo hi)) ∧ w' = w := by
  go_enter Tryz.func109, Tryz.ntmps109
  go_wp2
  all_goals
    go_ret
    exact ⟨by unfold inR; simp_all <;> omega, rfl⟩

def rowFault (x : Rw) : Int :=
  if x.key.size < 1 ∨ 20 < x.key.size ∨ (x.gone = true ∧ 0 < x.val.size) then 1 else if 100 < x.val.size then 2 else if inR x.ver 1 1000000 then 0 else 3

set_option maxHeartbeats 400000 in
theorem specRowFault_any (x : Rw) (w : World) :
    Calls Tryz.prog 101 #[rowV x] w fun e w' => e = .returned (.int .i64 (rowFault x)) ∧ Below w.heap.size w w' := by
  obtain ⟨a, b, c, d⟩ := x
  unfold rowV
  cases d <;> cases hin : inR b 1 1000000
  all_goals
    go_enter Tryz.func101, Tryz.ntmps101
    go_wp2_with (go_at_call 44; refine (l1InR_any _ _ _ _).mono ?_; rintro e w' ⟨rfl, rfl⟩; rw [hin])
    all_goals
      go_ret
      refine ⟨?_, balloc (Below.refl _ _) _⟩
      refine congrArg (fun z => Ending.returned (Value.int .i64 z)) ?_
      try simp only [tl_nil, tl_empty, Bool.not_eq_true', Bool.not_eq_false', decide_eq_true_eq, decide_eq_false_iff_not] at *
      unfold rowFault
      simp only [hin, true_and, false_and, or_false, Bool.false_eq_true, if_true, if_false]
      repeat (first | rfl | (exfalso; omega) | rw [if_pos (by omega)] | rw [if_neg (by omega)])

set_option maxHeartbeats 400000 in
theorem implRowFault_any (x : Rw) (w : World) :
    Calls Tryz.prog 148 #[rowV x] w fun e w' => e = .returned (.int .i64 (rowFault x)) ∧ Below w.heap.size w w' := by
  obtain ⟨a, b, c, d⟩ := x
  unfold rowV
  cases d <;> cases hin : inR b 1 1000000
  all_goals
    go_enter Tryz.func148, Tryz.ntmps148
    go_wp2_with (go_at_call 109; refine (withinR_any _ _ _ _).mono ?_; rintro e w' ⟨rfl, rfl⟩; rw [hin])
    all_goals
      go_ret
      refine ⟨?_, balloc (Below.refl _ _) _⟩
      refine congrArg (fun z => Ending.returned (Value.int .i64 z)) ?_
      try simp only [tl_nil, tl_empty, Bool.not_eq_true', Bool.not_eq_false', decide_eq_true_eq, decide_eq_false_iff_not] at *
      unfold rowFault
      simp only [hin, true_and, false_and, or_false, Bool.false_eq_true, if_true, if_false]
      repeat (first | rfl | (exfalso; omega) | rw [if_pos (by omega)] | rw [if_neg (by omega)])

/-- how many letters a row has -/
def wtRw (x : Rw) : Nat := x.key.size + x.val.size

set_option maxHeartbeats 400000 in
theorem szRow_any (x : Rw) (left : Int) (w : World) (hk : x.key.size ≤ maxLen) (hv : x.val.size ≤ maxLen) (h0 : 0 ≤ left) (h1 : left ≤ 1048576) :
    Calls Tryz.prog 100 #[rowV x, .int .i64 left] w fun e w' => e = .returned (.int .i64 (szLen left (wtRw x : Nat))) ∧ Below w.heap.size w w' := by
  obtain ⟨a, b, c, d⟩ := x
  unfold rowV
  unfold maxLen at hk hv
  dsimp only [wtRw] at *
  have e1 : wrap64 (left - a.size) = left - a.size := by unfold wrap64; omega
  by_cases h : left - (a.size : Int) < 0
  · go_enter Tryz.func100, Tryz.ntmps100
    go_wp2
    go_ret
    exact ⟨by rw [szLen, if_pos (by omega)]; rfl, balloc (Below.refl _ _) _⟩
  · have e2 : wrap64 (left - a.size - c.size) = left - a.size - c.size := by unfold wrap64; omega
    by_cases h2 : left - (a.size : Int) - (c.size : Int) < 0
    · go_enter Tryz.func100, Tryz.ntmps100
      go_wp2
      go_ret
      exact ⟨by rw [szLen, if_pos (by omega)]; rfl, balloc (Below.refl _ _) _⟩
    · go_enter Tryz.func100, Tryz.ntmps100
      go_wp2
      go_ret
      refine ⟨?_, balloc (Below.refl _ _) _⟩
      rw [szLen, if_neg (by omega)]
      refine congrArg (fun z => Ending.returned (Value.int .i64 z)) ?_
      omega

end Go.Proofs.YtdfapehonegeeaaGreat


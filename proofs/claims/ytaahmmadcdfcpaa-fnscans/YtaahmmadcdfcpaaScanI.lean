/-
  The program's ScanTable.
-/
import Derived.Test.YtaahmmadcdfcpaaScanS
namespace Go.Proofs.Ytaahmmadcdfcpaa
open Go.RowKit Go.Shelf
set_option linter.unusedSectionVars false
variable [DecidableEq Rw] [Inhabited Rw] [DecidableEq KeysR] [Inhabited KeysR] [DecidableEq TabR] [Inhabited TabR]
set_option linter.unusedVariables false
set_option linter.unusedSimpArgs false

section
attribute [local go_sem ↓] Go.wp_at_zero Go.wp_at_succ
set_option maxHeartbeats 1000000 in
theorem litePrefix_any (k p : ByteArray) (w : World) :
    Calls Try.prog 72 #[.string k, .string p] w fun e w' => e = .returned (.bool (hasP k p)) ∧ w' = w := by
  by_cases hsz : p.size ≤ k.size
  · have hd3 : (p.size : Int) ≤ (k.size : Int) := by omega
    have hd4 : (0 : Int) ≤ (p.size : Int) := by omega
    have HE : Hid (hasP k p = ((k.extract 0 p.size).toList == p.toList)) := by rw [Hid]; unfold hasP; simp [hsz]
    go_enter Try.func72, Try.ntmps72
    go_wp2
    go_ret
    refine ⟨?_, rfl⟩
    rw [HE.out]
    rfl
  · have hd3 : ¬ (p.size : Int) ≤ (k.size : Int) := by omega
    have HE : Hid (hasP k p = false) := by rw [Hid]; unfold hasP; simp [hsz]
    go_enter Try.func72, Try.ntmps72
    go_wp2
    go_ret
    refine ⟨?_, rfl⟩
    rw [HE.out]
    rfl
set_option maxHeartbeats 1000000 in
theorem hasPrefix_any (k p : ByteArray) (w : World) :
    Calls Try.prog 32 #[.string k, .string p] w fun e w' => e = .returned (.bool (hasP k p)) ∧ w' = w := by
  go_enter Try.func32, Try.ntmps32
  go_wp2_with (go_at_call 72; refine (litePrefix_any _ _ _).mono ?_; rintro e w' ⟨rfl, rfl⟩)
  go_ret
  exact ⟨rfl, rfl⟩
end

attribute [local go_sem] Oper.semAt_some
attribute [local go_sem] run_store_func

def beg (p : ByteArray) (ys : List Rw) : List Rw := ys.filter (fun r => hasP r.key p)
theorem beg_hit {p : ByteArray} {ys : List Rw} {x : Rw} (h : hasP x.key p = true) : beg p (ys ++ [x]) = beg p ys ++ [x] := by simp [beg, List.filter_append, h]
theorem beg_miss {p : ByteArray} {ys : List Rw} {x : Rw} (h : hasP x.key p = false) : beg p (ys ++ [x]) = beg p ys := by simp [beg, List.filter_append, h]
theorem beg_le (p : ByteArray) (ys : List Rw) : (beg p ys).length ≤ ys.length := List.length_filter_le _ _

set_option maxRecDepth 100000 in
set_option maxHeartbeats 4000000 in
theorem implScan_u (x : Value) (xs : List Rw) (p : ByteArray) (v : Int) (w0 : World) (hx0 : rowsR.V w0 x xs) :
    Calls Try.prog 8 #[x, .string p, .int .i64 v] w0 fun e w' => ∃ u F, e = .returned u ∧ tabRR.O w' w0.heap.size F u (scanD xs p v) ∧ Below w0.heap.size w0 w' := by
  have hfit := hx0.2
  obtain ⟨ax, cx, rfl⟩ := rows_form hx0
  obtain ⟨w, hw⟩ : ∃ w, w0.alloc (.cells #[.string p] 9) = w := ⟨_, rfl⟩
  have hB00 : Below w0.heap.size w0 w := by rw [← hw]; exact balloc (Below.refl _ _) _
  have hws : w.heap.size = w0.heap.size + 1 := by rw [← hw]; simp
  have hwp : w.cell? ⟨w0.heap.size, 0, none⟩ = some (.string p) := by rw [← hw]; simp [go_sem]
  have hX : RowsV w (.slice ax xs.length cx) xs := RowsV_below hx0.1 hB00
  have HX : Hid (RowsV w (.slice ax xs.length cx) xs) := hX
  generalize hN : xs.length = n at *
  have HN : Hid (xs.length = n) := hN
  clear hN hx0
  obtain ⟨i0, hi, hz0, hz1, hz2⟩ := info_parts infoRw
  refine (callsIn_wide (n := 0)).1 ?_
  refine callsIn_of_wp_marks Try.func8 rfl trivial ?_ rfl
  simp only [Try.ntmps8, List.size_toArray, List.length_cons, List.length_nil, Nat.reduceAdd, Nat.reduceSub, Array.replicate_succ, Array.replicate_zero, List.push_toArray, List.append_toArray, List.nil_append, List.cons_append]
  gi_wp2
  simp only [hw, ← hws]
  have HWS : Hid (w.heap.size = w0.heap.size + 1) := hws
  have hzp := World.block_lt_of_cell? _ _ hwp
  dsimp only at hzp
  clear hws hw
  refine ⟨trivial, rfl, (callsIn_wide.2 (implTableFault_any _ xs _ (RowsV_below hX (by (repeat (first | exact Below.refl _ _ | assumption | refine Below.drew ?_ | refine balloc ?_ _ | refine bset ?_ (by simp; omega) _ | refine bset ?_ (by simp) _ | refine bstep ?_ (by assumption))))))).mono ?_⟩
  rintro e w1 ⟨rfl, hb1⟩
  obtain ⟨g1, g2, gf, gz⟩ := boxNew2 hb1 rfl
  have hB1 : Below w.heap.size w w1 := by (repeat (first | exact Below.refl _ _ | assumption | refine Below.drew ?_ | refine balloc ?_ _ | refine bset ?_ (by simp; omega) _ | refine bset ?_ (by simp) _ | refine bstep ?_ (by assumption)))
  clear hb1
  by_cases h0 : tabF xs = 0
  rotate_left
  · have E : Hid (scanD xs p v = ⟨tabF xs, []⟩) := by rw [Hid]; unfold scanD; rw [if_neg h0]
    have h0' : ((tabF xs : Int) == 0) = false := by rw [beq_eq_false_iff_ne]; exact h0
    generalize tabF xs = c at h0 h0' E ⊢
    gi_wp2
    refine ⟨.agg #[.int .i64 c, .slice none 0 0], by simp [results, Try.results8, go_sem, g1, g2, gf], ?_⟩
    obtain ⟨F, hF⟩ := tabRR_nil ((w1.setCell ⟨w.heap.size, 0, none⟩ (.int .i64 c)).setCell ⟨w.heap.size, 1, none⟩ (.slice none 0 0)) w0.heap.size c
    have hBB : Below w0.heap.size w0 ((w1.setCell ⟨w.heap.size, 0, none⟩ (.int .i64 c)).setCell ⟨w.heap.size, 1, none⟩ (.slice none 0 0)) := bstep hB00 (by (repeat (first | exact Below.refl _ _ | assumption | refine Below.drew ?_ | refine balloc ?_ _ | refine bset ?_ (by simp; omega) _ | refine bset ?_ (by simp) _ | refine bstep ?_ (by assumption))))
    rw [← E.out] at hF
    first | exact ⟨_, F, rfl, hF, hBB⟩ | exact ⟨_, rfl, ⟨F, hF⟩, hBB⟩
  have E : Hid (scanD xs p v = ⟨0, beg p (living (lastL v xs))⟩) := by rw [Hid]; unfold scanD; rw [if_pos h0, scan_all (sorted_of h0)]; rfl
  have HF : Hid (Fit (beg p (living (lastL v xs)))) := by
    rw [Hid]
    refine fit_sub hfit (fun y hy => ?_)
    unfold beg living at hy
    rw [lastL_eq] at hy
    exact (lastG_mem (List.mem_filter.1 (List.mem_filter.1 hy).1).1).1
  have hlen := (tabF_all h0).1
  have HLE : Hid (∀ ys, ys <+: living (lastL v xs) → ys.length ≤ 200) := by
    intro ys hy
    have h1 := hy.length_le
    have h2 : (living (lastL v xs)).length ≤ (lastL v xs).length := List.length_filter_le _ _
    have h3 : (lastL v xs).length ≤ xs.length := by
      rw [lastL_eq]
      exact lastG_len
    omega
  rw [h0]
  gi_wp2
  refine ⟨trivial, rfl, (callsIn_wide.2 (tableOf_any _ _ _ _)).mono ?_⟩
  rintro e w2 ⟨rfl, hb2⟩
  have hM12 : Mod (fun _ => False) w1 w2 := (mod_alloc _ _ _).trans (Mod.of_below hb2)
  have t1 : w2.cell? ⟨w1.heap.size, 0, none⟩ = some (.slice none 0 0) := cell_keep hb2 (by simp [go_sem])
  have t2 : w2.frozen? ⟨w1.heap.size, 0, none⟩ = false := by rw [(bcell hb2).2 _ _ (by simp)]; simp [go_sem]
  have s2 := hb2.size
  simp only [World.size_alloc] at s2
  unfold cmpF
  gi_wp2
  refine ⟨trivial, rfl, (callsIn_wide.2 (livingAt_any _ _ _ _ _)).mono ?_⟩
  rintro e w3 ⟨rfl, hw3⟩
  have hM23 : Mod (fun _ => False) w2 w3 := by rw [hw3]; exact (mod_alloc _ _ _).alloc _
  have s3 : w3.heap.size = w2.heap.size + 2 := by rw [hw3]; simp
  have d1 : w3.cell? ⟨w2.heap.size, 0, none⟩ = some (.slice ax n cx) := by rw [hw3]; simp [go_sem]
  have d2 : w3.cell? ⟨w2.heap.size, 1, none⟩ = some cmpF := by rw [hw3]; simp [go_sem]
  have d3 : w3.cell? ⟨w2.heap.size + 1, 0, none⟩ = some (.int .i64 v) := by rw [hw3]; simp [go_sem]
  clear hw3
  have hM13 := hM12.trans hM23
  have hM03 : Mod (fun _ => False) w w3 := (Mod.of_below hB1).trans hM13
  have acc : AccC 38 4 (rwsC []) 0 w.heap.size w1.heap.size w3.heap.size w w3 (fun _ => False) (.slice none 0 0) := by
    refine ⟨hM23.cell t1 (fun h => h), World.ownsRow_nil _ _ _ _, fun _ _ h => h, fun _ _ h => h, Nat.le_refl _, hM13.cell g1 (fun h => h), hM13.cell g2 (fun h => h), fun o => (hM13.frozen (a := ⟨w.heap.size, o, none⟩) gz (fun h => h)).trans (gf o),
      (hM23.frozen (a := ⟨w1.heap.size, 0, none⟩) (by dsimp only; omega) (fun h => h)).trans t2, ⟨hM03.os, hM03.tape, hM03.output, hM03.size, fun b hb => hM03.block b hb (fun h => h)⟩⟩
  obtain ⟨N, hNN⟩ : ∃ N, w.heap.size = N := ⟨_, rfl⟩
  obtain ⟨T, hTT⟩ : ∃ T, w1.heap.size = T := ⟨_, rfl⟩
  obtain ⟨M, hMM⟩ : ∃ M, w2.heap.size = M := ⟨_, rfl⟩
  obtain ⟨L0, hL0⟩ : ∃ L, w3.heap.size = L := ⟨_, rfl⟩
  have hT3 : TabAt (fun b => b < N ∨ b = M ∨ b = M + 1) w3 (.slice ax n cx) xs := by
    have h := TabAt.of (R := fun b => b < N ∨ b = M ∨ b = M + 1) HX.out (fun b hb => .inl (by omega))
    exact h.mod hM03 (fun _ _ h => h)
  rw [hMM] at d1 d2 d3 s3 s2 ⊢
  rw [hNN, hTT, hL0] at acc
  rw [hNN] at gz ⊢
  rw [hTT] at s2 ⊢
  rw [hTT] at gz
  have hRa : ∀ b, (b < N ∨ b = M ∨ b = M + 1) → b < w3.heap.size := fun b h => by omega
  have hseq := livingAt_seq M (M + 1) (.slice ax n cx) xs v (fun b => b < N ∨ b = M ∨ b = M + 1) w3 hRa d1 d2 d3 (.inr (.inl rfl)) (.inr (.inr rfl)) hT3 hlen
  have hTL : T < L0 := by omega
  gi_wp2
  have hPN : w0.heap.size + 1 = N := by rw [← hNN]; exact HWS.out.symm
  obtain ⟨P0, hP0⟩ : ∃ P, w0.heap.size = P := ⟨_, rfl⟩
  rw [hP0] at hwp hzp hPN hB00 ⊢
  rw [hNN] at hzp
  refine wp_rangeX (gf := 71) rfl (enters_of Try.func71 (by kernel_rfl) rfl) hseq hRa
    (AccI 38 4 (fun pre => rwsC (beg p pre)) (fun pre => (beg p pre).length) N T L0 w) NoX (AccI_stb gz hTL) NoX_stb (fun _ => False) (fun _ h => h.elim) ⟨_, acc⟩
    (fun x => RowBox L0 (fun B => { tmps := #[.slice ax n cx, .string p, .int .i64 v, undef, .pointer (some ⟨P0, 0, none⟩), undef, .pointer (some ⟨N, 0, none⟩), .int .i64 0, .pointer (some ⟨T, 0, none⟩), .pointer (some ⟨B, 0, none⟩), .slice ax n cx, .int .i64 0, .int .i64 0, .bool false, undef, undef, .slice ax n cx, .agg #[.slice ax n cx, .func (.func 70) #[] #[]], .int .i64 v, .func (.func 71) #[] #[.pointer (some ⟨M, 0, none⟩), .pointer (some ⟨M + 1, 0, none⟩)], .agg #[.string x.key, .int .i64 x.ver, .string x.val, .bool x.gone], undef, undef, undef, undef, undef, undef, undef, undef, undef, undef], defers := [] }) x)
    (fun x a' => RowBox_stb _ _ x a') ?assign ?body ?done ?stop
  case assign =>
    rintro l2 pre x W3 Y K ⟨_, ha⟩ hYl hYa hK
    unfold rowV
    gi_wp2
    refine hK _ _ (mod_alloc _ _ _) ⟨W3.heap.size, ha.2.2.2.2.1, by simp, by unfold rowCells; simp [go_sem], fun h => ?_, rfl⟩
    have := hYa _ h
    omega
  case body =>
    rintro l2 pre x a' W3 Y hYl hYa ⟨vv, ha⟩ ⟨B, hlo, hB, hr, hYB, rfl⟩ hpre
    have hle : (beg p pre).length ≤ 200 := by
      have h1 := HLE.out pre ((List.prefix_append pre [x]).trans hpre)
      have h2 := beg_le p pre
      omega
    have hr' := hr
    obtain ⟨r0, r1, r2, r3⟩ := hr
    simp only [Nat.zero_add] at r1 r2 r3
    have ha' := ha
    obtain ⟨a1, a2, a3, a4, a5, a6, a7, a8, a9, a10⟩ := ha
    dsimp only at a2 ha'
    have hwpW : W3.cell? ⟨P0, 0, none⟩ = some (.string p) := (a10.cell (p := ⟨P0, 0, none⟩) (by dsimp only; omega)).trans hwp
    cases hp : hasP x.key p
    · have HP : Hid (beg p (pre ++ [x]) = beg p pre) := beg_miss hp
      gi_wp2
      refine ⟨trivial, rfl, (CallsIn.inRound l2 (callsIn_wide.2 (hasPrefix_any _ _ _))).mono ?_⟩
      rintro e W4 ⟨rfl, hW4⟩
      obtain rfl : W3 = W4 := hW4.symm
      rw [hp]
      gi_wp2
      refine ⟨Mod.refl _ _, vv, ?_⟩
      dsimp only
      rw [HP.out]
      exact ha'
    · have HP : Hid ((beg p (pre ++ [x])).length = (beg p pre).length + 1 ∧ rwsC (beg p (pre ++ [x])) = rwsC (beg p pre) ++ rowC x) := by
        rw [Hid, beg_hit hp]
        exact ⟨by simp, rwsC_snoc _ _⟩
      gi_wp2
      refine ⟨trivial, rfl, (CallsIn.inRound l2 (callsIn_wide.2 (hasPrefix_any _ _ _))).mono ?_⟩
      rintro e W4 ⟨rfl, hW4⟩
      obtain rfl : W3 = W4 := hW4.symm
      rw [hp]
      obtain ⟨ys, hys⟩ : ∃ ys, rwsC (beg p pre) = ys := ⟨_, rfl⟩
      obtain ⟨m, hm⟩ : ∃ m, (beg p pre).length = m := ⟨_, rfl⟩
      rw [hys, hm] at a2 HP ha'
      rw [hm] at hle
      clear hys hm hp hW4
      obtain ⟨av, cv, rfl⟩ := owns_form a2
      have hzT := World.block_lt_of_cell? _ _ a1
      dsimp only at hzT
      gi_wp2_with (gi_at_builtin; refine wpListIn_append_own_at _ rfl _ _ 24 rfl L0 38 i0 _ 4 48 Try.underlying24 hi hz0 hz1 hz2 rfl (by decide) _ _ _ rfl (a2.alloc _) ⟨W3.heap.size, 0, none⟩ 1 1 (rowC x) rfl rfl ?c1 (rowC_one x) ?c3 ?c4 ?c5 ?_)
      case c1 => exact rowC_cells (b := W3.heap.size) (o := 0) ⟨by simp [go_sem], by simp [go_sem], by simp [go_sem], by simp [go_sem]⟩
      case c3 => unfold maxLen; omega
      case c4 => omega
      case c5 => simp; omega
      intro v' w5 hown' hgrow _ hown
      obtain ⟨g', cap', rfl⟩ := ownsRow_succ hown'
      obtain ⟨b1, b9, _⟩ := AccC_mid hTL ha' hgrow
      obtain ⟨hnew, hM⟩ := AccC_app gz hTL ha' hgrow hown' (by rw [World.size_alloc]; exact hown) hYa
      gi_wp2
      refine ⟨hM.mono (fun b h => ?_), .slice (some ⟨g', 0, none⟩) (m + 1) cap', ?_⟩
      · rcases h with rfl | h
        · rintro (h2 | h2)
          · omega
          · exact a4 _ (Nat.le_refl _) h2
        · have := (a2.lt b h).1
          rintro (h2 | h2)
          · omega
          · exact a3 b h h2
      · dsimp only
        rw [HP.out.1, HP.out.2]
        exact hnew
  case done =>
    rintro D W3 Y hD hYD ⟨vv, ha⟩ hdef
    obtain ⟨y1, y2, y3, y4, y5⟩ := AccC_end gz hTL (by omega) ha hYD hdef
    obtain ⟨av, cv, rfl⟩ := owns_form ha.2.1
    obtain ⟨a1, a2, a3, a4, a5, a6, a7, a8, a9, a10⟩ := ha
    have hzT := World.block_lt_of_cell? _ _ a1
    dsimp only at hzT y4
    have hBB := hB00.trans (y5.mono (show P0 ≤ N by omega))
    have y4' := owns_base y4 (show P0 ≤ N by omega)
    gi_wp2
    refine ⟨by simp, .inl ⟨_, _, rfl, run_takeDeferred y1, ?_⟩⟩
    refine ⟨.agg #[.int .i64 0, .slice av (beg p (living (lastL v xs))).length cv], by simp [results, Try.results8, go_sem, y2, y3], ?_⟩
    obtain ⟨F, hF⟩ := tabRR_of (c := 0) y4' HF.out
    rw [← E.out] at hF
    first | exact ⟨_, F, rfl, hF, hBB⟩ | exact ⟨_, rfl, ⟨F, hF⟩, hBB⟩
  case stop =>
    rintro D c pre W3 Y hD hYD hpre h hdef
    exact h.elim

theorem wt_sub {ys xs : List Rw} (h : List.Sublist ys xs) : wtRows ys ≤ wtRows xs := by
  unfold wtRows
  induction h with
  | slnil => exact Nat.le_refl _
  | cons a _ ih => simp only [List.length_cons, List.map_cons, List.sum_cons]; omega
  | cons_cons a _ ih => simp only [List.length_cons, List.map_cons, List.sum_cons]; omega
theorem lastG_sub {v : Int} : ∀ {xs : List Rw} {t : ByteArray}, List.Sublist (lastG v t xs) xs
  | [], _ => by simp [lastG]
  | x :: r, t => by
    unfold lastG
    split
    · exact List.Sublist.cons _ lastG_sub
    · exact List.Sublist.cons_cons _ lastG_sub
theorem scanD_le (xs : List Rw) (p : ByteArray) (v : Int) : wtTabR (scanD xs p v) ≤ wtRows xs := by
  unfold scanD
  split
  · rename_i h
    rw [scan_all (sorted_of h)]
    show wtRows _ ≤ _
    refine wt_sub (List.Sublist.trans List.filter_sublist ?_)
    unfold living
    rw [lastL_eq]
    exact List.Sublist.trans List.filter_sublist lastG_sub
  · show wtRows [] ≤ _
    unfold wtRows
    simp

end Go.Proofs.Ytaahmmadcdfcpaa

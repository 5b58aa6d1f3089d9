import Derived.Test.YtdfapehonegeeaaGreatPrnFlushEngineLaw24
import Derived.Test.YtdfapehonegeeaaGreatPrnFlushEngineLaw15
import Derived.Test.YtdfapehonegeeaaGreatPrnFlushEngineLaw19
import Derived.Test.YtdfapehonegeeaaGreatPrnFlushEngineLaw8
import Derived.Test.YtdfapehonegeeaaGreatPrnFlushEngineLaw4
import Derived.Test.YtdfapehonegeeaaGreatPrnFlushEngineLaw11
import Derived.Test.YtdfapehonegeeaaGreatPrnFlushEngineLaw1

/-
  The batches of a log, and their rows: the program's side.
-/
namespace Go.Proofs.YtdfapehonegeeaaGreat
open Go.RowKit Go.Shelf
set_option linter.unusedSectionVars false
variable [DecidableEq Wri] [Inhabited Wri] [DecidableEq BytesR] [Inhabited BytesR] [DecidableEq Rw] [Inhabited Rw] [DecidableEq TabR] [Inhabited TabR] [DecidableEq Logg] [Inhabited Logg] [DecidableEq Engn] [Inhabited Engn] [DecidableEq LoggR] [Inhabited LoggR] [DecidableEq RecsR] [Inhabited RecsR] [DecidableEq Leg] [Inhabited Leg]
set_option linter.unusedVariables false
set_option linter.unusedSimpArgs false
attribute [local go_sem ↓] Go.wp_at_zero Go.wp_at_succ
attribute [local go_sem] run_store_func

theorem rowss_one {W : World} {B : Nat} {u : Value} {l : List Rw} (hc : W.cell? ⟨B, 0, none⟩ = some u) (hu : rowsR.V W u l) : rowssR.V W (.slice (some ⟨B, 0, none⟩) 1 1) [l] := by
  refine ⟨_, 1, rfl, by simp, by unfold maxLen; omega, fun i hi => ?_⟩
  obtain rfl : i = 0 := by simpa using hi
  refine ⟨B, 0, u, rfl, rfl, fun j hj => ?_, hu⟩
  obtain rfl : j = 0 := by omega
  simpa [one] using hc
theorem readD_ok {d : Logg} (h : logF d = 0) : readD d = ⟨0, recU (d.synced ++ d.loose), recL (d.synced ++ d.loose)⟩ := by
  have := logF_small h
  unfold readD recsD
  rw [if_pos h, if_pos (by rw [List.length_append]; omega)]
set_option maxRecDepth 100000 in
set_option maxHeartbeats 8000000 in
theorem batchesIn_any (x : Value) (d : Logg) (next : Int) (w : World) (hx : loggR.V w x d) (hn : logF d = 0) :
    Calls Tryz.prog 110 #[x, .int .i64 next] w fun e w' => ∃ pv f, e = .returned (.tuple #[pv, .bool f]) ∧ (∃ a n c, pv = .slice a n c) ∧ BatP d next w' w.heap.size pv f ∧ Below w.heap.size w w' := by
  have hX := hx
  obtain ⟨i0, hi0, hz0, hz1, hz2⟩ := info_parts infoSeq
  obtain ⟨a1, a2, c1, c2, rfl⟩ := logg_form hx
  have hlen := logF_small hn
  have hul := recU_le (d.synced ++ d.loose)
  have hrl := recL_len (d.synced ++ d.loose)
  rw [List.length_append] at hul
  have HBY : Hid (recU (d.synced ++ d.loose) ≠ d.synced.length + d.loose.length → replayL d next = none) := fun h => replayL_bytes h
  have HRE : Hid (recU (d.synced ++ d.loose) = d.synced.length + d.loose.length → replayL d next = replayF next (recL (d.synced ++ d.loose)) 0 []) := fun h => replayL_recs h
  have HRD : Hid (readD d = ⟨0, recU (d.synced ++ d.loose), recL (d.synced ++ d.loose)⟩) := readD_ok hn
  clear hx hn
  go_enter Tryz.func110, Tryz.ntmps110
  go_wp2_with fail
  refine (implRead_u _ d _ (loggR.below hX (by (repeat (first | exact Below.refl _ _ | assumption | refine Below.drew ?_ | refine balloc ?_ _ | refine bset ?_ (by simp; omega) _ | refine bset ?_ (by simp) _ | refine bstep ?_ (by assumption))))) (by unfold wtLogg wtBytes; omega)).mono ?_
  rintro e w1 ⟨v1, F1, rfl, o1, b1⟩
  rw [HRD.out] at o1
  obtain ⟨u1, rfl, hrec⟩ := recsRR.ofO o1
  dsimp only at hrec
  have r0 : w1.cell? ⟨w.heap.size, 0, none⟩ = some (.slice a1 d.synced.length c1) := cell_keep b1 (by simp [go_sem])
  have r1 : w1.cell? ⟨w.heap.size, 1, none⟩ = some (.slice a2 d.loose.length c2) := cell_keep b1 (by simp [go_sem])
  have hB1 : Below w.heap.size w w1 := by (repeat (first | exact Below.refl _ _ | assumption | refine Below.drew ?_ | refine balloc ?_ _ | refine bset ?_ (by simp; omega) _ | refine bset ?_ (by simp) _ | refine bstep ?_ (by assumption)))
  have z0 := World.block_lt_of_cell? _ _ r0
  dsimp only at z0
  clear hX b1 o1 HRD
  generalize recU (d.synced ++ d.loose) = ru at *
  generalize recL (d.synced ++ d.loose) = recs at *
  generalize d.synced.length = ls at *
  generalize d.loose.length = ll at *
  obtain ⟨a3, c3, rfl, hc3, hm3, hrec⟩ := hrec
  unfold maxLen at hm3
  by_cases hu : ru = ls + ll
  rotate_left
  · have HN : Hid (replayL d next = none) := HBY.out hu
    have hu2 : ¬ (ru : Int) = (ls : Int) + (ll : Int) := by omega
    have hu3 : ((ru : Int) == (ls : Int) + (ll : Int)) = false := by simpa using hu2
    clear HBY HRE hrec hu
    generalize recs.length = n at *
    go_wp2
    refine bodyPost_ret (v := .tuple #[.slice none 0 0, .bool false]) (by simp [results, Tryz.results110, go_sem]) rfl ⟨_, _, rfl, ⟨_, _, _, rfl⟩, batP_none HN.out, by (repeat (first | exact Below.refl _ _ | assumption | refine Below.drew ?_ | refine balloc ?_ _ | refine bset ?_ (by simp; omega) _ | refine bset ?_ (by simp) _ | refine bstep ?_ (by assumption)))⟩
  have HRP : Hid (replayL d next = replayF next recs 0 []) := HRE.out hu
  have hu2 : (ru : Int) = (ls : Int) + (ll : Int) := by omega
  have hu3 : ((ru : Int) == (ls : Int) + (ll : Int)) = true := by simpa using hu2
  have hn6 : recs.length ≤ 6000 := by omega
  clear HBY HRE hu hul hrl hu2
  have HBAD : Hid (∀ k last out, RepSo next recs k last out → k < recs.length → ((unwD (recs.getD k default)).code ≠ 0 ∨ unwV (recs.getD k default) ≤ last ∨ next ≤ unwV (recs.getD k default)) → replayL d next = none) := fun k last out h1 h2 h3 => by rw [HRP.out]; exact repSo_bad h1 h2 h3
  have HEND : Hid (∀ W p Bs last, RepSo next recs recs.length last (putsL [] (flatTo (rowsOf recs) recs.length)) → PrtJ W w1.heap.size p recs.length Bs (rowsOf recs) → BatP d next W w.heap.size p true) := fun W p Bs last h hp => ⟨fun e => (Bool.false_ne_true e.symm).elim, fun _ => ⟨recs, Bs, by rw [HRP.out]; exact repSo_end h, hn6, ⟨owns_base hp.1 hB1.size, hp.2⟩⟩⟩
  clear HRP
  generalize hN : recs.length = n at *
  have HNN : Hid (recs.length = n) := hN
  clear hN
  go_wp2
  go_loopw [7, 8, 28] (fun p la i W => ∃ (k : Nat) (Bs : Nat → Nat) (last : Int), k ≤ n ∧ i = .int .i64 k ∧ la = .int .i64 last ∧ Hid (RepSo next recs k last (putsL [] (flatTo (rowsOf recs) k))) ∧ Hid (PrtJ W w1.heap.size p k Bs (rowsOf recs)) ∧ Below w1.heap.size w1 W) (fun _ _ i _ => n - (intOf i).toNat)
  case atStart =>
    exact ⟨0, fun _ => 0, 0, Nat.zero_le _, rfl, rfl, repSo_start _ _, ⟨World.ownsRow_nil _ _ _ _, fun i hi => absurd hi (Nat.not_lt_zero _)⟩, by (repeat (first | exact Below.refl _ _ | assumption | refine Below.drew ?_ | refine balloc ?_ _ | refine bset ?_ (by simp; omega) _ | refine bset ?_ (by simp) _ | refine bstep ?_ (by assumption)))⟩
  case round =>
    obtain ⟨k, Bs, last, hk, rfl, rfl, HR, HP, hbl⟩ := hrel
    rename ((ru : Int) != (ls : Int) + (ll : Int)) = false => hq
    clear hu3 hq
    have hi4 : (0 : Int) ≤ k := by omega
    by_cases hlt : k < n
    · obtain ⟨b, o, u, rfl, _, hc, hu⟩ := hrec k hlt
      have g0 : w1.cell? ⟨b, o + k, none⟩ = some u := cells1 hc
      have g1 := cell_keep hbl g0
      have hbad := HBAD.out k last _ HR.out hlt
      have hstep := repF_step (last := last) HR.out (by rw [HNN.out]; exact hlt)
      obtain ⟨r, hr⟩ : ∃ r, r = recs.getD k default := ⟨_, rfl⟩
      have hrr : rowsOf recs k = (unwD r).rows := by rw [hr]; rfl
      rw [← hr] at hu hbad hstep
      have HBD : Hid (((unwD r).code ≠ 0 ∨ unwV r ≤ last ∨ next ≤ unwV r) → replayL d next = none) := hbad
      have HST : Hid ((unwD r).code = 0 → last < unwV r → unwV r < next → RepSo next recs (k + 1) (unwV r) (putsL [] (flatTo (rowsOf recs) (k + 1)))) := hstep
      have HRR : Hid (rowsOf recs k = (unwD r).rows) := hrr
      have HGV : Hid ((unwD r).code = 0 → gvT 0 [(unwD r).rows] = unwV r) := gv_unw
      have hC := implUnw_u u r wr (bytesR.below hu hbl)
      have hi5 : (k : Int) < n := by omega
      obtain ⟨ap, cp, hap⟩ := owns_form HP.out.1
      subst hap
      clear hc g0 hr hbad hstep hrr hu hrec HBAD
      have hB3 := bstep hB1 hbl
      go_wp2_with fail
      refine hC.mono ?_
      rintro e W1 ⟨rv, F2, rfl, ⟨ur, F3, rfl, oR, hF3⟩, hb1⟩
      have HV : Hid (rowsR.V W1 ur (unwD r).rows) := rowsR.ofO oR
      have HTA : Hid (TabAt (fun b => wr.heap.size ≤ b ∧ b < W1.heap.size) W1 ur (unwD r).rows) := TabAt.owns oR.1.1
      have HP1 : Hid (PrtJ W1 w1.heap.size (.slice ap k cp) k Bs (rowsOf recs)) := HP.out.below hb1
      have HPL : Hid (∀ b, (Value.slice ap k cp).ownBlock = some b → b < wr.heap.size) := fun b hb => (HP.out.1.lt b hb).2
      obtain ⟨ar, cr, rfl⟩ := rows_form HV.out
      have hB4 := bstep hB3 hb1
      have hb4 := bstep hbl hb1
      have hz4 := hb1.size
      clear oR hC HP hF3 hb1
      generalize (unwD r).rows = l at *
      generalize (unwD r).code = c at *
      generalize unwV r = ver at *
      obtain ⟨lw, hlw⟩ : ∃ lw, l.length = lw := ⟨_, rfl⟩
      rw [hlw] at HV HTA ⊢
      clear hlw
      have hG : ∀ (Y : World), Below W1.heap.size W1 Y → Y.cell? ⟨W1.heap.size + 1, 0, none⟩ = some (.slice ar lw cr) → Calls Tryz.prog 53 #[.slice (some ⟨W1.heap.size + 1, 0, none⟩) 1 1] Y fun e w' => e = .returned (.int .i64 (gvT 0 [l])) ∧ Below Y.heap.size Y w' := fun Y hY hc => greatest_any _ [l] Y (rowss_one hc (rowsR.below HV.out hY))
      generalize gvT 0 [l] = gv at *
      go_wp2_with fail
      refine (hG _ (by (repeat (first | exact Below.refl _ _ | assumption | refine Below.drew ?_ | refine balloc ?_ _ | refine bset ?_ (by simp; omega) _ | refine bset ?_ (by simp) _ | refine bstep ?_ (by assumption)))) (by simp [go_sem])).mono ?_
      rintro e W2 ⟨rfl, hb2⟩
      have q0 : W2.cell? ⟨W1.heap.size, 0, none⟩ = some (.int .i64 c) := cell_keep hb2 (by simp [go_sem])
      have q1 : W2.cell? ⟨W1.heap.size, 1, none⟩ = some (.slice ar lw cr) := cell_keep hb2 (by simp [go_sem])
      have hb12 : Below W1.heap.size W1 W2 := by (repeat (first | exact Below.refl _ _ | assumption | refine Below.drew ?_ | refine balloc ?_ _ | refine bset ?_ (by simp; omega) _ | refine bset ?_ (by simp) _ | refine bstep ?_ (by assumption)))
      have hB5 := bstep hB4 hb12
      have hb5 := bstep hb4 hb12
      have hz5 := hb12.size
      have zq := World.block_lt_of_cell? _ _ q0
      dsimp only at zq
      clear hG hb2 hB4 hb4
      by_cases hc0 : c = 0
      rotate_left
      · have HN : Hid (replayL d next = none) := HBD.out (.inl hc0)
        have hcb : (c == 0) = false := by simpa using hc0
        clear HST HBD HRR HEND HGV HP1 HTA HV
        go_wp2
        refine bodyPost_ret (v := .tuple #[.slice none 0 0, .bool false]) (by simp [results, Tryz.results110, go_sem]) rfl ⟨_, _, rfl, ⟨_, _, _, rfl⟩, batP_none HN.out, hB5⟩
      have hgv := HGV.out hc0
      subst hgv
      subst hc0
      by_cases h1 : gv ≤ last
      · have HN : Hid (replayL d next = none) := HBD.out (.inr (.inl h1))
        clear HST HBD HRR HEND HGV HP1 HTA HV
        go_wp2
        refine bodyPost_ret (v := .tuple #[.slice none 0 0, .bool false]) (by simp [results, Tryz.results110, go_sem]) rfl ⟨_, _, rfl, ⟨_, _, _, rfl⟩, batP_none HN.out, hB5⟩
      by_cases h2 : next ≤ gv
      · have HN : Hid (replayL d next = none) := HBD.out (.inr (.inr h2))
        clear HST HBD HRR HEND HGV HP1 HTA HV
        go_wp2
        refine bodyPost_ret (v := .tuple #[.slice none 0 0, .bool false]) (by simp [results, Tryz.results110, go_sem]) rfl ⟨_, _, rfl, ⟨_, _, _, rfl⟩, batP_none HN.out, hB5⟩
      have HRN : Hid (RepSo next recs (k + 1) gv (putsL [] (flatTo (rowsOf recs) (k + 1)))) := HST.out rfl (by omega) (by omega)
      have HP2 : Hid (PrtJ W2 w1.heap.size (.slice ap k cp) k Bs (rowsOf recs)) := HP1.out.below hb12
      have HTB : Hid (TabAt (fun b => b < W2.heap.size ∧ (Value.slice ap k cp).ownBlock ≠ some b) W2 (.slice ar lw cr) (rowsOf recs k)) := by
        rw [Hid, HRR.out]
        refine (HTA.out.mod (F := fun _ => False) (Mod.of_below hb12) (fun _ _ h => h)).wide (fun b hb => ⟨by omega, fun e => ?_⟩)
        have := HPL.out b e
        omega
      clear HST HBD HRR HGV HP1 HTA HV HEND
      go_wp2_with fail
      refine (values_any _ _ _ _).mono ?_
      rintro e w3 ⟨rfl, hw3⟩
      have hb3 : Below W2.heap.size W2 w3 := by rw [hw3]; exact balloc (Below.refl _ _) _
      have HS3 : Hid (w3.heap.size = W2.heap.size + 1) := by rw [Hid, hw3]; simp
      have hc3' : w3.cell? ⟨W2.heap.size, 0, none⟩ = some (.slice ar lw cr) := by rw [hw3]; simp [go_sem]
      clear hw3
      have HP3 : Hid (PrtJ w3 w1.heap.size (.slice ap k cp) k Bs (rowsOf recs)) := HP2.out.below hb3
      have ho3 := HP3.out.1
      have hB2n : (Value.slice ap k cp).ownBlock ≠ some W2.heap.size := fun e => by
        have := HPL.out _ e
        omega
      have hz13 := hb3.size
      have hbz := hb5.size
      clear HP2
      obtain ⟨C, hC⟩ : ∃ C, (List.range k).map (fun i => valF (Bs i)) = C := ⟨_, rfl⟩
      rw [hC] at ho3
      have HC : Hid ((List.range k).map (fun i => valF (Bs i)) = C) := hC
      clear hC
      go_wp2_with (at_builtin; refine wpList_append_own_at _ rfl _ _ 138 rfl w1.heap.size 109 i0 _ 1 8 Tryz.underlying138 hi0 hz0 hz1 hz2 rfl (by decide) _ k C rfl (ho3.alloc _) ⟨w3.heap.size, 0, none⟩ 1 1 [valF W2.heap.size] rfl rfl ?c1 ?c2 ?c3 ?c4 ?c5 ?_)
      case c1 =>
        intro j u hj
        match j, hj with
        | 0, hj => simp at hj; subst hj; simp [Addr.add, go_sem, valF]
        | j + 1, hj => simp at hj
      case c2 =>
        intro u hu
        rw [List.mem_singleton] at hu
        rw [hu]
        rfl
      case c3 => unfold maxLen; omega
      case c4 => omega
      case c5 => simp; omega
      intro v' w5 o5 g5 _ l5
      have hbA : Below w3.heap.size w3 (w3.alloc (.cells #[valF W2.heap.size] 109)) := balloc (Below.refl _ _) _
      have HPA := HP3.out.below hbA
      have o5' := o5
      rw [← HC.out] at o5'
      have hTC : TabAt (fun b => b < (w3.alloc (.cells #[valF W2.heap.size] 109)).heap.size ∧ (Value.slice ap k cp).ownBlock ≠ some b) (w3.alloc (.cells #[valF W2.heap.size] 109)) (.slice ar lw cr) (rowsOf recs k) :=
        (HTB.out.mod (F := fun _ => False) (Mod.of_below (bstep hb3 hbA)) (fun _ _ h => h)).wide (fun b hb => ⟨by have := hb.1; simp; omega, hb.2⟩)
      have hnew := PrtJ.push HPA (B := W2.heap.size) (by have := HS3.out; simp; omega) hB2n (cell_keep hbA hc3') hTC o5' g5 (by rw [World.size_alloc]; exact l5)
      have hb6 : Below w1.heap.size w1 w5 := by
        have h1 : Below w1.heap.size w1 (w3.alloc (.cells #[valF W2.heap.size] 109)) := bstep hb5 (bstep hb3 hbA)
        refine h1.grown g5 h1.size (fun b hb => ?_)
        have := (ho3.lt b hb).1
        omega
      have HNEW : Hid (PrtJ w5 w1.heap.size v' (k + 1) (upd Bs k W2.heap.size) (rowsOf recs)) := hnew
      clear hnew HPA o5' hbA hTC HTB
      obtain ⟨a5, c5, rfl⟩ := owns_form o5
      go_wp2
      exact ⟨⟨k + 1, _, gv, by omega, by go_num, rfl, HRN, HNEW, hb6⟩, by simp [intOf]; omega⟩
    · obtain rfl : k = n := by omega
      have hi5 : ¬ ((k : Int) < k) := by omega
      have HN : Hid (BatP d next wr w.heap.size u7 true) := HEND.out wr u7 Bs last HR.out HP.out
      obtain ⟨ap, cp, hap⟩ := owns_form HP.out.1
      subst hap
      clear HEND HBAD hrec HP
      go_wp2
      refine bodyPost_ret (v := .tuple #[.slice ap k cp, .bool true]) (by simp [results, Tryz.results110, go_sem]) rfl (by first | exact ⟨_, _, rfl, ⟨_, _, _, rfl⟩, HN.out, bstep hB1 hbl⟩ | exact ⟨_, .inr ⟨rfl, ⟨_, _, _, rfl⟩, HN.out, bstep hB1 hbl⟩⟩)
set_option maxRecDepth 100000 in
set_option maxHeartbeats 4000000 in
theorem logged_any (x : Value) (d : Logg) (next : Int) (w : World) (hx : loggR.V w x d) (hn : logF d = 0) :
    Calls Tryz.prog 55 #[x, .int .i64 next] w fun e w' => ∃ v f, e = .returned (.tuple #[v, .bool f]) ∧ LogdP d next w' w.heap.size v f ∧ Below w.heap.size w w' := by
  have hX := hx
  obtain ⟨a1, a2, c1, c2, rfl⟩ := logg_form hx
  generalize d.synced.length = ls at *
  generalize d.loose.length = ll at *
  go_enter Tryz.func55, Tryz.ntmps55
  go_wp2_with fail
  refine (batchesIn_any _ d next _ (loggR.below hX (by (repeat (first | exact Below.refl _ _ | assumption | refine Below.drew ?_ | refine balloc ?_ _ | refine bset ?_ (by simp; omega) _ | refine bset ?_ (by simp) _ | refine bstep ?_ (by assumption))))) hn).mono ?_
  rintro e w1 ⟨pv, f, rfl, ⟨ap, np, cp, rfl⟩, hP, b1⟩
  have hB1 : Below w.heap.size w w1 := by (repeat (first | exact Below.refl _ _ | assumption | refine Below.drew ?_ | refine balloc ?_ _ | refine bset ?_ (by simp; omega) _ | refine bset ?_ (by simp) _ | refine bstep ?_ (by assumption)))
  have hz1 := b1.size
  simp only [World.size_alloc] at hz1
  clear b1 hX hx
  cases f with
  | false =>
    have HN : Hid (replayL d next = none) := (hP.1 rfl).1
    clear hP
    go_wp2
    refine bodyPost_ret (v := .tuple #[.slice none 0 0, .bool false]) (by simp [results, Tryz.results55, go_sem]) rfl (by first | exact ⟨_, _, rfl, logd_none HN.out, hB1⟩ | exact ⟨_, .inl ⟨rfl, logd_none HN.out, hB1⟩⟩)
  | true =>
    obtain ⟨recs, Bs, hre, hn6, hJ⟩ := hP.2 rfl
    have HRE : Hid (replayL d next = some (putsL [] (flatTo (rowsOf recs) recs.length))) := hre
    have hC := merged_any (.slice ap np cp) recs.length 200 (fun _ => 161) (fun i => #[.pointer (some ⟨Bs i, 0, none⟩)]) (rowsOf recs) w1 hJ.parts (by omega) (by have := flat_rows recs recs.length; omega) (fun i hi => enters_of Tryz.func161 (by kernel_rfl) rfl) (fun i hi => by
      obtain ⟨h1, h2, u, h3, h4⟩ := hJ.2 i hi
      exact values_seq (Bs i) u (rowsOf recs i) _ w1 h3 h1 (h4.wide (fun b hb => hb.1)) (by have := unwD_rows (recs.getD i default); unfold rowsOf; omega))
    clear hP hJ hre
    generalize putsL [] (flatTo (rowsOf recs) recs.length) = ys at *
    unfold cmpF at hC
    go_wp2_with fail
    refine hC.mono ?_
    rintro e w2 ⟨v, f, rfl, ⟨a3, n3, c3, rfl⟩, hb2, ht, hf⟩
    clear hC
    have hB2 := bstep hB1 hb2
    have HT : Hid (f = true → w2.ownsRow w1.heap.size 76 4 (.slice a3 n3 c3) ys.length (rwsC ys) ∧ ys.length ≤ 200) := ht
    have HF : Hid (f = false → 200 < ys.length) := hf
    clear ht hf
    go_wp2
    refine bodyPost_ret (v := .tuple #[.slice a3 n3 c3, .bool f]) (by simp [results, Tryz.results55, go_sem]) rfl ?_
    have hfin : LogdP d next ((w2.alloc (.cells #[.slice a3 n3 c3, .func (.func 75) #[] #[]] 105))) w.heap.size (.slice a3 n3 c3) f := logd_some HRE.out ⟨_, _, _, rfl⟩ (fun e => ⟨owns_base (owns_below (HT.out e).1 (balloc (Below.refl _ _) _)) hB1.size, (HT.out e).2⟩) HF.out
    cases f with
    | false => first | exact ⟨_, _, rfl, hfin, by (repeat (first | exact Below.refl _ _ | assumption | refine Below.drew ?_ | refine balloc ?_ _ | refine bset ?_ (by simp; omega) _ | refine bset ?_ (by simp) _ | refine bstep ?_ (by assumption)))⟩ | exact ⟨_, .inl ⟨rfl, hfin, by (repeat (first | exact Below.refl _ _ | assumption | refine Below.drew ?_ | refine balloc ?_ _ | refine bset ?_ (by simp; omega) _ | refine bset ?_ (by simp) _ | refine bstep ?_ (by assumption)))⟩⟩
    | true => first | exact ⟨_, _, rfl, hfin, by (repeat (first | exact Below.refl _ _ | assumption | refine Below.drew ?_ | refine balloc ?_ _ | refine bset ?_ (by simp; omega) _ | refine bset ?_ (by simp) _ | refine bstep ?_ (by assumption)))⟩ | exact ⟨_, .inr ⟨rfl, hfin, by (repeat (first | exact Below.refl _ _ | assumption | refine Below.drew ?_ | refine balloc ?_ _ | refine bset ?_ (by simp; omega) _ | refine bset ?_ (by simp) _ | refine bstep ?_ (by assumption)))⟩⟩
end Go.Proofs.YtdfapehonegeeaaGreat

/-
  An engine's fault: the program's side.
-/
namespace Go.Proofs.YtdfapehonegeeaaGreat
open Go.RowKit
set_option linter.unusedSectionVars false
variable [DecidableEq Wri] [Inhabited Wri] [DecidableEq BytesR] [Inhabited BytesR] [DecidableEq Rw] [Inhabited Rw] [DecidableEq TabR] [Inhabited TabR] [DecidableEq Logg] [Inhabited Logg] [DecidableEq Engn] [Inhabited Engn] [DecidableEq LoggR] [Inhabited LoggR] [DecidableEq RecsR] [Inhabited RecsR] [DecidableEq Leg] [Inhabited Leg]
set_option linter.unusedVariables false
set_option linter.unusedSimpArgs false
attribute [local go_sem ↓] Go.wp_at_zero Go.wp_at_succ

set_option maxRecDepth 20000 in
set_option maxHeartbeats 16000000 in
theorem implEngF_any (x : Value) (d : Engn) (w : World) (hx : engnR.V w x d) (hn : wtEngn d ≤ 1048576) :
    Calls Tryz.prog 13 #[x] w fun e w' => e = .returned (.int .i64 (engF d)) ∧ Below w.heap.size w w' := by
  have hX := hx
  obtain ⟨u1, u2, u3, u4, rfl, h1, h2, h3⟩ := hx
  have HX : Hid (engnR.V w (.agg #[u1, u2, u3, u4, .int .i64 d.next]) d) := hX
  have HL : Hid (loggR.V w (.agg #[u1, u2]) d.log) := h1
  have HM : Hid (RowsV w u3 d.mem) := h2.1
  have HT : Hid (rowssR.V w u4 d.tables) := h3
  clear hX h1 h2 h3
  go_enter Tryz.func13, Tryz.ntmps13
  go_wp2_with fail
  refine (parts_any _ d _ (engnR.below HX.out (by (repeat (first | exact Below.refl _ _ | assumption | refine Below.drew ?_ | refine balloc ?_ _ | refine bset ?_ (by simp; omega) _ | refine bset ?_ (by simp) _ | refine bstep ?_ (by assumption))))) hn).mono ?_
  rintro e w1 ⟨rfl, b1⟩
  have r0 : w1.cell? ⟨w.heap.size, 0, none⟩ = some (u1) := cell_keep b1 (by simp [go_sem])
  have r1 : w1.cell? ⟨w.heap.size, 1, none⟩ = some (u2) := cell_keep b1 (by simp [go_sem])
  have r2 : w1.cell? ⟨w.heap.size, 2, none⟩ = some (u3) := cell_keep b1 (by simp [go_sem])
  have r3 : w1.cell? ⟨w.heap.size, 3, none⟩ = some (u4) := cell_keep b1 (by simp [go_sem])
  have r4 : w1.cell? ⟨w.heap.size, 4, none⟩ = some (.int .i64 d.next) := cell_keep b1 (by simp [go_sem])
  have hB1 : Below w.heap.size w w1 := by (repeat (first | exact Below.refl _ _ | assumption | refine Below.drew ?_ | refine balloc ?_ _ | refine bset ?_ (by simp; omega) _ | refine bset ?_ (by simp) _ | refine bstep ?_ (by assumption)))
  clear b1 hn
  by_cases hp : partsF d = 0
  rotate_left
  · have HE : Hid (engF d = partsF d) := engF_parts hp
    have hc : (partsF d == 0) = false := by simpa using hp
    generalize partsF d = c at *
    go_wp2
    go_ret
    exact ⟨by rw [HE.out]; rfl, hB1⟩
  rw [hp]
  have HPA : Hid (partsF d = 0) := hp
  clear hp
  obtain ⟨hl0, hm0, ht6, -⟩ := partsF_inv HPA.out
  have HLF : Hid (logF d.log = 0) := hl0
  have HMF : Hid (tabF d.mem = 0) := hm0
  clear hl0 hm0
  have HRG : Hid (rangeE d = (inR d.next 1 1000000 && decide (gvT 0 (d.mem :: d.tables) < d.next))) := range_gv
  have HAB : Hid (aboveE d = aboveV d.mem (gvT 0 d.tables)) := above_gv HMF.out
  cases hin : inR d.next 1 1000000
  · have HE : Hid (engF d = 3) := engF_range HPA.out (range_1 hin)
    have HIN : Hid (inR d.next 1 1000000 = false) := hin
    clear hin HRG HAB
    go_wp2
    refine wp_region_noPanic ?_
    refine region_upto (fun w' => Below w1.heap.size w1 w' ∧ w'.cell? ⟨w.heap.size, 0, none⟩ = some (u1) ∧ w'.cell? ⟨w.heap.size, 1, none⟩ = some (u2) ∧ w'.cell? ⟨w.heap.size, 2, none⟩ = some (u3) ∧ w'.cell? ⟨w.heap.size, 3, none⟩ = some (u4) ∧ w'.cell? ⟨w.heap.size, 4, none⟩ = some (.int .i64 d.next)) 12 (by kernel_rfl) ⟨by (repeat (first | exact Below.refl _ _ | assumption | refine Below.drew ?_ | refine balloc ?_ _ | refine bset ?_ (by simp; omega) _ | refine bset ?_ (by simp) _ | refine bstep ?_ (by assumption))), cell_keep (by (repeat (first | exact Below.refl _ _ | assumption | refine Below.drew ?_ | refine balloc ?_ _ | refine bset ?_ (by simp; omega) _ | refine bset ?_ (by simp) _ | refine bstep ?_ (by assumption)))) r0, cell_keep (by (repeat (first | exact Below.refl _ _ | assumption | refine Below.drew ?_ | refine balloc ?_ _ | refine bset ?_ (by simp; omega) _ | refine bset ?_ (by simp) _ | refine bstep ?_ (by assumption)))) r1, cell_keep (by (repeat (first | exact Below.refl _ _ | assumption | refine Below.drew ?_ | refine balloc ?_ _ | refine bset ?_ (by simp; omega) _ | refine bset ?_ (by simp) _ | refine bstep ?_ (by assumption)))) r2, cell_keep (by (repeat (first | exact Below.refl _ _ | assumption | refine Below.drew ?_ | refine balloc ?_ _ | refine bset ?_ (by simp; omega) _ | refine bset ?_ (by simp) _ | refine bstep ?_ (by assumption)))) r3, cell_keep (by (repeat (first | exact Below.refl _ _ | assumption | refine Below.drew ?_ | refine balloc ?_ _ | refine bset ?_ (by simp; omega) _ | refine bset ?_ (by simp) _ | refine bstep ?_ (by assumption)))) r4⟩ (fun hS => ?_)
    refine upto_takeN (i := 0) (v := ?_) rfl (by kernel_rfl) (by kernel_rfl) (by kernel_rfl) (by kernel_rfl) (fun _ _ _ h => h) (by rfl) hS ?_ ?_
    rotate_left
    · intro wS hSw
      try dsimp only at hSw
      first | (go_simp; done) | (go_simp; with_reducible rfl)
    try simp only [Act.put, List.getElem_toArray, List.getElem_cons_zero, List.getElem_cons_succ, List.setIfInBounds_toArray, List.set_cons_zero, List.set_cons_succ]
    refine upto_takeN (i := 1) (v := ?_) rfl (by kernel_rfl) (by kernel_rfl) (by kernel_rfl) (by kernel_rfl) (fun _ _ _ h => h) (by rfl) hS ?_ ?_
    rotate_left
    · intro wS hSw
      try dsimp only at hSw
      first | (go_simp; done) | (go_simp; with_reducible rfl)
    try simp only [Act.put, List.getElem_toArray, List.getElem_cons_zero, List.getElem_cons_succ, List.setIfInBounds_toArray, List.set_cons_zero, List.set_cons_succ]
    refine upto_step (i := 2) (by kernel_rfl) rfl ?_
    intro K hK
    go_simp
    refine (isVersion_any _ _).mono ?_
    rintro e w' ⟨rfl, hEq⟩
    obtain rfl := hEq.symm
    rw [HIN.out]
    refine hK _ _ (fun _ => hS) ?_
    clear hK K hEq
    try simp only [Act.put, List.getElem_toArray, List.getElem_cons_zero, List.getElem_cons_succ, List.setIfInBounds_toArray, List.set_cons_zero, List.set_cons_succ]
    refine upto_takeN (i := 3) (v := (.bool true)) rfl (by kernel_rfl) (by kernel_rfl) (by kernel_rfl) (by kernel_rfl) (fun _ _ _ h => h) (by rfl) hS ?_ ?_
    · intro wS hSw
      try dsimp only at hSw
      go_simp
    try simp only [Act.put, List.getElem_toArray, List.getElem_cons_zero, List.getElem_cons_succ, List.setIfInBounds_toArray, List.set_cons_zero, List.set_cons_succ]
    refine upto_takeN (i := 4) (v := (.bool true)) rfl (by kernel_rfl) (by kernel_rfl) (by kernel_rfl) (by kernel_rfl) (fun _ _ _ h => h) (by rfl) hS ?_ ?_
    · intro wS hSw
      try dsimp only at hSw
      go_simp
    try simp only [Act.put, List.getElem_toArray, List.getElem_cons_zero, List.getElem_cons_succ, List.setIfInBounds_toArray, List.set_cons_zero, List.set_cons_succ]
    refine upto_skipN (i := 5) rfl (by kernel_rfl) (by kernel_rfl) (by kernel_rfl) (by kernel_rfl) (fun _ _ _ h => h) (by rfl) hS (fun q5 => ?_)
    try simp only [Act.put, List.getElem_toArray, List.getElem_cons_zero, List.getElem_cons_succ, List.setIfInBounds_toArray, List.set_cons_zero, List.set_cons_succ]
    refine upto_skipN (i := 6) rfl (by kernel_rfl) (by kernel_rfl) (by kernel_rfl) (by kernel_rfl) (fun _ _ _ h => h) (by rfl) hS (fun q6 => ?_)
    try simp only [Act.put, List.getElem_toArray, List.getElem_cons_zero, List.getElem_cons_succ, List.setIfInBounds_toArray, List.set_cons_zero, List.set_cons_succ]
    refine upto_skipN (i := 7) rfl (by kernel_rfl) (by kernel_rfl) (by kernel_rfl) (by kernel_rfl) (fun _ _ _ h => h) (by rfl) hS (fun q7 => ?_)
    try simp only [Act.put, List.getElem_toArray, List.getElem_cons_zero, List.getElem_cons_succ, List.setIfInBounds_toArray, List.set_cons_zero, List.set_cons_succ]
    refine upto_skipN (i := 8) rfl (by kernel_rfl) (by kernel_rfl) (by kernel_rfl) (by kernel_rfl) (fun _ _ _ h => h) (by rfl) hS (fun q8 => ?_)
    try simp only [Act.put, List.getElem_toArray, List.getElem_cons_zero, List.getElem_cons_succ, List.setIfInBounds_toArray, List.set_cons_zero, List.set_cons_succ]
    refine upto_skipN (i := 9) rfl (by kernel_rfl) (by kernel_rfl) (by kernel_rfl) (by kernel_rfl) (fun _ _ _ h => h) (by rfl) hS (fun q9 => ?_)
    try simp only [Act.put, List.getElem_toArray, List.getElem_cons_zero, List.getElem_cons_succ, List.setIfInBounds_toArray, List.set_cons_zero, List.set_cons_succ]
    refine upto_skipN (i := 10) rfl (by kernel_rfl) (by kernel_rfl) (by kernel_rfl) (by kernel_rfl) (fun _ _ _ h => h) (by rfl) hS (fun q10 => ?_)
    try simp only [Act.put, List.getElem_toArray, List.getElem_cons_zero, List.getElem_cons_succ, List.setIfInBounds_toArray, List.set_cons_zero, List.set_cons_succ]
    refine upto_takeN (i := 11) (v := (.bool true)) rfl (by kernel_rfl) (by kernel_rfl) (by kernel_rfl) (by kernel_rfl) (fun _ _ _ h => h) (by rfl) hS ?_ ?_
    · intro wS hSw
      try dsimp only at hSw
      go_simp
    try simp only [Act.put, List.getElem_toArray, List.getElem_cons_zero, List.getElem_cons_succ, List.setIfInBounds_toArray, List.set_cons_zero, List.set_cons_succ]
    refine upto_done (by kernel_rfl) ?_
    refine NoPanic.normal ?_
    go_wp2
    go_ret
    exact ⟨by rw [HE.out]; rfl, bstep hB1 hS.1⟩
  have HIN : Hid (inR d.next 1 1000000 = true) := hin
  have HRH : Hid (rangeE d = decide (gvT 0 (d.mem :: d.tables) < d.next)) := by rw [Hid, HRG.out, hin]; rfl
  clear hin HRG
  generalize hgv : gvT 0 (d.mem :: d.tables) = gv at *
  have HGV : Hid (gvT 0 (d.mem :: d.tables) = gv) := hgv
  clear hgv
  by_cases hr : gv < d.next
  rotate_left
  · have HE : Hid (engF d = 3) := engF_range HPA.out (by rw [HRH.out, decide_eq_false hr])
    clear HAB HRH
    go_wp2
    refine wp_region_noPanic ?_
    refine region_upto (fun w' => Below w1.heap.size w1 w' ∧ w'.cell? ⟨w.heap.size, 0, none⟩ = some (u1) ∧ w'.cell? ⟨w.heap.size, 1, none⟩ = some (u2) ∧ w'.cell? ⟨w.heap.size, 2, none⟩ = some (u3) ∧ w'.cell? ⟨w.heap.size, 3, none⟩ = some (u4) ∧ w'.cell? ⟨w.heap.size, 4, none⟩ = some (.int .i64 d.next)) 12 (by kernel_rfl) ⟨by (repeat (first | exact Below.refl _ _ | assumption | refine Below.drew ?_ | refine balloc ?_ _ | refine bset ?_ (by simp; omega) _ | refine bset ?_ (by simp) _ | refine bstep ?_ (by assumption))), cell_keep (by (repeat (first | exact Below.refl _ _ | assumption | refine Below.drew ?_ | refine balloc ?_ _ | refine bset ?_ (by simp; omega) _ | refine bset ?_ (by simp) _ | refine bstep ?_ (by assumption)))) r0, cell_keep (by (repeat (first | exact Below.refl _ _ | assumption | refine Below.drew ?_ | refine balloc ?_ _ | refine bset ?_ (by simp; omega) _ | refine bset ?_ (by simp) _ | refine bstep ?_ (by assumption)))) r1, cell_keep (by (repeat (first | exact Below.refl _ _ | assumption | refine Below.drew ?_ | refine balloc ?_ _ | refine bset ?_ (by simp; omega) _ | refine bset ?_ (by simp) _ | refine bstep ?_ (by assumption)))) r2, cell_keep (by (repeat (first | exact Below.refl _ _ | assumption | refine Below.drew ?_ | refine balloc ?_ _ | refine bset ?_ (by simp; omega) _ | refine bset ?_ (by simp) _ | refine bstep ?_ (by assumption)))) r3, cell_keep (by (repeat (first | exact Below.refl _ _ | assumption | refine Below.drew ?_ | refine balloc ?_ _ | refine bset ?_ (by simp; omega) _ | refine bset ?_ (by simp) _ | refine bstep ?_ (by assumption)))) r4⟩ (fun hS => ?_)
    refine upto_takeN (i := 0) (v := ?_) rfl (by kernel_rfl) (by kernel_rfl) (by kernel_rfl) (by kernel_rfl) (fun _ _ _ h => h) (by rfl) hS ?_ ?_
    rotate_left
    · intro wS hSw
      try dsimp only at hSw
      first | (go_simp; done) | (go_simp; with_reducible rfl)
    try simp only [Act.put, List.getElem_toArray, List.getElem_cons_zero, List.getElem_cons_succ, List.setIfInBounds_toArray, List.set_cons_zero, List.set_cons_succ]
    refine upto_takeN (i := 1) (v := ?_) rfl (by kernel_rfl) (by kernel_rfl) (by kernel_rfl) (by kernel_rfl) (fun _ _ _ h => h) (by rfl) hS ?_ ?_
    rotate_left
    · intro wS hSw
      try dsimp only at hSw
      first | (go_simp; done) | (go_simp; with_reducible rfl)
    try simp only [Act.put, List.getElem_toArray, List.getElem_cons_zero, List.getElem_cons_succ, List.setIfInBounds_toArray, List.set_cons_zero, List.set_cons_succ]
    refine upto_step (i := 2) (by kernel_rfl) rfl ?_
    intro K hK
    go_simp
    refine (isVersion_any _ _).mono ?_
    rintro e w' ⟨rfl, hEq⟩
    obtain rfl := hEq.symm
    rw [HIN.out]
    refine hK _ _ (fun _ => hS) ?_
    clear hK K hEq
    try simp only [Act.put, List.getElem_toArray, List.getElem_cons_zero, List.getElem_cons_succ, List.setIfInBounds_toArray, List.set_cons_zero, List.set_cons_succ]
    refine upto_takeN (i := 3) (v := (.bool false)) rfl (by kernel_rfl) (by kernel_rfl) (by kernel_rfl) (by kernel_rfl) (fun _ _ _ h => h) (by rfl) hS ?_ ?_
    · intro wS hSw
      try dsimp only at hSw
      go_simp
    try simp only [Act.put, List.getElem_toArray, List.getElem_cons_zero, List.getElem_cons_succ, List.setIfInBounds_toArray, List.set_cons_zero, List.set_cons_succ]
    refine upto_takeN (i := 4) (v := (.bool false)) rfl (by kernel_rfl) (by kernel_rfl) (by kernel_rfl) (by kernel_rfl) (fun _ _ _ h => h) (by rfl) hS ?_ ?_
    · intro wS hSw
      try dsimp only at hSw
      go_simp
    try simp only [Act.put, List.getElem_toArray, List.getElem_cons_zero, List.getElem_cons_succ, List.setIfInBounds_toArray, List.set_cons_zero, List.set_cons_succ]
    refine upto_takeN (i := 5) (v := ?_) rfl (by kernel_rfl) (by kernel_rfl) (by kernel_rfl) (by kernel_rfl) (fun _ _ _ h => h) (by rfl) hS ?_ ?_
    rotate_left
    · intro wS hSw
      try dsimp only at hSw
      first | (go_simp; done) | (go_simp; with_reducible rfl)
    try simp only [Act.put, List.getElem_toArray, List.getElem_cons_zero, List.getElem_cons_succ, List.setIfInBounds_toArray, List.set_cons_zero, List.set_cons_succ]
    refine upto_takeN (i := 8) (v := ?_) rfl (by kernel_rfl) (by kernel_rfl) (by kernel_rfl) (by kernel_rfl) (fun _ _ _ h => h) (by rfl) hS ?_ ?_
    rotate_left
    · intro wS hSw
      try dsimp only at hSw
      first | (go_simp; done) | (go_simp; with_reducible rfl)
    try simp only [Act.put, List.getElem_toArray, List.getElem_cons_zero, List.getElem_cons_succ, List.setIfInBounds_toArray, List.set_cons_zero, List.set_cons_succ]
    refine upto_takeN (i := 9) (v := ?_) rfl (by kernel_rfl) (by kernel_rfl) (by kernel_rfl) (by kernel_rfl) (fun _ _ _ h => h) (by rfl) hS ?_ ?_
    rotate_left
    · intro wS hSw
      try dsimp only at hSw
      first | (go_simp; done) | (go_simp; with_reducible rfl)
    try simp only [Act.put, List.getElem_toArray, List.getElem_cons_zero, List.getElem_cons_succ, List.setIfInBounds_toArray, List.set_cons_zero, List.set_cons_succ]
    refine upto_step (i := 6) (by kernel_rfl) rfl ?_
    intro K hK
    go_simp
    refine (layersOf_V _ d _ (engnR.below HX.out (bstep hB1 hS.1)) (by omega)).mono ?_
    rintro e w3 ⟨v3, rfl, hV3, b3⟩
    obtain ⟨a3, c3, rfl⟩ := rowss_form hV3
    have hS3 : (fun w' => Below w1.heap.size w1 w' ∧ w'.cell? ⟨w.heap.size, 0, none⟩ = some (u1) ∧ w'.cell? ⟨w.heap.size, 1, none⟩ = some (u2) ∧ w'.cell? ⟨w.heap.size, 2, none⟩ = some (u3) ∧ w'.cell? ⟨w.heap.size, 3, none⟩ = some (u4) ∧ w'.cell? ⟨w.heap.size, 4, none⟩ = some (.int .i64 d.next)) w3 := ⟨bstep hS.1 b3, cell_keep b3 hS.2.1, cell_keep b3 hS.2.2.1, cell_keep b3 hS.2.2.2.1, cell_keep b3 hS.2.2.2.2.1, cell_keep b3 hS.2.2.2.2.2⟩
    refine hK _ _ (fun _ => hS3) ?_
    clear hK K hS
    try simp only [Act.put, List.getElem_toArray, List.getElem_cons_zero, List.getElem_cons_succ, List.setIfInBounds_toArray, List.set_cons_zero, List.set_cons_succ]
    refine upto_step (i := 7) (by kernel_rfl) rfl ?_
    intro K hK
    go_simp
    refine (greatest_any _ (d.mem :: d.tables) _ hV3).mono ?_
    rintro e w4 ⟨rfl, b4⟩
    have hS4 : (fun w' => Below w1.heap.size w1 w' ∧ w'.cell? ⟨w.heap.size, 0, none⟩ = some (u1) ∧ w'.cell? ⟨w.heap.size, 1, none⟩ = some (u2) ∧ w'.cell? ⟨w.heap.size, 2, none⟩ = some (u3) ∧ w'.cell? ⟨w.heap.size, 3, none⟩ = some (u4) ∧ w'.cell? ⟨w.heap.size, 4, none⟩ = some (.int .i64 d.next)) w4 := ⟨bstep hS3.1 b4, cell_keep b4 hS3.2.1, cell_keep b4 hS3.2.2.1, cell_keep b4 hS3.2.2.2.1, cell_keep b4 hS3.2.2.2.2.1, cell_keep b4 hS3.2.2.2.2.2⟩
    rw [HGV.out]
    refine hK _ _ (fun _ => hS4) ?_
    clear hK K hS3
    try simp only [Act.put, List.getElem_toArray, List.getElem_cons_zero, List.getElem_cons_succ, List.setIfInBounds_toArray, List.set_cons_zero, List.set_cons_succ]
    refine upto_takeN (i := 10) (v := (.bool true)) rfl (by kernel_rfl) (by kernel_rfl) (by kernel_rfl) (by kernel_rfl) (fun _ _ _ h => h) (by rfl) hS4 ?_ ?_
    · intro wS hSw
      try dsimp only at hSw
      go_simp
    try simp only [Act.put, List.getElem_toArray, List.getElem_cons_zero, List.getElem_cons_succ, List.setIfInBounds_toArray, List.set_cons_zero, List.set_cons_succ]
    refine upto_takeN (i := 11) (v := (.bool true)) rfl (by kernel_rfl) (by kernel_rfl) (by kernel_rfl) (by kernel_rfl) (fun _ _ _ h => h) (by rfl) hS4 ?_ ?_
    · intro wS hSw
      try dsimp only at hSw
      go_simp
    try simp only [Act.put, List.getElem_toArray, List.getElem_cons_zero, List.getElem_cons_succ, List.setIfInBounds_toArray, List.set_cons_zero, List.set_cons_succ]
    refine upto_done (by kernel_rfl) ?_
    refine NoPanic.normal ?_
    go_wp2
    go_ret
    exact ⟨by rw [HE.out]; rfl, bstep hB1 hS4.1⟩
  have HRA : Hid (rangeE d = true) := by rw [Hid, HRH.out, decide_eq_true hr]
  have hr2 : ¬ d.next ≤ gv := by omega
  clear HRH
  go_wp2
  refine wp_region_noPanic ?_
  refine region_upto (fun w' => Below w1.heap.size w1 w' ∧ w'.cell? ⟨w.heap.size, 0, none⟩ = some (u1) ∧ w'.cell? ⟨w.heap.size, 1, none⟩ = some (u2) ∧ w'.cell? ⟨w.heap.size, 2, none⟩ = some (u3) ∧ w'.cell? ⟨w.heap.size, 3, none⟩ = some (u4) ∧ w'.cell? ⟨w.heap.size, 4, none⟩ = some (.int .i64 d.next)) 12 (by kernel_rfl) ⟨by (repeat (first | exact Below.refl _ _ | assumption | refine Below.drew ?_ | refine balloc ?_ _ | refine bset ?_ (by simp; omega) _ | refine bset ?_ (by simp) _ | refine bstep ?_ (by assumption))), cell_keep (by (repeat (first | exact Below.refl _ _ | assumption | refine Below.drew ?_ | refine balloc ?_ _ | refine bset ?_ (by simp; omega) _ | refine bset ?_ (by simp) _ | refine bstep ?_ (by assumption)))) r0, cell_keep (by (repeat (first | exact Below.refl _ _ | assumption | refine Below.drew ?_ | refine balloc ?_ _ | refine bset ?_ (by simp; omega) _ | refine bset ?_ (by simp) _ | refine bstep ?_ (by assumption)))) r1, cell_keep (by (repeat (first | exact Below.refl _ _ | assumption | refine Below.drew ?_ | refine balloc ?_ _ | refine bset ?_ (by simp; omega) _ | refine bset ?_ (by simp) _ | refine bstep ?_ (by assumption)))) r2, cell_keep (by (repeat (first | exact Below.refl _ _ | assumption | refine Below.drew ?_ | refine balloc ?_ _ | refine bset ?_ (by simp; omega) _ | refine bset ?_ (by simp) _ | refine bstep ?_ (by assumption)))) r3, cell_keep (by (repeat (first | exact Below.refl _ _ | assumption | refine Below.drew ?_ | refine balloc ?_ _ | refine bset ?_ (by simp; omega) _ | refine bset ?_ (by simp) _ | refine bstep ?_ (by assumption)))) r4⟩ (fun hS => ?_)
  refine upto_takeN (i := 0) (v := ?_) rfl (by kernel_rfl) (by kernel_rfl) (by kernel_rfl) (by kernel_rfl) (fun _ _ _ h => h) (by rfl) hS ?_ ?_
  rotate_left
  · intro wS hSw
    try dsimp only at hSw
    first | (go_simp; done) | (go_simp; with_reducible rfl)
  try simp only [Act.put, List.getElem_toArray, List.getElem_cons_zero, List.getElem_cons_succ, List.setIfInBounds_toArray, List.set_cons_zero, List.set_cons_succ]
  refine upto_takeN (i := 1) (v := ?_) rfl (by kernel_rfl) (by kernel_rfl) (by kernel_rfl) (by kernel_rfl) (fun _ _ _ h => h) (by rfl) hS ?_ ?_
  rotate_left
  · intro wS hSw
    try dsimp only at hSw
    first | (go_simp; done) | (go_simp; with_reducible rfl)
  try simp only [Act.put, List.getElem_toArray, List.getElem_cons_zero, List.getElem_cons_succ, List.setIfInBounds_toArray, List.set_cons_zero, List.set_cons_succ]
  refine upto_step (i := 2) (by kernel_rfl) rfl ?_
  intro K hK
  go_simp
  refine (isVersion_any _ _).mono ?_
  rintro e w' ⟨rfl, hEq⟩
  obtain rfl := hEq.symm
  rw [HIN.out]
  refine hK _ _ (fun _ => hS) ?_
  clear hK K hEq
  try simp only [Act.put, List.getElem_toArray, List.getElem_cons_zero, List.getElem_cons_succ, List.setIfInBounds_toArray, List.set_cons_zero, List.set_cons_succ]
  refine upto_takeN (i := 3) (v := (.bool false)) rfl (by kernel_rfl) (by kernel_rfl) (by kernel_rfl) (by kernel_rfl) (fun _ _ _ h => h) (by rfl) hS ?_ ?_
  · intro wS hSw
    try dsimp only at hSw
    go_simp
  try simp only [Act.put, List.getElem_toArray, List.getElem_cons_zero, List.getElem_cons_succ, List.setIfInBounds_toArray, List.set_cons_zero, List.set_cons_succ]
  refine upto_takeN (i := 4) (v := (.bool false)) rfl (by kernel_rfl) (by kernel_rfl) (by kernel_rfl) (by kernel_rfl) (fun _ _ _ h => h) (by rfl) hS ?_ ?_
  · intro wS hSw
    try dsimp only at hSw
    go_simp
  try simp only [Act.put, List.getElem_toArray, List.getElem_cons_zero, List.getElem_cons_succ, List.setIfInBounds_toArray, List.set_cons_zero, List.set_cons_succ]
  refine upto_takeN (i := 5) (v := ?_) rfl (by kernel_rfl) (by kernel_rfl) (by kernel_rfl) (by kernel_rfl) (fun _ _ _ h => h) (by rfl) hS ?_ ?_
  rotate_left
  · intro wS hSw
    try dsimp only at hSw
    first | (go_simp; done) | (go_simp; with_reducible rfl)
  try simp only [Act.put, List.getElem_toArray, List.getElem_cons_zero, List.getElem_cons_succ, List.setIfInBounds_toArray, List.set_cons_zero, List.set_cons_succ]
  refine upto_takeN (i := 8) (v := ?_) rfl (by kernel_rfl) (by kernel_rfl) (by kernel_rfl) (by kernel_rfl) (fun _ _ _ h => h) (by rfl) hS ?_ ?_
  rotate_left
  · intro wS hSw
    try dsimp only at hSw
    first | (go_simp; done) | (go_simp; with_reducible rfl)
  try simp only [Act.put, List.getElem_toArray, List.getElem_cons_zero, List.getElem_cons_succ, List.setIfInBounds_toArray, List.set_cons_zero, List.set_cons_succ]
  refine upto_takeN (i := 9) (v := ?_) rfl (by kernel_rfl) (by kernel_rfl) (by kernel_rfl) (by kernel_rfl) (fun _ _ _ h => h) (by rfl) hS ?_ ?_
  rotate_left
  · intro wS hSw
    try dsimp only at hSw
    first | (go_simp; done) | (go_simp; with_reducible rfl)
  try simp only [Act.put, List.getElem_toArray, List.getElem_cons_zero, List.getElem_cons_succ, List.setIfInBounds_toArray, List.set_cons_zero, List.set_cons_succ]
  refine upto_step (i := 6) (by kernel_rfl) rfl ?_
  intro K hK
  go_simp
  refine (layersOf_V _ d _ (engnR.below HX.out (bstep hB1 hS.1)) (by omega)).mono ?_
  rintro e w3 ⟨v3, rfl, hV3, b3⟩
  obtain ⟨a3, c3, rfl⟩ := rowss_form hV3
  have hS3 : (fun w' => Below w1.heap.size w1 w' ∧ w'.cell? ⟨w.heap.size, 0, none⟩ = some (u1) ∧ w'.cell? ⟨w.heap.size, 1, none⟩ = some (u2) ∧ w'.cell? ⟨w.heap.size, 2, none⟩ = some (u3) ∧ w'.cell? ⟨w.heap.size, 3, none⟩ = some (u4) ∧ w'.cell? ⟨w.heap.size, 4, none⟩ = some (.int .i64 d.next)) w3 := ⟨bstep hS.1 b3, cell_keep b3 hS.2.1, cell_keep b3 hS.2.2.1, cell_keep b3 hS.2.2.2.1, cell_keep b3 hS.2.2.2.2.1, cell_keep b3 hS.2.2.2.2.2⟩
  refine hK _ _ (fun _ => hS3) ?_
  clear hK K hS
  try simp only [Act.put, List.getElem_toArray, List.getElem_cons_zero, List.getElem_cons_succ, List.setIfInBounds_toArray, List.set_cons_zero, List.set_cons_succ]
  refine upto_step (i := 7) (by kernel_rfl) rfl ?_
  intro K hK
  go_simp
  refine (greatest_any _ (d.mem :: d.tables) _ hV3).mono ?_
  rintro e w4 ⟨rfl, b4⟩
  have hS4 : (fun w' => Below w1.heap.size w1 w' ∧ w'.cell? ⟨w.heap.size, 0, none⟩ = some (u1) ∧ w'.cell? ⟨w.heap.size, 1, none⟩ = some (u2) ∧ w'.cell? ⟨w.heap.size, 2, none⟩ = some (u3) ∧ w'.cell? ⟨w.heap.size, 3, none⟩ = some (u4) ∧ w'.cell? ⟨w.heap.size, 4, none⟩ = some (.int .i64 d.next)) w4 := ⟨bstep hS3.1 b4, cell_keep b4 hS3.2.1, cell_keep b4 hS3.2.2.1, cell_keep b4 hS3.2.2.2.1, cell_keep b4 hS3.2.2.2.2.1, cell_keep b4 hS3.2.2.2.2.2⟩
  rw [HGV.out]
  refine hK _ _ (fun _ => hS4) ?_
  clear hK K hS3
  try simp only [Act.put, List.getElem_toArray, List.getElem_cons_zero, List.getElem_cons_succ, List.setIfInBounds_toArray, List.set_cons_zero, List.set_cons_succ]
  refine upto_takeN (i := 10) (v := (.bool false)) rfl (by kernel_rfl) (by kernel_rfl) (by kernel_rfl) (by kernel_rfl) (fun _ _ _ h => h) (by rfl) hS4 ?_ ?_
  · intro wS hSw
    try dsimp only at hSw
    go_simp
  try simp only [Act.put, List.getElem_toArray, List.getElem_cons_zero, List.getElem_cons_succ, List.setIfInBounds_toArray, List.set_cons_zero, List.set_cons_succ]
  refine upto_takeN (i := 11) (v := (.bool false)) rfl (by kernel_rfl) (by kernel_rfl) (by kernel_rfl) (by kernel_rfl) (fun _ _ _ h => h) (by rfl) hS4 ?_ ?_
  · intro wS hSw
    try dsimp only at hSw
    go_simp
  try simp only [Act.put, List.getElem_toArray, List.getElem_cons_zero, List.getElem_cons_succ, List.setIfInBounds_toArray, List.set_cons_zero, List.set_cons_succ]
  refine upto_done (by kernel_rfl) ?_
  refine NoPanic.normal ?_
  obtain ⟨hb4, q0, q1, q2, q3, q4⟩ := hS4
  have hB4 := bstep hB1 hb4
  clear r0 r1 r2 r3 r4 b3 b4 hV3 hb4 hB1 hr hr2
  go_wp2_with fail
  refine (logged_any _ d.log d.next _ (loggR.below HL.out hB4) HLF.out).mono ?_
  rintro e w5 ⟨v, f, rfl, hP, b5⟩
  have r0 := cell_keep b5 q0
  have r1 := cell_keep b5 q1
  have r2 := cell_keep b5 q2
  have r3 := cell_keep b5 q3
  have r4 := cell_keep b5 q4
  have hB5 := bstep hB4 b5
  clear q0 q1 q2 q3 q4 b5 hB4
  obtain ⟨⟨av, nv, cv, rfl⟩, hPt, hPf⟩ := hP
  have hlm : d.mem.length ≤ 200 := (tabF_all HMF.out).1
  cases f with
  | false =>
    have HE : Hid (engF d = 1) := engF_log HPA.out HRA.out (fun h => by have := hPf rfl _ h; omega)
    clear hPt hPf
    go_wp2
    refine wp_region_noPanic ?_
    refine region_upto (fun w' => Below w5.heap.size w5 w' ∧ w'.cell? ⟨w.heap.size, 0, none⟩ = some (u1) ∧ w'.cell? ⟨w.heap.size, 1, none⟩ = some (u2) ∧ w'.cell? ⟨w.heap.size, 2, none⟩ = some (u3) ∧ w'.cell? ⟨w.heap.size, 3, none⟩ = some (u4) ∧ w'.cell? ⟨w.heap.size, 4, none⟩ = some (.int .i64 d.next)) 18 (by kernel_rfl) ⟨by (repeat (first | exact Below.refl _ _ | assumption | refine Below.drew ?_ | refine balloc ?_ _ | refine bset ?_ (by simp; omega) _ | refine bset ?_ (by simp) _ | refine bstep ?_ (by assumption))), cell_keep (by (repeat (first | exact Below.refl _ _ | assumption | refine Below.drew ?_ | refine balloc ?_ _ | refine bset ?_ (by simp; omega) _ | refine bset ?_ (by simp) _ | refine bstep ?_ (by assumption)))) r0, cell_keep (by (repeat (first | exact Below.refl _ _ | assumption | refine Below.drew ?_ | refine balloc ?_ _ | refine bset ?_ (by simp; omega) _ | refine bset ?_ (by simp) _ | refine bstep ?_ (by assumption)))) r1, cell_keep (by (repeat (first | exact Below.refl _ _ | assumption | refine Below.drew ?_ | refine balloc ?_ _ | refine bset ?_ (by simp; omega) _ | refine bset ?_ (by simp) _ | refine bstep ?_ (by assumption)))) r2, cell_keep (by (repeat (first | exact Below.refl _ _ | assumption | refine Below.drew ?_ | refine balloc ?_ _ | refine bset ?_ (by simp; omega) _ | refine bset ?_ (by simp) _ | refine bstep ?_ (by assumption)))) r3, cell_keep (by (repeat (first | exact Below.refl _ _ | assumption | refine Below.drew ?_ | refine balloc ?_ _ | refine bset ?_ (by simp; omega) _ | refine bset ?_ (by simp) _ | refine bstep ?_ (by assumption)))) r4⟩ (fun hS => ?_)
    refine upto_takeN (i := 0) (v := ?_) rfl (by kernel_rfl) (by kernel_rfl) (by kernel_rfl) (by kernel_rfl) (fun _ _ _ h => h) (by rfl) hS ?_ ?_
    rotate_left
    · intro wS hSw
      try dsimp only at hSw
      first | (go_simp; done) | (go_simp; with_reducible rfl)
    try simp only [Act.put, List.getElem_toArray, List.getElem_cons_zero, List.getElem_cons_succ, List.setIfInBounds_toArray, List.set_cons_zero, List.set_cons_succ]
    refine upto_takeN (i := 1) (v := (.bool true)) rfl (by kernel_rfl) (by kernel_rfl) (by kernel_rfl) (by kernel_rfl) (fun _ _ _ h => h) (by rfl) hS ?_ ?_
    · intro wS hSw
      try dsimp only at hSw
      go_simp
    try simp only [Act.put, List.getElem_toArray, List.getElem_cons_zero, List.getElem_cons_succ, List.setIfInBounds_toArray, List.set_cons_zero, List.set_cons_succ]
    refine upto_takeN (i := 2) (v := (.bool true)) rfl (by kernel_rfl) (by kernel_rfl) (by kernel_rfl) (by kernel_rfl) (fun _ _ _ h => h) (by rfl) hS ?_ ?_
    · intro wS hSw
      try dsimp only at hSw
      go_simp
    try simp only [Act.put, List.getElem_toArray, List.getElem_cons_zero, List.getElem_cons_succ, List.setIfInBounds_toArray, List.set_cons_zero, List.set_cons_succ]
    refine upto_skipN (i := 3) rfl (by kernel_rfl) (by kernel_rfl) (by kernel_rfl) (by kernel_rfl) (fun _ _ _ h => h) (by rfl) hS (fun q3 => ?_)
    try simp only [Act.put, List.getElem_toArray, List.getElem_cons_zero, List.getElem_cons_succ, List.setIfInBounds_toArray, List.set_cons_zero, List.set_cons_succ]
    refine upto_skipN (i := 4) rfl (by kernel_rfl) (by kernel_rfl) (by kernel_rfl) (by kernel_rfl) (fun _ _ _ h => h) (by rfl) hS (fun q4 => ?_)
    try simp only [Act.put, List.getElem_toArray, List.getElem_cons_zero, List.getElem_cons_succ, List.setIfInBounds_toArray, List.set_cons_zero, List.set_cons_succ]
    refine upto_skipN (i := 5) rfl (by kernel_rfl) (by kernel_rfl) (by kernel_rfl) (by kernel_rfl) (fun _ _ _ h => h) (by rfl) hS (fun q5 => ?_)
    try simp only [Act.put, List.getElem_toArray, List.getElem_cons_zero, List.getElem_cons_succ, List.setIfInBounds_toArray, List.set_cons_zero, List.set_cons_succ]
    refine upto_skipN (i := 6) rfl (by kernel_rfl) (by kernel_rfl) (by kernel_rfl) (by kernel_rfl) (fun _ _ _ h => h) (by rfl) hS (fun q6 => ?_)
    try simp only [Act.put, List.getElem_toArray, List.getElem_cons_zero, List.getElem_cons_succ, List.setIfInBounds_toArray, List.set_cons_zero, List.set_cons_succ]
    refine upto_skipN (i := 7) rfl (by kernel_rfl) (by kernel_rfl) (by kernel_rfl) (by kernel_rfl) (fun _ _ _ h => h) (by rfl) hS (fun q7 => ?_)
    try simp only [Act.put, List.getElem_toArray, List.getElem_cons_zero, List.getElem_cons_succ, List.setIfInBounds_toArray, List.set_cons_zero, List.set_cons_succ]
    refine upto_takeN (i := 8) (v := (.bool true)) rfl (by kernel_rfl) (by kernel_rfl) (by kernel_rfl) (by kernel_rfl) (fun _ _ _ h => h) (by rfl) hS ?_ ?_
    · intro wS hSw
      try dsimp only at hSw
      go_simp
    try simp only [Act.put, List.getElem_toArray, List.getElem_cons_zero, List.getElem_cons_succ, List.setIfInBounds_toArray, List.set_cons_zero, List.set_cons_succ]
    refine upto_takeN (i := 9) (v := (.bool true)) rfl (by kernel_rfl) (by kernel_rfl) (by kernel_rfl) (by kernel_rfl) (fun _ _ _ h => h) (by rfl) hS ?_ ?_
    · intro wS hSw
      try dsimp only at hSw
      go_simp
    try simp only [Act.put, List.getElem_toArray, List.getElem_cons_zero, List.getElem_cons_succ, List.setIfInBounds_toArray, List.set_cons_zero, List.set_cons_succ]
    refine upto_skipN (i := 10) rfl (by kernel_rfl) (by kernel_rfl) (by kernel_rfl) (by kernel_rfl) (fun _ _ _ h => h) (by rfl) hS (fun q10 => ?_)
    try simp only [Act.put, List.getElem_toArray, List.getElem_cons_zero, List.getElem_cons_succ, List.setIfInBounds_toArray, List.set_cons_zero, List.set_cons_succ]
    refine upto_skipN (i := 11) rfl (by kernel_rfl) (by kernel_rfl) (by kernel_rfl) (by kernel_rfl) (fun _ _ _ h => h) (by rfl) hS (fun q11 => ?_)
    try simp only [Act.put, List.getElem_toArray, List.getElem_cons_zero, List.getElem_cons_succ, List.setIfInBounds_toArray, List.set_cons_zero, List.set_cons_succ]
    refine upto_skipN (i := 12) rfl (by kernel_rfl) (by kernel_rfl) (by kernel_rfl) (by kernel_rfl) (fun _ _ _ h => h) (by rfl) hS (fun q12 => ?_)
    try simp only [Act.put, List.getElem_toArray, List.getElem_cons_zero, List.getElem_cons_succ, List.setIfInBounds_toArray, List.set_cons_zero, List.set_cons_succ]
    refine upto_skipN (i := 13) rfl (by kernel_rfl) (by kernel_rfl) (by kernel_rfl) (by kernel_rfl) (fun _ _ _ h => h) (by rfl) hS (fun q13 => ?_)
    try simp only [Act.put, List.getElem_toArray, List.getElem_cons_zero, List.getElem_cons_succ, List.setIfInBounds_toArray, List.set_cons_zero, List.set_cons_succ]
    refine upto_skipN (i := 14) rfl (by kernel_rfl) (by kernel_rfl) (by kernel_rfl) (by kernel_rfl) (fun _ _ _ h => h) (by rfl) hS (fun q14 => ?_)
    try simp only [Act.put, List.getElem_toArray, List.getElem_cons_zero, List.getElem_cons_succ, List.setIfInBounds_toArray, List.set_cons_zero, List.set_cons_succ]
    refine upto_skipN (i := 15) rfl (by kernel_rfl) (by kernel_rfl) (by kernel_rfl) (by kernel_rfl) (fun _ _ _ h => h) (by rfl) hS (fun q15 => ?_)
    try simp only [Act.put, List.getElem_toArray, List.getElem_cons_zero, List.getElem_cons_succ, List.setIfInBounds_toArray, List.set_cons_zero, List.set_cons_succ]
    refine upto_skipN (i := 16) rfl (by kernel_rfl) (by kernel_rfl) (by kernel_rfl) (by kernel_rfl) (fun _ _ _ h => h) (by rfl) hS (fun q16 => ?_)
    try simp only [Act.put, List.getElem_toArray, List.getElem_cons_zero, List.getElem_cons_succ, List.setIfInBounds_toArray, List.set_cons_zero, List.set_cons_succ]
    refine upto_takeN (i := 17) (v := (.bool true)) rfl (by kernel_rfl) (by kernel_rfl) (by kernel_rfl) (by kernel_rfl) (fun _ _ _ h => h) (by rfl) hS ?_ ?_
    · intro wS hSw
      try dsimp only at hSw
      go_simp
    try simp only [Act.put, List.getElem_toArray, List.getElem_cons_zero, List.getElem_cons_succ, List.setIfInBounds_toArray, List.set_cons_zero, List.set_cons_succ]
    refine upto_done (by kernel_rfl) ?_
    refine NoPanic.normal ?_
    go_wp2
    go_ret
    exact ⟨by rw [HE.out]; rfl, bstep hB5 hS.1⟩
  | true =>
    obtain ⟨out, hre, hol, ho⟩ := hPt rfl
    have hO := RowsV_of_owns ho
    have HO : Hid (RowsV w5 (.slice av nv cv) out) := hO
    clear hPt hPf ho hO
    by_cases he : out = d.mem
    rotate_left
    · have HE : Hid (engF d = 1) := engF_log HPA.out HRA.out (by rw [hre]; intro h; cases h; exact he rfl)
      have HD : Hid (decide (out = d.mem) = false) := decide_eq_false he
      clear he hre
      go_wp2
      refine wp_region_noPanic ?_
      refine region_upto (fun w' => Below w5.heap.size w5 w' ∧ w'.cell? ⟨w.heap.size, 0, none⟩ = some (u1) ∧ w'.cell? ⟨w.heap.size, 1, none⟩ = some (u2) ∧ w'.cell? ⟨w.heap.size, 2, none⟩ = some (u3) ∧ w'.cell? ⟨w.heap.size, 3, none⟩ = some (u4) ∧ w'.cell? ⟨w.heap.size, 4, none⟩ = some (.int .i64 d.next)) 18 (by kernel_rfl) ⟨by (repeat (first | exact Below.refl _ _ | assumption | refine Below.drew ?_ | refine balloc ?_ _ | refine bset ?_ (by simp; omega) _ | refine bset ?_ (by simp) _ | refine bstep ?_ (by assumption))), cell_keep (by (repeat (first | exact Below.refl _ _ | assumption | refine Below.drew ?_ | refine balloc ?_ _ | refine bset ?_ (by simp; omega) _ | refine bset ?_ (by simp) _ | refine bstep ?_ (by assumption)))) r0, cell_keep (by (repeat (first | exact Below.refl _ _ | assumption | refine Below.drew ?_ | refine balloc ?_ _ | refine bset ?_ (by simp; omega) _ | refine bset ?_ (by simp) _ | refine bstep ?_ (by assumption)))) r1, cell_keep (by (repeat (first | exact Below.refl _ _ | assumption | refine Below.drew ?_ | refine balloc ?_ _ | refine bset ?_ (by simp; omega) _ | refine bset ?_ (by simp) _ | refine bstep ?_ (by assumption)))) r2, cell_keep (by (repeat (first | exact Below.refl _ _ | assumption | refine Below.drew ?_ | refine balloc ?_ _ | refine bset ?_ (by simp; omega) _ | refine bset ?_ (by simp) _ | refine bstep ?_ (by assumption)))) r3, cell_keep (by (repeat (first | exact Below.refl _ _ | assumption | refine Below.drew ?_ | refine balloc ?_ _ | refine bset ?_ (by simp; omega) _ | refine bset ?_ (by simp) _ | refine bstep ?_ (by assumption)))) r4⟩ (fun hS => ?_)
      refine upto_takeN (i := 0) (v := ?_) rfl (by kernel_rfl) (by kernel_rfl) (by kernel_rfl) (by kernel_rfl) (fun _ _ _ h => h) (by rfl) hS ?_ ?_
      rotate_left
      · intro wS hSw
        try dsimp only at hSw
        first | (go_simp; done) | (go_simp; with_reducible rfl)
      try simp only [Act.put, List.getElem_toArray, List.getElem_cons_zero, List.getElem_cons_succ, List.setIfInBounds_toArray, List.set_cons_zero, List.set_cons_succ]
      refine upto_takeN (i := 1) (v := (.bool false)) rfl (by kernel_rfl) (by kernel_rfl) (by kernel_rfl) (by kernel_rfl) (fun _ _ _ h => h) (by rfl) hS ?_ ?_
      · intro wS hSw
        try dsimp only at hSw
        go_simp
      try simp only [Act.put, List.getElem_toArray, List.getElem_cons_zero, List.getElem_cons_succ, List.setIfInBounds_toArray, List.set_cons_zero, List.set_cons_succ]
      refine upto_takeN (i := 2) (v := (.bool false)) rfl (by kernel_rfl) (by kernel_rfl) (by kernel_rfl) (by kernel_rfl) (fun _ _ _ h => h) (by rfl) hS ?_ ?_
      · intro wS hSw
        try dsimp only at hSw
        go_simp
      try simp only [Act.put, List.getElem_toArray, List.getElem_cons_zero, List.getElem_cons_succ, List.setIfInBounds_toArray, List.set_cons_zero, List.set_cons_succ]
      refine upto_takeN (i := 3) (v := ?_) rfl (by kernel_rfl) (by kernel_rfl) (by kernel_rfl) (by kernel_rfl) (fun _ _ _ h => h) (by rfl) hS ?_ ?_
      rotate_left
      · intro wS hSw
        try dsimp only at hSw
        first | (go_simp; done) | (go_simp; with_reducible rfl)
      try simp only [Act.put, List.getElem_toArray, List.getElem_cons_zero, List.getElem_cons_succ, List.setIfInBounds_toArray, List.set_cons_zero, List.set_cons_succ]
      refine upto_takeN (i := 4) (v := ?_) rfl (by kernel_rfl) (by kernel_rfl) (by kernel_rfl) (by kernel_rfl) (fun _ _ _ h => h) (by rfl) hS ?_ ?_
      rotate_left
      · intro wS hSw
        try dsimp only at hSw
        first | (go_simp; done) | (go_simp; with_reducible rfl)
      try simp only [Act.put, List.getElem_toArray, List.getElem_cons_zero, List.getElem_cons_succ, List.setIfInBounds_toArray, List.set_cons_zero, List.set_cons_succ]
      refine upto_takeN (i := 5) (v := ?_) rfl (by kernel_rfl) (by kernel_rfl) (by kernel_rfl) (by kernel_rfl) (fun _ _ _ h => h) (by rfl) hS ?_ ?_
      rotate_left
      · intro wS hSw
        try dsimp only at hSw
        first | (go_simp; done) | (go_simp; with_reducible rfl)
      try simp only [Act.put, List.getElem_toArray, List.getElem_cons_zero, List.getElem_cons_succ, List.setIfInBounds_toArray, List.set_cons_zero, List.set_cons_succ]
      refine upto_step (i := 6) (by kernel_rfl) rfl ?_
      intro K hK
      go_simp
      refine (equalRows_any _ _ out d.mem _ (RowsV_below HO.out hS.1) (RowsV_below HM.out (bstep hB5 hS.1))).mono ?_
      rintro e w6 ⟨rfl, b6⟩
      have hS6 : (fun w' => Below w5.heap.size w5 w' ∧ w'.cell? ⟨w.heap.size, 0, none⟩ = some (u1) ∧ w'.cell? ⟨w.heap.size, 1, none⟩ = some (u2) ∧ w'.cell? ⟨w.heap.size, 2, none⟩ = some (u3) ∧ w'.cell? ⟨w.heap.size, 3, none⟩ = some (u4) ∧ w'.cell? ⟨w.heap.size, 4, none⟩ = some (.int .i64 d.next)) w6 := ⟨bstep hS.1 b6, cell_keep b6 hS.2.1, cell_keep b6 hS.2.2.1, cell_keep b6 hS.2.2.2.1, cell_keep b6 hS.2.2.2.2.1, cell_keep b6 hS.2.2.2.2.2⟩
      rw [HD.out]
      refine hK _ _ (fun _ => hS6) ?_
      clear hK K hS
      try simp only [Act.put, List.getElem_toArray, List.getElem_cons_zero, List.getElem_cons_succ, List.setIfInBounds_toArray, List.set_cons_zero, List.set_cons_succ]
      refine upto_takeN (i := 7) (v := (.bool true)) rfl (by kernel_rfl) (by kernel_rfl) (by kernel_rfl) (by kernel_rfl) (fun _ _ _ h => h) (by rfl) hS6 ?_ ?_
      · intro wS hSw
        try dsimp only at hSw
        go_simp
      try simp only [Act.put, List.getElem_toArray, List.getElem_cons_zero, List.getElem_cons_succ, List.setIfInBounds_toArray, List.set_cons_zero, List.set_cons_succ]
      refine upto_takeN (i := 8) (v := (.bool true)) rfl (by kernel_rfl) (by kernel_rfl) (by kernel_rfl) (by kernel_rfl) (fun _ _ _ h => h) (by rfl) hS6 ?_ ?_
      · intro wS hSw
        try dsimp only at hSw
        go_simp
      try simp only [Act.put, List.getElem_toArray, List.getElem_cons_zero, List.getElem_cons_succ, List.setIfInBounds_toArray, List.set_cons_zero, List.set_cons_succ]
      refine upto_takeN (i := 9) (v := (.bool true)) rfl (by kernel_rfl) (by kernel_rfl) (by kernel_rfl) (by kernel_rfl) (fun _ _ _ h => h) (by rfl) hS6 ?_ ?_
      · intro wS hSw
        try dsimp only at hSw
        go_simp
      try simp only [Act.put, List.getElem_toArray, List.getElem_cons_zero, List.getElem_cons_succ, List.setIfInBounds_toArray, List.set_cons_zero, List.set_cons_succ]
      refine upto_skipN (i := 10) rfl (by kernel_rfl) (by kernel_rfl) (by kernel_rfl) (by kernel_rfl) (fun _ _ _ h => h) (by rfl) hS6 (fun q10 => ?_)
      try simp only [Act.put, List.getElem_toArray, List.getElem_cons_zero, List.getElem_cons_succ, List.setIfInBounds_toArray, List.set_cons_zero, List.set_cons_succ]
      refine upto_skipN (i := 11) rfl (by kernel_rfl) (by kernel_rfl) (by kernel_rfl) (by kernel_rfl) (fun _ _ _ h => h) (by rfl) hS6 (fun q11 => ?_)
      try simp only [Act.put, List.getElem_toArray, List.getElem_cons_zero, List.getElem_cons_succ, List.setIfInBounds_toArray, List.set_cons_zero, List.set_cons_succ]
      refine upto_skipN (i := 12) rfl (by kernel_rfl) (by kernel_rfl) (by kernel_rfl) (by kernel_rfl) (fun _ _ _ h => h) (by rfl) hS6 (fun q12 => ?_)
      try simp only [Act.put, List.getElem_toArray, List.getElem_cons_zero, List.getElem_cons_succ, List.setIfInBounds_toArray, List.set_cons_zero, List.set_cons_succ]
      refine upto_skipN (i := 13) rfl (by kernel_rfl) (by kernel_rfl) (by kernel_rfl) (by kernel_rfl) (fun _ _ _ h => h) (by rfl) hS6 (fun q13 => ?_)
      try simp only [Act.put, List.getElem_toArray, List.getElem_cons_zero, List.getElem_cons_succ, List.setIfInBounds_toArray, List.set_cons_zero, List.set_cons_succ]
      refine upto_skipN (i := 14) rfl (by kernel_rfl) (by kernel_rfl) (by kernel_rfl) (by kernel_rfl) (fun _ _ _ h => h) (by rfl) hS6 (fun q14 => ?_)
      try simp only [Act.put, List.getElem_toArray, List.getElem_cons_zero, List.getElem_cons_succ, List.setIfInBounds_toArray, List.set_cons_zero, List.set_cons_succ]
      refine upto_skipN (i := 15) rfl (by kernel_rfl) (by kernel_rfl) (by kernel_rfl) (by kernel_rfl) (fun _ _ _ h => h) (by rfl) hS6 (fun q15 => ?_)
      try simp only [Act.put, List.getElem_toArray, List.getElem_cons_zero, List.getElem_cons_succ, List.setIfInBounds_toArray, List.set_cons_zero, List.set_cons_succ]
      refine upto_skipN (i := 16) rfl (by kernel_rfl) (by kernel_rfl) (by kernel_rfl) (by kernel_rfl) (fun _ _ _ h => h) (by rfl) hS6 (fun q16 => ?_)
      try simp only [Act.put, List.getElem_toArray, List.getElem_cons_zero, List.getElem_cons_succ, List.setIfInBounds_toArray, List.set_cons_zero, List.set_cons_succ]
      refine upto_takeN (i := 17) (v := (.bool true)) rfl (by kernel_rfl) (by kernel_rfl) (by kernel_rfl) (by kernel_rfl) (fun _ _ _ h => h) (by rfl) hS6 ?_ ?_
      · intro wS hSw
        try dsimp only at hSw
        go_simp
      try simp only [Act.put, List.getElem_toArray, List.getElem_cons_zero, List.getElem_cons_succ, List.setIfInBounds_toArray, List.set_cons_zero, List.set_cons_succ]
      refine upto_done (by kernel_rfl) ?_
      refine NoPanic.normal ?_
      go_wp2
      go_ret
      exact ⟨by rw [HE.out]; rfl, bstep hB5 hS6.1⟩
    have HD : Hid (decide (out = d.mem) = true) := decide_eq_true he
    rw [he] at hre
    have HE1 : Hid (aboveE d = false → engF d = 1) := engF_above HPA.out HRA.out hre
    have HE0 : Hid (aboveE d = true → engF d = 0) := engF_zero HPA.out HRA.out hre
    rw [HAB.out] at HE1 HE0
    clear he hre HAB
    generalize hgt : gvT 0 d.tables = gt at *
    have HGT : Hid (gvT 0 d.tables = gt) := hgt
    clear hgt
    have hIA : ∀ W, Below w5.heap.size w5 W → Calls Tryz.prog 57 #[u3, .int .i64 gt] W fun e w' => e = .returned (.bool (aboveV d.mem gt)) ∧ Below W.heap.size W w' := fun W hW => isAbove_any u3 d.mem gt W (RowsV_below HM.out (bstep hB5 hW))
    generalize aboveV d.mem gt = ab at *
    go_wp2
    refine wp_region_noPanic ?_
    refine region_upto (fun w' => Below w5.heap.size w5 w' ∧ w'.cell? ⟨w.heap.size, 0, none⟩ = some (u1) ∧ w'.cell? ⟨w.heap.size, 1, none⟩ = some (u2) ∧ w'.cell? ⟨w.heap.size, 2, none⟩ = some (u3) ∧ w'.cell? ⟨w.heap.size, 3, none⟩ = some (u4) ∧ w'.cell? ⟨w.heap.size, 4, none⟩ = some (.int .i64 d.next)) 18 (by kernel_rfl) ⟨by (repeat (first | exact Below.refl _ _ | assumption | refine Below.drew ?_ | refine balloc ?_ _ | refine bset ?_ (by simp; omega) _ | refine bset ?_ (by simp) _ | refine bstep ?_ (by assumption))), cell_keep (by (repeat (first | exact Below.refl _ _ | assumption | refine Below.drew ?_ | refine balloc ?_ _ | refine bset ?_ (by simp; omega) _ | refine bset ?_ (by simp) _ | refine bstep ?_ (by assumption)))) r0, cell_keep (by (repeat (first | exact Below.refl _ _ | assumption | refine Below.drew ?_ | refine balloc ?_ _ | refine bset ?_ (by simp; omega) _ | refine bset ?_ (by simp) _ | refine bstep ?_ (by assumption)))) r1, cell_keep (by (repeat (first | exact Below.refl _ _ | assumption | refine Below.drew ?_ | refine balloc ?_ _ | refine bset ?_ (by simp; omega) _ | refine bset ?_ (by simp) _ | refine bstep ?_ (by assumption)))) r2, cell_keep (by (repeat (first | exact Below.refl _ _ | assumption | refine Below.drew ?_ | refine balloc ?_ _ | refine bset ?_ (by simp; omega) _ | refine bset ?_ (by simp) _ | refine bstep ?_ (by assumption)))) r3, cell_keep (by (repeat (first | exact Below.refl _ _ | assumption | refine Below.drew ?_ | refine balloc ?_ _ | refine bset ?_ (by simp; omega) _ | refine bset ?_ (by simp) _ | refine bstep ?_ (by assumption)))) r4⟩ (fun hS => ?_)
    refine upto_takeN (i := 0) (v := ?_) rfl (by kernel_rfl) (by kernel_rfl) (by kernel_rfl) (by kernel_rfl) (fun _ _ _ h => h) (by rfl) hS ?_ ?_
    rotate_left
    · intro wS hSw
      try dsimp only at hSw
      first | (go_simp; done) | (go_simp; with_reducible rfl)
    try simp only [Act.put, List.getElem_toArray, List.getElem_cons_zero, List.getElem_cons_succ, List.setIfInBounds_toArray, List.set_cons_zero, List.set_cons_succ]
    refine upto_takeN (i := 1) (v := (.bool false)) rfl (by kernel_rfl) (by kernel_rfl) (by kernel_rfl) (by kernel_rfl) (fun _ _ _ h => h) (by rfl) hS ?_ ?_
    · intro wS hSw
      try dsimp only at hSw
      go_simp
    try simp only [Act.put, List.getElem_toArray, List.getElem_cons_zero, List.getElem_cons_succ, List.setIfInBounds_toArray, List.set_cons_zero, List.set_cons_succ]
    refine upto_takeN (i := 2) (v := (.bool false)) rfl (by kernel_rfl) (by kernel_rfl) (by kernel_rfl) (by kernel_rfl) (fun _ _ _ h => h) (by rfl) hS ?_ ?_
    · intro wS hSw
      try dsimp only at hSw
      go_simp
    try simp only [Act.put, List.getElem_toArray, List.getElem_cons_zero, List.getElem_cons_succ, List.setIfInBounds_toArray, List.set_cons_zero, List.set_cons_succ]
    refine upto_takeN (i := 3) (v := ?_) rfl (by kernel_rfl) (by kernel_rfl) (by kernel_rfl) (by kernel_rfl) (fun _ _ _ h => h) (by rfl) hS ?_ ?_
    rotate_left
    · intro wS hSw
      try dsimp only at hSw
      first | (go_simp; done) | (go_simp; with_reducible rfl)
    try simp only [Act.put, List.getElem_toArray, List.getElem_cons_zero, List.getElem_cons_succ, List.setIfInBounds_toArray, List.set_cons_zero, List.set_cons_succ]
    refine upto_takeN (i := 4) (v := ?_) rfl (by kernel_rfl) (by kernel_rfl) (by kernel_rfl) (by kernel_rfl) (fun _ _ _ h => h) (by rfl) hS ?_ ?_
    rotate_left
    · intro wS hSw
      try dsimp only at hSw
      first | (go_simp; done) | (go_simp; with_reducible rfl)
    try simp only [Act.put, List.getElem_toArray, List.getElem_cons_zero, List.getElem_cons_succ, List.setIfInBounds_toArray, List.set_cons_zero, List.set_cons_succ]
    refine upto_takeN (i := 5) (v := ?_) rfl (by kernel_rfl) (by kernel_rfl) (by kernel_rfl) (by kernel_rfl) (fun _ _ _ h => h) (by rfl) hS ?_ ?_
    rotate_left
    · intro wS hSw
      try dsimp only at hSw
      first | (go_simp; done) | (go_simp; with_reducible rfl)
    try simp only [Act.put, List.getElem_toArray, List.getElem_cons_zero, List.getElem_cons_succ, List.setIfInBounds_toArray, List.set_cons_zero, List.set_cons_succ]
    refine upto_step (i := 6) (by kernel_rfl) rfl ?_
    intro K hK
    go_simp
    refine (equalRows_any _ _ out d.mem _ (RowsV_below HO.out hS.1) (RowsV_below HM.out (bstep hB5 hS.1))).mono ?_
    rintro e w6 ⟨rfl, b6⟩
    have hS6 : (fun w' => Below w5.heap.size w5 w' ∧ w'.cell? ⟨w.heap.size, 0, none⟩ = some (u1) ∧ w'.cell? ⟨w.heap.size, 1, none⟩ = some (u2) ∧ w'.cell? ⟨w.heap.size, 2, none⟩ = some (u3) ∧ w'.cell? ⟨w.heap.size, 3, none⟩ = some (u4) ∧ w'.cell? ⟨w.heap.size, 4, none⟩ = some (.int .i64 d.next)) w6 := ⟨bstep hS.1 b6, cell_keep b6 hS.2.1, cell_keep b6 hS.2.2.1, cell_keep b6 hS.2.2.2.1, cell_keep b6 hS.2.2.2.2.1, cell_keep b6 hS.2.2.2.2.2⟩
    rw [HD.out]
    refine hK _ _ (fun _ => hS6) ?_
    clear hK K hS
    try simp only [Act.put, List.getElem_toArray, List.getElem_cons_zero, List.getElem_cons_succ, List.setIfInBounds_toArray, List.set_cons_zero, List.set_cons_succ]
    refine upto_takeN (i := 7) (v := (.bool false)) rfl (by kernel_rfl) (by kernel_rfl) (by kernel_rfl) (by kernel_rfl) (fun _ _ _ h => h) (by rfl) hS6 ?_ ?_
    · intro wS hSw
      try dsimp only at hSw
      go_simp
    try simp only [Act.put, List.getElem_toArray, List.getElem_cons_zero, List.getElem_cons_succ, List.setIfInBounds_toArray, List.set_cons_zero, List.set_cons_succ]
    refine upto_takeN (i := 8) (v := (.bool false)) rfl (by kernel_rfl) (by kernel_rfl) (by kernel_rfl) (by kernel_rfl) (fun _ _ _ h => h) (by rfl) hS6 ?_ ?_
    · intro wS hSw
      try dsimp only at hSw
      go_simp
    try simp only [Act.put, List.getElem_toArray, List.getElem_cons_zero, List.getElem_cons_succ, List.setIfInBounds_toArray, List.set_cons_zero, List.set_cons_succ]
    refine upto_takeN (i := 9) (v := (.bool false)) rfl (by kernel_rfl) (by kernel_rfl) (by kernel_rfl) (by kernel_rfl) (fun _ _ _ h => h) (by rfl) hS6 ?_ ?_
    · intro wS hSw
      try dsimp only at hSw
      go_simp
    try simp only [Act.put, List.getElem_toArray, List.getElem_cons_zero, List.getElem_cons_succ, List.setIfInBounds_toArray, List.set_cons_zero, List.set_cons_succ]
    refine upto_takeN (i := 10) (v := ?_) rfl (by kernel_rfl) (by kernel_rfl) (by kernel_rfl) (by kernel_rfl) (fun _ _ _ h => h) (by rfl) hS6 ?_ ?_
    rotate_left
    · intro wS hSw
      try dsimp only at hSw
      first | (go_simp; done) | (go_simp; with_reducible rfl)
    try simp only [Act.put, List.getElem_toArray, List.getElem_cons_zero, List.getElem_cons_succ, List.setIfInBounds_toArray, List.set_cons_zero, List.set_cons_succ]
    refine upto_takeN (i := 11) (v := ?_) rfl (by kernel_rfl) (by kernel_rfl) (by kernel_rfl) (by kernel_rfl) (fun _ _ _ h => h) (by rfl) hS6 ?_ ?_
    rotate_left
    · intro wS hSw
      try dsimp only at hSw
      first | (go_simp; done) | (go_simp; with_reducible rfl)
    try simp only [Act.put, List.getElem_toArray, List.getElem_cons_zero, List.getElem_cons_succ, List.setIfInBounds_toArray, List.set_cons_zero, List.set_cons_succ]
    refine upto_takeN (i := 12) (v := ?_) rfl (by kernel_rfl) (by kernel_rfl) (by kernel_rfl) (by kernel_rfl) (fun _ _ _ h => h) (by rfl) hS6 ?_ ?_
    rotate_left
    · intro wS hSw
      try dsimp only at hSw
      first | (go_simp; done) | (go_simp; with_reducible rfl)
    try simp only [Act.put, List.getElem_toArray, List.getElem_cons_zero, List.getElem_cons_succ, List.setIfInBounds_toArray, List.set_cons_zero, List.set_cons_succ]
    refine upto_takeN (i := 13) (v := ?_) rfl (by kernel_rfl) (by kernel_rfl) (by kernel_rfl) (by kernel_rfl) (fun _ _ _ h => h) (by rfl) hS6 ?_ ?_
    rotate_left
    · intro wS hSw
      try dsimp only at hSw
      first | (go_simp; done) | (go_simp; with_reducible rfl)
    try simp only [Act.put, List.getElem_toArray, List.getElem_cons_zero, List.getElem_cons_succ, List.setIfInBounds_toArray, List.set_cons_zero, List.set_cons_succ]
    refine upto_step (i := 14) (by kernel_rfl) rfl ?_
    intro K hK
    go_simp
    refine (greatest_any _ d.tables _ (rowssR.below HT.out (bstep hB5 hS6.1))).mono ?_
    rintro e w7 ⟨rfl, b7⟩
    have hS7 : (fun w' => Below w5.heap.size w5 w' ∧ w'.cell? ⟨w.heap.size, 0, none⟩ = some (u1) ∧ w'.cell? ⟨w.heap.size, 1, none⟩ = some (u2) ∧ w'.cell? ⟨w.heap.size, 2, none⟩ = some (u3) ∧ w'.cell? ⟨w.heap.size, 3, none⟩ = some (u4) ∧ w'.cell? ⟨w.heap.size, 4, none⟩ = some (.int .i64 d.next)) w7 := ⟨bstep hS6.1 b7, cell_keep b7 hS6.2.1, cell_keep b7 hS6.2.2.1, cell_keep b7 hS6.2.2.2.1, cell_keep b7 hS6.2.2.2.2.1, cell_keep b7 hS6.2.2.2.2.2⟩
    rw [HGT.out]
    refine hK _ _ (fun _ => hS7) ?_
    clear hK K hS6
    try simp only [Act.put, List.getElem_toArray, List.getElem_cons_zero, List.getElem_cons_succ, List.setIfInBounds_toArray, List.set_cons_zero, List.set_cons_succ]
    refine upto_step (i := 15) (by kernel_rfl) rfl ?_
    intro K hK
    go_simp
    refine (hIA _ hS7.1).mono ?_
    rintro e w8 ⟨rfl, b8⟩
    have hS8 : (fun w' => Below w5.heap.size w5 w' ∧ w'.cell? ⟨w.heap.size, 0, none⟩ = some (u1) ∧ w'.cell? ⟨w.heap.size, 1, none⟩ = some (u2) ∧ w'.cell? ⟨w.heap.size, 2, none⟩ = some (u3) ∧ w'.cell? ⟨w.heap.size, 3, none⟩ = some (u4) ∧ w'.cell? ⟨w.heap.size, 4, none⟩ = some (.int .i64 d.next)) w8 := ⟨bstep hS7.1 b8, cell_keep b8 hS7.2.1, cell_keep b8 hS7.2.2.1, cell_keep b8 hS7.2.2.2.1, cell_keep b8 hS7.2.2.2.2.1, cell_keep b8 hS7.2.2.2.2.2⟩
    refine hK _ _ (fun _ => hS8) ?_
    clear hK K hS7 hIA
    try simp only [Act.put, List.getElem_toArray, List.getElem_cons_zero, List.getElem_cons_succ, List.setIfInBounds_toArray, List.set_cons_zero, List.set_cons_succ]
    cases ab with
    | false =>
      have HE : Hid (engF d = 1) := HE1.out rfl
      clear HE1 HE0
      refine upto_takeN (i := 16) (v := (.bool true)) rfl (by kernel_rfl) (by kernel_rfl) (by kernel_rfl) (by kernel_rfl) (fun _ _ _ h => h) (by rfl) hS8 ?_ ?_
      · intro wS hSw
        try dsimp only at hSw
        go_simp
      try simp only [Act.put, List.getElem_toArray, List.getElem_cons_zero, List.getElem_cons_succ, List.setIfInBounds_toArray, List.set_cons_zero, List.set_cons_succ]
      refine upto_takeN (i := 17) (v := (.bool true)) rfl (by kernel_rfl) (by kernel_rfl) (by kernel_rfl) (by kernel_rfl) (fun _ _ _ h => h) (by rfl) hS8 ?_ ?_
      · intro wS hSw
        try dsimp only at hSw
        go_simp
      try simp only [Act.put, List.getElem_toArray, List.getElem_cons_zero, List.getElem_cons_succ, List.setIfInBounds_toArray, List.set_cons_zero, List.set_cons_succ]
      refine upto_done (by kernel_rfl) ?_
      refine NoPanic.normal ?_
      go_wp2
      go_ret
      exact ⟨by rw [HE.out]; rfl, bstep hB5 hS8.1⟩
    | true =>
      have HE : Hid (engF d = 0) := HE0.out rfl
      clear HE1 HE0
      refine upto_takeN (i := 16) (v := (.bool false)) rfl (by kernel_rfl) (by kernel_rfl) (by kernel_rfl) (by kernel_rfl) (fun _ _ _ h => h) (by rfl) hS8 ?_ ?_
      · intro wS hSw
        try dsimp only at hSw
        go_simp
      try simp only [Act.put, List.getElem_toArray, List.getElem_cons_zero, List.getElem_cons_succ, List.setIfInBounds_toArray, List.set_cons_zero, List.set_cons_succ]
      refine upto_takeN (i := 17) (v := (.bool false)) rfl (by kernel_rfl) (by kernel_rfl) (by kernel_rfl) (by kernel_rfl) (fun _ _ _ h => h) (by rfl) hS8 ?_ ?_
      · intro wS hSw
        try dsimp only at hSw
        go_simp
      try simp only [Act.put, List.getElem_toArray, List.getElem_cons_zero, List.getElem_cons_succ, List.setIfInBounds_toArray, List.set_cons_zero, List.set_cons_succ]
      refine upto_done (by kernel_rfl) ?_
      refine NoPanic.normal ?_
      go_wp2
      go_ret
      exact ⟨by rw [HE.out]; rfl, bstep hB5 hS8.1⟩
end Go.Proofs.YtdfapehonegeeaaGreat

/-
  AllRows, ReadKey: both sides.
-/
namespace Go.Proofs.YtdfapehonegeeaaGreat
open Go.RowKit
set_option linter.unusedSectionVars false
variable [DecidableEq Wri] [Inhabited Wri] [DecidableEq BytesR] [Inhabited BytesR] [DecidableEq Rw] [Inhabited Rw] [DecidableEq TabR] [Inhabited TabR] [DecidableEq Logg] [Inhabited Logg] [DecidableEq Engn] [Inhabited Engn] [DecidableEq LoggR] [Inhabited LoggR] [DecidableEq RecsR] [Inhabited RecsR] [DecidableEq Leg] [Inhabited Leg]
set_option linter.unusedVariables false
set_option linter.unusedSimpArgs false
attribute [local go_sem ↓] Go.wp_at_zero Go.wp_at_succ

theorem engF_inv {e : Engn} (h : engF e = 0) : partsF e = 0 ∧ rangeE e = true ∧ replayL e.log e.next = some e.mem ∧ aboveE e = true := by
  by_cases h1 : partsF e = 0
  · cases h2 : rangeE e
    · rw [engF_range h1 h2] at h; cases h
    · by_cases h3 : replayL e.log e.next = some e.mem
      · cases h4 : aboveE e
        · rw [engF_above h1 h2 h3 h4] at h; cases h
        · exact ⟨h1, rfl, h3, rfl⟩
      · rw [engF_log h1 h2 h3] at h; cases h
  · rw [engF_parts h1] at h
    exact absurd h h1
end Go.Proofs.YtdfapehonegeeaaGreat

/-
  EngineResult. (Written by program: nest.py.)
-/
namespace Go.Proofs.YtdfapehonegeeaaGreat
open Go.RowKit
set_option linter.unusedSectionVars false
variable [DecidableEq Logg] [Inhabited Logg] [DecidableEq Rw] [Inhabited Rw] [DecidableEq Engn] [Inhabited Engn]
attribute [local go_sem ↓] Go.wp_at_zero Go.wp_at_succ

set_option linter.unusedSimpArgs false

structure EngR where
  code : Int
  version : Int
  engine : Engn
variable [DecidableEq EngR] [Inhabited EngR]

def engRR : Rep EngR where
  V := fun w v x => ∃ u1_1_1 u1_1_2 u1_2 u1_3, v = .agg #[.int .i64 x.code, .int .i64 x.version, u1_1_1, u1_1_2, u1_2, u1_3, .int .i64 x.engine.next] ∧ engnR.V w (.agg #[u1_1_1, u1_1_2, u1_2, u1_3, .int .i64 x.engine.next]) x.engine
  O := fun w base F v x => ∃ u1_1_1 u1_1_2 u1_2 u1_3 F1, v = .agg #[.int .i64 x.code, .int .i64 x.version, u1_1_1, u1_1_2, u1_2, u1_3, .int .i64 x.engine.next] ∧ engnR.O w base F1 (.agg #[u1_1_1, u1_1_2, u1_2, u1_3, .int .i64 x.engine.next]) x.engine ∧ (∀ b, F b ↔ (F1 b))
  below := fun h hb => by
    obtain ⟨u1_1_1, u1_1_2, u1_2, u1_3, rfl, h1⟩ := h
    exact ⟨u1_1_1, u1_1_2, u1_2, u1_3, rfl, engnR.below h1 hb⟩
  ofO := fun h => by
    obtain ⟨u1_1_1, u1_1_2, u1_2, u1_3, F1, rfl, h1, _⟩ := h
    exact ⟨u1_1_1, u1_1_2, u1_2, u1_3, rfl, engnR.ofO h1⟩
  mod := fun h hm hd => by
    obtain ⟨u1_1_1, u1_1_2, u1_2, u1_3, F1, rfl, h1, hF⟩ := h
    exact ⟨u1_1_1, u1_1_2, u1_2, u1_3, F1, rfl, engnR.mod h1 hm (fun b hb => hd b ((hF b).2 hb)), hF⟩
  rng := fun h b hb => by
    obtain ⟨u1_1_1, u1_1_2, u1_2, u1_3, F1, rfl, h1, hF⟩ := h
    rcases (hF b).1 hb with hb
    · exact engnR.rng h1 b hb
  base := fun h hb => by
    obtain ⟨u1_1_1, u1_1_2, u1_2, u1_3, F1, rfl, h1, hF⟩ := h
    exact ⟨u1_1_1, u1_1_2, u1_2, u1_3, F1, rfl, engnR.base h1 hb, hF⟩
def wtEngR (x : EngR) : Nat := wtEngn x.engine
def cntEngR (x : EngR) : Nat := cntEngn x.engine
def mkEngR (k : Int) (x : EngR) : EngR := { x with engine := mkEngn k x.engine }
theorem engR_form {w : World} {v : Value} {x : EngR} (h : engRR.V w v x) : ∃ a1_1_1 a1_1_2 a1_2 a1_3 c1_1_1 c1_1_2 c1_2 c1_3, v = .agg #[.int .i64 x.code, .int .i64 x.version, .slice a1_1_1 x.engine.log.synced.length c1_1_1, .slice a1_1_2 x.engine.log.loose.length c1_1_2, .slice a1_2 x.engine.mem.length c1_2, .slice a1_3 x.engine.tables.length c1_3, .int .i64 x.engine.next] := by
  obtain ⟨u1_1_1, u1_1_2, u1_2, u1_3, rfl, h1⟩ := h
  obtain ⟨a1_1_1, a1_1_2, a1_2, a1_3, c1_1_1, c1_1_2, c1_2, c1_3, e1⟩ := engn_form h1
  simp only [Value.agg.injEq, Array.mk.injEq, List.cons.injEq, and_true, true_and] at e1
  obtain ⟨rfl, rfl, rfl, rfl⟩ := e1
  exact ⟨_, _, _, _, _, _, _, _, rfl⟩
theorem engR_cnt (d : EngR) : cntEngR d ≤ 4 * wtEngR d := by
  unfold cntEngR wtEngR
  have q1 := engn_cnt d.engine
  omega
set_option maxHeartbeats 1000000 in
theorem eqEngineResult_u (x y : Value) (d d' : EngR) (w : World) (hx : engRR.V w x d) (hy : engRR.V w y d') :
    Calls Tryz.prog 19 #[x, y] w fun e w' => e = .returned (.bool (decide (d = d'))) ∧ Below w.heap.size w w' := by
  obtain ⟨u1_1_1, u1_1_2, u1_2, u1_3, rfl, h1⟩ := hx
  obtain ⟨v1_1_1, v1_1_2, v1_2, v1_3, rfl, k1⟩ := hy
  obtain ⟨code, version, engine⟩ := d
  obtain ⟨code', version', engine'⟩ := d'
  dsimp only at h1 k1
  go_enter Tryz.func19, Tryz.ntmps19
  go_wp2_with fail
  all_goals try (go_ret; exact ⟨by simp_all, by (repeat (first | exact Below.refl _ _ | assumption | refine Below.drew ?_ | refine balloc ?_ _ | refine bset ?_ (by simp; omega) _ | refine bset ?_ (by simp) _ | refine bstep ?_ (by assumption)))⟩)
  refine (eqEngine_u _ _ engine engine' _ (engnR.below h1 (by (repeat (first | exact Below.refl _ _ | assumption | refine Below.drew ?_ | refine balloc ?_ _ | refine bset ?_ (by simp; omega) _ | refine bset ?_ (by simp) _ | refine bstep ?_ (by assumption))))) (engnR.below k1 (by (repeat (first | exact Below.refl _ _ | assumption | refine Below.drew ?_ | refine balloc ?_ _ | refine bset ?_ (by simp; omega) _ | refine bset ?_ (by simp) _ | refine bstep ?_ (by assumption)))))).mono ?_
  rintro e w1 ⟨rfl, b1⟩
  go_wp2
  all_goals
    go_ret
    exact ⟨by simp_all, by (repeat (first | exact Below.refl _ _ | assumption | refine Below.drew ?_ | refine balloc ?_ _ | refine bset ?_ (by simp; omega) _ | refine bset ?_ (by simp) _ | refine bstep ?_ (by assumption)))⟩
set_option maxHeartbeats 1000000 in
theorem markEngineResult_u (v : Value) (d : EngR) (base : Nat) (F : Nat → Prop) (k : Int) (w : World) (ho : engRR.O w base F v d) (hw : wtEngR d ≤ 1048576) (hn : k + cntEngR d ≤ 1073741824) (hk0 : 0 ≤ k) :
    Calls Tryz.prog 23 #[v, .int .i64 k] w fun r w' => r = .returned (.int .i64 (k + cntEngR d)) ∧ engRR.O w' base F v (mkEngR k d) ∧ Mod F w w' := by
  obtain ⟨u1_1_1, u1_1_2, u1_2, u1_3, F1, rfl, h1, hF⟩ := ho
  unfold wtEngR at hw
  unfold cntEngR at hn ⊢
  have HF : Hid (∀ b, F b ↔ (F1 b)) := hF
  clear hF
  go_enter Tryz.func23, Tryz.ntmps23
  go_wp2_with fail
  refine (markEngine_u _ d.engine base F1 k _ (engnR.alloc h1 _) (by omega) (by omega) (by omega)).mono ?_
  rintro e w1 ⟨rfl, r1, m1⟩
  go_wp2
  go_ret
  refine ⟨?_, ⟨_, _, _, _, F1, rfl, r1, HF.out⟩, ((Mod.refl F w).alloc _).trans (m1.mono (fun b hb => (HF.out b).2 hb))⟩
  simp
  try omega
set_option maxHeartbeats 1000000 in
theorem heldEngineResult_u (v : Value) (d : EngR) (k : Int) (w : World) (hv : engRR.V w v (mkEngR k d)) (hw : wtEngR d ≤ 1048576) (hn : k + cntEngR d ≤ 1073741824) (hk0 : 0 ≤ k) :
    Calls Tryz.prog 24 #[v, .int .i64 k] w fun r w' => r = .returned (.int .i64 (k + cntEngR d)) ∧ Below w.heap.size w w' := by
  obtain ⟨u1_1_1, u1_1_2, u1_2, u1_3, rfl, h1⟩ := hv
  unfold wtEngR at hw
  unfold cntEngR at hn ⊢
  go_enter Tryz.func24, Tryz.ntmps24
  go_wp2_with fail
  refine (heldEngine_u _ d.engine k _ (engnR.below h1 (by (repeat (first | exact Below.refl _ _ | assumption | refine Below.drew ?_ | refine balloc ?_ _ | refine bset ?_ (by simp; omega) _ | refine bset ?_ (by simp) _ | refine bstep ?_ (by assumption))))) (by omega) (by omega) (by omega)).mono ?_
  rintro e w1 ⟨rfl, b1⟩
  go_wp2
  go_ret
  refine ⟨?_, by (repeat (first | exact Below.refl _ _ | assumption | refine Below.drew ?_ | refine balloc ?_ _ | refine bset ?_ (by simp; omega) _ | refine bset ?_ (by simp) _ | refine bstep ?_ (by assumption)))⟩
  simp
  try omega
end Go.Proofs.YtdfapehonegeeaaGreat


import Derived.Test.YtdfapehonegeeaaGreatPrnWriteBatchLaw15
import Derived.Test.YtdfapehonegeeaaGreatPrnWriteBatchLaw20
import Derived.Test.YtdfapehonegeeaaGreatPrnWriteBatchLaw2
import Derived.Test.YtdfapehonegeeaaGreatPrnWriteBatchLaw1
import Derived.Test.YtdfapehonegeeaaGreatPrnWriteBatchLaw8
import Derived.Test.YtdfapehonegeeaaGreatPrnWriteBatchLaw9

/-
  The rows of a log's records: the specification's side.
-/
namespace Go.Proofs.YtdfapehonegeeaaGreat
open Go.RowKit
set_option linter.unusedSectionVars false
variable [DecidableEq Wri] [Inhabited Wri] [DecidableEq BytesR] [Inhabited BytesR] [DecidableEq Rw] [Inhabited Rw] [DecidableEq TabR] [Inhabited TabR] [DecidableEq Logg] [Inhabited Logg] [DecidableEq Engn] [Inhabited Engn] [DecidableEq LoggR] [Inhabited LoggR] [DecidableEq RecsR] [Inhabited RecsR] [DecidableEq Leg] [Inhabited Leg]
set_option linter.unusedVariables false
set_option linter.unusedSimpArgs false
attribute [local go_sem ↓] Go.wp_at_zero Go.wp_at_succ

theorem uwP_cases {d : List Byte} {base : Nat} {w' : World} {e : Ending} (h : UwP d base w' e) :
    ((unwD d).code ≠ 0 ∧ ∃ ver a n c, e = .returned (.tuple #[.int .i64 ver, .slice a n c, .bool false])) ∨
    ((unwD d).code = 0 ∧ ∃ (ws : List Wri) (a : Option Addr) (c : Nat), e = .returned (.tuple #[.int .i64 (unwV d), .slice a ws.length c, .bool true]) ∧ w'.ownsRow base 96 3 (.slice a ws.length c) ws.length (wrisC ws) ∧ ws.length ≤ 8 ∧ (unwD d).rows = ws.map (wrRow (unwV d))) := by
  by_cases h8 : d.length < 8
  · rw [uwP_short h8] at h
    refine .inl ⟨by rw [unwD_short h8]; decide, 0, none, 0, 0, h⟩
  · have H8 : 8 ≤ d.length := by omega
    cases hW : writesL (d.drop 8) with
    | none =>
      rw [uwP_none H8 hW] at h
      exact .inl ⟨by rw [unwD_none H8 hW]; decide, 0, none, 0, 0, h⟩
    | some ws =>
      rw [uwP_some H8 hW] at h
      obtain ⟨v, rfl, ho⟩ := h
      obtain ⟨av, cv, rfl⟩ := owns_form ho
      by_cases hc : (packWD (unwV d) ws).code = 0
      · rw [decide_eq_true hc]
        have hg := (code_packWD _ _).1 hc
        have hd := unwD_good H8 hW hg
        refine .inr ⟨by rw [hd], ws, av, cv, rfl, ho, (wrF_inv hg.2).2.1, by rw [hd]⟩
      · rw [decide_eq_false hc]
        refine .inl ⟨by rw [unwD_bad H8 hW (fun c => hc ((code_packWD _ _).2 c))]; decide, _, _, _, _, rfl⟩
theorem logField0 (a : Option Addr) (n c : Nat) (b : Option Addr) (m k : Nat) (w : World) : (Instr.field 31 (.agg #[.slice a n c, .slice b m k]) 0).run Tryz.prog w = .ok (.slice a n c) w := by kernel_rfl
def RepP (d : Logg) (next : Int) (base : Nat) (w' : World) (e : Ending) : Prop :=
  match replayL d next with
  | none => e = .returned (.tuple #[.slice none 0 0, .bool false])
  | some out => ∃ v, e = .returned (.tuple #[v, .bool true]) ∧ OutS w' base v out
theorem repP_none {d : Logg} {next : Int} {base : Nat} {w' : World} {e : Ending} (h : replayL d next = none) : RepP d next base w' e = (e = .returned (.tuple #[.slice none 0 0, .bool false])) := by unfold RepP; rw [h]
theorem repP_some {d : Logg} {next : Int} {base : Nat} {w' : World} {e : Ending} {out : List Rw} (h : replayL d next = some out) : RepP d next base w' e = (∃ v, e = .returned (.tuple #[v, .bool true]) ∧ OutS w' base v out) := by unfold RepP; rw [h]
theorem logF_small {d : Logg} (h : logF d = 0) : d.synced.length + d.loose.length ≤ 6000 := by
  rcases logF_cases d with h1 | h1
  · exact h1.2
  · rw [h] at h1; cases h1
theorem rec_small {xs : List Byte} {n i : Nat} (h : xs.length ≤ n) (hi : i < (recL xs).length) : ((recL xs).getD i default).length ≤ n := by
  have h1 := recL_wt xs
  have h2 := cntTo_getD List.length hi
  omega
set_option maxRecDepth 20000 in
set_option maxHeartbeats 8000000 in
theorem l6Replay_any (x : Value) (d : Logg) (next : Int) (w : World) (hx : loggR.V w x d) (hn : logF d = 0) :
    Calls Tryz.prog 46 #[x, .int .i64 next] w fun e w' => RepP d next w.heap.size w' e ∧ Below w.heap.size w w' := by
  have hX := hx
  obtain ⟨a1, a2, c1, c2, rfl⟩ := logg_form hx
  have hlen := logF_small hn
  have hul := recU_le (d.synced ++ d.loose)
  have hrl := recL_len (d.synced ++ d.loose)
  rw [List.length_append] at hul
  have HBY : Hid (recU (d.synced ++ d.loose) < d.synced.length + d.loose.length → replayL d next = none) := fun h => replayL_bytes (by omega)
  have HRE : Hid (¬ recU (d.synced ++ d.loose) < d.synced.length + d.loose.length → replayL d next = replayF next (recL (d.synced ++ d.loose)) 0 []) := fun h => replayL_recs (by omega)
  have HSM : Hid (∀ i, i < (recL (d.synced ++ d.loose)).length → ((recL (d.synced ++ d.loose)).getD i default).length ≤ 6000) := fun i hi => rec_small (by rw [List.length_append]; exact hlen) hi
  clear hx hn
  go_enter Tryz.func46, Tryz.ntmps46
  go_wp2_with fail
  refine (l4Sync_any _ d _ (loggR.below hX (by (repeat (first | exact Below.refl _ _ | assumption | refine Below.drew ?_ | refine balloc ?_ _ | refine bset ?_ (by simp; omega) _ | refine bset ?_ (by simp) _ | refine bstep ?_ (by assumption))))) (by unfold wtLogg wtBytes; omega)).mono ?_
  rintro e w1 ⟨v1, F1, rfl, o1, b1⟩
  obtain ⟨u1, u2, rfl, y1, y2⟩ := loggR.ofO o1
  dsimp only at y1 y2
  obtain ⟨x1, n1, rfl⟩ := bytes_form y1
  obtain ⟨x2, n2, rfl⟩ := bytes_form y2
  have r0 : w1.cell? ⟨w.heap.size, 0, none⟩ = some (.slice a1 d.synced.length c1) := cell_keep b1 (by simp [go_sem])
  have r1 : w1.cell? ⟨w.heap.size, 1, none⟩ = some (.slice a2 d.loose.length c2) := cell_keep b1 (by simp [go_sem])
  have hB1 : Below w.heap.size w w1 := by (repeat (first | exact Below.refl _ _ | assumption | refine Below.drew ?_ | refine balloc ?_ _ | refine bset ?_ (by simp; omega) _ | refine bset ?_ (by simp) _ | refine bstep ?_ (by assumption)))
  clear hX b1 y2 o1
  have hbl6 : (d.synced ++ d.loose).length ≤ 6000 := by rw [List.length_append]; exact hlen
  obtain ⟨bs, hbs⟩ : ∃ bs, bs = d.synced ++ d.loose := ⟨_, rfl⟩
  rw [← hbs] at y1 hbl6 HBY HRE HSM hul hrl ⊢
  clear hbs
  generalize d.synced.length = ls at *
  generalize d.loose.length = ll at *
  have HY : Hid (BytesV w1 (.slice x1 bs.length n1) bs) := y1
  have HC : Hid (∀ W, Below w1.heap.size w1 W → Calls Tryz.prog 103 #[.slice x1 bs.length n1] W fun e w' => ∃ v F, e = .returned (.tuple #[v, .int .i64 (recU bs)]) ∧ bytessR.O w' W.heap.size F v (recL bs) ∧ Below W.heap.size W w') := fun W hW => l3Records_any _ bs W (bytesR.below HY.out hW) hbl6
  clear y1 HY hbl6
  generalize bs.length = lb at *
  have hfd := logField0 x1 lb n1 x2 0 n2 w1
  go_wp2_with fail
  refine (HC.out _ (by (repeat (first | exact Below.refl _ _ | assumption | refine Below.drew ?_ | refine balloc ?_ _ | refine bset ?_ (by simp; omega) _ | refine bset ?_ (by simp) _ | refine bstep ?_ (by assumption))))).mono ?_
  rintro e w2 ⟨v2, F2, rfl, o2, b2⟩
  have hrec := bytessR.ofO o2
  obtain ⟨a3, c3, rfl, hc3, hm3, hrec⟩ := hrec
  replace r0 := cell_keep b2 (cell_keep (by (repeat (first | exact Below.refl _ _ | assumption | refine Below.drew ?_ | refine balloc ?_ _ | refine bset ?_ (by simp; omega) _ | refine bset ?_ (by simp) _ | refine bstep ?_ (by assumption)))) r0)
  replace r1 := cell_keep b2 (cell_keep (by (repeat (first | exact Below.refl _ _ | assumption | refine Below.drew ?_ | refine balloc ?_ _ | refine bset ?_ (by simp; omega) _ | refine bset ?_ (by simp) _ | refine bstep ?_ (by assumption)))) r1)
  have hB2 : Below w.heap.size w w2 := by (repeat (first | exact Below.refl _ _ | assumption | refine Below.drew ?_ | refine balloc ?_ _ | refine bset ?_ (by simp; omega) _ | refine bset ?_ (by simp) _ | refine bstep ?_ (by assumption)))
  clear o2 b2 HC hB1
  unfold maxLen at hm3
  generalize recU bs = ru at *
  generalize recL bs = recs at *
  by_cases hu : ru < ls + ll
  · have HN : Hid (replayL d next = none) := HBY.out hu
    have hu2 : (ru : Int) < (ls : Int) + (ll : Int) := by omega
    clear HBY HRE HSM hrec hu
    generalize recs.length = n at *
    go_wp2
    refine bodyPost_ret (v := .tuple #[.slice none 0 0, .bool false]) (by simp [results, Tryz.results46, go_sem]) rfl ⟨?_, by (repeat (first | exact Below.refl _ _ | assumption | refine Below.drew ?_ | refine balloc ?_ _ | refine bset ?_ (by simp; omega) _ | refine bset ?_ (by simp) _ | refine bstep ?_ (by assumption)))⟩
    rw [repP_none HN.out]
  have HRP : Hid (replayL d next = replayF next recs 0 []) := HRE.out hu
  have hu2 : ¬ (ru : Int) < (ls : Int) + (ll : Int) := by omega
  clear HBY HRE hu
  have HBAD : Hid (∀ k last out, RepSo next recs k last out → k < recs.length → ((unwD (recs.getD k default)).code ≠ 0 ∨ unwV (recs.getD k default) ≤ last ∨ next ≤ unwV (recs.getD k default)) → replayL d next = none) := fun k last out h1 h2 h3 => by rw [HRP.out]; exact repSo_bad h1 h2 h3
  have HEND : Hid (∀ last out, RepSo next recs recs.length last out → replayL d next = some out) := fun last out h => by rw [HRP.out]; exact repSo_end h
  have hn6 : recs.length ≤ 6000 := by omega
  clear HRP hrl hul
  generalize hN : recs.length = n at *
  have HNN : Hid (recs.length = n) := hN
  clear hN
  go_wp2
  go_loopw [8, 9, 10] (fun o la i W => ∃ (k : Nat) (last : Int), k ≤ n ∧ i = .int .i64 k ∧ la = .int .i64 last ∧ Hid (RepSo next recs k last (putsL [] (flatTo (rowsOf recs) k))) ∧ Hid (OutS W w.heap.size o (putsL [] (flatTo (rowsOf recs) k))) ∧ Below w2.heap.size w2 W) (fun _ _ i _ => n - (intOf i).toNat)
  case atStart =>
    refine ⟨0, 0, Nat.zero_le _, rfl, rfl, repSo_start _ _, ⟨⟨w2.heap.size, 0, rfl⟩, ?_⟩, by (repeat (first | exact Below.refl _ _ | assumption | refine Below.drew ?_ | refine balloc ?_ _ | refine bset ?_ (by simp; omega) _ | refine bset ?_ (by simp) _ | refine bstep ?_ (by assumption)))⟩
    exact World.ownsRow_lit (base := w.heap.size) (e := 76) (size := 4) _ #[] 0 hB2.size (by unfold maxLen; omega) rfl
  case round =>
    obtain ⟨k, last, hk, rfl, rfl, HR, HO, hbl⟩ := hrel
    have hi4 : (0 : Int) ≤ k := by omega
    by_cases hlt : k < n
    · obtain ⟨b, o, u, rfl, _, hc, hu⟩ := hrec k hlt
      have g0 : w2.cell? ⟨b, o + k, none⟩ = some u := cells1 hc
      have g1 := cell_keep hbl g0
      have hsm := HSM.out k hlt
      have hbad := HBAD.out k last _ HR.out hlt
      have hstep := repF_step (last := last) HR.out (by rw [HNN.out]; exact hlt)
      obtain ⟨r, hr⟩ : ∃ r, r = recs.getD k default := ⟨_, rfl⟩
      have hrr : rowsOf recs k = (unwD r).rows := by rw [hr]; rfl
      rw [← hr] at hu hsm hbad hstep
      have HBD : Hid (((unwD r).code ≠ 0 ∨ unwV r ≤ last ∨ next ≤ unwV r) → replayL d next = none) := hbad
      have HST : Hid ((unwD r).code = 0 → last < unwV r → unwV r < next → RepSo next recs (k + 1) (unwV r) (putsL [] (flatTo (rowsOf recs) (k + 1)))) := hstep
      have HRR : Hid (rowsOf recs k = (unwD r).rows) := hrr
      have HU : Hid (BytesV wr u r) := bytesR.below hu hbl
      obtain ⟨au, cu, rfl⟩ := bytes_form hu
      have hC := l6Unpack_any (.slice au r.length cu) r wr HU.out (by omega)
      have hi5 : (k : Int) < n := by omega
      clear hc g0 hr hbad hstep hrr hu hrec HU HSM HBAD
      generalize r.length = lr at *
      go_wp2_with fail
      refine hC.mono ?_
      rintro e W1 ⟨hw, hb1⟩
      have hB3 := bstep hbl hb1
      rcases uwP_cases hw with ⟨hcode, ver, av, nv, cv, rfl⟩ | ⟨hcode, ws, av, cv, rfl, ho, hw8, hrows⟩
      · have HN : Hid (replayL d next = none) := HBD.out (.inl hcode)
        clear hcode hw hC HST HBD HRR HEND
        go_wp2
        refine bodyPost_ret (v := .tuple #[.slice none 0 0, .bool false]) (by simp [results, Tryz.results46, go_sem]) rfl ⟨?_, bstep hB2 hB3⟩
        rw [repP_none HN.out]
      · have HRW : Hid (rowsOf recs k = ws.map (wrRow (unwV r))) := by rw [Hid, HRR.out, hrows]
        have HCD : Hid ((unwD r).code = 0) := hcode
        have hB := bstep hB2 hB3
        clear hw hC HRR hrows hcode
        generalize unwV r = ver at *
        by_cases h1 : ver ≤ last
        · have HN : Hid (replayL d next = none) := HBD.out (.inr (.inl h1))
          clear HST HBD HEND HRW ho
          generalize ws.length = lw at *
          go_wp2
          refine bodyPost_ret (v := .tuple #[.slice none 0 0, .bool false]) (by simp [results, Tryz.results46, go_sem]) rfl ⟨?_, hB⟩
          rw [repP_none HN.out]
        by_cases h2 : next ≤ ver
        · have HN : Hid (replayL d next = none) := HBD.out (.inr (.inr h2))
          clear HST HBD HEND HRW ho
          generalize ws.length = lw at *
          go_wp2
          refine bodyPost_ret (v := .tuple #[.slice none 0 0, .bool false]) (by simp [results, Tryz.results46, go_sem]) rfl ⟨?_, hB⟩
          rw [repP_none HN.out]
        have HRN : Hid (RepSo next recs (k + 1) ver (putsL [] (flatTo (rowsOf recs) (k + 1)))) := HST.out HCD.out (by omega) (by omega)
        have hC := l6Rows_any ver (.slice av ws.length cv) ws W1 (WrisV_of_owns ho) (by omega)
        clear HST HBD HCD ho
        generalize hlw : ws.length = lw at *
        have HLW : Hid (ws.length = lw) := hlw
        clear hlw
        go_wp2_with fail
        refine hC.mono ?_
        rintro e W2 ⟨rv, rfl, oR, hb2⟩
        have hB4 := bstep hB3 hb2
        have hFL : (flatTo (rowsOf recs) (k + 1)) = flatTo (rowsOf recs) k ++ ws.map (wrRow ver) := by
          show flatTo (rowsOf recs) k ++ rowsOf recs k = _
          rw [HRW.out]
        have HFL : Hid ((flatTo (rowsOf recs) (k + 1)) = flatTo (rowsOf recs) k ++ ws.map (wrRow ver)) := hFL
        have HO2 : Hid (OutS W2 w.heap.size u8 (putsL [] (flatTo (rowsOf recs) k))) := (HO.out.below hb1).below hb2
        have hln : (ws.map (wrRow ver)).length = lw := by rw [List.length_map]; exact HLW.out
        have HS : Hid (∀ j, (putsL [] (flatTo (rowsOf recs) k ++ (ws.map (wrRow ver)).take j)).length ≤ 1048000) := fun j => by
          have q1 := (length_putsL (flatTo (rowsOf recs) k ++ (ws.map (wrRow ver)).take j) []).2
          have q2 := flat_rows recs k
          simp only [List.length_nil, List.length_append, Nat.zero_add, List.length_take] at q1
          omega
        clear hC hFL HRW HLW hb1 hb2 HO
        generalize ws.map (wrRow ver) = l at *
        rw [← hln] at oR
        have hRV := RowsV_of_owns oR
        obtain ⟨ar, cr, rfl, hcr, hmr, hrow⟩ := hRV
        unfold maxLen at hmr
        rw [hln] at hcr hrow ⊢
        have HM : Hid (l.length = lw) := hln
        clear oR hln
        have hBB : Below w.heap.size w W2 := bstep hB2 hB4
        go_wp2
        go_loopw [8, 15] (fun o j W => ∃ q : Nat, q ≤ lw ∧ j = .int .i64 q ∧ Hid (OutS W w.heap.size o (putsL [] (flatTo (rowsOf recs) k ++ l.take q))) ∧ Below W2.heap.size W2 W) (fun _ j _ => lw - (intOf j).toNat)
        case atStart =>
          refine ⟨0, Nat.zero_le _, rfl, ?_, Below.refl _ _⟩
          rw [List.take_zero, List.append_nil]
          exact HO2
        case round =>
          obtain ⟨q, hq, rfl, HO3, hbl2⟩ := hrel
          have hj4 : (0 : Int) ≤ q := by omega
          by_cases hql : q < lw
          · obtain ⟨b', o', rfl, hcq⟩ := hrow q hql
            obtain ⟨c0, c1', c2', c3'⟩ := rowCells_below hbl2 hcq
            have hj5 : (q : Int) < lw := by omega
            have HP : Hid (putsL [] (flatTo (rowsOf recs) k ++ l.take (q + 1)) = putL (putsL [] (flatTo (rowsOf recs) k ++ l.take q)) (l.getD q default)) := by
              rw [Hid, ← take_snoc l (by rw [HM.out]; exact hql), ← List.append_assoc, putsL_snoc]
            have hsz := HS.out q
            have hbs := (bstep hBB hbl2).size
            obtain ⟨rr, hrr⟩ : ∃ rr, l.getD q default = rr := ⟨_, rfl⟩
            rw [hrr] at c0 c1' c2' c3' HP
            clear hrr
            have hO3 := HO3.out
            obtain ⟨⟨g, c, rfl⟩, _⟩ := hO3
            obtain ⟨ys, hys⟩ : ∃ ys, putsL [] (flatTo (rowsOf recs) k ++ l.take q) = ys := ⟨_, rfl⟩
            rw [hys] at HO3 HP hsz ⊢
            clear hys
            obtain ⟨N1, hN1⟩ : ∃ N1, ys.length = N1 := ⟨_, rfl⟩
            have hC := l5Put_L (.slice (some ⟨g, 0, none⟩) ys.length c) ys rr w.heap.size wr HO3.out hbs (by omega)
            rw [hN1] at hC ⊢
            clear hN1 hcq hrow
            unfold rowV at hC
            go_wp2_with fail
            refine hC.mono ?_
            rintro e w4 ⟨v4, rfl, HO4, hb4⟩
            have hO4 := HO4.1
            obtain ⟨g4, c4, rfl⟩ := hO4
            have HO5 : Hid (OutS w4 w.heap.size (.slice (some ⟨g4, 0, none⟩) (putL ys rr).length c4) (putL ys rr)) := HO4
            clear HO4
            obtain ⟨N4, hN4⟩ : ∃ N4, (putL ys rr).length = N4 := ⟨_, rfl⟩
            rw [hN4] at HO5 ⊢
            clear hN4 hC
            go_wp2
            refine ⟨⟨q + 1, by omega, by go_num, ?_, bstep hbl2 hb4⟩, by simp [intOf]; omega⟩
            rw [HP.out]
            exact HO5
          · obtain rfl : q = lw := by omega
            have hj5 : ¬ ((q : Int) < q) := by omega
            have HE : Hid (OutS wr w.heap.size u8 (putsL [] (flatTo (rowsOf recs) (k + 1)))) := by
              have h5 := HO3.out
              rw [List.take_of_length_le (by rw [HM.out]; exact Nat.le_refl _)] at h5
              rw [Hid, HFL.out]
              exact h5
            clear hrow HS
            go_wp2
            exact ⟨⟨k + 1, ver, by omega, by go_num, rfl, HRN, HE, bstep hB4 hbl2⟩, by simp [intOf]; omega⟩
    · obtain rfl : k = n := by omega
      have hi5 : ¬ ((k : Int) < k) := by omega
      have h1 := HO.out.1
      have HN : Hid (replayL d next = some (putsL [] (flatTo (rowsOf recs) k))) := HEND.out last _ HR.out
      obtain ⟨g, c, rfl⟩ := h1
      clear HEND HBAD HSM hrec
      obtain ⟨N4, hN4⟩ : ∃ N4, (putsL [] (flatTo (rowsOf recs) k)).length = N4 := ⟨_, rfl⟩
      rw [hN4] at HO ⊢
      clear hN4
      go_wp2
      refine bodyPost_ret (v := .tuple #[.slice (some ⟨g, 0, none⟩) N4 c, .bool true]) (by simp [results, Tryz.results46, go_sem]) rfl ⟨?_, bstep hB2 hbl⟩
      rw [repP_some HN.out]
      exact ⟨_, rfl, HO.out⟩
end Go.Proofs.YtdfapehonegeeaaGreat

/-
  An engine's fault: the specification's side.
-/
namespace Go.Proofs.YtdfapehonegeeaaGreat
open Go.RowKit
set_option linter.unusedSectionVars false
variable [DecidableEq Wri] [Inhabited Wri] [DecidableEq BytesR] [Inhabited BytesR] [DecidableEq Rw] [Inhabited Rw] [DecidableEq TabR] [Inhabited TabR] [DecidableEq Logg] [Inhabited Logg] [DecidableEq Engn] [Inhabited Engn] [DecidableEq LoggR] [Inhabited LoggR] [DecidableEq RecsR] [Inhabited RecsR] [DecidableEq Leg] [Inhabited Leg]
set_option linter.unusedVariables false
set_option linter.unusedSimpArgs false
attribute [local go_sem ↓] Go.wp_at_zero Go.wp_at_succ

theorem engF_l {e : Engn} (h : logF e.log ≠ 0) : engF e = logF e.log := by
  have h1 : partsF e = logF e.log := by unfold partsF; rw [if_pos h]
  rw [engF_parts (by rw [h1]; exact h), h1]
theorem engF_m {e : Engn} (h0 : logF e.log = 0) (h : tabF e.mem ≠ 0) : engF e = tabF e.mem := by
  have h1 : partsF e = tabF e.mem := by unfold partsF; rw [if_neg (by simpa using h0), if_pos h]
  rw [engF_parts (by rw [h1]; exact h), h1]
theorem engF_6 {e : Engn} (h0 : logF e.log = 0) (h1 : tabF e.mem = 0) (h : 6 < e.tables.length) : engF e = 2 := by
  have h1 : partsF e = 2 := by unfold partsF; rw [if_neg (by simpa using h0), if_neg (by simpa using h1), if_pos h]
  rw [engF_parts (by rw [h1]; decide), h1]
theorem partsF_t {e : Engn} (h0 : logF e.log = 0) (h1 : tabF e.mem = 0) (h : ¬ 6 < e.tables.length) : partsF e = firstF e.tables := by
  unfold partsF; rw [if_neg (by simpa using h0), if_neg (by simpa using h1), if_neg h]
theorem engF_t {e : Engn} {k : Nat} (h0 : logF e.log = 0) (h1 : tabF e.mem = 0) (h : ¬ 6 < e.tables.length) (hk : k < e.tables.length) (hz : ∀ j, j < k → tabF (e.tables.getD j default) = 0) (hc : tabF (e.tables.getD k default) ≠ 0) : engF e = tabF (e.tables.getD k default) := by
  have h1 : partsF e = tabF (e.tables.getD k default) := by rw [partsF_t h0 h1 h, firstF_at hk hz hc]
  rw [engF_parts (by rw [h1]; exact hc), h1]
theorem partsF_0 {e : Engn} (h0 : logF e.log = 0) (h1 : tabF e.mem = 0) (h : ¬ 6 < e.tables.length) (hz : ∀ j, j < e.tables.length → tabF (e.tables.getD j default) = 0) : partsF e = 0 := by
  rw [partsF_t h0 h1 h, firstF_none hz]
theorem range_1 {e : Engn} (h : inR e.next 1 1000000 = false) : rangeE e = false := by unfold rangeE; rw [h]; rfl
theorem range_2 {e : Engn} (h : belowV e.mem e.next = false) : rangeE e = false := by unfold rangeE; rw [h]; simp
theorem range_3 {e : Engn} {k : Nat} (hk : k < e.tables.length) (h : belowV (e.tables.getD k default) e.next = false) : rangeE e = false := by
  unfold rangeE
  rw [all_false (p := fun t => belowV t e.next) hk h]
  simp
theorem range_0 {e : Engn} (h1 : inR e.next 1 1000000 = true) (h2 : belowV e.mem e.next = true) (h3 : ∀ j, j < e.tables.length → belowV (e.tables.getD j default) e.next = true) : rangeE e = true := by
  unfold rangeE
  rw [h1, h2, all_getD.2 h3]
  rfl
theorem above_0 {e : Engn} (h : ∀ i, i < e.mem.length → ∀ j, j < e.tables.length → belowV (e.tables.getD j default) (e.mem.getD i default).ver = true) : aboveE e = true := by
  unfold aboveE
  exact all_getD.2 (fun i hi => all_getD.2 (h i hi))
theorem above_1 {e : Engn} {i j : Nat} (hi : i < e.mem.length) (hj : j < e.tables.length) (h : belowV (e.tables.getD j default) (e.mem.getD i default).ver = false) : aboveE e = false := by
  unfold aboveE
  exact all_false hi (all_false (p := fun t => belowV t (e.mem.getD i default).ver) hj h)
set_option maxRecDepth 20000 in
set_option maxHeartbeats 16000000 in
theorem specEngF_any (x : Value) (d : Engn) (w : World) (hx : engnR.V w x d) (hn : wtEngn d ≤ 1048576) :
    Calls Tryz.prog 11 #[x] w fun e w' => e = .returned (.int .i64 (engF d)) ∧ Below w.heap.size w w' := by
  obtain ⟨u1, u2, u3, u4, rfl, h1, h2, h3⟩ := hx
  have hwl : wtLogg d.log ≤ 1048576 := by unfold wtEngn at hn; omega
  have HL : Hid (loggR.V w (.agg #[u1, u2]) d.log) := h1
  have HM : Hid (RowsV w u3 d.mem) := h2.1
  obtain ⟨a4, c4, rfl, hc4, hm4, hT⟩ := h3
  obtain ⟨a3, c3, rfl, hc3, hm3, hR⟩ := h2.1
  unfold maxLen at hm4 hm3
  clear h1 h2 hn
  go_enter Tryz.func11, Tryz.ntmps11
  go_wp2_with fail
  refine (specLogF_any _ d.log _ (loggR.below HL.out (by (repeat (first | exact Below.refl _ _ | assumption | refine Below.drew ?_ | refine balloc ?_ _ | refine bset ?_ (by simp; omega) _ | refine bset ?_ (by simp) _ | refine bstep ?_ (by assumption))))) hwl).mono ?_
  rintro e w1 ⟨rfl, b1⟩
  have r0 : w1.cell? ⟨w.heap.size, 0, none⟩ = some u1 := cell_keep b1 (by simp [go_sem])
  have r1 : w1.cell? ⟨w.heap.size, 1, none⟩ = some u2 := cell_keep b1 (by simp [go_sem])
  have r2 : w1.cell? ⟨w.heap.size, 2, none⟩ = some (.slice a3 d.mem.length c3) := cell_keep b1 (by simp [go_sem])
  have r3 : w1.cell? ⟨w.heap.size, 3, none⟩ = some (.slice a4 d.tables.length c4) := cell_keep b1 (by simp [go_sem])
  have r4 : w1.cell? ⟨w.heap.size, 4, none⟩ = some (.int .i64 d.next) := cell_keep b1 (by simp [go_sem])
  have hB1 : Below w.heap.size w w1 := by (repeat (first | exact Below.refl _ _ | assumption | refine Below.drew ?_ | refine balloc ?_ _ | refine bset ?_ (by simp; omega) _ | refine bset ?_ (by simp) _ | refine bstep ?_ (by assumption)))
  clear b1
  by_cases hl : logF d.log = 0
  rotate_left
  · have HE : Hid (engF d = logF d.log) := engF_l hl
    have hc : (logF d.log == 0) = false := by simpa using hl
    generalize logF d.log = c at *
    clear hT hR
    go_wp2
    go_ret
    exact ⟨by rw [HE.out]; rfl, hB1⟩
  rw [hl]
  have HLF : Hid (logF d.log = 0) := hl
  clear hl
  go_wp2_with fail
  refine (specTableFault_any _ d.mem _ (RowsV_below HM.out hB1)).mono ?_
  rintro e w2 ⟨rfl, b2⟩
  replace r0 := cell_keep b2 r0
  replace r1 := cell_keep b2 r1
  replace r2 := cell_keep b2 r2
  replace r3 := cell_keep b2 r3
  replace r4 := cell_keep b2 r4
  have hB2 := bstep hB1 b2
  clear b2 hB1
  by_cases hm : tabF d.mem = 0
  rotate_left
  · have HE : Hid (engF d = tabF d.mem) := engF_m HLF.out hm
    have hc : (tabF d.mem == 0) = false := by simpa using hm
    generalize tabF d.mem = c at *
    clear hT hR
    go_wp2
    go_ret
    exact ⟨by rw [HE.out]; rfl, hB2⟩
  rw [hm]
  have HMF : Hid (tabF d.mem = 0) := hm
  clear hm
  have HP6 : Hid (6 < d.tables.length → engF d = 2) := engF_6 HLF.out HMF.out
  have HPT : Hid (¬ 6 < d.tables.length → ∀ k, k < d.tables.length → (∀ j, j < k → tabF (d.tables.getD j default) = 0) → tabF (d.tables.getD k default) ≠ 0 → engF d = tabF (d.tables.getD k default)) := fun h k hk hz hc => engF_t HLF.out HMF.out h hk hz hc
  have HP0 : Hid (¬ 6 < d.tables.length → (∀ j, j < d.tables.length → tabF (d.tables.getD j default) = 0) → partsF d = 0) := partsF_0 HLF.out HMF.out
  have HR3 : Hid (∀ k, k < d.tables.length → belowV (d.tables.getD k default) d.next = false → rangeE d = false) := fun k hk h => range_3 hk h
  have HR0 : Hid (inR d.next 1 1000000 = true → belowV d.mem d.next = true → (∀ j, j < d.tables.length → belowV (d.tables.getD j default) d.next = true) → rangeE d = true) := range_0
  have HA0 : Hid ((∀ i, i < d.mem.length → ∀ j, j < d.tables.length → belowV (d.tables.getD j default) (d.mem.getD i default).ver = true) → aboveE d = true) := above_0
  have HA1 : Hid (∀ i j, i < d.mem.length → j < d.tables.length → belowV (d.tables.getD j default) (d.mem.getD i default).ver = false → aboveE d = false) := fun i j hi hj h => above_1 hi hj h
  generalize d.tables.length = n at *
  generalize hnm : d.mem.length = m at *
  clear hnm
  by_cases h6 : 6 < n
  · have HE : Hid (engF d = 2) := HP6.out h6
    clear HP6 HPT HP0 HR3 HR0 HA0 HA1 hT hR
    go_wp2
    go_ret
    exact ⟨by rw [HE.out]; rfl, hB2⟩
  have HPT2 : Hid (∀ k, k < n → (∀ j, j < k → tabF (d.tables.getD j default) = 0) → tabF (d.tables.getD k default) ≠ 0 → engF d = tabF (d.tables.getD k default)) := HPT.out h6
  have HP02 : Hid ((∀ j, j < n → tabF (d.tables.getD j default) = 0) → partsF d = 0) := HP0.out h6
  clear HP6 HPT HP0
  go_wp2
  go_loopw [5] (fun i W => ∃ k : Nat, k ≤ n ∧ i = .int .i64 k ∧ Hid (∀ j, j < k → tabF (d.tables.getD j default) = 0) ∧ Below w2.heap.size w2 W) (fun i _ => n - (intOf i).toNat)
  case atStart => exact ⟨0, Nat.zero_le _, rfl, fun j hj => absurd hj (Nat.not_lt_zero _), Below.refl _ _⟩
  case round =>
    obtain ⟨k, hk, rfl, HS, hbl⟩ := hrel
    have hi4 : (0 : Int) ≤ k := by omega
    have hB3 := bstep hB2 hbl
    replace r0 := cell_keep hbl r0
    replace r1 := cell_keep hbl r1
    replace r2 := cell_keep hbl r2
    replace r3 := cell_keep hbl r3
    replace r4 := cell_keep hbl r4
    by_cases hlt : k < n
    · obtain ⟨b, o, u, rfl, _, hc, hu⟩ := hT k hlt
      have g0 := cell_keep hB3 (cells1 hc)
      have hi5 : (k : Int) < n := by omega
      have hC := specTableFault_any u (d.tables.getD k default) wr (RowsV_below hu.1 hB3)
      have hE := HPT2.out k hlt HS.out
      have HS2 : Hid (tabF (d.tables.getD k default) = 0 → ∀ j, j < k + 1 → tabF (d.tables.getD j default) = 0) := fun h j hj => by
        by_cases e : j = k
        · rw [e]; exact h
        · exact HS.out j (by omega)
      clear hT hR hc hu HP02 HR3 HR0 HA0 HA1
      generalize tabF (d.tables.getD k default) = c at *
      go_wp2_with fail
      refine hC.mono ?_
      rintro e w4 ⟨rfl, b4⟩
      have hb4 := bstep hbl b4
      clear hC
      by_cases h0 : c = 0
      · subst h0
        have HS3 : Hid (∀ j, j < k + 1 → tabF (d.tables.getD j default) = 0) := HS2.out rfl
        clear hE HS2
        go_wp2
        exact ⟨⟨k + 1, by omega, by go_num, HS3, hb4⟩, by simp [intOf]; omega⟩
      · have HE : Hid (engF d = c) := hE h0
        have hc : (c == 0) = false := by simpa using h0
        clear hE HS2
        go_wp2
        go_ret
        exact ⟨by rw [HE.out]; rfl, bstep hB2 hb4⟩
    · obtain rfl : k = n := by omega
      have hi5 : ¬ (k : Int) < k := by omega
      have HPA : Hid (partsF d = 0) := HP02.out HS.out
      clear HP02 HPT2 HS hlt
      cases hin : inR d.next 1 1000000
      · have HE : Hid (engF d = 3) := engF_range HPA.out (range_1 hin)
        clear HR3 HR0 HA0 HA1 hT hR
        go_wp2_with (go_at_call 44; refine (l1InR_any _ _ _ _).mono ?_; rintro e w' ⟨rfl, hEq⟩; obtain rfl := hEq.symm; rw [hin])
        go_ret
        exact ⟨by rw [HE.out]; rfl, hB3⟩
      go_wp2_with (first | (go_at_call 44; refine (l1InR_any _ _ _ _).mono ?_; rintro e w' ⟨rfl, hEq⟩; obtain rfl := hEq.symm; rw [hin]) | fail)
      refine (l6Below_any _ d.mem d.next _ (RowsV_below HM.out hB3)).mono ?_
      rintro e w' ⟨rfl, hEq⟩
      obtain rfl := hEq.symm
      clear hEq
      cases hbm : belowV d.mem d.next
      · have HE : Hid (engF d = 3) := engF_range HPA.out (range_2 hbm)
        clear HR3 HR0 HA0 HA1 hT hR
        go_wp2
        go_ret
        exact ⟨by rw [HE.out]; rfl, hB3⟩
      have HR1 : Hid ((∀ j, j < k → belowV (d.tables.getD j default) d.next = true) → rangeE d = true) := HR0.out hin hbm
      clear HR0 hin hbm
      obtain ⟨w3, hw3⟩ : ∃ w3, w3 = wr := ⟨_, rfl⟩
      rw [← hw3] at r0 r1 r2 r3 r4 hB3 ⊢
      clear hw3 hbl
      have hn2 : ((k : Nat) : Int) ≤ 9223372036854775807 := by omega
      generalize k = n at *
      go_wp2
      go_loopw [7] (fun i W => ∃ k : Nat, k ≤ n ∧ i = .int .i64 k ∧ Hid (∀ j, j < k → belowV (d.tables.getD j default) d.next = true) ∧ Below w3.heap.size w3 W) (fun i _ => n - (intOf i).toNat)
      case atStart => exact ⟨0, Nat.zero_le _, rfl, fun j hj => absurd hj (Nat.not_lt_zero _), Below.refl _ _⟩
      case round =>
        obtain ⟨k, hk, rfl, HS, hbl⟩ := hrel
        have hi4 : (0 : Int) ≤ k := by omega
        have hB4 := bstep hB3 hbl
        replace r0 := cell_keep hbl r0
        replace r1 := cell_keep hbl r1
        replace r2 := cell_keep hbl r2
        replace r3 := cell_keep hbl r3
        replace r4 := cell_keep hbl r4
        by_cases hlt : k < n
        · obtain ⟨b, o, u, rfl, _, hc, hu⟩ := hT k hlt
          have g0 := cell_keep hB4 (cells1 hc)
          have hi5 : (k : Int) < n := by omega
          have hCb : ∀ W : World, Below wr.heap.size wr W → Calls Tryz.prog 45 #[u, .int .i64 d.next] W fun e w' => e = .returned (.bool (belowV (d.tables.getD k default) d.next)) ∧ w' = W := fun W hW => l6Below_any u (d.tables.getD k default) d.next W (RowsV_below hu.1 (bstep hB4 hW))
          have hE : belowV (d.tables.getD k default) d.next = false → engF d = 3 := fun h => engF_range HPA.out (HR3.out k hlt h)
          have HS2 : Hid (belowV (d.tables.getD k default) d.next = true → ∀ j, j < k + 1 → belowV (d.tables.getD j default) d.next = true) := fun h j hj => by
            by_cases e : j = k
            · rw [e]; exact h
            · exact HS.out j (by omega)
          clear hT hR hc hu HR1 HR3 HA0 HA1
          generalize belowV (d.tables.getD k default) d.next = c at *
          cases c
          · have HE : Hid (engF d = 3) := hE rfl
            clear hE HS2
            go_wp2
            go_quiet (first | (go_at_call 45; refine Calls.quiet_of_same (hCb _ ?_); exact bdrewB (Below.refl _ _) _))
            clear hCb
            go_wp2
            go_ret
            exact ⟨by rw [HE.out]; rfl, bdrN hB4 _⟩
          · have HS3 : Hid (∀ j, j < k + 1 → belowV (d.tables.getD j default) d.next = true) := HS2.out rfl
            clear hE HS2
            go_wp2
            go_quiet (first | (go_at_call 45; refine Calls.quiet_of_same (hCb _ ?_); exact bdrewB (Below.refl _ _) _))
            clear hCb
            go_wp2
            exact ⟨⟨k + 1, by omega, by go_num, HS3, bdrN hbl _⟩, by simp [intOf]; omega⟩
        · obtain rfl : k = n := by omega
          have hi5 : ¬ (k : Int) < k := by omega
          have HRA : Hid (rangeE d = true) := HR1.out HS.out
          clear HR1 HR3 HS hlt
          go_wp2_with fail
          refine (l6Replay_any _ d.log d.next _ (loggR.below HL.out hB4) HLF.out).mono ?_
          rintro e w5 ⟨hw, b5⟩
          replace r0 := cell_keep b5 r0
          replace r1 := cell_keep b5 r1
          replace r2 := cell_keep b5 r2
          replace r3 := cell_keep b5 r3
          replace r4 := cell_keep b5 r4
          have hB5 := bstep hB4 b5
          clear b5 hbl hB4
          cases hRe : replayL d.log d.next with
          | none =>
            rw [repP_none hRe] at hw
            obtain rfl := hw
            have HE : Hid (engF d = 1) := engF_log HPA.out HRA.out (by rw [hRe]; intro h; cases h)
            clear hRe HA0 HA1 hT hR
            go_wp2
            go_ret
            exact ⟨by rw [HE.out]; rfl, hB5⟩
          | some out =>
            rw [repP_some hRe] at hw
            obtain ⟨v, rfl, ho⟩ := hw
            have hO := RowsV_of_owns ho.2
            obtain ⟨⟨g, cv, rfl⟩, _⟩ := ho
            have hC := l6Same_any (.slice (some ⟨g, 0, none⟩) out.length cv) (.slice a3 m c3) out d.mem w5 hO (RowsV_below HM.out hB5)
            have HEN : Hid (¬ out = d.mem → engF d = 1) := fun h => engF_log HPA.out HRA.out (by rw [hRe]; intro c; cases c; exact h rfl)
            have HRE : Hid (out = d.mem → replayL d.log d.next = some d.mem) := fun h => by rw [hRe, h]
            clear hO hRe
            generalize out.length = lo at *
            go_wp2_with fail
            refine hC.mono ?_
            rintro e w6 ⟨rfl, b6⟩
            replace r0 := cell_keep b6 r0
            replace r1 := cell_keep b6 r1
            replace r2 := cell_keep b6 r2
            replace r3 := cell_keep b6 r3
            replace r4 := cell_keep b6 r4
            have hB6 := bstep hB5 b6
            clear b6 hC hB5
            by_cases he : out = d.mem
            rotate_left
            · rw [decide_eq_false he]
              have HE : Hid (engF d = 1) := HEN.out he
              clear he HA0 HA1 HEN HRE hT hR
              go_wp2
              go_ret
              exact ⟨by rw [HE.out]; rfl, hB6⟩
            rw [decide_eq_true he]
            have HRL : Hid (replayL d.log d.next = some d.mem) := HRE.out he
            have HE1 : Hid (aboveE d = false → engF d = 1) := engF_above HPA.out HRA.out HRL.out
            have HE0 : Hid (aboveE d = true → engF d = 0) := engF_zero HPA.out HRA.out HRL.out
            clear he HEN HRE
            generalize k = n at *
            go_wp2
            go_loopw [10] (fun i W => ∃ k : Nat, k ≤ m ∧ i = .int .i64 k ∧ Hid (∀ i, i < k → ∀ j, j < n → belowV (d.tables.getD j default) (d.mem.getD i default).ver = true) ∧ Below w6.heap.size w6 W) (fun i _ => m - (intOf i).toNat)
            case atStart => exact ⟨0, Nat.zero_le _, rfl, fun j hj => absurd hj (Nat.not_lt_zero _), Below.refl _ _⟩
            case round =>
              obtain ⟨k, hk, rfl, HS, hbl⟩ := hrel
              have hi4 : (0 : Int) ≤ k := by omega
              have hB7 := bstep hB6 hbl
              replace r0 := cell_keep hbl r0
              replace r1 := cell_keep hbl r1
              replace r2 := cell_keep hbl r2
              replace r3 := cell_keep hbl r3
              replace r4 := cell_keep hbl r4
              by_cases hlt : k < m
              · obtain ⟨b', o', rfl, hcq⟩ := hR k hlt
                have hq := rowCells_below hB7 hcq
                have hi5 : (k : Int) < m := by omega
                obtain ⟨w7, hw7⟩ : ∃ w7, w7 = wr := ⟨_, rfl⟩
                rw [← hw7] at r0 r1 r2 r3 r4 hB7 hq hbl ⊢
                clear hw7 hcq hR
                have HA2 : Hid (∀ j, j < n → belowV (d.tables.getD j default) (d.mem.getD k default).ver = false → engF d = 1) := fun j hj h => HE1.out (HA1.out k j hlt hj h)
                obtain ⟨q, hq'⟩ : ∃ q, q = d.mem.getD k default := ⟨_, rfl⟩
                rw [← hq'] at hq HA2
                have HQ : Hid (q = d.mem.getD k default) := hq'
                clear hq' HA1 HA0 HE1 HE0
                go_wp2
                go_loopw [11] (fun i W => ∃ j : Nat, j ≤ n ∧ i = .int .i64 j ∧ Hid (∀ i, i < j → belowV (d.tables.getD i default) q.ver = true) ∧ Below w7.heap.size w7 W) (fun i _ => n - (intOf i).toNat)
                case atStart => exact ⟨0, Nat.zero_le _, rfl, fun j hj => absurd hj (Nat.not_lt_zero _), Below.refl _ _⟩
                case round =>
                  obtain ⟨j, hj, rfl, HS2, hb2⟩ := hrel
                  have hj4 : (0 : Int) ≤ j := by omega
                  have hB8 := bstep hB7 hb2
                  replace r0 := cell_keep hb2 r0
                  replace r1 := cell_keep hb2 r1
                  replace r2 := cell_keep hb2 r2
                  replace r3 := cell_keep hb2 r3
                  replace r4 := cell_keep hb2 r4
                  obtain ⟨d1, d2, d3, d4⟩ := rowCells_below hb2 hq
                  by_cases hjn : j < n
                  · obtain ⟨b, o, u, rfl, _, hc, hu⟩ := hT j hjn
                    have g0 := cell_keep hB8 (cells1 hc)
                    have hj5 : (j : Int) < n := by omega
                    have hCb : ∀ W : World, Below wr.heap.size wr W → Calls Tryz.prog 45 #[u, .int .i64 q.ver] W fun e w' => e = .returned (.bool (belowV (d.tables.getD j default) q.ver)) ∧ w' = W := fun W hW => l6Below_any u (d.tables.getD j default) q.ver W (RowsV_below hu.1 (bstep hB8 hW))
                    have hE := HA2.out j hjn
                    have HS3 : Hid (belowV (d.tables.getD j default) q.ver = true → ∀ i, i < j + 1 → belowV (d.tables.getD i default) q.ver = true) := fun h i hi => by
                      by_cases e : i = j
                      · rw [e]; exact h
                      · exact HS2.out i (by omega)
                    clear hT hc hu HA2
                    generalize belowV (d.tables.getD j default) q.ver = c at *
                    cases c
                    · have HE : Hid (engF d = 1) := hE rfl
                      clear hE HS3
                      go_wp2
                      go_quiet (first | (go_at_call 45; refine Calls.quiet_of_same (hCb _ ?_); exact bdrewB (Below.refl _ _) _))
                      clear hCb
                      go_wp2
                      go_ret
                      exact ⟨by rw [HE.out]; rfl, bdrN hB8 _⟩
                    · have HS4 : Hid (∀ i, i < j + 1 → belowV (d.tables.getD i default) q.ver = true) := HS3.out rfl
                      clear hE HS3
                      go_wp2
                      go_quiet (first | (go_at_call 45; refine Calls.quiet_of_same (hCb _ ?_); exact bdrewB (Below.refl _ _) _))
                      clear hCb
                      go_wp2
                      exact ⟨⟨j + 1, by omega, by go_num, HS4, bdrN hb2 _⟩, by simp [intOf]; omega⟩
                  · obtain rfl : j = n := by omega
                    have hj5 : ¬ (j : Int) < j := by omega
                    have HS3 : Hid (∀ i, i < k + 1 → ∀ q, q < j → belowV (d.tables.getD q default) (d.mem.getD i default).ver = true) := fun i hi p hp => by
                      by_cases e : i = k
                      · rw [e, ← HQ.out]; exact HS2.out p hp
                      · exact HS.out i (by omega) p hp
                    clear HA2 hT
                    go_wp2
                    exact ⟨⟨k + 1, by omega, by go_num, HS3, bstep hbl hb2⟩, by simp [intOf]; omega⟩
              · obtain rfl : k = m := by omega
                have hi5 : ¬ (k : Int) < k := by omega
                have HE : Hid (engF d = 0) := HE0.out (HA0.out HS.out)
                clear HE0 HE1 HA0 HA1 hT hR
                go_wp2
                go_ret
                exact ⟨by rw [HE.out]; rfl, hB7⟩
end Go.Proofs.YtdfapehonegeeaaGreat

/-
  The layers of an engine; the program's questions on its parts.
-/
namespace Go.Proofs.YtdfapehonegeeaaGreat
open Go.RowKit
set_option linter.unusedSectionVars false
variable [DecidableEq Wri] [Inhabited Wri] [DecidableEq BytesR] [Inhabited BytesR] [DecidableEq Rw] [Inhabited Rw] [DecidableEq TabR] [Inhabited TabR] [DecidableEq Logg] [Inhabited Logg] [DecidableEq Engn] [Inhabited Engn] [DecidableEq LoggR] [Inhabited LoggR] [DecidableEq RecsR] [Inhabited RecsR] [DecidableEq Leg] [Inhabited Leg]
set_option linter.unusedVariables false
set_option linter.unusedSimpArgs false
attribute [local go_sem ↓] Go.wp_at_zero Go.wp_at_succ

theorem pickV {n : Nat} {P : Nat → Value → Prop} (h : ∀ i, i < n → ∃ u, P i u) : ∃ us : Nat → Value, ∀ i, i < n → P i (us i) :=
  ⟨fun i => if hi : i < n then Classical.choose (h i hi) else .nilFunc, fun i hi => by
    simp only [dif_pos hi]
    exact Classical.choose_spec (h i hi)⟩
theorem appAny_cells {w : World} {a : Option Addr} {n c : Nat} {us : Nat → Value} (hc : ∀ i, i < n → ∃ b o, a = some ⟨b, o, none⟩ ∧ w.cell? ⟨b, o + i, none⟩ = some (us i)) : AppAny w (.slice a n c) n ((List.range n).map us) := by
  cases a with
  | none =>
    cases n with
    | zero => exact .inl ⟨c, rfl, rfl, rfl⟩
    | succ n =>
      obtain ⟨b, o, e, _⟩ := hc 0 (by omega)
      cases e
  | some ad =>
    refine .inr ⟨ad, c, rfl, fun j x hj => ?_⟩
    have hlt : j < n := by
      have := (List.getElem?_eq_some_iff.1 hj).1
      simpa using this
    obtain ⟨b, o, e, h1⟩ := hc j hlt
    cases e
    simp [hlt] at hj
    subst hj
    by_cases hj0 : j = 0
    · subst hj0; simpa [Addr.add] using h1
    · simpa [Addr.add, hj0] using h1
theorem appAny_below {w w' : World} {v : Value} {m : Nat} {news : List Value} (h : AppAny w v m news) (hb : Below w.heap.size w w') : AppAny w' v m news := by
  rcases h with h | ⟨ad, c, rfl, hc⟩
  · exact .inl h
  · exact .inr ⟨ad, c, rfl, fun j x hj => cell_keep hb (hc j x hj)⟩
theorem infoRws : (Tryz.prog.info? 32).map (fun i => (i.zero, i.size, i.bytes)) = some (some (.slice none 0 0), 1, 24) := by kernel_rfl
set_option maxHeartbeats 2000000 in
theorem layersOf_raw (u1 u2 : Value) (a3 : Option Addr) (m c3 : Nat) (a4 : Option Addr) (n c4 : Nat) (next : Int) (news : List Value) (w : World) (hsrc : AppAny w (.slice a4 n c4) n news) (hl : news.length = n) (h1 : ∀ u ∈ news, u.oneCell' = true) (hn : n ≤ 1048576) :
    Calls Tryz.prog 54 #[.agg #[u1, u2, .slice a3 m c3, .slice a4 n c4, .int .i64 next]] w fun e w' => ∃ v', e = .returned v' ∧ w'.ownsRow w.heap.size 32 1 v' (1 + n) (.slice a3 m c3 :: news) ∧ Below w.heap.size w w' := by
  obtain ⟨i0, hi, hz0, hz1, hz2⟩ := info_parts infoRws
  have HS : Hid (AppAny w (.slice a4 n c4) n news) := hsrc
  clear hsrc
  go_enter Tryz.func54, Tryz.ntmps54
  have ho0 : ((w.alloc (.cells #[u1, u2, .slice a3 m c3, .slice a4 n c4, .int .i64 next] 35)).alloc (.cells #[.slice a3 m c3] 32)).ownsRow w.heap.size 32 1 (.slice (some ⟨w.heap.size + 1, 0, none⟩) 1 1) 1 [.slice a3 m c3] := by
    have h := World.ownsRow_lit (base := w.heap.size) (e := 32) (size := 1) (w.alloc (.cells #[u1, u2, .slice a3 m c3, .slice a4 n c4, .int .i64 next] 35)) #[.slice a3 m c3] 1 (by simp) (by unfold maxLen; omega) rfl
    simpa using h
  have hs0 : AppAny ((w.alloc (.cells #[u1, u2, .slice a3 m c3, .slice a4 n c4, .int .i64 next] 35)).alloc (.cells #[.slice a3 m c3] 32)) (.slice a4 n c4) n news := appAny_below HS.out (by (repeat (first | exact Below.refl _ _ | assumption | refine Below.drew ?_ | refine balloc ?_ _ | refine bset ?_ (by simp; omega) _ | refine bset ?_ (by simp) _ | refine bstep ?_ (by assumption))))
  go_wp2_with (at_builtin; refine wpList_appAny _ rfl _ _ 33 rfl w.heap.size 32 i0 _ 1 24 Tryz.underlying33 hi hz0 hz1 hz2 rfl (by decide) _ 1 [.slice a3 m c3] rfl _ n news rfl ho0 hs0 ?c1 ?c2 ?c3 ?c4 ?c5 ?_)
  case c1 => omega
  case c2 => exact h1
  case c3 => unfold maxLen; omega
  case c4 => omega
  case c5 => simp; omega
  intro v' w' ho hg hb
  have hB : Below w.heap.size w w' := hb w (by (repeat (first | exact Below.refl _ _ | assumption | refine Below.drew ?_ | refine balloc ?_ _ | refine bset ?_ (by simp; omega) _ | refine bset ?_ (by simp) _ | refine bstep ?_ (by assumption))))
  obtain ⟨av, cv, rfl⟩ := owns_form ho
  go_wp2
  go_ret
  exact ⟨_, rfl, ho, hB⟩
theorem layers_of {w w' : World} {u3 : Value} {mem : List Rw} {tabs : List (List Rw)} {us : Nat → Value} {v : Value} {base : Nat} (hm : rowsR.V w u3 mem) (hu : ∀ i, i < tabs.length → rowsR.V w (us i) (tabs.getD i default))
    (ho : w'.ownsRow base 32 1 v (1 + tabs.length) (u3 :: (List.range tabs.length).map us)) (hb : Below w.heap.size w w') : rowssR.V w' v (mem :: tabs) := by
  have hl : (mem :: tabs).length = 1 + tabs.length := by rw [List.length_cons]; omega
  rcases ho.2 with ⟨_, h0⟩ | ⟨g, cap, cur, rfl, _, hg, h1, h2, _⟩
  · omega
  · refine ⟨_, cap, by rw [hl], by rw [hl]; exact h1, h2, fun i hi => ?_⟩
    rw [hl] at hi
    have hc := ho.cellAt i (by omega)
    cases i with
    | zero =>
      refine ⟨g, 0, u3, rfl, rfl, fun j hj => ?_, rowsR.below hm hb⟩
      obtain rfl : j = 0 := by omega
      simpa [one] using hc
    | succ i =>
      have hi' : i < tabs.length := by omega
      refine ⟨g, 0, us i, rfl, rfl, fun j hj => ?_, ?_⟩
      · obtain rfl : j = 0 := by omega
        simpa [one, hi'] using hc
      · have e : (mem :: tabs).getD (i + 1) default = tabs.getD i default := by simp [List.getD]
        rw [e]
        exact rowsR.below (hu i hi') hb
theorem tabs_us {w : World} {a : Option Addr} {n c : Nat} {tabs : List (List Rw)} (h : rowssR.V w (.slice a n c) tabs) : n = tabs.length ∧ ∃ us : Nat → Value, (∀ i, i < tabs.length → rowsR.V w (us i) (tabs.getD i default)) ∧ AppAny w (.slice a n c) n ((List.range n).map us) ∧ (∀ u ∈ (List.range n).map us, u.oneCell' = true) := by
  obtain ⟨a', c', e, h1, h2, h3⟩ := h
  simp only [Value.slice.injEq] at e
  obtain ⟨rfl, rfl, rfl⟩ := e
  refine ⟨rfl, ?_⟩
  obtain ⟨us, hus⟩ := pickV (n := tabs.length) (P := fun i u => (∃ b o, a = some ⟨b, o, none⟩ ∧ w.cell? ⟨b, o + i, none⟩ = some u) ∧ rowsR.V w u (tabs.getD i default)) (fun i hi => by
    obtain ⟨b, o, u, ha, _, hc, hu⟩ := h3 i hi
    exact ⟨u, ⟨b, o, ha, cells1 hc⟩, hu⟩)
  refine ⟨us, fun i hi => (hus i hi).2, appAny_cells (fun i hi => (hus i hi).1), fun u hu => ?_⟩
  obtain ⟨i, hi, rfl⟩ := List.mem_map.1 hu
  obtain ⟨ai, ci, e⟩ := rows_form (hus i (List.mem_range.1 hi)).2
  rw [e]
  rfl
theorem layersOf_V (x : Value) (d : Engn) (w : World) (hx : engnR.V w x d) (hn : d.tables.length ≤ 1048576) :
    Calls Tryz.prog 54 #[x] w fun e w' => ∃ v, e = .returned v ∧ rowssR.V w' v (d.mem :: d.tables) ∧ Below w.heap.size w w' := by
  obtain ⟨u1, u2, u3, u4, rfl, h1, h2, h3⟩ := hx
  obtain ⟨a3, c3, rfl⟩ := rows_form h2
  obtain ⟨a4, c4, rfl⟩ := rowss_form h3
  obtain ⟨-, us, q1, q2, q3⟩ := tabs_us h3
  refine (layersOf_raw u1 u2 a3 _ c3 a4 _ c4 d.next _ w q2 (by simp) q3 hn).mono ?_
  rintro e w' ⟨v, rfl, ho, hb⟩
  exact ⟨v, rfl, layers_of h2 q1 ho hb, hb⟩
end Go.Proofs.YtdfapehonegeeaaGreat

/-
  An engine copied: what is there so far.
-/
namespace Go.Proofs.YtdfapehonegeeaaGreat
open Go.RowKit
set_option linter.unusedSectionVars false
variable [DecidableEq Wri] [Inhabited Wri] [DecidableEq BytesR] [Inhabited BytesR] [DecidableEq Rw] [Inhabited Rw] [DecidableEq TabR] [Inhabited TabR] [DecidableEq Logg] [Inhabited Logg] [DecidableEq Engn] [Inhabited Engn] [DecidableEq LoggR] [Inhabited LoggR] [DecidableEq RecsR] [Inhabited RecsR] [DecidableEq Leg] [Inhabited Leg]
set_option linter.unusedVariables false
set_option linter.unusedSimpArgs false

theorem PO.snoc {α : Type} {R : Rep α} {e : Nat} {W W' : World} {base : Nat} {v v' : Value} {n : Nat} {d : Nat → α} {cs : List Value} {us : Nat → Value} {fs : Nat → Nat → Prop} {u : Value} {Fu : Nat → Prop}
    (h : PO R e 1 one W base v n n d cs us fs) (hu : R.O W base Fu u (d n)) (hd : ∀ i, i < n → ∀ b, fs i b → ¬ Fu b) (hvu : ∀ b, Fu b → v.ownBlock ≠ some b)
    (hr : W'.ownsRow base e 1 v' (n + 1) (cs ++ [u])) (hg : W.grownBy W' v.ownBlock) (hv : v'.ownBlock = v.ownBlock ∨ v'.ownBlock = some W.heap.size) :
    PO R e 1 one W' base v' (n + 1) (n + 1) d (cs ++ [u]) (upd us n u) (upd fs n Fu) := by
  have hcl : cs.length = n := by simpa using h.row.1
  have hm := Mod.of_grown hg
  have hold : ∀ b, b < W.heap.size → v.ownBlock ≠ some b → v'.ownBlock ≠ some b := fun b hb hn => by
    rcases hv with hv | hv
    · rw [hv]; exact hn
    · rw [hv]; intro e; simp only [Option.some.injEq] at e; omega
  refine ⟨hr, ?_, fun _ _ => rfl, ?_, ?_, ?_⟩
  · intro i hi
    by_cases hik : i = n
    · subst hik
      rw [upd_at, upd_at]
      exact R.mod hu hm (fun b hb => hvu b hb)
    · rw [upd_ne _ _ hik, upd_ne _ _ hik]
      exact R.mod (h.el i (by omega)) hm (fun b hb => h.out i (by omega) b hb)
  · intro i hi j hj
    obtain rfl : j = 0 := by omega
    rw [Nat.mul_one, Nat.add_zero]
    by_cases hik : i = n
    · subst hik
      rw [upd_at, List.getElem?_append_right (by omega), hcl]
      simp [one]
    · have h1 := h.cell i (by omega) 0 (by omega)
      rw [Nat.mul_one, Nat.add_zero] at h1
      rw [upd_ne _ _ hik, List.getElem?_append_left (by omega), h1]
  · intro i hi b hb
    by_cases hik : i = n
    · subst hik
      rw [upd_at] at hb
      exact hold b (R.rng hu b hb).2 (hvu b hb)
    · rw [upd_ne _ _ hik] at hb
      exact hold b (R.rng (h.el i (by omega)) b hb).2 (h.out i (by omega) b hb)
  · intro i j hi hj hij b h1 h2
    by_cases hik : i = n
    · subst hik
      rw [upd_at] at h1
      rw [upd_ne _ _ (Ne.symm hij)] at h2
      exact hd j (by omega) b h2 h1
    · rw [upd_ne _ _ hik] at h1
      by_cases hjk : j = n
      · subst hjk
        rw [upd_at] at h2
        exact hd i (by omega) b h1 h2
      · rw [upd_ne _ _ hjk] at h2
        exact h.sep i j (by omega) (by omega) hij b h1 h2
structure CpSt (W0 W : World) (base B : Nat) (d : Engn) (k : Nat) (u1 u2 u3 v : Value) (F1 F2 : Nat → Prop) (cs : List Value) (us : Nat → Value) (fs : Nat → Nat → Prop) : Prop where
  c0 : W.cell? ⟨B, 0, none⟩ = some u1
  c1 : W.cell? ⟨B, 1, none⟩ = some u2
  c2 : W.cell? ⟨B, 2, none⟩ = some u3
  c3 : W.cell? ⟨B, 3, none⟩ = some v
  c4 : W.cell? ⟨B, 4, none⟩ = some (.int .i64 d.next)
  fz : ∀ o, W.frozen? ⟨B, o, none⟩ = false
  lo : base ≤ B
  o1 : loggR.O W base F1 (.agg #[u1, u2]) d.log
  o2 : rowsR.O W base F2 u3 d.mem
  o3 : PO rowsR 32 1 one W base v k k (fun i => d.tables.getD i default) cs us fs
  d12 : ∀ b, F1 b → ¬ F2 b
  d13 : ∀ b, F1 b → v.ownBlock ≠ some b ∧ ∀ i, i < k → ¬ fs i b
  d23 : ∀ b, F2 b → v.ownBlock ≠ some b ∧ ∀ i, i < k → ¬ fs i b
  n1 : ¬ F1 B
  n2 : ¬ F2 B
  n3 : v.ownBlock ≠ some B ∧ ∀ i, i < k → ¬ fs i B
  blw : Below base W0 W
theorem CpSt.push {W0 W W1 W2 : World} {base B : Nat} {d : Engn} {k : Nat} {u1 u2 u3 v v' u : Value} {F1 F2 Fu : Nat → Prop} {cs : List Value} {us : Nat → Value} {fs : Nat → Nat → Prop}
    (h : CpSt W0 W base B d k u1 u2 u3 v F1 F2 cs us fs) (hb : Below W.heap.size W W1) (hu : rowsR.O W1 W.heap.size Fu u (d.tables.getD k default)) (hbs : base ≤ W.heap.size)
    (hr : W2.ownsRow base 32 1 v' (k + 1) (cs ++ [u])) (hg : W1.grownBy W2 v.ownBlock) (hv : v'.ownBlock = v.ownBlock ∨ v'.ownBlock = some W1.heap.size) :
    CpSt W0 (W2.setCell ⟨B, 3, none⟩ v') base B d (k + 1) u1 u2 u3 v' F1 F2 (cs ++ [u]) (upd us k u) (upd fs k Fu) := by
  have hFu : ∀ b, Fu b → W.heap.size ≤ b ∧ b < W1.heap.size := fun b hb' => rowsR.rng hu b hb'
  have hfs : ∀ i, i < k → ∀ b, fs i b → b < W.heap.size := fun i hi b hb' => (rowsR.rng (h.o3.el i hi) b hb').2
  have hvl : ∀ b, v.ownBlock = some b → base ≤ b ∧ b < W.heap.size := fun b hb' => h.o3.row.lt b hb'
  have hBl : B < W.heap.size := World.block_lt_of_cell? _ _ h.c0
  have hs1 := hb.size
  have hs2 := hg.size
  have hm := Mod.of_grown hg
  have hm2 : Mod (fun b => b = B) W2 (W2.setCell ⟨B, 3, none⟩ v') := Mod.of_set W2 ⟨B, 3, none⟩ v'
  have hnB : some B ≠ v.ownBlock := fun e => h.n3.1 e.symm
  have hold : ∀ b, b < W1.heap.size → v.ownBlock ≠ some b → v'.ownBlock ≠ some b := fun b hb hn => by
    rcases hv with hv | hv
    · rw [hv]; exact hn
    · rw [hv]; intro e; simp only [Option.some.injEq] at e; omega
  have cl : ∀ (o : Nat) (x : Value), W.cell? ⟨B, o, none⟩ = some x → W2.cell? ⟨B, o, none⟩ = some x := fun o x hc => cell_grown hg (cell_keep hb hc) hnB
  have k0 := cl 0 _ h.c0
  have k1 := cl 1 _ h.c1
  have k2 := cl 2 _ h.c2
  have k3 := cl 3 _ h.c3
  have k4 := cl 4 _ h.c4
  have hfz : ∀ o, W2.frozen? ⟨B, o, none⟩ = false := fun o => ((Mod.of_grown hg).frozen (a := ⟨B, o, none⟩) (by show B < _; omega) (fun e => hnB e.symm)).trans (by rw [(bcell hb).2 _ _ hBl]; exact h.fz o)
  have hF1 : ∀ b, F1 b → b < W.heap.size := fun b hb' => (loggR.rng h.o1 b hb').2
  have hF2 : ∀ b, F2 b → b < W.heap.size := fun b hb' => (rowsR.rng h.o2 b hb').2
  have hP : PO rowsR 32 1 one W2 base v' (k + 1) (k + 1) (fun i => d.tables.getD i default) (cs ++ [u]) (upd us k u) (upd fs k Fu) :=
    PO.snoc (h.o3.keep hb) (rowsR.base hu hbs) (fun i hi b hb' hf => by have := hfs i hi b hb'; have := (hFu b hf).1; omega) (fun b hb' e => by have := (hvl b e).2; have := (hFu b hb').1; omega) hr hg hv
  have hupd : ∀ b, b < W.heap.size → (∀ i, i < k → ¬ fs i b) → ∀ i, i < k + 1 → ¬ upd fs k Fu i b := fun b hb' hn i hi hf => by
    by_cases e : i = k
    · subst e
      rw [upd_at] at hf
      have := (hFu b hf).1
      omega
    · rw [upd_ne _ _ e] at hf
      exact hn i (by omega) hf
  refine ⟨by simp [go_sem, k0, k3, hfz], by simp [go_sem, k1, k3, hfz], by simp [go_sem, k2, k3, hfz], by simp [go_sem, k3, hfz], by simp [go_sem, k4, k3, hfz], fun o => by simp [go_sem, hfz], h.lo, ?_, ?_, ?_, h.d12, ?_, ?_, h.n1, h.n2, ?_, ?_⟩
  · exact loggR.mod (loggR.mod (loggR.keep h.o1 hb) hm (fun b hb' e => (h.d13 b hb').1 e)) hm2 (fun b hb' e => h.n1 (by rw [← e]; exact hb'))
  · exact rowsR.mod (rowsR.mod (rowsR.keep h.o2 hb) hm (fun b hb' e => (h.d23 b hb').1 e)) hm2 (fun b hb' e => h.n2 (by rw [← e]; exact hb'))
  · refine hP.mod hm2 (fun b hb' e => ?_) (fun i hi b hb' e => ?_)
    · rw [e] at hb'
      exact hold B (by omega) h.n3.1 hb'
    · rw [e] at hb'
      exact hupd B hBl h.n3.2 i hi hb'
  · intro b hb'
    exact ⟨hold b (by have := hF1 b hb'; omega) (h.d13 b hb').1, hupd b (hF1 b hb') (h.d13 b hb').2⟩
  · intro b hb'
    exact ⟨hold b (by have := hF2 b hb'; omega) (h.d23 b hb').1, hupd b (hF2 b hb') (h.d23 b hb').2⟩
  · exact ⟨hold B (by omega) h.n3.1, hupd B hBl h.n3.2⟩
  · have h1 : Below base W0 W2 := (h.blw.trans (hb.mono hbs)).grown hg (by omega) (fun b e => (hvl b e).1)
    refine hm2.below h1 (by omega) (fun b e => ?_)
    rw [e]
    exact h.lo
theorem CpSt.engn {W0 W : World} {base B : Nat} {d : Engn} {u1 u2 u3 v : Value} {F1 F2 : Nat → Prop} {cs : List Value} {us : Nat → Value} {fs : Nat → Nat → Prop}
    (h : CpSt W0 W base B d d.tables.length u1 u2 u3 v F1 F2 cs us fs) : ∃ F, engnR.O W base F (.agg #[u1, u2, u3, v, .int .i64 d.next]) d :=
  ⟨_, _, _, _, _, F1, F2, (fun b => v.ownBlock = some b ∨ ∃ i, i < d.tables.length ∧ fs i b), rfl, h.o1, h.o2, ⟨cs, us, fs, h.o3, fun b => Iff.rfl⟩, h.d12,
    fun b hb e => e.elim (h.d13 b hb).1 (fun ⟨i, hi, hf⟩ => (h.d13 b hb).2 i hi hf), fun b hb e => e.elim (h.d23 b hb).1 (fun ⟨i, hi, hf⟩ => (h.d23 b hb).2 i hi hf), fun b => Iff.rfl⟩
end Go.Proofs.YtdfapehonegeeaaGreat


import Derived.Test.YtdfapehonegeeaaGreatPrnCrashEngineLaw26
import Derived.Test.YtdfapehonegeeaaGreatPrnCrashEngineLaw9
import Derived.Test.YtdfapehonegeeaaGreatPrnCrashEngineLaw11
import Derived.Test.YtdfapehonegeeaaGreatPrnCrashEngineLaw10
import Derived.Test.YtdfapehonegeeaaGreatPrnCrashEngineLaw8

/-
  FlushEngine: the program's side.
-/
namespace Go.Proofs.YtdfapehonegeeaaGreat
open Go.RowKit
set_option linter.unusedSectionVars false
variable [DecidableEq Wri] [Inhabited Wri] [DecidableEq BytesR] [Inhabited BytesR] [DecidableEq Rw] [Inhabited Rw] [DecidableEq TabR] [Inhabited TabR] [DecidableEq Logg] [Inhabited Logg] [DecidableEq Engn] [Inhabited Engn] [DecidableEq LoggR] [Inhabited LoggR] [DecidableEq RecsR] [Inhabited RecsR] [DecidableEq Leg] [Inhabited Leg] [DecidableEq EngR] [Inhabited EngR]
set_option linter.unusedVariables false
set_option linter.unusedSimpArgs false
attribute [local go_sem ↓] Go.wp_at_zero Go.wp_at_succ

theorem engR_of {w : World} {base : Nat} {F : Nat → Prop} {u1 u2 u3 u4 : Value} {e : Engn} (c v : Int) (h : engnR.O w base F (.agg #[u1, u2, u3, u4, .int .i64 e.next]) e) : engRR.O w base F (.agg #[.int .i64 c, .int .i64 v, u1, u2, u3, u4, .int .i64 e.next]) ⟨c, v, e⟩ :=
  ⟨_, _, _, _, F, rfl, h, fun _ => Iff.rfl⟩
end Go.Proofs.YtdfapehonegeeaaGreat

/-
  CompactEngine: its answer.
-/
namespace Go.Proofs.YtdfapehonegeeaaGreat
open Go.RowKit
set_option linter.unusedSectionVars false
variable [DecidableEq Wri] [Inhabited Wri] [DecidableEq BytesR] [Inhabited BytesR] [DecidableEq Rw] [Inhabited Rw] [DecidableEq TabR] [Inhabited TabR] [DecidableEq Logg] [Inhabited Logg] [DecidableEq Engn] [Inhabited Engn] [DecidableEq LoggR] [Inhabited LoggR] [DecidableEq RecsR] [Inhabited RecsR] [DecidableEq Leg] [Inhabited Leg] [DecidableEq EngR] [Inhabited EngR]
set_option linter.unusedVariables false
set_option linter.unusedSimpArgs false
attribute [local go_sem ↓] Go.wp_at_zero Go.wp_at_succ

theorem bset7 {p : Nat} {w Y : World} (h : Below w.heap.size w Y) (hp : w.heap.size ≤ p) (v0 v1 v2 v3 v4 v5 v6 : Value) : Below w.heap.size w (((((((Y.setCell ⟨p, 0, none⟩ v0).setCell ⟨p, 1, none⟩ v1).setCell ⟨p, 2, none⟩ v2).setCell ⟨p, 3, none⟩ v3).setCell ⟨p, 4, none⟩ v4).setCell ⟨p, 5, none⟩ v5).setCell ⟨p, 6, none⟩ v6) :=
  bset (bset (bset (bset (bset (bset (bset h hp _) hp _) hp _) hp _) hp _) hp _) hp _
theorem mset7 {F : Nat → Prop} {p : Nat} {w Y : World} (h : Mod F w Y) (hp : F p) (v0 v1 v2 v3 v4 v5 v6 : Value) : Mod F w (((((((Y.setCell ⟨p, 0, none⟩ v0).setCell ⟨p, 1, none⟩ v1).setCell ⟨p, 2, none⟩ v2).setCell ⟨p, 3, none⟩ v3).setCell ⟨p, 4, none⟩ v4).setCell ⟨p, 5, none⟩ v5).setCell ⟨p, 6, none⟩ v6) :=
  mset (mset (mset (mset (mset (mset (mset h _ _ hp) _ _ hp) _ _ hp) _ _ hp) _ _ hp) _ _ hp) _ _ hp
end Go.Proofs.YtdfapehonegeeaaGreat

/-
  CrashEngine: its answer.
-/
namespace Go.Proofs.YtdfapehonegeeaaGreat
open Go.RowKit
set_option linter.unusedSectionVars false
variable [DecidableEq Wri] [Inhabited Wri] [DecidableEq BytesR] [Inhabited BytesR] [DecidableEq Rw] [Inhabited Rw] [DecidableEq TabR] [Inhabited TabR] [DecidableEq Logg] [Inhabited Logg] [DecidableEq Engn] [Inhabited Engn] [DecidableEq LoggR] [Inhabited LoggR] [DecidableEq RecsR] [Inhabited RecsR] [DecidableEq Leg] [Inhabited Leg] [DecidableEq EngR] [Inhabited EngR]
set_option linter.unusedVariables false
set_option linter.unusedSimpArgs false

theorem replayF_grows {next : Int} : ∀ {recs : List (List Byte)} {last : Int} {out m : List Rw}, replayF next recs last out = some m → out.length ≤ m.length
  | [], _, _, _, h => by simp only [replayF, Option.some.injEq] at h; rw [h]; exact Nat.le_refl _
  | r :: rs, last, out, m, h => by
    have h' : (if (unwD r).code ≠ 0 ∨ unwV r ≤ last ∨ next ≤ unwV r then none else replayF next rs (unwV r) (putsL out (unwD r).rows)) = some m := h
    split at h'
    · cases h'
    · have h1 := replayF_grows h'
      have h2 := (length_putsL (unwD r).rows out).1
      omega
theorem replayF_first {next : Int} : ∀ {a b : List (List Byte)} {last : Int} {out m : List Rw}, replayF next (a ++ b) last out = some m → ∃ o, replayF next a last out = some o ∧ o.length ≤ m.length
  | [], b, last, out, m, h => ⟨out, rfl, replayF_grows h⟩
  | r :: a, b, last, out, m, h => by
    have h' : (if (unwD r).code ≠ 0 ∨ unwV r ≤ last ∨ next ≤ unwV r then none else replayF next (a ++ b) (unwV r) (putsL out (unwD r).rows)) = some m := h
    split at h'
    · cases h'
    · rename_i hc
      obtain ⟨o, h1, h2⟩ := replayF_first h'
      refine ⟨o, ?_, h2⟩
      show (if _ then _ else _) = _
      rw [if_neg hc]
      exact h1
theorem replayF_small {next : Int} : ∀ {recs : List (List Byte)} {last : Int} {out m : List Rw}, (∀ x ∈ out, rowFault x = 0) → replayF next recs last out = some m → ∀ x ∈ m, rowFault x = 0
  | [], _, _, _, h0, h => by simp only [replayF, Option.some.injEq] at h; rw [← h]; exact h0
  | r :: rs, last, out, m, h0, h => by
    have h' : (if (unwD r).code ≠ 0 ∨ unwV r ≤ last ∨ next ≤ unwV r then none else replayF next rs (unwV r) (putsL out (unwD r).rows)) = some m := h
    split at h'
    · cases h'
    · refine replayF_small (fun x hx => ?_) h'
      rcases mem_putsL hx with h1 | h1
      · exact h0 x h1
      · exact unw_fit r x h1
def crashE (d : Engn) (k : Int) : EngR :=
  if engF d ≠ 0 then codeE (engF d) else if (crashD d.log k).code ≠ 0 then codeE (crashD d.log k).code else
    ⟨0, 0, ⟨(trimD (crashD d.log k).log).log, (replayL (trimD (crashD d.log k).log).log d.next).getD [], d.tables, gvT 0 ((replayL (trimD (crashD d.log k).log).log d.next).getD [] :: d.tables) + 1⟩⟩
structure CrOk (d : Engn) (k : Int) (p q : List Byte) (out : List Rw) : Prop where
  c : crashD d.log k = ⟨0, ⟨p, []⟩⟩
  pl : p.length ≤ 6000
  t : trimD ⟨p, []⟩ = ⟨0, ⟨q, []⟩⟩
  qq : q = p.take (recU p)
  ql : logF ⟨q, []⟩ = 0
  r : replayL ⟨q, []⟩ d.next = some out
  rl : out.length ≤ 200
  rf : ∀ x ∈ out, rowFault x = 0
  gv : gvT 0 (out :: d.tables) ≤ 1000000
  g0 : 0 ≤ gvT 0 (out :: d.tables)
  e : crashE d k = ⟨0, 0, ⟨⟨q, []⟩, out, d.tables, gvT 0 (out :: d.tables) + 1⟩⟩
theorem gvT_pos {xss : List (List Rw)} : 0 ≤ gvT 0 xss := by
  rcases Int.lt_or_le (gvT 0 xss) 0 with h | h
  · exact absurd (gvT_le.1 h).1 (by omega)
  · exact h
theorem crash_ok {d : Engn} {k : Int} (hE : engF d = 0) (hc : (crashD d.log k).code = 0) : ∃ p q out, CrOk d k p q out := by
  obtain ⟨hP, -, hR, -⟩ := engF_inv hE
  obtain ⟨hl, hm, h6, ht⟩ := partsF_inv hP
  have hs := logF_small hl
  have hcr : crashD d.log k = ⟨0, ⟨d.log.synced ++ d.log.loose.take k.toNat, []⟩⟩ := by
    unfold crashD at hc ⊢
    rw [if_pos hl] at hc ⊢
    split at hc
    · rename_i h; rw [if_pos h]
    · cases hc
  obtain ⟨p, hp⟩ : ∃ p, p = d.log.synced ++ d.log.loose.take k.toNat := ⟨_, rfl⟩
  rw [← hp] at hcr
  have hpl : p.length ≤ 6000 := by
    rw [hp, List.length_append, List.length_take]
    omega
  obtain ⟨hu1, hu2⟩ := recU_used p.length p (Nat.le_refl _)
  have htr : trimD ⟨p, []⟩ = ⟨0, ⟨p.take (recU p), []⟩⟩ := by
    unfold trimD logF
    rw [if_pos (by rw [if_neg]; simp only [List.length_nil]; omega)]
  obtain ⟨q, hq⟩ : ∃ q, q = p.take (recU p) := ⟨_, rfl⟩
  rw [← hq] at htr hu1
  have hql : q.length = recU p := by rw [hq, List.length_take]; omega
  have hqf : recU q = q.length := by rw [hu1, hql]
  have hlq : logF ⟨q, []⟩ = 0 := by
    unfold logF
    rw [if_neg]
    simp only [List.length_nil]
    omega
  have hall : d.log.synced ++ d.log.loose = q ++ (p.drop (recU p) ++ d.log.loose.drop k.toNat) := by
    rw [← List.append_assoc, hq, List.take_append_drop, hp, List.append_assoc, List.take_append_drop]
  have hrec := (rec_behind q.length q (p.drop (recU p) ++ d.log.loose.drop k.toNat) (Nat.le_refl _) hqf).1
  rw [← hall] at hrec
  have hrp : replayF d.next (recL (d.log.synced ++ d.log.loose)) 0 [] = some d.mem := by
    unfold replayL at hR
    split at hR
    · cases hR
    · exact hR
  rw [hrec] at hrp
  obtain ⟨out, ho, hol⟩ := replayF_first hrp
  have hre : replayL ⟨q, []⟩ d.next = some out := by
    unfold replayL
    rw [if_neg (by simp only [List.append_nil, List.length_nil]; omega)]
    simp only [List.append_nil]
    exact ho
  have hml := (tabF_all hm).1
  have hof : ∀ x ∈ out, rowFault x = 0 := replayF_small (fun x hx => by simp at hx) ho
  have hgv : gvT 0 (out :: d.tables) < 1000001 := by
    rw [gvT_le]
    refine ⟨by omega, ?_⟩
    rw [List.all_eq_true]
    intro t hx
    unfold belowV
    rw [List.all_eq_true]
    intro y hy
    have hyf : rowFault y = 0 := by
      rcases List.mem_cons.1 hx with rfl | hx
      · exact hof y hy
      · obtain ⟨i, hi, e⟩ := List.mem_iff_getElem.1 hx
        have h1 := ht i hi
        have e2 : d.tables.getD i default = t := by simp [List.getD, hi, e]
        rw [e2] at h1
        exact tab_small h1 y hy
    exact decide_eq_true (by have := rowFault_zero hyf; omega)
  refine ⟨p, q, out, hcr, hpl, htr, hq, hlq, hre, by omega, hof, by omega, gvT_pos, ?_⟩
  unfold crashE
  rw [if_neg (by simpa using hE), hcr]
  simp only [ne_eq, not_true_eq_false, if_false, htr, hre, Option.getD_some]
theorem crashE_code {d : Engn} {k : Int} (hE : engF d = 0) (hc : ¬ (crashD d.log k).code = 0) : crashE d k = codeE (crashD d.log k).code := by
  unfold crashE
  rw [if_neg (by simpa using hE), if_pos hc]
theorem crashE_le (d : Engn) (k : Int) : wtEngR (crashE d k) ≤ 200000 := by
  by_cases hE : engF d = 0
  · by_cases hc : (crashD d.log k).code = 0
    · obtain ⟨p, q, out, h⟩ := crash_ok hE hc
      obtain ⟨hl, hm, h6, ht⟩ := partsF_inv (engF_inv hE).1
      rw [h.e]
      have h1 := wt_log h.ql
      have h2 := wt_small h.rf
      have h3 := wt_tabs h6 ht
      have h4 := h.rl
      show wtLogg ⟨q, []⟩ + wtRows out + wtRowss d.tables ≤ 200000
      omega
    · rw [crashE_code hE hc, codeE_le]; omega
  · have : crashE d k = codeE (engF d) := by unfold crashE; rw [if_pos hE]
    rw [this, codeE_le]; omega
theorem fit_small {xs : List Rw} (h : ∀ x ∈ xs, rowFault x = 0) : Fit xs := fit_mem.2 (fun x hx => by
  have := rowFault_small (h x hx)
  unfold maxLen
  omega)
end Go.Proofs.YtdfapehonegeeaaGreat

/-
  CrashEngine: the program's side.
-/
namespace Go.Proofs.YtdfapehonegeeaaGreat
open Go.RowKit
set_option linter.unusedSectionVars false
variable [DecidableEq Wri] [Inhabited Wri] [DecidableEq BytesR] [Inhabited BytesR] [DecidableEq Rw] [Inhabited Rw] [DecidableEq TabR] [Inhabited TabR] [DecidableEq Logg] [Inhabited Logg] [DecidableEq Engn] [Inhabited Engn] [DecidableEq LoggR] [Inhabited LoggR] [DecidableEq RecsR] [Inhabited RecsR] [DecidableEq Leg] [Inhabited Leg] [DecidableEq EngR] [Inhabited EngR]
set_option linter.unusedVariables false
set_option linter.unusedSimpArgs false
attribute [local go_sem ↓] Go.wp_at_zero Go.wp_at_succ

set_option maxRecDepth 20000 in
set_option maxHeartbeats 2000000 in
theorem implCrashE_u (x : Value) (d : Engn) (k : Int) (w : World) (hx : engnR.V w x d) (hn : wtEngn d ≤ 1048576) :
    Calls Tryz.prog 33 #[x, .int .i64 k] w fun e w' => ∃ v F, e = .returned v ∧ engRR.O w' w.heap.size F v (crashE d k) ∧ Below w.heap.size w w' := by
  have HX : Hid (engnR.V w x d) := hx
  obtain ⟨a1, a2, a3, a4, c1, c2, c3, c4, rfl⟩ := engn_form hx
  have HWT : Hid (wtEngn d ≤ 1048576) := hn
  clear hx
  go_enter Tryz.func33, Tryz.ntmps33
  go_wp2_with fail
  refine (implEngF_any _ d _ (engnR.below HX.out (by (repeat (first | exact Below.refl _ _ | assumption | refine Below.drew ?_ | refine balloc ?_ _ | refine bset ?_ (by simp; omega) _ | refine bset ?_ (by simp) _ | refine bstep ?_ (by assumption))))) hn).mono ?_
  rintro e w1 ⟨rfl, b1⟩
  have r0 : w1.cell? ⟨w.heap.size, 0, none⟩ = some (.slice a1 d.log.synced.length c1) := cell_keep b1 (by simp [go_sem])
  have r1 : w1.cell? ⟨w.heap.size, 1, none⟩ = some (.slice a2 d.log.loose.length c2) := cell_keep b1 (by simp [go_sem])
  have r2 : w1.cell? ⟨w.heap.size, 2, none⟩ = some (.slice a3 d.mem.length c3) := cell_keep b1 (by simp [go_sem])
  have r3 : w1.cell? ⟨w.heap.size, 3, none⟩ = some (.slice a4 d.tables.length c4) := cell_keep b1 (by simp [go_sem])
  have r4 : w1.cell? ⟨w.heap.size, 4, none⟩ = some (.int .i64 d.next) := cell_keep b1 (by simp [go_sem])
  have q0 : w1.cell? ⟨w.heap.size + 1, 0, none⟩ = some (.int .i64 0) := cell_keep b1 (by simp [go_sem])
  have q1 : w1.cell? ⟨w.heap.size + 1, 1, none⟩ = some (.int .i64 0) := cell_keep b1 (by simp [go_sem])
  have q2 : w1.cell? ⟨w.heap.size + 1, 2, none⟩ = some (.slice none 0 0) := cell_keep b1 (by simp [go_sem])
  have q3 : w1.cell? ⟨w.heap.size + 1, 3, none⟩ = some (.slice none 0 0) := cell_keep b1 (by simp [go_sem])
  have q4 : w1.cell? ⟨w.heap.size + 1, 4, none⟩ = some (.slice none 0 0) := cell_keep b1 (by simp [go_sem])
  have q5 : w1.cell? ⟨w.heap.size + 1, 5, none⟩ = some (.slice none 0 0) := cell_keep b1 (by simp [go_sem])
  have q6 : w1.cell? ⟨w.heap.size + 1, 6, none⟩ = some (.int .i64 0) := cell_keep b1 (by simp [go_sem])
  obtain ⟨qf, qz⟩ : (∀ o, w1.frozen? ⟨w.heap.size + 1, o, none⟩ = false) ∧ w.heap.size + 1 < w1.heap.size := by
    have h := b1.size
    simp only [World.size_alloc] at h
    exact ⟨fun o => by rw [(bcell b1).2 _ _ (by simp)]; simp [go_sem], by omega⟩
  have hB1 : Below w.heap.size w w1 := by (repeat (first | exact Below.refl _ _ | assumption | refine Below.drew ?_ | refine balloc ?_ _ | refine bset ?_ (by simp; omega) _ | refine bset ?_ (by simp) _ | refine bstep ?_ (by assumption)))
  clear b1 hn
  by_cases h0 : engF d = 0
  rotate_left
  · have HE : Hid (crashE d k = codeE (engF d)) := by unfold Hid crashE; rw [if_pos (by simpa using h0)]
    have hc : (engF d == 0) = false := by simpa using h0
    generalize engF d = c at *
    go_wp2
    refine bodyPost_ret (v := .agg #[.int .i64 c, .int .i64 0, .slice none 0 0, .slice none 0 0, .slice none 0 0, .slice none 0 0, .int .i64 0]) (by simp [results, Tryz.results33, go_sem, q0, q1, q2, q3, q4, q5, q6, qf, qz]) rfl ?_
    rw [HE.out]
    first | exact ⟨_, rfl, ⟨_, engR_nil _ _ c 0 0⟩, by (repeat (first | refine bset ?_ (by simp; omega) _ | refine bset ?_ (by simp) _ | refine balloc ?_ _ | assumption))⟩ | exact ⟨_, _, rfl, engR_nil _ _ c 0 0, by (repeat (first | refine bset ?_ (by simp; omega) _ | refine bset ?_ (by simp) _ | refine balloc ?_ _ | assumption))⟩
  rw [h0]
  have HEF : Hid (engF d = 0) := h0
  clear h0
  obtain ⟨hl0, hm0, h6, -⟩ := partsF_inv (engF_inv HEF.out).1
  have HLV : Hid (loggR.V w (.agg #[.slice a1 d.log.synced.length c1, .slice a2 d.log.loose.length c2]) d.log) := by
    obtain ⟨u1, u2, u3, u4, e, h, _, _⟩ := HX.out
    simp only [Value.agg.injEq, Array.mk.injEq, List.cons.injEq, and_true] at e
    obtain ⟨rfl, rfl, _, _⟩ := e
    exact h
  have hwl := wt_log hl0
  go_wp2_with fail
  refine (implCrash_u _ d.log k _ (loggR.below HLV.out hB1) (by omega)).mono ?_
  rintro e w2 ⟨v2, F2, rfl, o2, b2⟩
  replace r0 := cell_keep b2 r0
  replace r1 := cell_keep b2 r1
  replace r2 := cell_keep b2 r2
  replace r3 := cell_keep b2 r3
  replace r4 := cell_keep b2 r4
  replace q0 := cell_keep b2 q0
  replace q1 := cell_keep b2 q1
  replace q2 := cell_keep b2 q2
  replace q3 := cell_keep b2 q3
  replace q4 := cell_keep b2 q4
  replace q5 := cell_keep b2 q5
  replace q6 := cell_keep b2 q6
  obtain ⟨qf, qz⟩ := boxKeep ⟨qf, qz⟩ b2
  have hB2 := bstep hB1 b2
  have zr2 := World.block_lt_of_cell? _ _ r0
  dsimp only at zr2
  clear b2 hB1 hl0 hm0
  by_cases hcc : (crashD d.log k).code = 0
  rotate_left
  · have HE : Hid (crashE d k = codeE (crashD d.log k).code) := crashE_code HEF.out hcc
    obtain ⟨e1, e2, g1, g2, rfl⟩ := loggR_form (loggRR.ofO o2)
    have hc : ((crashD d.log k).code == 0) = false := by simpa using hcc
    generalize (crashD d.log k).code = mc at *
    generalize (crashD d.log k).log.synced.length = l1 at *
    generalize (crashD d.log k).log.loose.length = l2 at *
    clear o2
    go_wp2
    refine bodyPost_ret (v := .agg #[.int .i64 mc, .int .i64 0, .slice none 0 0, .slice none 0 0, .slice none 0 0, .slice none 0 0, .int .i64 0]) (by simp [results, Tryz.results33, go_sem, q0, q1, q2, q3, q4, q5, q6, qf, qz]) rfl ?_
    rw [HE.out]
    first | exact ⟨_, rfl, ⟨_, engR_nil _ _ mc 0 0⟩, balloc (bset7 hB2 (by omega) _ _ _ _ _ _ _) _⟩ | exact ⟨_, _, rfl, engR_nil _ _ mc 0 0, balloc (bset7 hB2 (by omega) _ _ _ _ _ _ _) _⟩
  obtain ⟨p, q, out, hOK⟩ := crash_ok HEF.out hcc
  have HOK : Hid (CrOk d k p q out) := hOK
  rw [hOK.c] at o2
  have hpl := hOK.pl
  have hql : q.length ≤ 6000 := by have := logF_small hOK.ql; simp only [List.length_nil] at this; omega
  clear hOK hcc
  obtain ⟨x1, x2, F4', rfl, o2', -⟩ := o2
  obtain ⟨b1', b2', g1, g2, e⟩ := logg_form (loggR.ofO o2')
  simp only [Value.agg.injEq, Array.mk.injEq, List.cons.injEq, and_true, List.length_nil] at e
  obtain ⟨rfl, rfl⟩ := e
  have HL2 : Hid (loggR.V w2 (.agg #[.slice b1' p.length g1, .slice b2' 0 g2]) ⟨p, []⟩) := loggR.ofO o2'
  clear o2'
  go_wp2_with fail
  refine (copied_u _ d _ (engnR.below HX.out (balloc hB2 _)) HWT.out).mono ?_
  rintro e w3 ⟨v3, F3, rfl, o3, b3⟩
  have s0 : w3.cell? ⟨w2.heap.size, 0, none⟩ = some (.int .i64 0) := cell_keep b3 (by simp [go_sem])
  have s1 : w3.cell? ⟨w2.heap.size, 1, none⟩ = some (.slice b1' p.length g1) := cell_keep b3 (by simp [go_sem])
  have s2 : w3.cell? ⟨w2.heap.size, 2, none⟩ = some (.slice b2' 0 g2) := cell_keep b3 (by simp [go_sem])
  have hb23 : Below w2.heap.size w2 w3 := bstep (by (repeat (first | exact Below.refl _ _ | assumption | refine Below.drew ?_ | refine balloc ?_ _ | refine bset ?_ (by simp; omega) _ | refine bset ?_ (by simp) _ | refine bstep ?_ (by assumption)))) b3
  have hz23 := b3.size
  simp only [World.size_alloc] at hz23
  replace r0 := cell_keep hb23 r0
  replace r1 := cell_keep hb23 r1
  replace r2 := cell_keep hb23 r2
  replace r3 := cell_keep hb23 r3
  replace r4 := cell_keep hb23 r4
  replace q0 := cell_keep hb23 q0
  replace q1 := cell_keep hb23 q1
  replace q2 := cell_keep hb23 q2
  replace q3 := cell_keep hb23 q3
  replace q4 := cell_keep hb23 q4
  replace q5 := cell_keep hb23 q5
  replace q6 := cell_keep hb23 q6
  obtain ⟨qf, qz⟩ := boxKeep ⟨qf, qz⟩ hb23
  have hB3 := bstep hB2 hb23
  have HL3 : Hid (loggR.V w3 (.agg #[.slice b1' p.length g1, .slice b2' 0 g2]) ⟨p, []⟩) := loggR.below HL2.out hb23
  obtain ⟨p1, p2, p3, p4, k1, k2, k3, k4, rfl⟩ := engn_form (engnR.ofO o3)
  obtain ⟨u1, u2, u3, u4, G1, G2, G3, e, o1, oM, oT, -, -, -, -⟩ := o3
  simp only [Value.agg.injEq, Array.mk.injEq, List.cons.injEq, and_true] at e
  obtain ⟨rfl, rfl, rfl, rfl⟩ := e
  have HOT : Hid (rowssR.O w3 w2.heap.size G3 (.slice p4 d.tables.length k4) d.tables) := rowssR.base oT (by simp)
  have HG3 : Hid (∀ b, G3 b → w2.heap.size ≤ b ∧ b < w3.heap.size) := fun b hb => rowssR.rng HOT.out b hb
  have zs3 : w2.heap.size < w3.heap.size := by omega
  have zr3 : w.heap.size < w3.heap.size := by omega
  clear o1 oM oT b3 hB2 HL2 r0 r1 r2 r3 HX HLV
  have HTR : Hid (∀ W, Below w3.heap.size w3 W → Calls Tryz.prog 97 #[.agg #[.slice b1' p.length g1, .slice b2' 0 g2]] W fun e w' => ∃ a6 c6 a6' c6' F, e = .returned (.agg #[.int .i64 0, .slice a6 q.length c6, .slice a6' 0 c6']) ∧ loggR.O w' W.heap.size F (.agg #[.slice a6 q.length c6, .slice a6' 0 c6']) ⟨q, []⟩ ∧ Below W.heap.size W w') := fun W hW => by
    refine (implTrim_u _ ⟨p, []⟩ W (loggR.below HL3.out hW) (by unfold wtLogg wtBytes; simp only [List.length_nil]; omega)).mono ?_
    rintro e w' ⟨v, F, rfl, h, hb⟩
    rw [HOK.out.t] at h
    obtain ⟨y1, y2, F1, rfl, h1, -⟩ := h
    obtain ⟨a6, a6', c6, c6', e⟩ := logg_form (loggR.ofO h1)
    simp only [Value.agg.injEq, Array.mk.injEq, List.cons.injEq, and_true, List.length_nil] at e
    obtain ⟨rfl, rfl⟩ := e
    exact ⟨a6, c6, a6', c6', F1, rfl, h1, hb⟩
  have HLQ : Hid (q.length ≤ 6000) := hql
  clear HL3
  generalize p.length = lp at *
  go_wp2_with fail
  refine (HTR.out _ (by (repeat (first | exact Below.refl _ _ | assumption | refine Below.drew ?_ | refine balloc ?_ _ | refine bset ?_ (by simp; omega) _ | refine bset ?_ (by simp) _ | refine bstep ?_ (by assumption))))).mono ?_
  rintro e w4 ⟨a6, c6, a6', c6', F4, rfl, o4, b4⟩
  have x0 : w4.cell? ⟨w3.heap.size, 0, none⟩ = some (.slice p1 d.log.synced.length k1) := cell_keep b4 (by simp [go_sem])
  have x1 : w4.cell? ⟨w3.heap.size, 1, none⟩ = some (.slice p2 d.log.loose.length k2) := cell_keep b4 (by simp [go_sem])
  have x2 : w4.cell? ⟨w3.heap.size, 2, none⟩ = some (.slice p3 d.mem.length k3) := cell_keep b4 (by simp [go_sem])
  have x3 : w4.cell? ⟨w3.heap.size, 3, none⟩ = some (.slice p4 d.tables.length k4) := cell_keep b4 (by simp [go_sem])
  have x4 : w4.cell? ⟨w3.heap.size, 4, none⟩ = some (.int .i64 d.next) := cell_keep b4 (by simp [go_sem])
  obtain ⟨xf, xz⟩ : (∀ o, w4.frozen? ⟨w3.heap.size, o, none⟩ = false) ∧ w3.heap.size < w4.heap.size := by
    have h := b4.size
    simp only [World.size_alloc] at h
    exact ⟨fun o => by rw [(bcell b4).2 _ _ (by simp)]; simp [go_sem], by omega⟩
  have hb34 : Below w3.heap.size w3 w4 := bstep (by (repeat (first | exact Below.refl _ _ | assumption | refine Below.drew ?_ | refine balloc ?_ _ | refine bset ?_ (by simp; omega) _ | refine bset ?_ (by simp) _ | refine bstep ?_ (by assumption)))) b4
  replace r4 := cell_keep hb34 r4
  replace q0 := cell_keep hb34 q0
  replace q1 := cell_keep hb34 q1
  replace q2 := cell_keep hb34 q2
  replace q3 := cell_keep hb34 q3
  replace q4 := cell_keep hb34 q4
  replace q5 := cell_keep hb34 q5
  replace q6 := cell_keep hb34 q6
  obtain ⟨qf, qz⟩ := boxKeep ⟨qf, qz⟩ hb34
  have hB4 := bstep hB3 hb34
  have HO4 : Hid (loggR.O w4 (w3.heap.size + 1) F4 (.agg #[.slice a6 q.length c6, .slice a6' 0 c6']) ⟨q, []⟩) := loggR.base o4 (by simp)
  have HT4 : Hid (rowssR.O w4 w2.heap.size G3 (.slice p4 d.tables.length k4) d.tables) := rowssR.keep HOT.out hb34
  have HF4 : Hid (∀ b, F4 b → w3.heap.size + 1 ≤ b ∧ b < w4.heap.size) := fun b hb => loggR.rng HO4.out b hb
  have HLR : Hid (∀ Y, Mod (fun b => b = w3.heap.size) w4 Y → Calls Tryz.prog 55 #[.agg #[.slice a6 q.length c6, .slice a6' 0 c6'], .int .i64 d.next] Y fun e w' => ∃ a7 c7 F, e = .returned (.tuple #[.slice a7 out.length c7, .bool true]) ∧ rowsR.O w' Y.heap.size F (.slice a7 out.length c7) out ∧ Below Y.heap.size Y w') := fun Y hY => by
    refine (logged_any _ ⟨q, []⟩ d.next Y (loggR.ofO (loggR.mod HO4.out hY (fun b hb e => by have := (HF4.out b hb).1; omega))) HOK.out.ql).mono ?_
    rintro e w' ⟨v, f, rfl, hP, hb⟩
    cases f with
    | false =>
      have h1 := hP.2.2 rfl out HOK.out.r
      have h2 := HOK.out.rl
      omega
    | true =>
      obtain ⟨o', h1, h2, h3⟩ := hP.2.1 rfl
      rw [HOK.out.r] at h1
      simp only [Option.some.injEq] at h1
      subst h1
      obtain ⟨a7, c7, rfl⟩ := owns_form h3
      exact ⟨a7, c7, _, rfl, ⟨⟨h3, rfl⟩, fit_small HOK.out.rf⟩, hb⟩
  clear o4 b4 HTR HOT s0 s1 s2
  have hfd : ∀ (n : Nat) (w : World), (Instr.field 100 (.agg #[.int .i64 0, .slice a6 n c6, .slice a6' 0 c6']) 1).run Tryz.prog w = .ok (.agg #[.slice a6 n c6, .slice a6' 0 c6']) w := fun n w => by kernel_rfl
  go_wp2_with fail
  have hMY4 : Mod (fun b => b = w3.heap.size) w4 ((w4.setCell ⟨w3.heap.size, 0, none⟩ (.slice a6 q.length c6)).setCell ⟨w3.heap.size, 1, none⟩ (.slice a6' 0 c6')) := mset (F := fun b => b = w3.heap.size) (mset (F := fun b => b = w3.heap.size) (Mod.refl _ _) ⟨w3.heap.size, 0, none⟩ _ rfl) ⟨w3.heap.size, 1, none⟩ _ rfl
  refine (HLR.out _ hMY4).mono ?_
  rintro e w5 ⟨a7, c7, F7, rfl, o7, b5⟩
  have y0 : w5.cell? ⟨w3.heap.size, 0, none⟩ = some (.slice a6 q.length c6) := cell_keep b5 (by simp [go_sem, x0, x1, x2, x3, x4, xf])
  have y1 : w5.cell? ⟨w3.heap.size, 1, none⟩ = some (.slice a6' 0 c6') := cell_keep b5 (by simp [go_sem, x0, x1, x2, x3, x4, xf])
  have y2 : w5.cell? ⟨w3.heap.size, 2, none⟩ = some (.slice p3 d.mem.length k3) := cell_keep b5 (by simp [go_sem, x0, x1, x2, x3, x4, xf])
  have y3 : w5.cell? ⟨w3.heap.size, 3, none⟩ = some (.slice p4 d.tables.length k4) := cell_keep b5 (by simp [go_sem, x0, x1, x2, x3, x4, xf])
  have y4 : w5.cell? ⟨w3.heap.size, 4, none⟩ = some (.int .i64 d.next) := cell_keep b5 (by simp [go_sem, x0, x1, x2, x3, x4, xf])
  have hM5 : Mod (fun b => b = w3.heap.size) w4 w5 := hMY4.trans (Mod.of_below b5)
  have hz45 := hM5.size
  have yf : ∀ o, w5.frozen? ⟨w3.heap.size, o, none⟩ = false := fun o => by rw [(bcell b5).2 _ _ (by simpa using xz)]; simp [go_sem, xf]
  have yz : w3.heap.size < w5.heap.size := by omega
  have hne : w.heap.size + 1 ≠ w3.heap.size := by omega
  replace q0 := hM5.cell q0 hne
  replace q1 := hM5.cell q1 hne
  replace q2 := hM5.cell q2 hne
  replace q3 := hM5.cell q3 hne
  replace q4 := hM5.cell q4 hne
  replace q5 := hM5.cell q5 hne
  replace q6 := hM5.cell q6 hne
  have qf5 : ∀ o, w5.frozen? ⟨w.heap.size + 1, o, none⟩ = false := fun o => (hM5.frozen (a := ⟨w.heap.size + 1, o, none⟩) qz hne).trans (qf o)
  have qz5 : w.heap.size + 1 < w5.heap.size := by omega
  have hB5 : Below w.heap.size w w5 := hM5.below hB4 hB4.size (fun b e => by rw [e]; omega)
  have HO5 : Hid (loggR.O w5 (w3.heap.size + 1) F4 (.agg #[.slice a6 q.length c6, .slice a6' 0 c6']) ⟨q, []⟩) := loggR.mod HO4.out hM5 (fun b hb e => by have := (HF4.out b hb).1; omega)
  have HT5 : Hid (rowssR.O w5 w2.heap.size G3 (.slice p4 d.tables.length k4) d.tables) := rowssR.mod HT4.out hM5 (fun b hb e => by have := (HG3.out b hb).2; omega)
  have HM5 : Hid (rowsR.O w5 w4.heap.size F7 (.slice a7 out.length c7) out) := rowsR.base o7 (by simp)
  have HF7 : Hid (∀ b, F7 b → w4.heap.size ≤ b ∧ b < w5.heap.size) := fun b hb => rowsR.rng HM5.out b hb
  have HLY : Hid (∀ Y, Mod (fun b => b = w3.heap.size) w5 Y → Calls Tryz.prog 54 #[(.agg #[.slice a6 q.length c6, .slice a6' 0 c6', .slice a7 out.length c7, .slice p4 d.tables.length k4, .int .i64 d.next])] Y fun e w' => ∃ v, e = .returned v ∧ rowssR.V w' v (out :: d.tables) ∧ Below Y.heap.size Y w') := fun Y hY => by
    refine layersOf_V _ ⟨⟨q, []⟩, out, d.tables, d.next⟩ Y ⟨_, _, _, _, rfl, ?_, ?_, ?_⟩ (by show d.tables.length ≤ _; omega)
    · exact loggR.ofO (loggR.mod HO5.out hY (fun b hb e => by have := (HF4.out b hb).1; omega))
    · exact rowsR.ofO (rowsR.mod HM5.out hY (fun b hb e => by have := (HF7.out b hb).1; omega))
    · exact rowssR.ofO (rowssR.mod HT5.out hY (fun b hb e => by have := (HG3.out b hb).2; omega))
  clear o7 HLR hfd HO4 HT4 hB4 r4 x0 x1 x2 x3 x4 xf qf
  go_wp2_with fail
  have hMY5 : Mod (fun b => b = w3.heap.size) w5 (w5.setCell ⟨w3.heap.size, 2, none⟩ (.slice a7 out.length c7)) := mset (F := fun b => b = w3.heap.size) (Mod.refl _ _) ⟨w3.heap.size, 2, none⟩ _ rfl
  refine (HLY.out _ hMY5).mono ?_
  rintro e w6 ⟨v6, rfl, hV6, b6⟩
  obtain ⟨a8, c8, rfl⟩ := rowss_form hV6
  have HGR : Hid (∀ W, Below w6.heap.size w6 W → Calls Tryz.prog 53 #[.slice a8 (out :: d.tables).length c8] W fun e w' => e = .returned (.int .i64 (gvT 0 (out :: d.tables))) ∧ Below W.heap.size W w') := fun W hW => greatest_any _ (out :: d.tables) W (rowssR.below hV6 hW)
  have hg1 := HOK.out.gv
  have hg0 := HOK.out.g0
  have HE : Hid (crashE d k = ⟨0, 0, ⟨⟨q, []⟩, out, d.tables, gvT 0 (out :: d.tables) + 1⟩⟩) := HOK.out.e
  clear hV6 HLY
  generalize gvT 0 (out :: d.tables) = gv at *
  generalize (out :: d.tables).length = ln at *
  go_wp2_with fail
  refine (HGR.out _ (by (repeat (first | exact Below.refl _ _ | assumption | refine Below.drew ?_ | refine balloc ?_ _ | refine bset ?_ (by simp; omega) _ | refine bset ?_ (by simp) _ | refine bstep ?_ (by assumption))))).mono ?_
  rintro e w7 ⟨rfl, b7⟩
  have b57 : Below (w5.setCell ⟨w3.heap.size, 2, none⟩ (.slice a7 out.length c7)).heap.size (w5.setCell ⟨w3.heap.size, 2, none⟩ (.slice a7 out.length c7)) w7 := bstep b6 b7
  have t0 : w7.cell? ⟨w3.heap.size, 0, none⟩ = some (.slice a6 q.length c6) := cell_keep b57 (by simp [go_sem, y0, y1, y2, y3, y4, yf])
  have t1 : w7.cell? ⟨w3.heap.size, 1, none⟩ = some (.slice a6' 0 c6') := cell_keep b57 (by simp [go_sem, y0, y1, y2, y3, y4, yf])
  have t2 : w7.cell? ⟨w3.heap.size, 2, none⟩ = some (.slice a7 out.length c7) := cell_keep b57 (by simp [go_sem, y0, y1, y2, y3, y4, yf])
  have t3 : w7.cell? ⟨w3.heap.size, 3, none⟩ = some (.slice p4 d.tables.length k4) := cell_keep b57 (by simp [go_sem, y0, y1, y2, y3, y4, yf])
  have t4 : w7.cell? ⟨w3.heap.size, 4, none⟩ = some (.int .i64 d.next) := cell_keep b57 (by simp [go_sem, y0, y1, y2, y3, y4, yf])
  have tf : ∀ o, w7.frozen? ⟨w3.heap.size, o, none⟩ = false := fun o => by rw [(bcell b57).2 _ _ (by simpa using yz)]; simp [go_sem, yf]
  have hM7 : Mod (fun b => b = w3.heap.size) w5 w7 := hMY5.trans (Mod.of_below b57)
  have hz57 := hM7.size
  replace q0 := hM7.cell q0 hne
  replace q1 := hM7.cell q1 hne
  replace q2 := hM7.cell q2 hne
  replace q3 := hM7.cell q3 hne
  replace q4 := hM7.cell q4 hne
  replace q5 := hM7.cell q5 hne
  replace q6 := hM7.cell q6 hne
  have qf7 : ∀ o, w7.frozen? ⟨w.heap.size + 1, o, none⟩ = false := fun o => (hM7.frozen (a := ⟨w.heap.size + 1, o, none⟩) qz5 hne).trans (qf5 o)
  have hB7 : Below w.heap.size w w7 := hM7.below hB5 hB5.size (fun b e => by rw [e]; omega)
  have hwr : IntKind.i64.wrap (gv + 1) = gv + 1 := by rw [IntKind.wrap_i64]; omega
  clear HGR b57 b6 b7 y0 y1 y2 y3 y4 yf qf5
  have HLO : Hid (out.length = out.length) := rfl
  go_wp2
  refine bodyPost_ret (v := .agg #[.int .i64 0, .int .i64 0, .slice a6 q.length c6, .slice a6' 0 c6', .slice a7 out.length c7, .slice p4 d.tables.length k4, .int .i64 (gv + 1)]) (by simp [results, Tryz.results33, go_sem, q0, q1, q2, q3, q4, q5, q6, qf7, hne, Ne.symm hne, t0, t1, t2, t3, t4, tf]) rfl ?_
  rw [HE.out]
  have hMf : Mod (fun b => b = w3.heap.size ∨ b = w.heap.size + 1) w5 ((((((((w7.setCell ⟨w3.heap.size, 4, none⟩ (.int .i64 (gv + 1))).setCell ⟨w.heap.size + 1, 0, none⟩ (.int .i64 0)).setCell ⟨w.heap.size + 1, 1, none⟩ (.int .i64 0)).setCell ⟨w.heap.size + 1, 2, none⟩ (.slice a6 q.length c6)).setCell ⟨w.heap.size + 1, 3, none⟩ (.slice a6' 0 c6')).setCell ⟨w.heap.size + 1, 4, none⟩ (.slice a7 out.length c7)).setCell ⟨w.heap.size + 1, 5, none⟩ (.slice p4 d.tables.length k4)).setCell ⟨w.heap.size + 1, 6, none⟩ (.int .i64 (gv + 1))) := mset7 (mset (hM7.mono (fun b e => .inl e)) ⟨w3.heap.size, 4, none⟩ _ (.inl rfl)) (.inr rfl) _ _ _ _ _ _ _
  have hBf : Below w.heap.size w ((((((((w7.setCell ⟨w3.heap.size, 4, none⟩ (.int .i64 (gv + 1))).setCell ⟨w.heap.size + 1, 0, none⟩ (.int .i64 0)).setCell ⟨w.heap.size + 1, 1, none⟩ (.int .i64 0)).setCell ⟨w.heap.size + 1, 2, none⟩ (.slice a6 q.length c6)).setCell ⟨w.heap.size + 1, 3, none⟩ (.slice a6' 0 c6')).setCell ⟨w.heap.size + 1, 4, none⟩ (.slice a7 out.length c7)).setCell ⟨w.heap.size + 1, 5, none⟩ (.slice p4 d.tables.length k4)).setCell ⟨w.heap.size + 1, 6, none⟩ (.int .i64 (gv + 1))) := bset7 (bset hB7 (by show w.heap.size ≤ w3.heap.size; omega) _) (by omega) _ _ _ _ _ _ _
  generalize (((((((w7.setCell ⟨w3.heap.size, 4, none⟩ (.int .i64 (gv + 1))).setCell ⟨w.heap.size + 1, 0, none⟩ (.int .i64 0)).setCell ⟨w.heap.size + 1, 1, none⟩ (.int .i64 0)).setCell ⟨w.heap.size + 1, 2, none⟩ (.slice a6 q.length c6)).setCell ⟨w.heap.size + 1, 3, none⟩ (.slice a6' 0 c6')).setCell ⟨w.heap.size + 1, 4, none⟩ (.slice a7 out.length c7)).setCell ⟨w.heap.size + 1, 5, none⟩ (.slice p4 d.tables.length k4)).setCell ⟨w.heap.size + 1, 6, none⟩ (.int .i64 (gv + 1)) = Wf at *
  have hfin : engnR.O Wf w2.heap.size (fun b => F4 b ∨ F7 b ∨ G3 b) (.agg #[.slice a6 q.length c6, .slice a6' 0 c6', .slice a7 out.length c7, .slice p4 d.tables.length k4, .int .i64 (gv + 1)]) ⟨⟨q, []⟩, out, d.tables, gv + 1⟩ := by
    refine ⟨_, _, _, _, F4, F7, G3, rfl, loggR.base (loggR.mod HO5.out hMf (fun b hb e => by have := (HF4.out b hb).1; omega)) (by omega), rowsR.base (rowsR.mod HM5.out hMf (fun b hb e => by have := (HF7.out b hb).1; omega)) (by omega), rowssR.mod HT5.out hMf (fun b hb e => by have := HG3.out b hb; omega), ?_, ?_, ?_, fun b => Iff.rfl⟩
    · intro b h1 h2; have := HF4.out b h1; have := HF7.out b h2; omega
    · intro b h1 h2; have := HF4.out b h1; have := HG3.out b h2; omega
    · intro b h1 h2; have := HF7.out b h1; have := HG3.out b h2; omega
  have hres := engRR.base (engR_of (e := ⟨⟨q, []⟩, out, d.tables, gv + 1⟩) 0 0 hfin) (base' := w.heap.size) (by omega)
  first | exact ⟨_, _, rfl, hres, hBf⟩ | exact ⟨_, rfl, ⟨_, hres⟩, hBf⟩
end Go.Proofs.YtdfapehonegeeaaGreat


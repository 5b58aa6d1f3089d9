/-
  The specification's draws: a log.
-/
import Derived.Test.YtfeolikagceohaaDrw3
namespace Go.Proofs.Ytfeolikagceohaa
open Go.RowKit
set_option linter.unusedSectionVars false
variable [DecidableEq Logg] [Inhabited Logg] [DecidableEq LoggR] [Inhabited LoggR] [DecidableEq BytesR] [Inhabited BytesR] [DecidableEq RecsR] [Inhabited RecsR] [DecidableEq Leg] [Inhabited Leg]
set_option linter.unusedSimpArgs false
attribute [local go_sem ↓] Go.wp_at_zero Go.wp_at_succ

/-- a log that is being drawn: the answer's box (still empty), its own box, what is in it -/
structure LgSt (w w' : World) (d : Logg) (a1 a2 : Option Addr) (c1 c2 : Nat) (F : Nat → Prop) : Prop where
  x0 : w'.cell? ⟨w.heap.size + 1, 0, none⟩ = some (.slice a1 d.synced.length c1)
  x1 : w'.cell? ⟨w.heap.size + 1, 1, none⟩ = some (.slice a2 d.loose.length c2)
  xf : ∀ o, w'.frozen? ⟨w.heap.size + 1, o, none⟩ = false
  r0 : w'.cell? ⟨w.heap.size, 0, none⟩ = some (.slice none 0 0)
  r1 : w'.cell? ⟨w.heap.size, 1, none⟩ = some (.slice none 0 0)
  rf : ∀ o, w'.frozen? ⟨w.heap.size, o, none⟩ = false
  hO : loggR.O w' (w.heap.size + 2) F (.agg #[.slice a1 d.synced.length c1, .slice a2 d.loose.length c2]) d
  hz : w.heap.size + 2 ≤ w'.heap.size

theorem LgSt.mod {w w' w'' : World} {d : Logg} {a1 a2 : Option Addr} {c1 c2 : Nat} {F G : Nat → Prop} (h : LgSt w w' d a1 a2 c1 c2 F) (hm : Mod G w' w'') (hG : ∀ b, G b → b < w.heap.size) : LgSt w w'' d a1 a2 c1 c2 F := by
  have hz := h.hz
  have n0 : ¬ G w.heap.size := fun e => by have := hG _ e; omega
  have n1 : ¬ G (w.heap.size + 1) := fun e => by have := hG _ e; omega
  exact ⟨hm.cell h.x0 n1, hm.cell h.x1 n1, fun o => by rw [hm.frozenAt (a := ⟨w.heap.size + 1, o, none⟩) (by dsimp only; omega) n1]; exact h.xf o, hm.cell h.r0 n0, hm.cell h.r1 n0, fun o => by rw [hm.frozenAt (a := ⟨w.heap.size, o, none⟩) (by dsimp only; omega) n0]; exact h.rf o, loggR.mod h.hO hm (fun b hb e => by have := (loggR.rng h.hO b hb).1; have := hG b e; omega), Nat.le_trans hz hm.size⟩
theorem LgSt.below {w w' w'' : World} {d : Logg} {a1 a2 : Option Addr} {c1 c2 : Nat} {F : Nat → Prop} (h : LgSt w w' d a1 a2 c1 c2 F) (hb : Below w'.heap.size w' w'') : LgSt w w'' d a1 a2 c1 c2 F :=
  h.mod (G := fun _ => False) (Mod.of_below hb) (fun _ e => e.elim)

theorem setset_mod (W : World) (B : Nat) (u v : Value) : Mod (fun b => b = B) W ((W.setCell ⟨B, 0, none⟩ u).setCell ⟨B, 1, none⟩ v) := (Mod.of_set W ⟨B, 0, none⟩ u).trans (Mod.of_set _ ⟨B, 1, none⟩ v)

/-- another log is put into the box -/
theorem LgSt.put {w w' : World} {d d' : Logg} {a1 a2 b1 b2 : Option Addr} {c1 c2 e1 e2 : Nat} {F F' : Nat → Prop} (h : LgSt w w' d a1 a2 c1 c2 F) (hO : loggR.O w' (w.heap.size + 2) F' (.agg #[.slice b1 d'.synced.length e1, .slice b2 d'.loose.length e2]) d') :
    LgSt w ((w'.setCell ⟨w.heap.size + 1, 0, none⟩ (.slice b1 d'.synced.length e1)).setCell ⟨w.heap.size + 1, 1, none⟩ (.slice b2 d'.loose.length e2)) d' b1 b2 e1 e2 F' := by
  refine ⟨?_, ?_, fun o => by simp [h.xf], ?_, ?_, fun o => by simp [h.rf], ?_, by simpa using h.hz⟩
  · rw [set_other (by simp)]; exact set_same h.x0
  · exact set_same (by rw [set_other (by simp)]; exact h.x1)
  · rw [set_other (by simp), set_other (by simp)]; exact h.r0
  · rw [set_other (by simp), set_other (by simp)]; exact h.r1
  · exact loggR.set (loggR.set hO _ (by simp)) _ (by simp)
/-- the loose ones alone are put -/
theorem LgSt.put1 {w w' : World} {d : Logg} {a1 a2 b2 : Option Addr} {c1 c2 e2 : Nat} {F : Nat → Prop} {ys : List Byte} (h : LgSt w w' d a1 a2 c1 c2 F) {F' : Nat → Prop} (hO : loggR.O w' (w.heap.size + 2) F' (.agg #[.slice a1 d.synced.length c1, .slice b2 ys.length e2]) ⟨d.synced, ys⟩) :
    LgSt w (w'.setCell ⟨w.heap.size + 1, 1, none⟩ (.slice b2 ys.length e2)) ⟨d.synced, ys⟩ a1 b2 c1 e2 F' := by
  refine ⟨?_, ?_, fun o => by simp [h.xf], ?_, ?_, fun o => by simp [h.rf], ?_, by simpa using h.hz⟩
  · rw [set_other (by simp)]; exact h.x0
  · exact set_same h.x1
  · rw [set_other (by simp)]; exact h.r0
  · rw [set_other (by simp)]; exact h.r1
  · exact loggR.set hO _ (by simp)
theorem LgSt.put0 {w w' : World} {d : Logg} {a1 a2 b1 : Option Addr} {c1 c2 e1 : Nat} {F : Nat → Prop} {ys : List Byte} (h : LgSt w w' d a1 a2 c1 c2 F) {F' : Nat → Prop} (hO : loggR.O w' (w.heap.size + 2) F' (.agg #[.slice b1 ys.length e1, .slice a2 d.loose.length c2]) ⟨ys, d.loose⟩) :
    LgSt w (w'.setCell ⟨w.heap.size + 1, 0, none⟩ (.slice b1 ys.length e1)) ⟨ys, d.loose⟩ b1 a2 e1 c2 F' := by
  refine ⟨?_, ?_, fun o => by simp [h.xf], ?_, ?_, fun o => by simp [h.rf], ?_, by simpa using h.hz⟩
  · exact set_same h.x0
  · rw [set_other (by simp)]; exact h.x1
  · rw [set_other (by simp)]; exact h.r0
  · rw [set_other (by simp)]; exact h.r1
  · exact loggR.set hO _ (by simp)

/-- one of the two is new -/
theorem logg_new1 {w w' : World} {W : Nat} {d : Logg} {a1 a2 : Option Addr} {c1 c2 : Nat} {F F2 : Nat → Prop} {v2 : Value} {ys : List Byte} {base : Nat} (h : loggR.O w base F (.agg #[.slice a1 d.synced.length c1, .slice a2 d.loose.length c2]) d) {G : Nat → Prop} (hm : Mod G w w') (hG : ∀ b, G b → b < base) (h2 : bytesR.O w' W F2 v2 ys) (hW : w.heap.size ≤ W) (hb : base ≤ W) :
    ∃ F', loggR.O w' base F' (.agg #[.slice a1 d.synced.length c1, v2]) ⟨d.synced, ys⟩ := by
  obtain ⟨u1, u2, F1, F0, e, o1, _, _, _⟩ := h
  simp only [Value.agg.injEq, Array.mk.injEq, List.cons.injEq, and_true] at e
  obtain ⟨rfl, rfl⟩ := e
  exact ⟨fun b => F1 b ∨ F2 b, _, _, F1, F2, rfl, bytesR.mod o1 hm (fun b p q => by have := (bytesR.rng o1 b p).1; have := hG b q; omega), bytesR.base h2 hb, fun b p q => by have := (bytesR.rng o1 b p).2; have := (bytesR.rng h2 b q).1; omega, fun b => Iff.rfl⟩
theorem logg_new0 {w w' : World} {W : Nat} {d : Logg} {a1 a2 : Option Addr} {c1 c2 : Nat} {F F2 : Nat → Prop} {v2 : Value} {ys : List Byte} {base : Nat} (h : loggR.O w base F (.agg #[.slice a1 d.synced.length c1, .slice a2 d.loose.length c2]) d) {G : Nat → Prop} (hm : Mod G w w') (hG : ∀ b, G b → b < base) (h2 : bytesR.O w' W F2 v2 ys) (hW : w.heap.size ≤ W) (hb : base ≤ W) :
    ∃ F', loggR.O w' base F' (.agg #[v2, .slice a2 d.loose.length c2]) ⟨ys, d.loose⟩ := by
  obtain ⟨u1, u2, F0, F1, e, _, o1, _, _⟩ := h
  simp only [Value.agg.injEq, Array.mk.injEq, List.cons.injEq, and_true] at e
  obtain ⟨rfl, rfl⟩ := e
  exact ⟨fun b => F2 b ∨ F1 b, _, _, F2, F1, rfl, bytesR.base h2 hb, bytesR.mod o1 hm (fun b p q => by have := (bytesR.rng o1 b p).1; have := hG b q; omega), fun b q p => by have := (bytesR.rng o1 b p).2; have := (bytesR.rng h2 b q).1; omega, fun b => Iff.rfl⟩

set_option maxHeartbeats 8000000 in
theorem l4Log_any (B : Nat) (w : World) (bs : Nat) (a : Option Addr) (k cap t : Nat) (h : Src B w bs a k cap t) (ht : t ≤ 1000) :
    Calls Try.prog 29 #[.pointer (some ⟨bs, 0, none⟩)] w fun e w' => ∃ v F d t', e = .returned v ∧ loggR.O w' w.heap.size F v d ∧ wtLogg d ≤ 20000 ∧ Src B w' bs a k cap t' ∧ t' ≤ t + 4000 ∧ Mod (fun b => b = bs) w w' := by
  have hlt := h.lt
  go_enter Try.func29, Try.ntmps29
  go_wp2_with fail
  refine (l1Next_any B _ bs a k cap t 6 (h.below (by (repeat (first | exact Below.refl _ _ | assumption | refine Below.drew ?_ | refine balloc ?_ _ | refine bset ?_ (by simp; omega) _ | refine bset ?_ (by simp) _ | refine bstep ?_ (by assumption))))) (by omega) (by omega) (by omega)).mono ?_
  rintro e w1 ⟨n1, rfl, rn, hs1, hm1⟩
  have hM1 : Mod (fun b => b = bs) w w1 := (Mod.of_below (by (repeat (first | exact Below.refl _ _ | assumption | refine Below.drew ?_ | refine balloc ?_ _ | refine bset ?_ (by simp; omega) _ | refine bset ?_ (by simp) _ | refine bstep ?_ (by assumption))))).trans hm1
  have st0 : LgSt w ((w.alloc (.cells #[.slice none 0 0, .slice none 0 0] 34)).alloc (.cells #[.slice none 0 0, .slice none 0 0] 34)) ⟨[], []⟩ none none 0 0 none_ :=
    ⟨by simp [go_sem], by simp [go_sem], fun o => by simp [go_sem], by simp [go_sem], by simp [go_sem], fun o => by simp [go_sem], logg_one (bytes_nil _ _), by simp⟩
  have st1 := st0.mod hm1 (fun b hb => by omega)
  clear st0 hm1 h
  go_wp2
  go_loopw [4] (fun i w' => ∃ (m t' : Nat) (d : Logg) (a1 a2 : Option Addr) (c1 c2 : Nat) (F : Nat → Prop), i = .int .i64 m ∧ m ≤ 5 ∧ t' + 600 * m ≤ t + 3010 ∧ LgSt w w' d a1 a2 c1 c2 F ∧ d.synced.length + d.loose.length ≤ 6000 ∧ Src B w' bs a k cap t' ∧ Mod (fun b => b = bs) w w') (fun i _ => (intOf i).toNat)
  case atStart =>
    exact ⟨n1, t + 1, ⟨[], []⟩, _, _, _, _, _, rfl, by omega, by omega, st1, by simp, hs1, hM1⟩
  case round =>
    obtain ⟨m, t', d, a1, a2, c1, c2, F, rfl, hm, htm, st, hfew, hs, hM⟩ := hrel
    by_cases hpos : 0 < m
    · have hq : (0 : Int) < (m : Int) := by omega
      go_wp2_with fail
      refine (l3Some_any B wr bs a k cap t' hs (by omega)).mono ?_
      rintro e w2 ⟨v2, F2, xs, t2, rfl, ho2, hxl, hs2, ht2, hm2⟩
      obtain ⟨p2, q2, rfl⟩ := bytes_form (bytesR.ofO ho2)
      have st2 := st.mod hm2 (fun b hb => by omega)
      have hM2 := hM.trans hm2
      clear st hM hs hm2
      have x0 := st2.x0
      have x1 := st2.x1
      have xf := st2.xf
      have r0 := st2.r0
      have r1 := st2.r1
      have rf := st2.rf
      have hz := st2.hz
      by_cases h5 : 1 ≤ xs.length ∧ xs.length ≤ 500
      · obtain ⟨h51, h52⟩ := h5
        go_wp2_with fail
        refine (l4Append_any _ _ d xs _ (loggR.ofO st2.hO) (bytesR.ofO ho2) hfew h52).mono ?_
        rintro e w3 ⟨v3, F3, rfl, ho3, hb3⟩
        obtain ⟨b1, b2, e1, e2, rfl⟩ := logg_form (loggR.ofO ho3)
        have st3 := st2.below hb3
        have hM3 := hM2.transB hb3
        have hs3 := hs2.below hb3
        have hO3 := loggR.base (base' := w.heap.size + 2) ho3 (by omega)
        clear ho3 hb3 st2 hM2 hs2 ho2 x0 x1 xf r0 r1 rf hz
        have x0 := st3.x0
        have x1 := st3.x1
        have xf := st3.xf
        have r0 := st3.r0
        have r1 := st3.r1
        have rf := st3.rf
        have hz := st3.hz
        have z0 : w.heap.size + 1 < w3.heap.size := by omega
        rcases logF_cases ⟨d.synced, d.loose ++ frameB xs⟩ with ⟨hc, hfew2⟩ | hc
        · rw [hc]
          obtain ⟨d2, hd2⟩ : ∃ d2 : Logg, d2 = ⟨d.synced, d.loose ++ frameB xs⟩ := ⟨_, rfl⟩
          have e3 : d.synced = d2.synced := by rw [hd2]
          have e4 : d.loose ++ frameB xs = d2.loose := by rw [hd2]
          rw [← hd2] at hO3 hfew2 hc
          simp only [e3, e4] at *
          clear hc hd2
          have st4 : LgSt w (((w3.setCell ⟨w.heap.size + 1, 0, none⟩ (.slice b1 d2.synced.length e1)).setCell ⟨w.heap.size + 1, 1, none⟩ (.slice b2 d2.loose.length e2)).alloc (.cells #[.slice b1 d2.synced.length e1, .slice b2 d2.loose.length e2] 34)) d2 b1 b2 e1 e2 F3 := (st3.put hO3).below (by (repeat (first | exact Below.refl _ _ | assumption | refine Below.drew ?_ | refine balloc ?_ _ | refine bset ?_ (by simp; omega) _ | refine bset ?_ (by simp) _ | refine bstep ?_ (by assumption))))
          have hM4 : Mod (fun b => b = bs) w (((w3.setCell ⟨w.heap.size + 1, 0, none⟩ (.slice b1 d2.synced.length e1)).setCell ⟨w.heap.size + 1, 1, none⟩ (.slice b2 d2.loose.length e2)).alloc (.cells #[.slice b1 d2.synced.length e1, .slice b2 d2.loose.length e2] 34)) := (hM3.trans2 (setset_mod w3 (w.heap.size + 1) (.slice b1 d2.synced.length e1) (.slice b2 d2.loose.length e2)) (fun b hb hl => by omega)).transB (by (repeat (first | exact Below.refl _ _ | assumption | refine Below.drew ?_ | refine balloc ?_ _ | refine bset ?_ (by simp; omega) _ | refine bset ?_ (by simp) _ | refine bstep ?_ (by assumption))))
          have hs4 : Src B (((w3.setCell ⟨w.heap.size + 1, 0, none⟩ (.slice b1 d2.synced.length e1)).setCell ⟨w.heap.size + 1, 1, none⟩ (.slice b2 d2.loose.length e2)).alloc (.cells #[.slice b1 d2.synced.length e1, .slice b2 d2.loose.length e2] 34)) bs a k cap t2 := (hs3.mod (setset_mod w3 (w.heap.size + 1) (.slice b1 d2.synced.length e1) (.slice b2 d2.loose.length e2)) (fun b hb => by omega)).below (by (repeat (first | exact Below.refl _ _ | assumption | refine Below.drew ?_ | refine balloc ?_ _ | refine bset ?_ (by simp; omega) _ | refine bset ?_ (by simp) _ | refine bstep ?_ (by assumption))))
          replace hfew := hfew2
          clear hfew2 st3 hM3 hs3 hO3
          go_wp2_with fail
          refine (l1Chance_any B _ bs a k cap (t2) 3 hs4 (by omega) (by omega) (by omega)).mono ?_
          rintro e w7 ⟨r, rfl, hs7, hm7⟩
          have st7 := st4.mod hm7 (fun b hb => by omega)
          have hM7 := hM4.trans hm7
          clear st4 hM4 hs4 hm7 x0 x1 xf r0 r1 rf hz
          have x0 := st7.x0
          have x1 := st7.x1
          have xf := st7.xf
          have r0 := st7.r0
          have r1 := st7.r1
          have rf := st7.rf
          have hz := st7.hz
          have z0 : w.heap.size + 1 < w7.heap.size := by omega
          cases r with
          | false =>
            go_wp2
            exact ⟨⟨m - 1, t2 + 1, d2, _, _, _, _, _, by go_num, by omega, by omega, st7, hfew, hs7, hM7⟩, by simp [intOf]; omega⟩
          | true =>
            go_wp2_with fail
            refine (l4Sync_any _ d2 _ (loggR.ofO st7.hO) (by unfold wtLogg wtBytes; omega)).mono ?_
            rintro e w8 ⟨v8, F8, rfl, ho8, hb8⟩
            obtain ⟨b1, b2, e1, e2, rfl⟩ := logg_form (loggR.ofO ho8)
            have st8 := (st7.below hb8).put (loggR.base ho8 (by omega))
            have hM8 := (hM7.transB hb8).trans2 (setset_mod w8 (w.heap.size + 1) (.slice b1 (d2.synced ++ d2.loose).length e1) (.slice b2 ([] : List Byte).length e2)) (fun b hb hl => by omega)
            have hs8 := (hs7.below hb8).mod (setset_mod w8 (w.heap.size + 1) (.slice b1 (d2.synced ++ d2.loose).length e1) (.slice b2 ([] : List Byte).length e2)) (fun b hb => by omega)
            have q0 := cell_keep hb8 x0
            have q1 := cell_keep hb8 x1
            have qf := (boxKeep ⟨xf, z0⟩ hb8).1
            have hfew8 : (⟨d2.synced ++ d2.loose, []⟩ : Logg).synced.length + (⟨d2.synced ++ d2.loose, []⟩ : Logg).loose.length ≤ 6000 := by simp only [List.length_append, List.length_nil]; omega
            have HH : Hid (LgSt w _ (⟨d2.synced ++ d2.loose, []⟩ : Logg) b1 b2 e1 e2 F8) := st8
            have HS : Hid (Src B _ bs a k cap (t2 + 1)) := hs8
            have HM : Hid (Mod (fun b => b = bs) w _) := hM8
            simp only [List.length_append, List.length_nil] at HH HS HM
            clear st8 hs8 hM8 ho8 st7 hM7 hs7 x0 x1 xf r0 r1 rf hz
            go_wp2
            exact ⟨⟨m - 1, t2 + 1, _, _, _, _, _, _, by go_num, by omega, by omega, HH.out, hfew8, HS.out, HM.out⟩, by simp [intOf]; omega⟩
        · rw [hc]
          clear hc
          generalize (d.loose ++ frameB xs).length = bl at *
          have st4 : LgSt w (w3.alloc (.cells #[.slice b1 d.synced.length e1, .slice b2 bl e2] 34)) d a1 a2 c1 c2 F := st3.below (by (repeat (first | exact Below.refl _ _ | assumption | refine Below.drew ?_ | refine balloc ?_ _ | refine bset ?_ (by simp; omega) _ | refine bset ?_ (by simp) _ | refine bstep ?_ (by assumption))))
          have hM4 : Mod (fun b => b = bs) w (w3.alloc (.cells #[.slice b1 d.synced.length e1, .slice b2 bl e2] 34)) := hM3.transB (by (repeat (first | exact Below.refl _ _ | assumption | refine Below.drew ?_ | refine balloc ?_ _ | refine bset ?_ (by simp; omega) _ | refine bset ?_ (by simp) _ | refine bstep ?_ (by assumption))))
          have hs4 : Src B (w3.alloc (.cells #[.slice b1 d.synced.length e1, .slice b2 bl e2] 34)) bs a k cap t2 := hs3.below (by (repeat (first | exact Below.refl _ _ | assumption | refine Below.drew ?_ | refine balloc ?_ _ | refine bset ?_ (by simp; omega) _ | refine bset ?_ (by simp) _ | refine bstep ?_ (by assumption))))
          clear st3 hM3 hs3 hO3
          go_wp2_with fail
          refine (l1Chance_any B _ bs a k cap (t2) 3 hs4 (by omega) (by omega) (by omega)).mono ?_
          rintro e w7 ⟨r, rfl, hs7, hm7⟩
          have st7 := st4.mod hm7 (fun b hb => by omega)
          have hM7 := hM4.trans hm7
          clear st4 hM4 hs4 hm7 x0 x1 xf r0 r1 rf hz
          have x0 := st7.x0
          have x1 := st7.x1
          have xf := st7.xf
          have r0 := st7.r0
          have r1 := st7.r1
          have rf := st7.rf
          have hz := st7.hz
          have z0 : w.heap.size + 1 < w7.heap.size := by omega
          cases r with
          | false =>
            go_wp2
            exact ⟨⟨m - 1, t2 + 1, d, _, _, _, _, _, by go_num, by omega, by omega, st7, hfew, hs7, hM7⟩, by simp [intOf]; omega⟩
          | true =>
            go_wp2_with fail
            refine (l4Sync_any _ d _ (loggR.ofO st7.hO) (by unfold wtLogg wtBytes; omega)).mono ?_
            rintro e w8 ⟨v8, F8, rfl, ho8, hb8⟩
            obtain ⟨b1, b2, e1, e2, rfl⟩ := logg_form (loggR.ofO ho8)
            have st8 := (st7.below hb8).put (loggR.base ho8 (by omega))
            have hM8 := (hM7.transB hb8).trans2 (setset_mod w8 (w.heap.size + 1) (.slice b1 (d.synced ++ d.loose).length e1) (.slice b2 ([] : List Byte).length e2)) (fun b hb hl => by omega)
            have hs8 := (hs7.below hb8).mod (setset_mod w8 (w.heap.size + 1) (.slice b1 (d.synced ++ d.loose).length e1) (.slice b2 ([] : List Byte).length e2)) (fun b hb => by omega)
            have q0 := cell_keep hb8 x0
            have q1 := cell_keep hb8 x1
            have qf := (boxKeep ⟨xf, z0⟩ hb8).1
            have hfew8 : (⟨d.synced ++ d.loose, []⟩ : Logg).synced.length + (⟨d.synced ++ d.loose, []⟩ : Logg).loose.length ≤ 6000 := by simp only [List.length_append, List.length_nil]; omega
            have HH : Hid (LgSt w _ (⟨d.synced ++ d.loose, []⟩ : Logg) b1 b2 e1 e2 F8) := st8
            have HS : Hid (Src B _ bs a k cap (t2 + 1)) := hs8
            have HM : Hid (Mod (fun b => b = bs) w _) := hM8
            simp only [List.length_append, List.length_nil] at HH HS HM
            clear st8 hs8 hM8 ho8 st7 hM7 hs7 x0 x1 xf r0 r1 rf hz
            go_wp2
            exact ⟨⟨m - 1, t2 + 1, _, _, _, _, _, _, by go_num, by omega, by omega, HH.out, hfew8, HS.out, HM.out⟩, by simp [intOf]; omega⟩
      · have h5' : xs.length < 1 ∨ 500 < xs.length := by omega
        clear h5 ho2
        generalize xs.length = nx at *
        rcases h5' with h5 | h5
        all_goals
          go_wp2
          exact ⟨⟨m - 1, t2, d, _, _, _, _, _, by go_num, by omega, by omega, st2, hfew, hs2, hM2⟩, by simp [intOf]; omega⟩
    · have hq : ¬ (0 : Int) < (m : Int) := by omega
      go_wp2_with fail
      refine (l1Next_any B wr bs a k cap t' 16 hs (by omega) (by omega) (by omega)).mono ?_
      rintro e w2 ⟨c, rfl, rc, hs2, hm2⟩
      have st2 := st.mod hm2 (fun b hb => by omega)
      have hM2 := hM.trans hm2
      clear st hM hs hm2
      have x0 := st2.x0
      have x1 := st2.x1
      have xf := st2.xf
      have r0 := st2.r0
      have r1 := st2.r1
      have rf := st2.rf
      have hz := st2.hz
      have z0 : w.heap.size + 1 < w2.heap.size := by omega
      have z1 : w.heap.size < w2.heap.size := by omega
      by_cases h0 : c = 0
      · subst h0
        obtain ⟨u1, u2, F1, F2, eu, V1, V2, hdis, hF⟩ := st2.hO
        simp only [Value.agg.injEq, Array.mk.injEq, List.cons.injEq, and_true] at eu
        obtain ⟨rfl, rfl⟩ := eu
        go_wp2_with fail
        refine (l3Cut_any B w2 bs a k cap (t' + 1) _ d.loose hs2 (by omega) (bytesR.ofO V2) (by omega)).mono ?_
        rintro e w3 ⟨v3, F3, ys, t3, rfl, ho3, hyl, hs3, ht3, hm3⟩
        obtain ⟨b3, e3, rfl⟩ := bytes_form (bytesR.ofO ho3)
        obtain ⟨F4, hO4⟩ := logg_new1 st2.hO hm3 (fun b hb => by omega) ho3 (Nat.le_refl _) hz
        have sm := st2.mod hm3 (fun b hb => by omega)
        have st3 := sm.put1 hO4
        have hM3 := (hM2.trans hm3).trans2 (Mod.of_set w3 ⟨w.heap.size + 1, 1, none⟩ (.slice b3 ys.length e3)) (fun b hb hl => by dsimp only at hb; omega)
        have hs4 := hs3.mod (Mod.of_set w3 ⟨w.heap.size + 1, 1, none⟩ (.slice b3 ys.length e3)) (fun b hb => by dsimp only at hb; omega)
        clear x0 x1 xf r0 r1 rf
        have y0 := sm.x0
        have y1 := sm.x1
        have yf := sm.xf
        have s0 := sm.r0
        have s1 := sm.r1
        have sf := sm.rf
        have HD : Hid (wtLogg (⟨d.synced, ys⟩ : Logg) ≤ 20000) := by unfold Hid wtLogg wtBytes; dsimp only; omega
        clear V1 V2 hdis hF hO4 ho3 hm3 hs3 hM2 hs2 st2 hz sm
        obtain ⟨D, hDe⟩ : ∃ D : Logg, D = ⟨d.synced, ys⟩ := ⟨_, rfl⟩
        rw [← hDe] at st3 HD
        have f1 : d.synced.length = D.synced.length := by rw [hDe]
        have f2 : ys.length = D.loose.length := by rw [hDe]
        rw [f2] at st3 hM3 hs4 ⊢
        rw [f1] at y0
        clear f1 f2 hDe
        have hOe := st3.hO
        have hze := st3.hz
        have hse := hs4.mod (setset_mod (w3.setCell ⟨w.heap.size + 1, 1, none⟩ (.slice b3 D.loose.length e3)) w.heap.size (.slice a1 D.synced.length c1) (.slice b3 D.loose.length e3)) (fun b hb => by omega)
        have hMe := hM3.trans2 (setset_mod (w3.setCell ⟨w.heap.size + 1, 1, none⟩ (.slice b3 D.loose.length e3)) w.heap.size (.slice a1 D.synced.length c1) (.slice b3 D.loose.length e3)) (fun b hb hl => by omega)
        go_wp2
        refine bodyPost_ret (v := .agg #[.slice a1 D.synced.length c1, .slice b3 D.loose.length e3]) ?_ rfl ?_
        · simp [results, Try.results29, go_sem, s0, s1]
        · first
            | exact ⟨_, F4, D, t3, rfl, loggR.base (base := w.heap.size + 2) (loggR.set (loggR.set hOe _ (by simp)) _ (by simp)) (by omega), HD.out, hse, by omega, hMe⟩
            | exact ⟨_, rfl, F4, D, loggR.base (base := w.heap.size + 2) (loggR.set (loggR.set hOe _ (by simp)) _ (by simp)) (by omega), HD.out, t3, hse, by omega, hMe⟩
      by_cases h1 : c = 1
      · subst h1
        obtain ⟨u1, u2, F1, F2, eu, V1, V2, hdis, hF⟩ := st2.hO
        simp only [Value.agg.injEq, Array.mk.injEq, List.cons.injEq, and_true] at eu
        obtain ⟨rfl, rfl⟩ := eu
        go_wp2_with fail
        refine (l3Cut_any B w2 bs a k cap (t' + 1) _ d.synced hs2 (by omega) (bytesR.ofO V1) (by omega)).mono ?_
        rintro e w3 ⟨v3, F3, ys, t3, rfl, ho3, hyl, hs3, ht3, hm3⟩
        obtain ⟨b3, e3, rfl⟩ := bytes_form (bytesR.ofO ho3)
        obtain ⟨F4, hO4⟩ := logg_new0 st2.hO hm3 (fun b hb => by omega) ho3 (Nat.le_refl _) hz
        have sm := st2.mod hm3 (fun b hb => by omega)
        have st3 := sm.put0 hO4
        have hM3 := (hM2.trans hm3).trans2 (Mod.of_set w3 ⟨w.heap.size + 1, 0, none⟩ (.slice b3 ys.length e3)) (fun b hb hl => by dsimp only at hb; omega)
        have hs4 := hs3.mod (Mod.of_set w3 ⟨w.heap.size + 1, 0, none⟩ (.slice b3 ys.length e3)) (fun b hb => by dsimp only at hb; omega)
        clear x0 x1 xf r0 r1 rf
        have y0 := sm.x0
        have y1 := sm.x1
        have yf := sm.xf
        have s0 := sm.r0
        have s1 := sm.r1
        have sf := sm.rf
        have HD : Hid (wtLogg (⟨ys, d.loose⟩ : Logg) ≤ 20000) := by unfold Hid wtLogg wtBytes; dsimp only; omega
        clear V1 V2 hdis hF hO4 ho3 hm3 hs3 hM2 hs2 st2 hz sm
        obtain ⟨D, hDe⟩ : ∃ D : Logg, D = ⟨ys, d.loose⟩ := ⟨_, rfl⟩
        rw [← hDe] at st3 HD
        have f1 : d.loose.length = D.loose.length := by rw [hDe]
        have f2 : ys.length = D.synced.length := by rw [hDe]
        rw [f2] at st3 hM3 hs4 ⊢
        rw [f1] at y1
        clear f1 f2 hDe
        have hOe := st3.hO
        have hze := st3.hz
        have hse := hs4.mod (setset_mod (w3.setCell ⟨w.heap.size + 1, 0, none⟩ (.slice b3 D.synced.length e3)) w.heap.size (.slice b3 D.synced.length e3) (.slice a2 D.loose.length c2)) (fun b hb => by omega)
        have hMe := hM3.trans2 (setset_mod (w3.setCell ⟨w.heap.size + 1, 0, none⟩ (.slice b3 D.synced.length e3)) w.heap.size (.slice b3 D.synced.length e3) (.slice a2 D.loose.length c2)) (fun b hb hl => by omega)
        go_wp2
        refine bodyPost_ret (v := .agg #[.slice b3 D.synced.length e3, .slice a2 D.loose.length c2]) ?_ rfl ?_
        · simp [results, Try.results29, go_sem, s0, s1]
        · first
            | exact ⟨_, F4, D, t3, rfl, loggR.base (base := w.heap.size + 2) (loggR.set (loggR.set hOe _ (by simp)) _ (by simp)) (by omega), HD.out, hse, by omega, hMe⟩
            | exact ⟨_, rfl, F4, D, loggR.base (base := w.heap.size + 2) (loggR.set (loggR.set hOe _ (by simp)) _ (by simp)) (by omega), HD.out, t3, hse, by omega, hMe⟩
      by_cases h2 : c = 2
      · subst h2
        go_wp2_with fail
        refine (l1Next_any B w2 bs a k cap (t' + 1) 2 hs2 (by omega) (by omega) (by omega)).mono ?_
        rintro e w3 ⟨q, rfl, rq, hs3, hm3⟩
        have sm := st2.mod hm3 (fun b hb => by omega)
        have hM3 := hM2.trans hm3
        clear x0 x1 xf r0 r1 rf st2 hM2 hs2 hm3
        have hz3 := sm.hz
        obtain ⟨N, hN⟩ : ∃ N : Nat, N = 6000 + q := ⟨_, rfl⟩
        have u6 : IntKind.i64.wrap (6000 + (q : Int)) = (N : Int) := by rw [wrapI _ (by omega) (by omega)]; omega
        have hN2 : N ≤ 6001 := by omega
        clear hN
        obtain ⟨i0, hi, hz0, hz1', hz2⟩ := info_parts infoByte
        obtain ⟨w4, hmk, hown, hgr⟩ := run_make_full (P := Try.prog) w3 w3.heap.size 22 5 i0 _ 1 Try.underlying22 hi hz0 hz1' .i64 .i64 N (by rw [hz2]; omega) (by unfold maxLen; omega) (Nat.le_refl _)
        have hb4 : Below w3.heap.size w3 w4 := (Below.refl _ _).grown hgr (Nat.le_refl _) (fun k h => by cases h)
        obtain ⟨ys, hys⟩ : ∃ ys : List Byte, ys = List.replicate N 0 := ⟨_, rfl⟩
        have hyl : ys.length = N := by rw [hys]; simp
        have ho4 : bytesR.O w4 w3.heap.size (fun b => (Value.slice (some ⟨w3.heap.size, 0, none⟩) ys.length N).ownBlock = some b) (.slice (some ⟨w3.heap.size, 0, none⟩) ys.length N) ys := by
          refine ⟨?_, rfl⟩
          have h := hown
          rw [Nat.mul_one, show (Value.int .u8 0).cells = #[.int .u8 0] from rfl, toList_madeCells_one] at h
          rw [hyl]
          rw [hys]
          simpa [bytesC] using h
        obtain ⟨F4, hO4⟩ := logg_new0 sm.hO (Mod.of_below (F := fun _ => False) hb4) (fun b hb => hb.elim) ho4 (Nat.le_refl _) hz3
        have sm4 := sm.below hb4
        have st3 := sm4.put0 hO4
        have hM4 := (hM3.transB hb4).trans2 (Mod.of_set w4 ⟨w.heap.size + 1, 0, none⟩ (.slice (some ⟨w3.heap.size, 0, none⟩) ys.length N)) (fun b hb hl => by dsimp only at hb; omega)
        have hs4 := (hs3.below hb4).mod (Mod.of_set w4 ⟨w.heap.size + 1, 0, none⟩ (.slice (some ⟨w3.heap.size, 0, none⟩) ys.length N)) (fun b hb => by dsimp only at hb; omega)
        have y0 := sm4.x0
        have y1 := sm4.x1
        have yf := sm4.xf
        have s0 := sm4.r0
        have s1 := sm4.r1
        have sf := sm4.rf
        have HD : Hid (wtLogg (⟨ys, d.loose⟩ : Logg) ≤ 20000) := by unfold Hid wtLogg wtBytes; dsimp only; omega
        clear hO4 ho4 hs3 hM3 sm sm4 hown hgr hb4 hys
        obtain ⟨D, hDe⟩ : ∃ D : Logg, D = ⟨ys, d.loose⟩ := ⟨_, rfl⟩
        rw [← hDe] at st3 HD
        have f1 : d.loose.length = D.loose.length := by rw [hDe]
        have f2 : ys.length = D.synced.length := by rw [hDe]
        have f3 : N = D.synced.length := by omega
        rw [f2] at st3 hM4 hs4
        rw [f1] at y1
        clear f1 f2 hDe hyl hN2
        generalize w3.heap.size = g3 at *
        subst f3
        have hOe := st3.hO
        have hze := st3.hz
        have hse := hs4.mod (setset_mod (w4.setCell ⟨w.heap.size + 1, 0, none⟩ (.slice (some ⟨g3, 0, none⟩) D.synced.length D.synced.length)) w.heap.size (.slice (some ⟨g3, 0, none⟩) D.synced.length D.synced.length) (.slice a2 D.loose.length c2)) (fun b hb => by omega)
        have hMe := hM4.trans2 (setset_mod (w4.setCell ⟨w.heap.size + 1, 0, none⟩ (.slice (some ⟨g3, 0, none⟩) D.synced.length D.synced.length)) w.heap.size (.slice (some ⟨g3, 0, none⟩) D.synced.length D.synced.length) (.slice a2 D.loose.length c2)) (fun b hb hl => by omega)
        go_wp2
        refine bodyPost_ret (v := .agg #[.slice (some ⟨g3, 0, none⟩) D.synced.length D.synced.length, .slice a2 D.loose.length c2]) ?_ rfl ?_
        · simp [results, Try.results29, go_sem, s0, s1]
        · first
            | exact ⟨_, F4, D, t' + 1 + 1, rfl, loggR.base (base := w.heap.size + 2) (loggR.set (loggR.set hOe _ (by simp)) _ (by simp)) (by omega), HD.out, hse, by omega, hMe⟩
            | exact ⟨_, rfl, F4, D, loggR.base (base := w.heap.size + 2) (loggR.set (loggR.set hOe _ (by simp)) _ (by simp)) (by omega), HD.out, t' + 1 + 1, hse, by omega, hMe⟩
      · have n0 : ((c : Int) == 0) = false := by simp; omega
        have n1 : ((c : Int) == 1) = false := by simp; omega
        have n2 : ((c : Int) == 2) = false := by simp; omega
        have s0 := r0
        have s1 := r1
        have HD : Hid (wtLogg d ≤ 20000) := by unfold Hid wtLogg wtBytes; omega
        have hOe := st2.hO
        have hze := st2.hz
        have hse := hs2.mod (setset_mod (w2) w.heap.size (.slice a1 d.synced.length c1) (.slice a2 d.loose.length c2)) (fun b hb => by omega)
        have hMe := hM2.trans2 (setset_mod (w2) w.heap.size (.slice a1 d.synced.length c1) (.slice a2 d.loose.length c2)) (fun b hb hl => by omega)
        go_wp2
        refine bodyPost_ret (v := .agg #[.slice a1 d.synced.length c1, .slice a2 d.loose.length c2]) ?_ rfl ?_
        · simp [results, Try.results29, go_sem, s0, s1]
        · first
            | exact ⟨_, F, d, t' + 1, rfl, loggR.base (base := w.heap.size + 2) (loggR.set (loggR.set hOe _ (by simp)) _ (by simp)) (by omega), HD.out, hse, by omega, hMe⟩
            | exact ⟨_, rfl, F, d, loggR.base (base := w.heap.size + 2) (loggR.set (loggR.set hOe _ (by simp)) _ (by simp)) (by omega), HD.out, t' + 1, hse, by omega, hMe⟩

end Go.Proofs.Ytfeolikagceohaa

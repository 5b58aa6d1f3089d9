/-
  The legs of a contract added to a book.
-/
import Derived.Test.YteebglgbeijolaaBke
namespace Go.Proofs.Yteebglgbeijolaa
open Go.RowKit Go.Maps
set_option linter.unusedSectionVars false
variable [DecidableEq Bal] [Inhabited Bal] [DecidableEq Ledg] [Inhabited Ledg] [DecidableEq Leg] [Inhabited Leg] [DecidableEq Cont] [Inhabited Cont]
set_option linter.unusedVariables false
set_option linter.unusedSimpArgs false
attribute [local go_sem ↓] Go.wp_at_zero Go.wp_at_succ

theorem Book.nocell {w : World} {b n : Nat} {f : Int → Int → Int → Option Int} (h : Book w b n f) (o : Nat) (v : Value) : w.cell? ⟨b, o, none⟩ ≠ some v := by
  obtain ⟨D, ⟨es, clock, hb, _⟩, _⟩ := h
  simp [World.cell?, hb]
theorem Mod.transB' {F : Nat → Prop} {w w1 w2 : World} (h : Mod F w w1) (k : Below w1.heap.size w1 w2) : Mod F w w2 := h.trans (Mod.of_below k)
theorem upd3_same (f : Int → Int → Int → Option Int) (s a t : Int) (v : Option Int) : upd3 f s a t v s a t = v := by unfold upd3; rw [if_pos ⟨rfl, rfl, rfl⟩]
theorem upd3_twice (f : Int → Int → Int → Option Int) (s a t : Int) (v u : Option Int) : upd3 (upd3 f s a t v) s a t u = upd3 f s a t u := by
  funext s' a' t'
  unfold upd3
  split
  · rfl
  · rfl

set_option maxRecDepth 20000 in
set_option maxHeartbeats 8000000 in
theorem bookAdd_any (n : Nat) (b m : Nat) (f : Int → Int → Int → Option Int) (y : Value) (ls : List Leg) (w : World) (hb : Book w b m f) (hy : legsR.V w y ls) (hm : m + ls.length < 1000000)
    (hok : ∀ k, k < ls.length → kwf (ls.getD k default).sh (ls.getD k default).ac (ls.getD k default).ast ∧ -9223372036854775808 ≤ (addLs f (ls.take k) (ls.getD k default).sh (ls.getD k default).ac (ls.getD k default).ast).getD 0 + (ls.getD k default).am ∧ (addLs f (ls.take k) (ls.getD k default).sh (ls.getD k default).ac (ls.getD k default).ast).getD 0 + (ls.getD k default).am ≤ 9223372036854775807) :
    Calls Try.prog 94 #[.agg #[.int .i64 n, .map (some b)], y] w fun e w' => e = .returned (.tuple #[]) ∧ ∃ m', m' ≤ m + ls.length ∧ Book w' b m' (addLs f ls) ∧ Mod (fun i => i = b) w w' := by
  obtain ⟨ay, cy, rfl, hcy, hmy, hy⟩ := hy
  unfold maxLen at hmy
  have hbl := hb.lt
  have HOK : Hid (∀ k, k < ls.length → kwf (ls.getD k default).sh (ls.getD k default).ac (ls.getD k default).ast ∧ -9223372036854775808 ≤ (addLs f (ls.take k) (ls.getD k default).sh (ls.getD k default).ac (ls.getD k default).ast).getD 0 + (ls.getD k default).am ∧ (addLs f (ls.take k) (ls.getD k default).sh (ls.getD k default).ac (ls.getD k default).ast).getD 0 + (ls.getD k default).am ≤ 9223372036854775807) := hok
  have HCL : Hid (∀ k, k < ls.length → ∃ bx ox, ay = some ⟨bx, ox, none⟩ ∧ bx ≠ b ∧ legCells w bx (ox + k * 4) (ls.getD k default)) := fun k hk => by
    obtain ⟨bx, ox, e, hc⟩ := hy k hk
    refine ⟨bx, ox, e, fun e' => ?_, hc⟩
    subst e'
    exact hb.nocell _ _ hc.1
  clear hok hy
  generalize hq : ls.length = q at *
  have HN : Hid (ls.length = q) := hq
  clear hq
  go_enter Try.func94, Try.ntmps94
  go_wp2
  go_loopw [9] (fun i W => ∃ k m' : Nat, k ≤ q ∧ i = .int .i64 k ∧ m' ≤ m + k ∧ Hid (Book W b m' (addLs f (ls.take k))) ∧ W.cell? ⟨w.heap.size, 1, none⟩ = some (.map (some b)) ∧ Mod (fun i => i = b) w W) (fun i _ => q - (intOf i).toNat)
  case atStart => exact ⟨0, m, Nat.zero_le _, rfl, by omega, hb.below (by (repeat (first | exact Below.refl _ _ | assumption | refine Below.drew ?_ | refine balloc ?_ _ | refine bset ?_ (by simp; omega) _ | refine bset ?_ (by simp) _ | refine bstep ?_ (by assumption)))), by simp [go_sem], Mod.of_below (by (repeat (first | exact Below.refl _ _ | assumption | refine Below.drew ?_ | refine balloc ?_ _ | refine bset ?_ (by simp; omega) _ | refine bset ?_ (by simp) _ | refine bstep ?_ (by assumption))))⟩
  case round =>
    obtain ⟨k, m', hk, rfl, hm', HB, c1, hM⟩ := hrel
    rename World => w1
    have hz1 := hM.size
    have hbw : w.heap.size < w1.heap.size := World.block_lt_of_cell? _ _ c1
    by_cases hlt : k < q
    · obtain ⟨bx, ox, rfl, hxb, hc⟩ := HCL.out k hlt
      obtain ⟨hkw, hs1, hs2⟩ := HOK.out k hlt
      have hsu := addLs_succ f ls (k := k) (by rw [HN.out]; exact hlt)
      obtain ⟨l, hl⟩ : ∃ l, l = ls.getD k default := ⟨_, rfl⟩
      rw [← hl] at hc hkw hs1 hs2 hsu
      clear hl
      generalize hfk : addLs f (ls.take k) = fk at *
      clear hfk
      have HSU : Hid (addLs f (ls.take (k + 1)) = addL fk l) := hsu
      clear hsu
      have hc' : legCells w1 bx (ox + k * 4) l := ⟨hM.cell hc.1 hxb, hM.cell hc.2.1 hxb, hM.cell hc.2.2.1 hxb, hM.cell hc.2.2.2 hxb⟩
      obtain ⟨a0, a1, a2, a3⟩ := hc'
      have hk' : (k : Int) < q := by omega
      have hk0 : (0 : Int) ≤ k := by omega
      have hwk : IntKind.i64.wrap ((k : Int) + 1) = (k : Int) + 1 := wrapId (by omega) (by omega)
      obtain ⟨v, hv⟩ : ∃ v, v = (fk l.sh l.ac l.ast).getD 0 := ⟨_, rfl⟩
      have HV : Hid (v = (fk l.sh l.ac l.ast).getD 0) := hv
      rw [← hv] at hs1 hs2
      have hws : IntKind.i64.wrap (v + l.am) = v + l.am := wrapId hs1 hs2
      have hwf := wf_of hs1 hs2
      clear hv
      go_wp2_with fail
      refine (keyOfLeg_any l _).mono ?_
      rintro e w2 ⟨rfl, hb2⟩
      have t0 : w2.cell? ⟨w1.heap.size, 3, none⟩ = some (.int .i64 l.am) := cell_keep hb2 (by simp [go_sem])
      have hB12 : Below w1.heap.size w1 w2 := by (repeat (first | exact Below.refl _ _ | assumption | refine Below.drew ?_ | refine balloc ?_ _ | refine bset ?_ (by simp; omega) _ | refine bset ?_ (by simp) _ | refine bstep ?_ (by assumption)))
      have hz12 : w1.heap.size < w2.heap.size := World.block_lt_of_cell? _ _ t0
      have c2 := cell_keep hB12 c1
      have HB2 : Hid (Book w2 b m' fk) := HB.out.below hB12
      have hbl1 : b < w1.heap.size := by omega
      clear hb2 HB a0 a1 a2 a3 hc
      unfold kv
      go_wp2
      refine wp_region_noPanic ?_
      have HLK : ∀ W, Below w2.heap.size w2 W → (Instr.lookup 141 (.map (some b)) (.agg #[.int .i64 l.sh, .int .i64 l.ac, .int .i64 l.ast]) false).run Try.prog W = .ok (.int .i64 v) W := fun W hW => by rw [HV.out]; exact ((HB2.out.below hW).look hkw).1
      refine region_upto (fun W => W.cell? ⟨w.heap.size, 1, none⟩ = some (.map (some b)) ∧ W.cell? ⟨w1.heap.size, 3, none⟩ = some (.int .i64 l.am) ∧ (W.cell? ⟨w2.heap.size, 0, none⟩ = some (.int .i64 l.sh) ∧ W.cell? ⟨w2.heap.size, 1, none⟩ = some (.int .i64 l.ac) ∧ W.cell? ⟨w2.heap.size, 2, none⟩ = some (.int .i64 l.ast)) ∧ (Instr.lookup 141 (.map (some b)) (.agg #[.int .i64 l.sh, .int .i64 l.ac, .int .i64 l.ast]) false).run Try.prog W = .ok (.int .i64 v) W) 9 (by kernel_rfl) ⟨cell_keep (by (repeat (first | exact Below.refl _ _ | assumption | refine Below.drew ?_ | refine balloc ?_ _ | refine bset ?_ (by simp; omega) _ | refine bset ?_ (by simp) _ | refine bstep ?_ (by assumption)))) c2, cell_keep (by (repeat (first | exact Below.refl _ _ | assumption | refine Below.drew ?_ | refine balloc ?_ _ | refine bset ?_ (by simp; omega) _ | refine bset ?_ (by simp) _ | refine bstep ?_ (by assumption)))) t0, ⟨by simp [go_sem], by simp [go_sem], by simp [go_sem]⟩, HLK _ (by (repeat (first | exact Below.refl _ _ | assumption | refine Below.drew ?_ | refine balloc ?_ _ | refine bset ?_ (by simp; omega) _ | refine bset ?_ (by simp) _ | refine bstep ?_ (by assumption))))⟩ (fun hS => ?_)
      refine upto_take (i := 0) (v := ?_) rfl (by kernel_rfl) (by kernel_rfl) (by kernel_rfl) (by kernel_rfl) (fun _ _ _ h => h) (by rfl) hS ?_ ?_
      rotate_left
      · intro wS hSw
        try dsimp only at hSw
        first | (go_simp; done) | (go_simp; with_reducible rfl)
      try simp only [Act.put, List.getElem_toArray, List.getElem_cons_zero, List.getElem_cons_succ, List.setIfInBounds_toArray, List.set_cons_zero, List.set_cons_succ]
      refine upto_take (i := 1) (v := ?_) rfl (by kernel_rfl) (by kernel_rfl) (by kernel_rfl) (by kernel_rfl) (fun _ _ _ h => h) (by rfl) hS ?_ ?_
      rotate_left
      · intro wS hSw
        try dsimp only at hSw
        first | (go_simp; done) | (go_simp; with_reducible rfl)
      try simp only [Act.put, List.getElem_toArray, List.getElem_cons_zero, List.getElem_cons_succ, List.setIfInBounds_toArray, List.set_cons_zero, List.set_cons_succ]
      refine upto_take (i := 2) (v := ?_) rfl (by kernel_rfl) (by kernel_rfl) (by kernel_rfl) (by kernel_rfl) (fun _ _ _ h => h) (by rfl) hS ?_ ?_
      rotate_left
      · intro wS hSw
        try dsimp only at hSw
        first | (go_simp; done) | (go_simp; with_reducible rfl)
      try simp only [Act.put, List.getElem_toArray, List.getElem_cons_zero, List.getElem_cons_succ, List.setIfInBounds_toArray, List.set_cons_zero, List.set_cons_succ]
      refine upto_take (i := 3) (v := ?_) rfl (by kernel_rfl) (by kernel_rfl) (by kernel_rfl) (by kernel_rfl) (fun _ _ _ h => h) (by rfl) hS ?_ ?_
      rotate_left
      · intro wS hSw
        try dsimp only at hSw
        first | (go_simp; done) | (go_simp; with_reducible rfl)
      try simp only [Act.put, List.getElem_toArray, List.getElem_cons_zero, List.getElem_cons_succ, List.setIfInBounds_toArray, List.set_cons_zero, List.set_cons_succ]
      refine upto_take (i := 4) (v := ?_) rfl (by kernel_rfl) (by kernel_rfl) (by kernel_rfl) (by kernel_rfl) (fun _ _ _ h => h) (by rfl) hS ?_ ?_
      rotate_left
      · intro wS hSw
        try dsimp only at hSw
        first | (go_simp; done) | (go_simp; with_reducible rfl)
      try simp only [Act.put, List.getElem_toArray, List.getElem_cons_zero, List.getElem_cons_succ, List.setIfInBounds_toArray, List.set_cons_zero, List.set_cons_succ]
      refine upto_take (i := 5) (v := ?_) rfl (by kernel_rfl) (by kernel_rfl) (by kernel_rfl) (by kernel_rfl) (fun _ _ _ h => h) (by rfl) hS ?_ ?_
      rotate_left
      · intro wS hSw
        try dsimp only at hSw
        first | (go_simp; done) | (go_simp; with_reducible rfl)
      try simp only [Act.put, List.getElem_toArray, List.getElem_cons_zero, List.getElem_cons_succ, List.setIfInBounds_toArray, List.set_cons_zero, List.set_cons_succ]
      refine upto_take (i := 6) (v := ?_) rfl (by kernel_rfl) (by kernel_rfl) (by kernel_rfl) (by kernel_rfl) (fun _ _ _ h => h) (by rfl) hS ?_ ?_
      rotate_left
      · intro wS hSw
        try dsimp only at hSw
        first | (go_simp; done) | (go_simp; with_reducible rfl)
      try simp only [Act.put, List.getElem_toArray, List.getElem_cons_zero, List.getElem_cons_succ, List.setIfInBounds_toArray, List.set_cons_zero, List.set_cons_succ]
      have hbX : Below w2.heap.size w2 ((w2.alloc (.cells #[.int .i64 l.sh, .int .i64 l.ac, .int .i64 l.ast] 180)).drew) := by (repeat (first | exact Below.refl _ _ | assumption | refine Below.drew ?_ | refine balloc ?_ _ | refine bset ?_ (by simp; omega) _ | refine bset ?_ (by simp) _ | refine bstep ?_ (by assumption)))
      obtain ⟨v0, st, w4, hr, hm4, hB4, hst⟩ := (HB2.out.below hbX).entry2 hkw (by unfold maxLen; omega)
      have hb2 : b < w2.heap.size := HB2.out.lt
      have hne0 : w.heap.size ≠ b := by omega
      have hne1 : w1.heap.size ≠ b := by omega
      have hne2 : w2.heap.size ≠ b := by omega
      unfold kv goInt at hr
      unfold goInt at hst
      have hS4 : (fun W => W.cell? ⟨w.heap.size, 1, none⟩ = some (.map (some b)) ∧ W.cell? ⟨w1.heap.size, 3, none⟩ = some (.int .i64 l.am) ∧ (W.cell? ⟨w2.heap.size, 0, none⟩ = some (.int .i64 l.sh) ∧ W.cell? ⟨w2.heap.size, 1, none⟩ = some (.int .i64 l.ac) ∧ W.cell? ⟨w2.heap.size, 2, none⟩ = some (.int .i64 l.ast)) ∧ (Instr.lookup 141 (.map (some b)) (.agg #[.int .i64 l.sh, .int .i64 l.ac, .int .i64 l.ast]) false).run Try.prog W = .ok (.int .i64 v) W) w4 := ⟨hm4.cell hS.1 hne0, hm4.cell hS.2.1 hne1, ⟨hm4.cell hS.2.2.1.1 hne2, hm4.cell hS.2.2.1.2.1 hne2, hm4.cell hS.2.2.1.2.2 hne2⟩, by
        have e := (hB4.look hkw).1
        rw [upd3_same] at e
        rw [HV.out]
        exact e⟩
      clear HLK
      refine upto_step (i := 7) (by kernel_rfl) rfl ?_
      intro K hK
      go_simp
      refine hK _ _ (fun _ => hS4) ?_
      clear hK K
      try simp only [Act.put, List.getElem_toArray, List.getElem_cons_zero, List.getElem_cons_succ, List.setIfInBounds_toArray, List.set_cons_zero, List.set_cons_succ]
      refine upto_step (i := 8) (by kernel_rfl) rfl ?_
      intro K hK
      go_simp
      refine hK _ _ (fun _ => hS4) ?_
      clear hK K
      try simp only [Act.put, List.getElem_toArray, List.getElem_cons_zero, List.getElem_cons_succ, List.setIfInBounds_toArray, List.set_cons_zero, List.set_cons_succ]
      obtain ⟨w5, hr5, hB5, hm5⟩ := hst (v + l.am) hwf
      refine upto_step (i := 9) (by kernel_rfl) rfl ?_
      intro K hK
      go_simp
      refine hK _ _ (fun h => absurd rfl h) ?_
      clear hK K
      refine upto_done (by kernel_rfl) ?_
      refine NoPanic.normal ?_
      have c5 := hm5.cell hS.1 hne0
      have k0 := hm5.cell hS.2.2.1.1 hne2
      have k1 := hm5.cell hS.2.2.1.2.1 hne2
      have k2 := hm5.cell hS.2.2.1.2.2 hne2
      have M5 : Mod (fun i => i = b) w w5 := ((hM.transB' hB12).transB' hbX).trans hm5
      have hlk5 := (hB5.look hkw).1
      rw [upd3_same] at hlk5
      unfold kv at hlk5
      simp only [Option.getD_some] at hlk5
      have HB5 : Hid (Book w5 b (m' + 1) (upd3 fk l.sh l.ac l.ast (some (v + l.am)))) := hB5
      clear hS hS4 hr hst hr5 hB5 hB4 hm4 hm5 HB2 t0 c2 c1
      by_cases hz : v + l.am = 0
      · obtain ⟨w6, hr6, hB6, hg6⟩ := HB5.out.del hkw 0
        unfold kv at hr6
        have HB6 : Hid (Book w6 b (m' + 1) (addLs f (ls.take (k + 1)))) := by
          rw [upd3_twice] at hB6
          rw [Hid, HSU.out]
          unfold addL
          rw [← HV.out, if_pos hz]
          exact hB6
        have hM6 : Mod (fun i => i = b) w w6 := M5.trans ((Mod.of_grown hg6).mono (fun i e => by simpa using e.symm))
        have c6 := (Mod.of_grown hg6).cell c5 (fun e => by simp at e; omega)
        clear hB6 hg6
        rw [hz] at hlk5
        go_wp2
        exact ⟨⟨k + 1, m' + 1, by omega, by go_num, by omega, HB6, c6, hM6⟩, by simp [intOf]; omega⟩
      · have HB6 : Hid (Book w5 b (m' + 1) (addLs f (ls.take (k + 1)))) := by
          rw [Hid, HSU.out]
          unfold addL
          rw [← HV.out, if_neg hz]
          exact HB5.out
        go_wp2
        exact ⟨⟨k + 1, m' + 1, by omega, by go_num, by omega, HB6, c5, M5⟩, by simp [intOf]; omega⟩
    · have hkq : k = q := by omega
      subst hkq
      have hk' : ¬ ((k : Int) < k) := by omega
      have HB6 : Hid (∃ m'', m'' ≤ m + k ∧ Book w1 b m'' (addLs f ls) ∧ Mod (fun i => i = b) w w1) := ⟨m', hm', by
        have := HB.out
        rw [List.take_of_length_le (by rw [HN.out]; omega)] at this
        exact this, hM⟩
      go_wp2
      go_end0
      exact ⟨rfl, HB6.out⟩

end Go.Proofs.Yteebglgbeijolaa

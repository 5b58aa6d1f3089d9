import Derived.Test.YtgjpafalompecaaPrnSettlesLaw14
import Derived.Test.YtgjpafalompecaaPrnSettlesLaw13
import Derived.Test.YtgjpafalompecaaPrnSettlesLaw8
import Derived.Test.YtgjpafalompecaaPrnSettlesLaw1
import Derived.Test.YtgjpafalompecaaPrnSettlesLaw3

/-
  The legs of a contract added to a book.
-/
namespace Go.Proofs.Ytgjpafalompecaa
open Go.RowKit Go.Maps
set_option linter.unusedSectionVars false
variable [DecidableEq Bal] [Inhabited Bal] [DecidableEq Ledg] [Inhabited Ledg] [DecidableEq Leg] [Inhabited Leg] [DecidableEq Cont] [Inhabited Cont]
set_option linter.unusedVariables false
set_option linter.unusedSimpArgs false
attribute [local go_sem ↓] Go.wp_at_zero Go.wp_at_succ

theorem Book.nocell {w : World} {b n : Nat} {f : Int → Int → Int → Option Int} (h : Book w b n f) (o : Nat) (v : Value) : w.cell? ⟨b, o, none⟩ ≠ some v := by
  obtain ⟨D, ⟨es, clock, hb, _⟩, _⟩ := h
  simp [World.cell?, hb]
theorem Mod.transB' {F : Nat → Prop} {w w1 w2 : World} (h : Mod F w w1) (k : Below w1.heap.size w1 w2) : Mod F w w2 := h.trans (Mod.of_below k)
theorem upd3_same (f : Int → Int → Int → Option Int) (s a t : Int) (v : Option Int) : upd3 f s a t v s a t = v := by unfold upd3; rw [if_pos ⟨rfl, rfl, rfl⟩]
theorem upd3_twice (f : Int → Int → Int → Option Int) (s a t : Int) (v u : Option Int) : upd3 (upd3 f s a t v) s a t u = upd3 f s a t u := by
  funext s' a' t'
  unfold upd3
  split
  · rfl
  · rfl
set_option maxRecDepth 20000 in
set_option maxHeartbeats 8000000 in
theorem bookAdd_any (n : Nat) (b m : Nat) (f : Int → Int → Int → Option Int) (y : Value) (ls : List Leg) (w : World) (hb : Book w b m f) (hy : legsR.V w y ls) (hm : m + ls.length < 1000000)
    (hok : ∀ k, k < ls.length → kwf (ls.getD k default).sh (ls.getD k default).ac (ls.getD k default).ast ∧ -9223372036854775808 ≤ (addLs f (ls.take k) (ls.getD k default).sh (ls.getD k default).ac (ls.getD k default).ast).getD 0 + (ls.getD k default).am ∧ (addLs f (ls.take k) (ls.getD k default).sh (ls.getD k default).ac (ls.getD k default).ast).getD 0 + (ls.getD k default).am ≤ 9223372036854775807) :
    Calls Try.prog 20 #[.agg #[.int .i64 n, .map (some b)], y] w fun e w' => e = .returned (.tuple #[]) ∧ ∃ m', m' ≤ m + ls.length ∧ Book w' b m' (addLs f ls) ∧ Mod (fun i => i = b) w w' := by
  obtain ⟨ay, cy, rfl, hcy, hmy, hy⟩ := hy
  unfold maxLen at hmy
  have hbl := hb.lt
  have HOK : Hid (∀ k, k < ls.length → kwf (ls.getD k default).sh (ls.getD k default).ac (ls.getD k default).ast ∧ -9223372036854775808 ≤ (addLs f (ls.take k) (ls.getD k default).sh (ls.getD k default).ac (ls.getD k default).ast).getD 0 + (ls.getD k default).am ∧ (addLs f (ls.take k) (ls.getD k default).sh (ls.getD k default).ac (ls.getD k default).ast).getD 0 + (ls.getD k default).am ≤ 9223372036854775807) := hok
  have HCL : Hid (∀ k, k < ls.length → ∃ bx ox, ay = some ⟨bx, ox, none⟩ ∧ bx ≠ b ∧ legCells w bx (ox + k * 4) (ls.getD k default)) := fun k hk => by
    obtain ⟨bx, ox, e, hc⟩ := hy k hk
    refine ⟨bx, ox, e, fun e' => ?_, hc⟩
    subst e'
    exact hb.nocell _ _ hc.1
  clear hok hy
  generalize hq : ls.length = q at *
  have HN : Hid (ls.length = q) := hq
  clear hq
  go_enter Try.func20, Try.ntmps20
  go_wp2
  go_loopw [9] (fun i W => ∃ k m' : Nat, k ≤ q ∧ i = .int .i64 k ∧ m' ≤ m + k ∧ Hid (Book W b m' (addLs f (ls.take k))) ∧ W.cell? ⟨w.heap.size, 1, none⟩ = some (.map (some b)) ∧ Mod (fun i => i = b) w W) (fun i _ => q - (intOf i).toNat)
  case atStart => exact ⟨0, m, Nat.zero_le _, rfl, by omega, hb.below (by (repeat (first | exact Below.refl _ _ | assumption | refine Below.drew ?_ | refine balloc ?_ _ | refine bset ?_ (by simp; omega) _ | refine bset ?_ (by simp) _ | refine bstep ?_ (by assumption)))), by simp [go_sem], Mod.of_below (by (repeat (first | exact Below.refl _ _ | assumption | refine Below.drew ?_ | refine balloc ?_ _ | refine bset ?_ (by simp; omega) _ | refine bset ?_ (by simp) _ | refine bstep ?_ (by assumption))))⟩
  case round =>
    obtain ⟨k, m', hk, rfl, hm', HB, c1, hM⟩ := hrel
    rename World => w1
    have hz1 := hM.size
    have hbw : w.heap.size < w1.heap.size := World.block_lt_of_cell? _ _ c1
    by_cases hlt : k < q
    · obtain ⟨bx, ox, rfl, hxb, hc⟩ := HCL.out k hlt
      obtain ⟨hkw, hs1, hs2⟩ := HOK.out k hlt
      have hsu := addLs_succ f ls (k := k) (by rw [HN.out]; exact hlt)
      obtain ⟨l, hl⟩ : ∃ l, l = ls.getD k default := ⟨_, rfl⟩
      rw [← hl] at hc hkw hs1 hs2 hsu
      clear hl
      generalize hfk : addLs f (ls.take k) = fk at *
      clear hfk
      have HSU : Hid (addLs f (ls.take (k + 1)) = addL fk l) := hsu
      clear hsu
      have hc' : legCells w1 bx (ox + k * 4) l := ⟨hM.cell hc.1 hxb, hM.cell hc.2.1 hxb, hM.cell hc.2.2.1 hxb, hM.cell hc.2.2.2 hxb⟩
      obtain ⟨a0, a1, a2, a3⟩ := hc'
      have hk' : (k : Int) < q := by omega
      have hk0 : (0 : Int) ≤ k := by omega
      have hwk : IntKind.i64.wrap ((k : Int) + 1) = (k : Int) + 1 := wrapId (by omega) (by omega)
      obtain ⟨v, hv⟩ : ∃ v, v = (fk l.sh l.ac l.ast).getD 0 := ⟨_, rfl⟩
      have HV : Hid (v = (fk l.sh l.ac l.ast).getD 0) := hv
      rw [← hv] at hs1 hs2
      have hws : IntKind.i64.wrap (v + l.am) = v + l.am := wrapId hs1 hs2
      have hwf := wf_of hs1 hs2
      clear hv
      go_wp2_with fail
      refine (keyOfLeg_any l _).mono ?_
      rintro e w2 ⟨rfl, hb2⟩
      have t0 : w2.cell? ⟨w1.heap.size, 3, none⟩ = some (.int .i64 l.am) := cell_keep hb2 (by simp [go_sem])
      have hB12 : Below w1.heap.size w1 w2 := by (repeat (first | exact Below.refl _ _ | assumption | refine Below.drew ?_ | refine balloc ?_ _ | refine bset ?_ (by simp; omega) _ | refine bset ?_ (by simp) _ | refine bstep ?_ (by assumption)))
      have hz12 : w1.heap.size < w2.heap.size := World.block_lt_of_cell? _ _ t0
      have c2 := cell_keep hB12 c1
      have HB2 : Hid (Book w2 b m' fk) := HB.out.below hB12
      have hbl1 : b < w1.heap.size := by omega
      clear hb2 HB a0 a1 a2 a3 hc
      unfold kv
      go_wp2
      refine wp_region_noPanic ?_
      have HLK : ∀ W, Below w2.heap.size w2 W → (Instr.lookup 54 (.map (some b)) (.agg #[.int .i64 l.sh, .int .i64 l.ac, .int .i64 l.ast]) false).run Try.prog W = .ok (.int .i64 v) W := fun W hW => by rw [HV.out]; exact ((HB2.out.below hW).look hkw).1
      refine region_upto (fun W => W.cell? ⟨w.heap.size, 1, none⟩ = some (.map (some b)) ∧ W.cell? ⟨w1.heap.size, 3, none⟩ = some (.int .i64 l.am) ∧ (W.cell? ⟨w2.heap.size, 0, none⟩ = some (.int .i64 l.sh) ∧ W.cell? ⟨w2.heap.size, 1, none⟩ = some (.int .i64 l.ac) ∧ W.cell? ⟨w2.heap.size, 2, none⟩ = some (.int .i64 l.ast)) ∧ (Instr.lookup 54 (.map (some b)) (.agg #[.int .i64 l.sh, .int .i64 l.ac, .int .i64 l.ast]) false).run Try.prog W = .ok (.int .i64 v) W) 9 (by kernel_rfl) ⟨cell_keep (by (repeat (first | exact Below.refl _ _ | assumption | refine Below.drew ?_ | refine balloc ?_ _ | refine bset ?_ (by simp; omega) _ | refine bset ?_ (by simp) _ | refine bstep ?_ (by assumption)))) c2, cell_keep (by (repeat (first | exact Below.refl _ _ | assumption | refine Below.drew ?_ | refine balloc ?_ _ | refine bset ?_ (by simp; omega) _ | refine bset ?_ (by simp) _ | refine bstep ?_ (by assumption)))) t0, ⟨by simp [go_sem], by simp [go_sem], by simp [go_sem]⟩, HLK _ (by (repeat (first | exact Below.refl _ _ | assumption | refine Below.drew ?_ | refine balloc ?_ _ | refine bset ?_ (by simp; omega) _ | refine bset ?_ (by simp) _ | refine bstep ?_ (by assumption))))⟩ (fun hS => ?_)
      refine upto_take (i := 0) (v := ?_) rfl (by kernel_rfl) (by kernel_rfl) (by kernel_rfl) (by kernel_rfl) (fun _ _ _ h => h) (by rfl) hS ?_ ?_
      rotate_left
      · intro wS hSw
        try dsimp only at hSw
        first | (go_simp; done) | (go_simp; with_reducible rfl)
      try simp only [Act.put, List.getElem_toArray, List.getElem_cons_zero, List.getElem_cons_succ, List.setIfInBounds_toArray, List.set_cons_zero, List.set_cons_succ]
      refine upto_take (i := 1) (v := ?_) rfl (by kernel_rfl) (by kernel_rfl) (by kernel_rfl) (by kernel_rfl) (fun _ _ _ h => h) (by rfl) hS ?_ ?_
      rotate_left
      · intro wS hSw
        try dsimp only at hSw
        first | (go_simp; done) | (go_simp; with_reducible rfl)
      try simp only [Act.put, List.getElem_toArray, List.getElem_cons_zero, List.getElem_cons_succ, List.setIfInBounds_toArray, List.set_cons_zero, List.set_cons_succ]
      refine upto_take (i := 2) (v := ?_) rfl (by kernel_rfl) (by kernel_rfl) (by kernel_rfl) (by kernel_rfl) (fun _ _ _ h => h) (by rfl) hS ?_ ?_
      rotate_left
      · intro wS hSw
        try dsimp only at hSw
        first | (go_simp; done) | (go_simp; with_reducible rfl)
      try simp only [Act.put, List.getElem_toArray, List.getElem_cons_zero, List.getElem_cons_succ, List.setIfInBounds_toArray, List.set_cons_zero, List.set_cons_succ]
      refine upto_take (i := 3) (v := ?_) rfl (by kernel_rfl) (by kernel_rfl) (by kernel_rfl) (by kernel_rfl) (fun _ _ _ h => h) (by rfl) hS ?_ ?_
      rotate_left
      · intro wS hSw
        try dsimp only at hSw
        first | (go_simp; done) | (go_simp; with_reducible rfl)
      try simp only [Act.put, List.getElem_toArray, List.getElem_cons_zero, List.getElem_cons_succ, List.setIfInBounds_toArray, List.set_cons_zero, List.set_cons_succ]
      refine upto_take (i := 4) (v := ?_) rfl (by kernel_rfl) (by kernel_rfl) (by kernel_rfl) (by kernel_rfl) (fun _ _ _ h => h) (by rfl) hS ?_ ?_
      rotate_left
      · intro wS hSw
        try dsimp only at hSw
        first | (go_simp; done) | (go_simp; with_reducible rfl)
      try simp only [Act.put, List.getElem_toArray, List.getElem_cons_zero, List.getElem_cons_succ, List.setIfInBounds_toArray, List.set_cons_zero, List.set_cons_succ]
      refine upto_take (i := 5) (v := ?_) rfl (by kernel_rfl) (by kernel_rfl) (by kernel_rfl) (by kernel_rfl) (fun _ _ _ h => h) (by rfl) hS ?_ ?_
      rotate_left
      · intro wS hSw
        try dsimp only at hSw
        first | (go_simp; done) | (go_simp; with_reducible rfl)
      try simp only [Act.put, List.getElem_toArray, List.getElem_cons_zero, List.getElem_cons_succ, List.setIfInBounds_toArray, List.set_cons_zero, List.set_cons_succ]
      refine upto_take (i := 6) (v := ?_) rfl (by kernel_rfl) (by kernel_rfl) (by kernel_rfl) (by kernel_rfl) (fun _ _ _ h => h) (by rfl) hS ?_ ?_
      rotate_left
      · intro wS hSw
        try dsimp only at hSw
        first | (go_simp; done) | (go_simp; with_reducible rfl)
      try simp only [Act.put, List.getElem_toArray, List.getElem_cons_zero, List.getElem_cons_succ, List.setIfInBounds_toArray, List.set_cons_zero, List.set_cons_succ]
      have hbX : Below w2.heap.size w2 ((w2.alloc (.cells #[.int .i64 l.sh, .int .i64 l.ac, .int .i64 l.ast] 64)).drew) := by (repeat (first | exact Below.refl _ _ | assumption | refine Below.drew ?_ | refine balloc ?_ _ | refine bset ?_ (by simp; omega) _ | refine bset ?_ (by simp) _ | refine bstep ?_ (by assumption)))
      obtain ⟨v0, st, w4, hr, hm4, hB4, hst⟩ := (HB2.out.below hbX).entry2 hkw (by unfold maxLen; omega)
      have hb2 : b < w2.heap.size := HB2.out.lt
      have hne0 : w.heap.size ≠ b := by omega
      have hne1 : w1.heap.size ≠ b := by omega
      have hne2 : w2.heap.size ≠ b := by omega
      unfold kv goInt at hr
      unfold goInt at hst
      have hS4 : (fun W => W.cell? ⟨w.heap.size, 1, none⟩ = some (.map (some b)) ∧ W.cell? ⟨w1.heap.size, 3, none⟩ = some (.int .i64 l.am) ∧ (W.cell? ⟨w2.heap.size, 0, none⟩ = some (.int .i64 l.sh) ∧ W.cell? ⟨w2.heap.size, 1, none⟩ = some (.int .i64 l.ac) ∧ W.cell? ⟨w2.heap.size, 2, none⟩ = some (.int .i64 l.ast)) ∧ (Instr.lookup 54 (.map (some b)) (.agg #[.int .i64 l.sh, .int .i64 l.ac, .int .i64 l.ast]) false).run Try.prog W = .ok (.int .i64 v) W) w4 := ⟨hm4.cell hS.1 hne0, hm4.cell hS.2.1 hne1, ⟨hm4.cell hS.2.2.1.1 hne2, hm4.cell hS.2.2.1.2.1 hne2, hm4.cell hS.2.2.1.2.2 hne2⟩, by
        have e := (hB4.look hkw).1
        rw [upd3_same] at e
        rw [HV.out]
        exact e⟩
      clear HLK
      refine upto_step (i := 7) (by kernel_rfl) rfl ?_
      intro K hK
      go_simp
      refine hK _ _ (fun _ => hS4) ?_
      clear hK K
      try simp only [Act.put, List.getElem_toArray, List.getElem_cons_zero, List.getElem_cons_succ, List.setIfInBounds_toArray, List.set_cons_zero, List.set_cons_succ]
      refine upto_step (i := 8) (by kernel_rfl) rfl ?_
      intro K hK
      go_simp
      refine hK _ _ (fun _ => hS4) ?_
      clear hK K
      try simp only [Act.put, List.getElem_toArray, List.getElem_cons_zero, List.getElem_cons_succ, List.setIfInBounds_toArray, List.set_cons_zero, List.set_cons_succ]
      obtain ⟨w5, hr5, hB5, hm5⟩ := hst (v + l.am) hwf
      refine upto_step (i := 9) (by kernel_rfl) rfl ?_
      intro K hK
      go_simp
      refine hK _ _ (fun h => absurd rfl h) ?_
      clear hK K
      refine upto_done (by kernel_rfl) ?_
      refine NoPanic.normal ?_
      have c5 := hm5.cell hS.1 hne0
      have k0 := hm5.cell hS.2.2.1.1 hne2
      have k1 := hm5.cell hS.2.2.1.2.1 hne2
      have k2 := hm5.cell hS.2.2.1.2.2 hne2
      have M5 : Mod (fun i => i = b) w w5 := ((hM.transB' hB12).transB' hbX).trans hm5
      have hlk5 := (hB5.look hkw).1
      rw [upd3_same] at hlk5
      unfold kv at hlk5
      simp only [Option.getD_some] at hlk5
      have HB5 : Hid (Book w5 b (m' + 1) (upd3 fk l.sh l.ac l.ast (some (v + l.am)))) := hB5
      clear hS hS4 hr hst hr5 hB5 hB4 hm4 hm5 HB2 t0 c2 c1
      by_cases hz : v + l.am = 0
      · obtain ⟨w6, hr6, hB6, hg6⟩ := HB5.out.del hkw 0
        unfold kv at hr6
        have HB6 : Hid (Book w6 b (m' + 1) (addLs f (ls.take (k + 1)))) := by
          rw [upd3_twice] at hB6
          rw [Hid, HSU.out]
          unfold addL
          rw [← HV.out, if_pos hz]
          exact hB6
        have hM6 : Mod (fun i => i = b) w w6 := M5.trans ((Mod.of_grown hg6).mono (fun i e => by simpa using e.symm))
        have c6 := (Mod.of_grown hg6).cell c5 (fun e => by simp at e; omega)
        clear hB6 hg6
        rw [hz] at hlk5
        go_wp2
        exact ⟨⟨k + 1, m' + 1, by omega, by go_num, by omega, HB6, c6, hM6⟩, by simp [intOf]; omega⟩
      · have HB6 : Hid (Book w5 b (m' + 1) (addLs f (ls.take (k + 1)))) := by
          rw [Hid, HSU.out]
          unfold addL
          rw [← HV.out, if_neg hz]
          exact HB5.out
        go_wp2
        exact ⟨⟨k + 1, m' + 1, by omega, by go_num, by omega, HB6, c5, M5⟩, by simp [intOf]; omega⟩
    · have hkq : k = q := by omega
      subst hkq
      have hk' : ¬ ((k : Int) < k) := by omega
      have HB6 : Hid (∃ m'', m'' ≤ m + k ∧ Book w1 b m'' (addLs f ls) ∧ Mod (fun i => i = b) w w1) := ⟨m', hm', by
        have := HB.out
        rw [List.take_of_length_le (by rw [HN.out]; omega)] at this
        exact this, hM⟩
      go_wp2
      go_end0
      exact ⟨rfl, HB6.out⟩
end Go.Proofs.Ytgjpafalompecaa

/-
  What a book holds while legs are added: its bounds.
-/
namespace Go.Proofs.Ytgjpafalompecaa
open Go.RowKit
set_option linter.unusedSectionVars false
variable [DecidableEq Rw] [Inhabited Rw] [DecidableEq Bal] [Inhabited Bal] [DecidableEq Ledg] [Inhabited Ledg] [DecidableEq Leg] [Inhabited Leg] [DecidableEq Cont] [Inhabited Cont] [DecidableEq LedgR] [Inhabited LedgR]
set_option linter.unusedVariables false
set_option linter.unusedSimpArgs false

theorem addLs_bound {f : Int → Int → Int → Option Int} {M : Int} (hf : ∀ s a t, -M ≤ (f s a t).getD 0 ∧ (f s a t).getD 0 ≤ M) (ls : List Leg) : (∀ l ∈ ls, -1000000000000 ≤ l.am ∧ l.am ≤ 1000000000000) → ∀ s a t, -(M + ls.length * 1000000000000) ≤ (addLs f ls s a t).getD 0 ∧ (addLs f ls s a t).getD 0 ≤ M + ls.length * 1000000000000 := by
  refine snoc_ind (P := fun ls => (∀ l ∈ ls, -1000000000000 ≤ l.am ∧ l.am ≤ 1000000000000) → ∀ s a t, -(M + ls.length * 1000000000000) ≤ (addLs f ls s a t).getD 0 ∧ (addLs f ls s a t).getD 0 ≤ M + ls.length * 1000000000000) ?_ ?_ ls
  · intro _ s a t
    have := hf s a t
    simpa [addLs] using this
  · intro ls l ih hl s a t
    have h1 := ih (fun x hx => hl x (List.mem_append_left _ hx))
    have h2 := hl l (by simp)
    rw [addLs_snoc, List.length_append, List.length_singleton]
    unfold addL upd3
    have h3 := h1 s a t
    have h4 := h1 l.sh l.ac l.ast
    split
    · split
      · simp only [Option.getD_none]
        omega
      · simp only [Option.getD_some]
        omega
    · omega
theorem bookF_bound {g : Ledg} (h : ledFault g = 0) : ∀ s a t, -1000000000000 ≤ (bookF g.shards s a t).getD 0 ∧ (bookF g.shards s a t).getD 0 ≤ 1000000000000 := by
  intro s a t
  unfold bookF
  split
  · rename_i hr
    have hk := (ledOk_of h).2.2 s.toNat (by omega)
    have h1 := hasB_le (a := a) (t := t) hk.ok
    rw [hasB_get] at h1
    omega
  · simp
theorem settle_facts {g : Ledg} {c : Cont} (h : canG g c = 0) : (1 ≤ g.shards.length ∧ g.shards.length ≤ 3 ∧ c.legs.length ≤ 8 ∧ ledFault g = 0) ∧ (∀ i, i < g.shards.length → RiseB (g.shards.getD i default)) ∧ (∀ l ∈ c.legs, keyOk l.ac l.ast = true) ∧ (∀ l ∈ c.legs, 0 ≤ l.sh ∧ l.sh < (g.shards.length : Int)) ∧
    ∀ k, k < c.legs.length → kwf (c.legs.getD k default).sh (c.legs.getD k default).ac (c.legs.getD k default).ast ∧ -9223372036854775808 ≤ (addLs (bookF g.shards) (c.legs.take k) (c.legs.getD k default).sh (c.legs.getD k default).ac (c.legs.getD k default).ast).getD 0 + (c.legs.getD k default).am ∧ (addLs (bookF g.shards) (c.legs.take k) (c.legs.getD k default).sh (c.legs.getD k default).ac (c.legs.getD k default).ast).getD 0 + (c.legs.getD k default).am ≤ 9223372036854775807 := by
  obtain ⟨h0, h1, h2, _⟩ := canG_inv h
  obtain ⟨_, _, h8, hok, _⟩ := cf_inv h1
  obtain ⟨hn0, hn, hbk⟩ := ledOk_of h0
  have hl : ∀ x ∈ c.legs, legFault x = 0 ∧ x.sh < (g.shards.length : Int) := fun x hx => by
    obtain ⟨j, hj, rfl⟩ := List.mem_iff_getElem.1 hx
    have h3 := (hok j hj).1
    have h4 := h2 j hj
    have e : c.legs.getD j default = c.legs[j] := by simp [List.getD, hj]
    rw [e] at h3 h4
    exact ⟨h3, h4⟩
  refine ⟨⟨hn0, hn, h8, h0⟩, fun i hi => rise_of (hbk i hi), fun l h => ?_, fun l h => ?_, fun k hk => ?_⟩
  · have hz := legFault_zero (hl l h).1
    exact keyOk_iff.2 ⟨hz.2.1, hz.2.2.1⟩
  · exact ⟨(legFault_zero (hl l h).1).1.1, (hl l h).2⟩
  · have e : c.legs.getD k default = c.legs[k] := by simp [List.getD, hk]
    have hz := legFault_zero (hl _ (List.getElem_mem hk)).1
    rw [e]
    have hb := addLs_bound (bookF_bound h0) (c.legs.take k) (fun l hm => (legFault_zero (hl l (List.mem_of_mem_take hm)).1).2.2.2.1) c.legs[k].sh c.legs[k].ac c.legs[k].ast
    rw [List.length_take] at hb
    refine ⟨⟨wf_of (by omega) (by omega), wf_of (by omega) (by omega), wf_of (by omega) (by omega)⟩, ?_, ?_⟩ <;> omega
end Go.Proofs.Ytgjpafalompecaa

/-
  OutcomesResult. (Written by program: nest.py.)
-/
namespace Go.Proofs.Ytgjpafalompecaa
open Go.RowKit
set_option linter.unusedSectionVars false
variable [DecidableEq Leg] [Inhabited Leg] [DecidableEq Bal] [Inhabited Bal] [DecidableEq Ledg] [Inhabited Ledg]
attribute [local go_sem ↓] Go.wp_at_zero Go.wp_at_succ

set_option linter.unusedSimpArgs false

structure OutcR where
  code : Int
  outcomes : List Int
  ledger : Ledg
variable [DecidableEq OutcR] [Inhabited OutcR]

end Go.Proofs.Ytgjpafalompecaa

/-
  Contracts settled one behind the other: what the ledgers are.
-/
namespace Go.Proofs.Ytgjpafalompecaa
open Go.RowKit
set_option linter.unusedSectionVars false
variable [DecidableEq Rw] [Inhabited Rw] [DecidableEq Bal] [Inhabited Bal] [DecidableEq Ledg] [Inhabited Ledg] [DecidableEq Leg] [Inhabited Leg] [DecidableEq Cont] [Inhabited Cont] [DecidableEq LedgR] [Inhabited LedgR] [DecidableEq OutcR] [Inhabited OutcR]
set_option linter.unusedVariables false
set_option linter.unusedSimpArgs false

theorem hasPlace_no {ls : List Leg} {l : Leg} (h : hasPlace ls l = false) : ∀ x ∈ ls, ¬ (x.sh = l.sh ∧ x.ac = l.ac ∧ x.ast = l.ast) := by
  intro x hx e
  unfold hasPlace at h
  simp only [List.any_eq_false] at h
  have := h x hx
  simp [samePlace, e.1, e.2.1, e.2.2] at this
def Apart (ls : List Leg) : Prop := ls.Pairwise (fun x y => ¬ (x.sh = y.sh ∧ x.ac = y.ac ∧ x.ast = y.ast))
theorem apart_of {ls : List Leg} (h : okTo ls ls.length) : Apart ls := by
  unfold Apart
  rw [List.pairwise_iff_getElem]
  intro i j hi hj hij
  have h1 := hasPlace_no (h j hj).2
  have e : ls.getD j default = ls[j] := by simp [List.getD, hj]
  rw [e] at h1
  exact h1 ls[i] (by rw [List.mem_take_iff_getElem]; exact ⟨i, by omega, rfl⟩)
theorem addLs_at {f : Int → Int → Int → Option Int} (ls : List Leg) : Apart ls → ∀ s a t, ((∀ l ∈ ls, ¬ (l.sh = s ∧ l.ac = a ∧ l.ast = t)) ∧ addLs f ls s a t = f s a t) ∨ ∃ l ∈ ls, (l.sh = s ∧ l.ac = a ∧ l.ast = t) ∧ addLs f ls s a t = if (f l.sh l.ac l.ast).getD 0 + l.am = 0 then none else some ((f l.sh l.ac l.ast).getD 0 + l.am) := by
  refine snoc_ind (P := fun ls => Apart ls → ∀ s a t, ((∀ l ∈ ls, ¬ (l.sh = s ∧ l.ac = a ∧ l.ast = t)) ∧ addLs f ls s a t = f s a t) ∨ ∃ l ∈ ls, (l.sh = s ∧ l.ac = a ∧ l.ast = t) ∧ addLs f ls s a t = if (f l.sh l.ac l.ast).getD 0 + l.am = 0 then none else some ((f l.sh l.ac l.ast).getD 0 + l.am)) ?_ ?_ ls
  · intro _ s a t
    exact .inl ⟨fun l h => (by cases h), rfl⟩
  · intro ls l ih hA s a t
    unfold Apart at hA
    rw [List.pairwise_append] at hA
    obtain ⟨hA1, _, hA3⟩ := hA
    have h1 := ih hA1
    rw [addLs_snoc]
    by_cases e : l.sh = s ∧ l.ac = a ∧ l.ast = t
    · refine .inr ⟨l, by simp, e, ?_⟩
      have h2 : addLs f ls l.sh l.ac l.ast = f l.sh l.ac l.ast := by
        rcases h1 l.sh l.ac l.ast with ⟨_, h⟩ | ⟨x, hx, ex, _⟩
        · exact h
        · exact absurd ex (hA3 x hx l (by simp))
      obtain ⟨rfl, rfl, rfl⟩ := e
      unfold addL
      rw [upd3_same, h2]
    · have h2 : addL (addLs f ls) l s a t = addLs f ls s a t := by
        unfold addL upd3
        rw [if_neg (fun h => e ⟨h.1.symm, h.2.1.symm, h.2.2.symm⟩)]
      rw [h2]
      rcases h1 s a t with ⟨h3, h4⟩ | ⟨x, hx, ex, h4⟩
      · refine .inl ⟨fun y hy => ?_, h4⟩
        rcases List.mem_append.1 hy with hy | hy
        · exact h3 y hy
        · rw [List.mem_singleton.1 hy]; exact e
      · exact .inr ⟨x, List.mem_append_left _ hx, ex, h4⟩
def AmOk (f : Int → Int → Int → Option Int) : Prop := ∀ s a t v, f s a t = some v → 1 ≤ v ∧ v ≤ 1000000000000
theorem amOk_of {g : Ledg} (h : ledFault g = 0) : AmOk (bookF g.shards) := by
  intro s a t v hv
  unfold bookF at hv
  split at hv
  · obtain ⟨x, hx, _, _, rfl⟩ := getB_mem hv
    have hb := (ledOk_of h).2.2 s.toNat (by omega)
    obtain ⟨j, hj, rfl⟩ := List.mem_iff_getElem.1 hx
    have := hb.ok j hj
    have e : ∀ (xs : List Bal) (h : j < xs.length), xs.getD j default = xs[j] := fun xs h => by simp [List.getD, h]
    rw [e _ hj] at this
    exact (balOk_iff.1 this).2
  · cases hv
theorem canL_zero {f : Int → Int → Int → Option Int} {l : Leg} (h : canL f l = 0) : 0 ≤ (f l.sh l.ac l.ast).getD 0 + l.am ∧ (f l.sh l.ac l.ast).getD 0 + l.am ≤ 1000000000000 := by
  unfold canL canV at h
  split at h
  · omega
  · split at h
    · omega
    · omega
theorem balsOk_rise {xs : List Bal} (h : RiseB xs) (hm : ∀ x ∈ xs, 1 ≤ x.am ∧ x.am ≤ 1000000000000) : balFault xs = 0 := by
  have hlen : xs.length ≤ 18 := by
    have h1 := nodup_lt 18 (xs.map (fun x : Bal => (plB x).toNat)) ?_ ?_
    · simpa using h1
    · rw [List.Nodup, List.pairwise_map]
      refine List.Pairwise.imp_of_mem ?_ h.rise
      intro x y hx hy hlt e
      obtain ⟨⟨_, _⟩, _, _⟩ := keyOk_iff.1 (h.key x hx)
      obtain ⟨⟨_, _⟩, _, _⟩ := keyOk_iff.1 (h.key y hy)
      unfold plB at hlt e
      omega
    · intro n hn
      obtain ⟨x, hx, rfl⟩ := List.mem_map.1 hn
      obtain ⟨⟨_, _⟩, _, _⟩ := keyOk_iff.1 (h.key x hx)
      unfold plB
      omega
  unfold balFault
  rw [if_neg (by omega)]
  refine scanI_of (fun k hk => ?_)
  have e : ∀ j, (hj : j < xs.length) → xs.getD j default = xs[j] := fun j hj => by simp [List.getD, hj]
  unfold balAt
  have h1 : balOk (xs.getD k default) = true := by
    rw [e k hk, balOk_iff]
    exact ⟨keyOk_iff.1 (h.key _ (List.getElem_mem hk)), hm _ (List.getElem_mem hk)⟩
  rw [if_pos h1, if_neg]
  rintro ⟨h0, hb⟩
  have hp := List.pairwise_iff_getElem.1 h.rise (k - 1) k (by omega) hk (by omega)
  rw [e k hk, e (k - 1) (by omega), behind_iff (h.key _ (List.getElem_mem _)) (h.key _ (List.getElem_mem _))] at hb
  unfold plB at hp
  omega
theorem settled_ok {gs : List (List Bal)} {c : Cont} (h : canG ⟨gs⟩ c = 0) : ledFault ⟨settleL gs c.legs⟩ = 0 ∧ bookF (settleL gs c.legs) = addLs (bookF gs) c.legs := by
  obtain ⟨h0, h1, h2, h3⟩ := canG_inv h
  obtain ⟨⟨hn0, hn3, h8, _⟩, hr, hk, hs, _⟩ := settle_facts h
  dsimp only at hn0 hn3 hr hs h2 h3 h0
  obtain ⟨_, _, _, hok, _⟩ := cf_inv h1
  have hA := apart_of hok
  have hbook : bookF (settleL gs c.legs) = addLs (bookF gs) c.legs := by
    funext s a t
    by_cases hd : 0 ≤ s ∧ s < (gs.length : Int)
    · obtain ⟨i, rfl⟩ : ∃ i : Nat, s = (i : Int) := ⟨s.toNat, by omega⟩
      have hi : i < gs.length := by omega
      rw [← (settle_book hi (hr i hi) c.legs hk).2]
      unfold bookF
      rw [settleL_len, if_pos hd, Int.toNat_natCast, settleL_get gs c.legs hi]
      rfl
    · rw [book_dom c.legs hs s a t hd]
      unfold bookF
      rw [settleL_len, if_neg hd]
  have ham : AmOk (addLs (bookF gs) c.legs) := by
    intro s a t v hv
    rcases addLs_at (f := bookF gs) c.legs hA s a t with ⟨_, e⟩ | ⟨l, hl, ⟨rfl, rfl, rfl⟩, e⟩
    · rw [e] at hv
      exact amOk_of (g := ⟨gs⟩) h0 s a t v hv
    · rw [e] at hv
      obtain ⟨j, hj, rfl⟩ := List.mem_iff_getElem.1 hl
      have hc := h3 j hj
      have ej : c.legs.getD j default = c.legs[j] := by simp [List.getD, hj]
      rw [ej] at hc
      have := canL_zero hc
      split at hv
      · cases hv
      · simp only [Option.some.injEq] at hv
        omega
  refine ⟨?_, hbook⟩
  unfold ledFault
  dsimp only
  rw [settleL_len, if_neg (by omega)]
  refine scanI_of (fun i hi => ?_)
  unfold ledAt
  dsimp only
  rw [settleL_get gs c.legs hi]
  obtain ⟨r1, r2⟩ := settle_book hi (hr i hi) c.legs hk
  refine balsOk_rise r1 (fun x hx => ?_)
  have hg : getB x.ac x.ast (addB (gs.getD i default) (onSh i c.legs)) = some x.am := by
    have hx' : x ∈ addB (gs.getD i default) (onSh i c.legs) := hx
    generalize addB (gs.getD i default) (onSh i c.legs) = ys at r1 hx'
    clear r2 hx
    induction ys with
    | nil => cases hx'
    | cons y r ih =>
      rcases List.mem_cons.1 hx' with rfl | h
      · exact getB_head _ _
      · by_cases ey : y.ac = x.ac ∧ y.ast = x.ast
        · have := (List.pairwise_cons.1 r1.rise).1 x h
          unfold plB at this
          omega
        · rw [getB_tail ey]
          exact ih r1.tail h
  rw [r2] at hg
  exact ham _ _ _ _ hg
end Go.Proofs.Ytgjpafalompecaa


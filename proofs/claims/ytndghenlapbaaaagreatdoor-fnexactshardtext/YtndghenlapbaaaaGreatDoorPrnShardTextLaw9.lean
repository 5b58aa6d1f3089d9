import Derived.Test.YtndghenlapbaaaaGreatDoorPrnShardTextLaw8
import Derived.Test.YtndghenlapbaaaaGreatDoorPrnShardTextLaw5
import Derived.BigQuiet
import Derived.Deep.QuietTactic
import Derived.Deep.RegionHeld3
import Derived.Shelf.Strconv.Itoa4
import Derived.Shelf.Strings.Builder1
import Derived.Shelf.Strings.OnBuilder
import Derived.Ground.NamesProg
import Derived.Test.YtndghenlapbaaaaGreatDoorProg
import Derived.Test.YtndghenlapbaaaaGreatDoorPrnShardTextLaw1
import Derived.Test.YtndghenlapbaaaaGreatDoorPrnShardTextLaw4
import Derived.Deep.DrawnRows

/-
  A shard's text, the document's.
-/
set_option linter.unusedSimpArgs false
set_option linter.unusedVariables false
namespace Go.Proofs.YtndghenlapbaaaaGreatDoor
open Go.RowKit
set_option linter.unusedSectionVars false
variable [DecidableEq Leg] [Inhabited Leg] [DecidableEq Bal] [Inhabited Bal] [DecidableEq Mrk] [Inhabited Mrk] [DecidableEq Cont] [Inhabited Cont] [DecidableEq Shd] [Inhabited Shd]
attribute [local go_sem ↓] Go.wp_at_zero Go.wp_at_succ

theorem hLs0 (d : Shd) (k : Nat) : (hasT d k).size ≤ 100 := lineB_size _ _ (by decide) (by simp)
theorem hLn0 (d : Shd) (k : Nat) : True := trivial
theorem hLs1 (d : Shd) (k : Nat) : (voteT d k).size ≤ 100 := lineB_size _ _ (by decide) (by simp)
theorem hLn1 (d : Shd) (k : Nat) : True := trivial
theorem hLs2 (d : Shd) (k : Nat) : (heldT d k).size ≤ 100 := lineB_size _ _ (by decide) (by simp)
theorem hLn2 (d : Shd) (k : Nat) : True := trivial
theorem hLs3 (d : Shd) (k : Nat) : (doneT d k).size ≤ 100 := lineB_size _ _ (by decide) (by simp)
theorem hLn3 (d : Shd) (k : Nat) : True := trivial
set_option maxRecDepth 20000 in
set_option maxHeartbeats 16000000 in
theorem l10Text_any (x : Value) (d : Shd) (w : World) (hx : shdR.V w x d) (hr : TxtOk d) :
    Calls Tryz.prog 15 #[x] w fun e w' => e = .returned (.string (shTxt d)) ∧ Below w.heap.size w w' := by
  obtain ⟨u1, u2, u3, u4, u5, rfl, h1, h2, h3, h4, h5⟩ := hx
  obtain ⟨a1, c1, rfl⟩ := bals_form h1
  obtain ⟨a2, c2, rfl⟩ := mrks_form h2
  obtain ⟨a3, c3, rfl⟩ := conts_form h3
  obtain ⟨a4, c4, rfl⟩ := mrks_form h4
  obtain ⟨a5, c5, rfl⟩ := ints_form h5
  have HX0 : Hid (∀ k, k < d.bals.length → ∃ b o, a1 = some ⟨b, o, none⟩ ∧ w.cell? ⟨b, o + k * 3, none⟩ = some (.int .i64 (d.bals.getD k default).ac) ∧ w.cell? ⟨b, o + k * 3 + 1, none⟩ = some (.int .i64 (d.bals.getD k default).ast) ∧ w.cell? ⟨b, o + k * 3 + 2, none⟩ = some (.int .i64 (d.bals.getD k default).am)) := fun k hk => by
    obtain ⟨_, _, e, _, _, hc⟩ := h1
    simp only [Value.slice.injEq, true_and] at e
    obtain ⟨rfl, rfl⟩ := e
    exact hc k hk
  have hm1 : c1 ≤ 9223372036854775807 ∧ d.bals.length ≤ c1 := by
    obtain ⟨_, _, e, hl, hm, _⟩ := h1
    simp only [Value.slice.injEq, true_and] at e
    obtain ⟨rfl, rfl⟩ := e
    unfold maxLen at hm
    exact ⟨by omega, hl⟩
  have HOk0 : Hid (∀ k, k < d.bals.length → okN (d.bals.getD k default).ac ∧ okN (d.bals.getD k default).ast ∧ okN (d.bals.getD k default).am) := hr.rb
  have HSz0 : Hid (∀ k, k ≤ d.bals.length → (catT (tx0 d) (hasT d) k).size ≤ 200000000) := fun k hk => by
    have h1 := catT_size (tx0 d) (hasT d) (hLs0 d) k
    have h2 := hr.nb
    have h3 := lineB_size ⟨#[115, 104, 97, 114, 100]⟩ [d.idx] (by decide) (by simp)
    have h4 : (tx0 d).size ≤ 100 := h3
    omega
  have hPv0 : Hid (catT (tx0 d) (hasT d) d.bals.length = tx1 d) := rfl
  have HX1 : Hid (∀ k, k < d.votes.length → ∃ b o, a2 = some ⟨b, o, none⟩ ∧ w.cell? ⟨b, o + k * 2, none⟩ = some (.int .i64 (d.votes.getD k default).con) ∧ w.cell? ⟨b, o + k * 2 + 1, none⟩ = some (.int .i64 (d.votes.getD k default).val)) := fun k hk => by
    obtain ⟨_, _, e, _, _, hc⟩ := h2
    simp only [Value.slice.injEq, true_and] at e
    obtain ⟨rfl, rfl⟩ := e
    exact hc k hk
  have hm2 : c2 ≤ 9223372036854775807 ∧ d.votes.length ≤ c2 := by
    obtain ⟨_, _, e, hl, hm, _⟩ := h2
    simp only [Value.slice.injEq, true_and] at e
    obtain ⟨rfl, rfl⟩ := e
    unfold maxLen at hm
    exact ⟨by omega, hl⟩
  have HOk1 : Hid (∀ k, k < d.votes.length → okN (d.votes.getD k default).con ∧ okN (d.votes.getD k default).val) := hr.rv
  have HSz1 : Hid (∀ k, k ≤ d.votes.length → (catT (tx1 d) (voteT d) k).size ≤ 400000000) := fun k hk => by
    have h1 := catT_size (tx1 d) (voteT d) (hLs1 d) k
    have h2 := hr.nv
    have h3 := HSz0.out d.bals.length (Nat.le_refl _)
    have h4 : (tx1 d).size ≤ 200000000 := h3
    omega
  have hPv1 : Hid (catT (tx1 d) (voteT d) d.votes.length = tx2 d) := rfl
  have HX2 : Hid (∀ k, k < d.held.length → ∃ b o, a3 = some ⟨b, o, none⟩ ∧ w.cell? ⟨b, o + k * 2, none⟩ = some (.int .i64 (d.held.getD k default).id)) := fun k hk => by
    obtain ⟨_, _, e, _, _, hc⟩ := h3
    simp only [Value.slice.injEq, true_and] at e
    obtain ⟨rfl, rfl⟩ := e
    obtain ⟨b, o, u, e, _, p, hv⟩ := hc k hk
    obtain ⟨s, rfl, _⟩ := hv
    exact ⟨b, o, e, p 0 (by omega)⟩
  have hm3 : c3 ≤ 9223372036854775807 ∧ d.held.length ≤ c3 := by
    obtain ⟨_, _, e, hl, hm, _⟩ := h3
    simp only [Value.slice.injEq, true_and] at e
    obtain ⟨rfl, rfl⟩ := e
    unfold maxLen at hm
    exact ⟨by omega, hl⟩
  have HOk2 : Hid (∀ k, k < d.held.length → okN (d.held.getD k default).id) := hr.rh
  have HSz2 : Hid (∀ k, k ≤ d.held.length → (catT (tx2 d) (heldT d) k).size ≤ 600000000) := fun k hk => by
    have h1 := catT_size (tx2 d) (heldT d) (hLs2 d) k
    have h2 := hr.nh
    have h3 := HSz1.out d.votes.length (Nat.le_refl _)
    have h4 : (tx2 d).size ≤ 400000000 := h3
    omega
  have hPv2 : Hid (catT (tx2 d) (heldT d) d.held.length = tx3 d) := rfl
  have HX3 : Hid (∀ k, k < d.done.length → ∃ b o, a4 = some ⟨b, o, none⟩ ∧ w.cell? ⟨b, o + k * 2, none⟩ = some (.int .i64 (d.done.getD k default).con) ∧ w.cell? ⟨b, o + k * 2 + 1, none⟩ = some (.int .i64 (d.done.getD k default).val)) := fun k hk => by
    obtain ⟨_, _, e, _, _, hc⟩ := h4
    simp only [Value.slice.injEq, true_and] at e
    obtain ⟨rfl, rfl⟩ := e
    exact hc k hk
  have hm4 : c4 ≤ 9223372036854775807 ∧ d.done.length ≤ c4 := by
    obtain ⟨_, _, e, hl, hm, _⟩ := h4
    simp only [Value.slice.injEq, true_and] at e
    obtain ⟨rfl, rfl⟩ := e
    unfold maxLen at hm
    exact ⟨by omega, hl⟩
  have HOk3 : Hid (∀ k, k < d.done.length → okN (d.done.getD k default).con ∧ okN (d.done.getD k default).val) := hr.rd
  have HSz3 : Hid (∀ k, k ≤ d.done.length → (catT (tx3 d) (doneT d) k).size ≤ 800000000) := fun k hk => by
    have h1 := catT_size (tx3 d) (doneT d) (hLs3 d) k
    have h2 := hr.nd
    have h3 := HSz2.out d.held.length (Nat.le_refl _)
    have h4 : (tx3 d).size ≤ 600000000 := h3
    omega
  have hPv3 : Hid (catT (tx3 d) (doneT d) d.done.length = shTxt d) := rfl
  have hi := hr.ri
  clear h1 h2 h3 h4 h5 hr
  generalize d.appl.length = n5 at *
  obtain ⟨n1, hn1⟩ : ∃ n, n = d.bals.length := ⟨_, rfl⟩
  rw [← hn1] at HX0 hm1 HOk0 HSz0 hPv0 ⊢
  clear hn1
  obtain ⟨n2, hn2⟩ : ∃ n, n = d.votes.length := ⟨_, rfl⟩
  rw [← hn2] at HX1 hm2 HOk1 HSz1 hPv1 ⊢
  clear hn2
  obtain ⟨n3, hn3⟩ : ∃ n, n = d.held.length := ⟨_, rfl⟩
  rw [← hn3] at HX2 hm3 HOk2 HSz2 hPv2 ⊢
  clear hn3
  obtain ⟨n4, hn4⟩ : ∃ n, n = d.done.length := ⟨_, rfl⟩
  rw [← hn4] at HX3 hm4 HOk3 HSz3 hPv3 ⊢
  clear hn4
  have H0 : Hid (lineB ⟨#[115, 104, 97, 114, 100]⟩ [d.idx] = tx0 d) := rfl
  have hw10 : ((⟨#[115, 104, 97, 114, 100]⟩ : ByteArray)).size ≤ 10 := by decide
  go_enter Tryz.func15, Tryz.ntmps15
  obtain ⟨wq, hwq⟩ : ∃ wq, wq = w.alloc (.cells #[.int .i64 d.idx, .slice a1 n1 c1, .slice a2 n2 c2, .slice a3 n3 c3, .slice a4 n4 c4, .slice a5 n5 c5] 36) := ⟨_, rfl⟩
  have y1 : wq.cell? ⟨w.heap.size, 1, none⟩ = some (.slice a1 n1 c1) := by rw [hwq]; simp [go_sem]
  have y2 : wq.cell? ⟨w.heap.size, 2, none⟩ = some (.slice a2 n2 c2) := by rw [hwq]; simp [go_sem]
  have y3 : wq.cell? ⟨w.heap.size, 3, none⟩ = some (.slice a3 n3 c3) := by rw [hwq]; simp [go_sem]
  have y4 : wq.cell? ⟨w.heap.size, 4, none⟩ = some (.slice a4 n4 c4) := by rw [hwq]; simp [go_sem]
  have hBq : Below w.heap.size w wq := by rw [hwq]; (repeat (first | exact Below.refl _ _ | assumption | refine Below.drew ?_ | refine balloc ?_ _ | refine bset ?_ (by simp; omega) _ | refine bset ?_ (by simp) _ | refine bstep ?_ (by assumption)))
  have HZq : Hid (wq.heap.size = w.heap.size + 1) := by rw [hwq]; show _ = _; simp
  go_wp2_with fail
  rw [← hwq]
  refine (line1_any _ _ d.idx _ hw10 (by rw [← HZq.out]; simp [go_sem]) hi).mono ?_
  rintro e w1 ⟨rfl, hb1⟩
  rw [H0.out]
  have hbl : Below wq.heap.size wq w1 := bstep (by (repeat (first | exact Below.refl _ _ | assumption | refine Below.drew ?_ | refine balloc ?_ _ | refine bset ?_ (by simp; omega) _ | refine bset ?_ (by simp) _ | refine bstep ?_ (by assumption)))) hb1
  clear hb1 hwq hi hw10
  go_wp2
  go_loopw [3, 4] (fun s i W => ∃ k : Nat, k ≤ n1 ∧ i = .int .i64 k ∧ s = .string (catT (tx0 d) (hasT d) k) ∧ Below wq.heap.size wq W) (fun _ i _ => n1 - (intOf i).toNat)
  case atStart => exact ⟨0, Nat.zero_le _, rfl, rfl, hbl⟩
  case round =>
    clear hbl
    obtain ⟨k, hk, rfl, rfl, hbl⟩ := hrel
    have hs := HSz0.out k hk
    by_cases hlt : k < n1
    · obtain ⟨bx, ox, rfl, g⟩ := HX0.out k hlt
      have hok := HOk0.out k hlt
      have HLn := hLn0 d k
      have hls := hLs0 d k
      have HC : Hid (catT (tx0 d) (hasT d) (k + 1) = catT (tx0 d) (hasT d) k ++ hasT d k) := rfl
      have HLw : Hid (hasT d k = lineB ⟨#[104, 97, 115]⟩ [(d.bals.getD k default).ac, (d.bals.getD k default).ast, (d.bals.getD k default).am]) := rfl
      obtain ⟨g0, g1, g2⟩ := g
      obtain ⟨k0, k1, k2⟩ := hok
      replace g0 := cell_keep (bstep hBq hbl) g0
      replace g1 := cell_keep (bstep hBq hbl) g1
      replace g2 := cell_keep (bstep hBq hbl) g2
      have x1 := cell_keep hbl y1
      have zb : bx < wr.heap.size := World.block_lt_of_cell? wr _ g0
      rw [HLw.out] at hls
      generalize catT (tx0 d) (hasT d) k = A at *
      generalize (d.bals.getD k default).ac = v0 at *
      generalize (d.bals.getD k default).ast = v1 at *
      generalize (d.bals.getD k default).am = v2 at *
      generalize hLB : lineB ⟨#[104, 97, 115]⟩ [v0, v1, v2] = LB at *
      have HLB : Hid (lineB ⟨#[104, 97, 115]⟩ [v0, v1, v2] = LB) := hLB
      have HC2 : Hid (catT (tx0 d) (hasT d) (k + 1) = A ++ LB) := by show _ = _; rw [HC.out, HLw.out]; try rw [hLB]
      have hcat : ¬ 9223372036854775807 < A.size + LB.size := by omega
      have hti : (k : Int) < (n1 : Int) := by omega
      have hti0 : (0 : Int) ≤ (k : Int) := by omega
      clear hLB HLn HC HLw
      have hw10 : ((⟨#[104, 97, 115]⟩ : ByteArray)).size ≤ 10 := by decide
      go_wp2
      refine wp_region_noPanic ?_
      refine region_upto (fun W => Below wr.heap.size wr W ∧ W.cell? ⟨w.heap.size, 1, none⟩ = some (.slice (some ⟨bx, ox, none⟩) n1 c1) ∧ W.cell? ⟨bx, ox + k * 3, none⟩ = some (.int .i64 v0) ∧ W.cell? ⟨bx, ox + k * 3 + 1, none⟩ = some (.int .i64 v1) ∧ W.cell? ⟨bx, ox + k * 3 + 2, none⟩ = some (.int .i64 v2)) 23 (by kernel_rfl) ⟨by (repeat (first | exact Below.refl _ _ | assumption | refine Below.drew ?_ | refine balloc ?_ _ | refine bset ?_ (by simp; omega) _ | refine bset ?_ (by simp) _ | refine bstep ?_ (by assumption))), cell_keep (by (repeat (first | exact Below.refl _ _ | assumption | refine Below.drew ?_ | refine balloc ?_ _ | refine bset ?_ (by simp; omega) _ | refine bset ?_ (by simp) _ | refine bstep ?_ (by assumption)))) x1, cell_keep (by (repeat (first | exact Below.refl _ _ | assumption | refine Below.drew ?_ | refine balloc ?_ _ | refine bset ?_ (by simp; omega) _ | refine bset ?_ (by simp) _ | refine bstep ?_ (by assumption)))) g0, cell_keep (by (repeat (first | exact Below.refl _ _ | assumption | refine Below.drew ?_ | refine balloc ?_ _ | refine bset ?_ (by simp; omega) _ | refine bset ?_ (by simp) _ | refine bstep ?_ (by assumption)))) g1, cell_keep (by (repeat (first | exact Below.refl _ _ | assumption | refine Below.drew ?_ | refine balloc ?_ _ | refine bset ?_ (by simp; omega) _ | refine bset ?_ (by simp) _ | refine bstep ?_ (by assumption)))) g2⟩ (fun hS => ?_)
      refine upto_takeN (i := 0) (v := ?_) rfl (by kernel_rfl) (by kernel_rfl) (by kernel_rfl) (by kernel_rfl) (fun _ _ _ h => h) (by rfl) hS ?_ ?_
      rotate_left
      · intro wS hSw
        try dsimp only at hSw
        first | (go_simp; done) | (go_simp; with_reducible rfl)
      try simp only [Act.put, List.getElem_toArray, List.getElem_cons_zero, List.getElem_cons_succ, List.setIfInBounds_toArray, List.set_cons_zero, List.set_cons_succ]
      refine upto_takeN (i := 1) (v := ?_) rfl (by kernel_rfl) (by kernel_rfl) (by kernel_rfl) (by kernel_rfl) (fun _ _ _ h => h) (by rfl) hS ?_ ?_
      rotate_left
      · intro wS hSw
        try dsimp only at hSw
        first | (go_simp; done) | (go_simp; with_reducible rfl)
      try simp only [Act.put, List.getElem_toArray, List.getElem_cons_zero, List.getElem_cons_succ, List.setIfInBounds_toArray, List.set_cons_zero, List.set_cons_succ]
      refine upto_takeN (i := 2) (v := ?_) rfl (by kernel_rfl) (by kernel_rfl) (by kernel_rfl) (by kernel_rfl) (fun _ _ _ h => h) (by rfl) hS ?_ ?_
      rotate_left
      · intro wS hSw
        try dsimp only at hSw
        first | (go_simp; done) | (go_simp; with_reducible rfl)
      try simp only [Act.put, List.getElem_toArray, List.getElem_cons_zero, List.getElem_cons_succ, List.setIfInBounds_toArray, List.set_cons_zero, List.set_cons_succ]
      refine upto_takeN (i := 3) (v := ?_) rfl (by kernel_rfl) (by kernel_rfl) (by kernel_rfl) (by kernel_rfl) (fun _ _ _ h => h) (by rfl) hS ?_ ?_
      rotate_left
      · intro wS hSw
        try dsimp only at hSw
        first | (go_simp; done) | (go_simp; with_reducible rfl)
      try simp only [Act.put, List.getElem_toArray, List.getElem_cons_zero, List.getElem_cons_succ, List.setIfInBounds_toArray, List.set_cons_zero, List.set_cons_succ]
      refine upto_takeN (i := 4) (v := ?_) rfl (by kernel_rfl) (by kernel_rfl) (by kernel_rfl) (by kernel_rfl) (fun _ _ _ h => h) (by rfl) hS ?_ ?_
      rotate_left
      · intro wS hSw
        try dsimp only at hSw
        first | (go_simp; done) | (go_simp; with_reducible rfl)
      try simp only [Act.put, List.getElem_toArray, List.getElem_cons_zero, List.getElem_cons_succ, List.setIfInBounds_toArray, List.set_cons_zero, List.set_cons_succ]
      refine upto_takeN (i := 5) (v := ?_) rfl (by kernel_rfl) (by kernel_rfl) (by kernel_rfl) (by kernel_rfl) (fun _ _ _ h => h) (by rfl) hS ?_ ?_
      rotate_left
      · intro wS hSw
        try dsimp only at hSw
        first | (go_simp; done) | (go_simp; with_reducible rfl)
      try simp only [Act.put, List.getElem_toArray, List.getElem_cons_zero, List.getElem_cons_succ, List.setIfInBounds_toArray, List.set_cons_zero, List.set_cons_succ]
      refine upto_takeN (i := 6) (v := ?_) rfl (by kernel_rfl) (by kernel_rfl) (by kernel_rfl) (by kernel_rfl) (fun _ _ _ h => h) (by rfl) hS ?_ ?_
      rotate_left
      · intro wS hSw
        try dsimp only at hSw
        first | (go_simp; done) | (go_simp; with_reducible rfl)
      try simp only [Act.put, List.getElem_toArray, List.getElem_cons_zero, List.getElem_cons_succ, List.setIfInBounds_toArray, List.set_cons_zero, List.set_cons_succ]
      refine upto_takeN (i := 7) (v := ?_) rfl (by kernel_rfl) (by kernel_rfl) (by kernel_rfl) (by kernel_rfl) (fun _ _ _ h => h) (by rfl) hS ?_ ?_
      rotate_left
      · intro wS hSw
        try dsimp only at hSw
        first | (go_simp; done) | (go_simp; with_reducible rfl)
      try simp only [Act.put, List.getElem_toArray, List.getElem_cons_zero, List.getElem_cons_succ, List.setIfInBounds_toArray, List.set_cons_zero, List.set_cons_succ]
      refine upto_takeN (i := 8) (v := ?_) rfl (by kernel_rfl) (by kernel_rfl) (by kernel_rfl) (by kernel_rfl) (fun _ _ _ h => h) (by rfl) hS ?_ ?_
      rotate_left
      · intro wS hSw
        try dsimp only at hSw
        first | (go_simp; done) | (go_simp; with_reducible rfl)
      try simp only [Act.put, List.getElem_toArray, List.getElem_cons_zero, List.getElem_cons_succ, List.setIfInBounds_toArray, List.set_cons_zero, List.set_cons_succ]
      refine upto_takeN (i := 9) (v := ?_) rfl (by kernel_rfl) (by kernel_rfl) (by kernel_rfl) (by kernel_rfl) (fun _ _ _ h => h) (by rfl) hS ?_ ?_
      rotate_left
      · intro wS hSw
        try dsimp only at hSw
        first | (go_simp; done) | (go_simp; with_reducible rfl)
      try simp only [Act.put, List.getElem_toArray, List.getElem_cons_zero, List.getElem_cons_succ, List.setIfInBounds_toArray, List.set_cons_zero, List.set_cons_succ]
      refine upto_takeN (i := 10) (v := ?_) rfl (by kernel_rfl) (by kernel_rfl) (by kernel_rfl) (by kernel_rfl) (fun _ _ _ h => h) (by rfl) hS ?_ ?_
      rotate_left
      · intro wS hSw
        try dsimp only at hSw
        first | (go_simp; done) | (go_simp; with_reducible rfl)
      try simp only [Act.put, List.getElem_toArray, List.getElem_cons_zero, List.getElem_cons_succ, List.setIfInBounds_toArray, List.set_cons_zero, List.set_cons_succ]
      refine upto_takeN (i := 11) (v := ?_) rfl (by kernel_rfl) (by kernel_rfl) (by kernel_rfl) (by kernel_rfl) (fun _ _ _ h => h) (by rfl) hS ?_ ?_
      rotate_left
      · intro wS hSw
        try dsimp only at hSw
        first | (go_simp; done) | (go_simp; with_reducible rfl)
      try simp only [Act.put, List.getElem_toArray, List.getElem_cons_zero, List.getElem_cons_succ, List.setIfInBounds_toArray, List.set_cons_zero, List.set_cons_succ]
      refine upto_takeN (i := 12) (v := ?_) rfl (by kernel_rfl) (by kernel_rfl) (by kernel_rfl) (by kernel_rfl) (fun _ _ _ h => h) (by rfl) hS ?_ ?_
      rotate_left
      · intro wS hSw
        try dsimp only at hSw
        first | (go_simp; done) | (go_simp; with_reducible rfl)
      try simp only [Act.put, List.getElem_toArray, List.getElem_cons_zero, List.getElem_cons_succ, List.setIfInBounds_toArray, List.set_cons_zero, List.set_cons_succ]
      refine upto_takeN (i := 13) (v := ?_) rfl (by kernel_rfl) (by kernel_rfl) (by kernel_rfl) (by kernel_rfl) (fun _ _ _ h => h) (by rfl) hS ?_ ?_
      rotate_left
      · intro wS hSw
        try dsimp only at hSw
        first | (go_simp; done) | (go_simp; with_reducible rfl)
      try simp only [Act.put, List.getElem_toArray, List.getElem_cons_zero, List.getElem_cons_succ, List.setIfInBounds_toArray, List.set_cons_zero, List.set_cons_succ]
      refine upto_takeN (i := 14) (v := ?_) rfl (by kernel_rfl) (by kernel_rfl) (by kernel_rfl) (by kernel_rfl) (fun _ _ _ h => h) (by rfl) hS ?_ ?_
      rotate_left
      · intro wS hSw
        try dsimp only at hSw
        first | (go_simp; done) | (go_simp; with_reducible rfl)
      try simp only [Act.put, List.getElem_toArray, List.getElem_cons_zero, List.getElem_cons_succ, List.setIfInBounds_toArray, List.set_cons_zero, List.set_cons_succ]
      refine upto_takeN (i := 15) (v := ?_) rfl (by kernel_rfl) (by kernel_rfl) (by kernel_rfl) (by kernel_rfl) (fun _ _ _ h => h) (by rfl) hS ?_ ?_
      rotate_left
      · intro wS hSw
        try dsimp only at hSw
        first | (go_simp; done) | (go_simp; with_reducible rfl)
      try simp only [Act.put, List.getElem_toArray, List.getElem_cons_zero, List.getElem_cons_succ, List.setIfInBounds_toArray, List.set_cons_zero, List.set_cons_succ]
      refine upto_takeN (i := 16) (v := ?_) rfl (by kernel_rfl) (by kernel_rfl) (by kernel_rfl) (by kernel_rfl) (fun _ _ _ h => h) (by rfl) hS ?_ ?_
      rotate_left
      · intro wS hSw
        try dsimp only at hSw
        first | (go_simp; done) | (go_simp; with_reducible rfl)
      try simp only [Act.put, List.getElem_toArray, List.getElem_cons_zero, List.getElem_cons_succ, List.setIfInBounds_toArray, List.set_cons_zero, List.set_cons_succ]
      refine upto_takeN (i := 17) (v := ?_) rfl (by kernel_rfl) (by kernel_rfl) (by kernel_rfl) (by kernel_rfl) (fun _ _ _ h => h) (by rfl) hS ?_ ?_
      rotate_left
      · intro wS hSw
        try dsimp only at hSw
        first | (go_simp; done) | (go_simp; with_reducible rfl)
      try simp only [Act.put, List.getElem_toArray, List.getElem_cons_zero, List.getElem_cons_succ, List.setIfInBounds_toArray, List.set_cons_zero, List.set_cons_succ]
      refine upto_takeN (i := 18) (v := ?_) rfl (by kernel_rfl) (by kernel_rfl) (by kernel_rfl) (by kernel_rfl) (fun _ _ _ h => h) (by rfl) hS ?_ ?_
      rotate_left
      · intro wS hSw
        try dsimp only at hSw
        first | (go_simp; done) | (go_simp; with_reducible rfl)
      try simp only [Act.put, List.getElem_toArray, List.getElem_cons_zero, List.getElem_cons_succ, List.setIfInBounds_toArray, List.set_cons_zero, List.set_cons_succ]
      have hbd : Below wr.heap.size wr wr.drew := Below.drew (Below.refl _ _)
      refine upto_step (i := 19) (by kernel_rfl) rfl ?_
      intro K hK
      go_simp
      have hB2 : Below wr.heap.size wr (wr.drew.alloc (.cells #[.int .i64 v0, .int .i64 v1, .int .i64 v2] 2)) := balloc hbd _
      have hS2 : (fun W => Below wr.heap.size wr W ∧ W.cell? ⟨w.heap.size, 1, none⟩ = some (.slice (some ⟨bx, ox, none⟩) n1 c1) ∧ W.cell? ⟨bx, ox + k * 3, none⟩ = some (.int .i64 v0) ∧ W.cell? ⟨bx, ox + k * 3 + 1, none⟩ = some (.int .i64 v1) ∧ W.cell? ⟨bx, ox + k * 3 + 2, none⟩ = some (.int .i64 v2)) (wr.drew.alloc (.cells #[.int .i64 v0, .int .i64 v1, .int .i64 v2] 2)) := ⟨hB2, cell_keep hB2 x1, cell_keep hB2 g0, cell_keep hB2 g1, cell_keep hB2 g2⟩
      refine hK _ _ (fun _ => hS2) ?_
      clear hK K
      try simp only [Act.put, List.getElem_toArray, List.getElem_cons_zero, List.getElem_cons_succ, List.setIfInBounds_toArray, List.set_cons_zero, List.set_cons_succ]
      refine upto_step (i := 20) (by kernel_rfl) rfl ?_
      intro K hK
      go_simp
      refine (line3_any _ _ v0 v1 v2 _ hw10 (by simp [go_sem]) (by simp [go_sem]) (by simp [go_sem]) k0 k1 k2).mono ?_
      rintro e w3 ⟨rfl, hb3⟩
      rw [HLB.out]
      have hB3 : Below wr.heap.size wr w3 := bstep hB2 hb3
      have hS3 : (fun W => Below wr.heap.size wr W ∧ W.cell? ⟨w.heap.size, 1, none⟩ = some (.slice (some ⟨bx, ox, none⟩) n1 c1) ∧ W.cell? ⟨bx, ox + k * 3, none⟩ = some (.int .i64 v0) ∧ W.cell? ⟨bx, ox + k * 3 + 1, none⟩ = some (.int .i64 v1) ∧ W.cell? ⟨bx, ox + k * 3 + 2, none⟩ = some (.int .i64 v2)) w3 := ⟨hB3, cell_keep hB3 x1, cell_keep hB3 g0, cell_keep hB3 g1, cell_keep hB3 g2⟩
      refine hK _ _ (fun _ => hS3) ?_
      clear hK K
      try simp only [Act.put, List.getElem_toArray, List.getElem_cons_zero, List.getElem_cons_succ, List.setIfInBounds_toArray, List.set_cons_zero, List.set_cons_succ]
      refine upto_takeN (i := 21) (v := (.string (A ++ LB))) rfl (by kernel_rfl) (by kernel_rfl) (by kernel_rfl) (by kernel_rfl) (fun _ _ _ h => h) (by rfl) hS3 ?_ ?_
      · intro wS hSw
        try dsimp only at hSw
        go_simp
      try simp only [Act.put, List.getElem_toArray, List.getElem_cons_zero, List.getElem_cons_succ, List.setIfInBounds_toArray, List.set_cons_zero, List.set_cons_succ]
      refine upto_takeN (i := 22) (v := ?_) rfl (by kernel_rfl) (by kernel_rfl) (by kernel_rfl) (by kernel_rfl) (fun _ _ _ h => h) (by rfl) hS3 ?_ ?_
      rotate_left
      · intro wS hSw
        try dsimp only at hSw
        first | (go_simp; done) | (go_simp; with_reducible rfl)
      try simp only [Act.put, List.getElem_toArray, List.getElem_cons_zero, List.getElem_cons_succ, List.setIfInBounds_toArray, List.set_cons_zero, List.set_cons_succ]
      refine upto_done (by kernel_rfl) ?_
      refine NoPanic.normal ?_
      have hB4 : Below wq.heap.size wq w3 := bstep hbl hB3
      clear hS hS2 hS3 hB2 hbd hb3
      go_wp2
      exact ⟨⟨k + 1, by omega, by go_num, by rw [HC2.out], hB4⟩, by simp [intOf]; omega⟩
    · obtain rfl : k = n1 := by omega
      have hti : ¬ (k : Int) < (k : Int) := by omega
      have x1 := cell_keep hbl y1
      have HPrev : Hid (catT (tx0 d) (hasT d) k = tx1 d) := hPv0.out
      rw [show catT (tx0 d) (hasT d) k = tx1 d from HPrev.out]
      go_wp2
      go_loopw [3, 5] (fun s i W => ∃ k : Nat, k ≤ n2 ∧ i = .int .i64 k ∧ s = .string (catT (tx1 d) (voteT d) k) ∧ Below wq.heap.size wq W) (fun _ i _ => n2 - (intOf i).toNat)
      case atStart => exact ⟨0, Nat.zero_le _, rfl, rfl, hbl⟩
      case round =>
        clear hbl
        obtain ⟨k, hk, rfl, rfl, hbl⟩ := hrel
        have hs := HSz1.out k hk
        by_cases hlt : k < n2
        · obtain ⟨bx, ox, rfl, g⟩ := HX1.out k hlt
          have hok := HOk1.out k hlt
          have HLn := hLn1 d k
          have hls := hLs1 d k
          have HC : Hid (catT (tx1 d) (voteT d) (k + 1) = catT (tx1 d) (voteT d) k ++ voteT d k) := rfl
          have HLw : Hid (voteT d k = lineB ⟨#[118, 111, 116, 101]⟩ [(d.votes.getD k default).con, (d.votes.getD k default).val]) := rfl
          obtain ⟨g0, g1⟩ := g
          obtain ⟨k0, k1⟩ := hok
          replace g0 := cell_keep (bstep hBq hbl) g0
          replace g1 := cell_keep (bstep hBq hbl) g1
          have x2 := cell_keep hbl y2
          have zb : bx < wr.heap.size := World.block_lt_of_cell? wr _ g0
          rw [HLw.out] at hls
          generalize catT (tx1 d) (voteT d) k = A at *
          generalize (d.votes.getD k default).con = v0 at *
          generalize (d.votes.getD k default).val = v1 at *
          generalize hLB : lineB ⟨#[118, 111, 116, 101]⟩ [v0, v1] = LB at *
          have HLB : Hid (lineB ⟨#[118, 111, 116, 101]⟩ [v0, v1] = LB) := hLB
          have HC2 : Hid (catT (tx1 d) (voteT d) (k + 1) = A ++ LB) := by show _ = _; rw [HC.out, HLw.out]; try rw [hLB]
          have hcat : ¬ 9223372036854775807 < A.size + LB.size := by omega
          have hti : (k : Int) < (n2 : Int) := by omega
          have hti0 : (0 : Int) ≤ (k : Int) := by omega
          clear hLB HLn HC HLw
          have hw10 : ((⟨#[118, 111, 116, 101]⟩ : ByteArray)).size ≤ 10 := by decide
          go_wp2
          refine wp_region_noPanic ?_
          refine region_upto (fun W => Below wr.heap.size wr W ∧ W.cell? ⟨w.heap.size, 2, none⟩ = some (.slice (some ⟨bx, ox, none⟩) n2 c2) ∧ W.cell? ⟨bx, ox + k * 2, none⟩ = some (.int .i64 v0) ∧ W.cell? ⟨bx, ox + k * 2 + 1, none⟩ = some (.int .i64 v1)) 17 (by kernel_rfl) ⟨by (repeat (first | exact Below.refl _ _ | assumption | refine Below.drew ?_ | refine balloc ?_ _ | refine bset ?_ (by simp; omega) _ | refine bset ?_ (by simp) _ | refine bstep ?_ (by assumption))), cell_keep (by (repeat (first | exact Below.refl _ _ | assumption | refine Below.drew ?_ | refine balloc ?_ _ | refine bset ?_ (by simp; omega) _ | refine bset ?_ (by simp) _ | refine bstep ?_ (by assumption)))) x2, cell_keep (by (repeat (first | exact Below.refl _ _ | assumption | refine Below.drew ?_ | refine balloc ?_ _ | refine bset ?_ (by simp; omega) _ | refine bset ?_ (by simp) _ | refine bstep ?_ (by assumption)))) g0, cell_keep (by (repeat (first | exact Below.refl _ _ | assumption | refine Below.drew ?_ | refine balloc ?_ _ | refine bset ?_ (by simp; omega) _ | refine bset ?_ (by simp) _ | refine bstep ?_ (by assumption)))) g1⟩ (fun hS => ?_)
          refine upto_takeN (i := 0) (v := ?_) rfl (by kernel_rfl) (by kernel_rfl) (by kernel_rfl) (by kernel_rfl) (fun _ _ _ h => h) (by rfl) hS ?_ ?_
          rotate_left
          · intro wS hSw
            try dsimp only at hSw
            first | (go_simp; done) | (go_simp; with_reducible rfl)
          try simp only [Act.put, List.getElem_toArray, List.getElem_cons_zero, List.getElem_cons_succ, List.setIfInBounds_toArray, List.set_cons_zero, List.set_cons_succ]
          refine upto_takeN (i := 1) (v := ?_) rfl (by kernel_rfl) (by kernel_rfl) (by kernel_rfl) (by kernel_rfl) (fun _ _ _ h => h) (by rfl) hS ?_ ?_
          rotate_left
          · intro wS hSw
            try dsimp only at hSw
            first | (go_simp; done) | (go_simp; with_reducible rfl)
          try simp only [Act.put, List.getElem_toArray, List.getElem_cons_zero, List.getElem_cons_succ, List.setIfInBounds_toArray, List.set_cons_zero, List.set_cons_succ]
          refine upto_takeN (i := 2) (v := ?_) rfl (by kernel_rfl) (by kernel_rfl) (by kernel_rfl) (by kernel_rfl) (fun _ _ _ h => h) (by rfl) hS ?_ ?_
          rotate_left
          · intro wS hSw
            try dsimp only at hSw
            first | (go_simp; done) | (go_simp; with_reducible rfl)
          try simp only [Act.put, List.getElem_toArray, List.getElem_cons_zero, List.getElem_cons_succ, List.setIfInBounds_toArray, List.set_cons_zero, List.set_cons_succ]
          refine upto_takeN (i := 3) (v := ?_) rfl (by kernel_rfl) (by kernel_rfl) (by kernel_rfl) (by kernel_rfl) (fun _ _ _ h => h) (by rfl) hS ?_ ?_
          rotate_left
          · intro wS hSw
            try dsimp only at hSw
            first | (go_simp; done) | (go_simp; with_reducible rfl)
          try simp only [Act.put, List.getElem_toArray, List.getElem_cons_zero, List.getElem_cons_succ, List.setIfInBounds_toArray, List.set_cons_zero, List.set_cons_succ]
          refine upto_takeN (i := 4) (v := ?_) rfl (by kernel_rfl) (by kernel_rfl) (by kernel_rfl) (by kernel_rfl) (fun _ _ _ h => h) (by rfl) hS ?_ ?_
          rotate_left
          · intro wS hSw
            try dsimp only at hSw
            first | (go_simp; done) | (go_simp; with_reducible rfl)
          try simp only [Act.put, List.getElem_toArray, List.getElem_cons_zero, List.getElem_cons_succ, List.setIfInBounds_toArray, List.set_cons_zero, List.set_cons_succ]
          refine upto_takeN (i := 5) (v := ?_) rfl (by kernel_rfl) (by kernel_rfl) (by kernel_rfl) (by kernel_rfl) (fun _ _ _ h => h) (by rfl) hS ?_ ?_
          rotate_left
          · intro wS hSw
            try dsimp only at hSw
            first | (go_simp; done) | (go_simp; with_reducible rfl)
          try simp only [Act.put, List.getElem_toArray, List.getElem_cons_zero, List.getElem_cons_succ, List.setIfInBounds_toArray, List.set_cons_zero, List.set_cons_succ]
          refine upto_takeN (i := 6) (v := ?_) rfl (by kernel_rfl) (by kernel_rfl) (by kernel_rfl) (by kernel_rfl) (fun _ _ _ h => h) (by rfl) hS ?_ ?_
          rotate_left
          · intro wS hSw
            try dsimp only at hSw
            first | (go_simp; done) | (go_simp; with_reducible rfl)
          try simp only [Act.put, List.getElem_toArray, List.getElem_cons_zero, List.getElem_cons_succ, List.setIfInBounds_toArray, List.set_cons_zero, List.set_cons_succ]
          refine upto_takeN (i := 7) (v := ?_) rfl (by kernel_rfl) (by kernel_rfl) (by kernel_rfl) (by kernel_rfl) (fun _ _ _ h => h) (by rfl) hS ?_ ?_
          rotate_left
          · intro wS hSw
            try dsimp only at hSw
            first | (go_simp; done) | (go_simp; with_reducible rfl)
          try simp only [Act.put, List.getElem_toArray, List.getElem_cons_zero, List.getElem_cons_succ, List.setIfInBounds_toArray, List.set_cons_zero, List.set_cons_succ]
          refine upto_takeN (i := 8) (v := ?_) rfl (by kernel_rfl) (by kernel_rfl) (by kernel_rfl) (by kernel_rfl) (fun _ _ _ h => h) (by rfl) hS ?_ ?_
          rotate_left
          · intro wS hSw
            try dsimp only at hSw
            first | (go_simp; done) | (go_simp; with_reducible rfl)
          try simp only [Act.put, List.getElem_toArray, List.getElem_cons_zero, List.getElem_cons_succ, List.setIfInBounds_toArray, List.set_cons_zero, List.set_cons_succ]
          refine upto_takeN (i := 9) (v := ?_) rfl (by kernel_rfl) (by kernel_rfl) (by kernel_rfl) (by kernel_rfl) (fun _ _ _ h => h) (by rfl) hS ?_ ?_
          rotate_left
          · intro wS hSw
            try dsimp only at hSw
            first | (go_simp; done) | (go_simp; with_reducible rfl)
          try simp only [Act.put, List.getElem_toArray, List.getElem_cons_zero, List.getElem_cons_succ, List.setIfInBounds_toArray, List.set_cons_zero, List.set_cons_succ]
          refine upto_takeN (i := 10) (v := ?_) rfl (by kernel_rfl) (by kernel_rfl) (by kernel_rfl) (by kernel_rfl) (fun _ _ _ h => h) (by rfl) hS ?_ ?_
          rotate_left
          · intro wS hSw
            try dsimp only at hSw
            first | (go_simp; done) | (go_simp; with_reducible rfl)
          try simp only [Act.put, List.getElem_toArray, List.getElem_cons_zero, List.getElem_cons_succ, List.setIfInBounds_toArray, List.set_cons_zero, List.set_cons_succ]
          refine upto_takeN (i := 11) (v := ?_) rfl (by kernel_rfl) (by kernel_rfl) (by kernel_rfl) (by kernel_rfl) (fun _ _ _ h => h) (by rfl) hS ?_ ?_
          rotate_left
          · intro wS hSw
            try dsimp only at hSw
            first | (go_simp; done) | (go_simp; with_reducible rfl)
          try simp only [Act.put, List.getElem_toArray, List.getElem_cons_zero, List.getElem_cons_succ, List.setIfInBounds_toArray, List.set_cons_zero, List.set_cons_succ]
          refine upto_takeN (i := 12) (v := ?_) rfl (by kernel_rfl) (by kernel_rfl) (by kernel_rfl) (by kernel_rfl) (fun _ _ _ h => h) (by rfl) hS ?_ ?_
          rotate_left
          · intro wS hSw
            try dsimp only at hSw
            first | (go_simp; done) | (go_simp; with_reducible rfl)
          try simp only [Act.put, List.getElem_toArray, List.getElem_cons_zero, List.getElem_cons_succ, List.setIfInBounds_toArray, List.set_cons_zero, List.set_cons_succ]
          have hbd : Below wr.heap.size wr wr.drew := Below.drew (Below.refl _ _)
          refine upto_step (i := 13) (by kernel_rfl) rfl ?_
          intro K hK
          go_simp
          have hB2 : Below wr.heap.size wr (wr.drew.alloc (.cells #[.int .i64 v0, .int .i64 v1] 2)) := balloc hbd _
          have hS2 : (fun W => Below wr.heap.size wr W ∧ W.cell? ⟨w.heap.size, 2, none⟩ = some (.slice (some ⟨bx, ox, none⟩) n2 c2) ∧ W.cell? ⟨bx, ox + k * 2, none⟩ = some (.int .i64 v0) ∧ W.cell? ⟨bx, ox + k * 2 + 1, none⟩ = some (.int .i64 v1)) (wr.drew.alloc (.cells #[.int .i64 v0, .int .i64 v1] 2)) := ⟨hB2, cell_keep hB2 x2, cell_keep hB2 g0, cell_keep hB2 g1⟩
          refine hK _ _ (fun _ => hS2) ?_
          clear hK K
          try simp only [Act.put, List.getElem_toArray, List.getElem_cons_zero, List.getElem_cons_succ, List.setIfInBounds_toArray, List.set_cons_zero, List.set_cons_succ]
          refine upto_step (i := 14) (by kernel_rfl) rfl ?_
          intro K hK
          go_simp
          refine (line2_any _ _ v0 v1 _ hw10 (by simp [go_sem]) (by simp [go_sem]) k0 k1).mono ?_
          rintro e w3 ⟨rfl, hb3⟩
          rw [HLB.out]
          have hB3 : Below wr.heap.size wr w3 := bstep hB2 hb3
          have hS3 : (fun W => Below wr.heap.size wr W ∧ W.cell? ⟨w.heap.size, 2, none⟩ = some (.slice (some ⟨bx, ox, none⟩) n2 c2) ∧ W.cell? ⟨bx, ox + k * 2, none⟩ = some (.int .i64 v0) ∧ W.cell? ⟨bx, ox + k * 2 + 1, none⟩ = some (.int .i64 v1)) w3 := ⟨hB3, cell_keep hB3 x2, cell_keep hB3 g0, cell_keep hB3 g1⟩
          refine hK _ _ (fun _ => hS3) ?_
          clear hK K
          try simp only [Act.put, List.getElem_toArray, List.getElem_cons_zero, List.getElem_cons_succ, List.setIfInBounds_toArray, List.set_cons_zero, List.set_cons_succ]
          refine upto_takeN (i := 15) (v := (.string (A ++ LB))) rfl (by kernel_rfl) (by kernel_rfl) (by kernel_rfl) (by kernel_rfl) (fun _ _ _ h => h) (by rfl) hS3 ?_ ?_
          · intro wS hSw
            try dsimp only at hSw
            go_simp
          try simp only [Act.put, List.getElem_toArray, List.getElem_cons_zero, List.getElem_cons_succ, List.setIfInBounds_toArray, List.set_cons_zero, List.set_cons_succ]
          refine upto_takeN (i := 16) (v := ?_) rfl (by kernel_rfl) (by kernel_rfl) (by kernel_rfl) (by kernel_rfl) (fun _ _ _ h => h) (by rfl) hS3 ?_ ?_
          rotate_left
          · intro wS hSw
            try dsimp only at hSw
            first | (go_simp; done) | (go_simp; with_reducible rfl)
          try simp only [Act.put, List.getElem_toArray, List.getElem_cons_zero, List.getElem_cons_succ, List.setIfInBounds_toArray, List.set_cons_zero, List.set_cons_succ]
          refine upto_done (by kernel_rfl) ?_
          refine NoPanic.normal ?_
          have hB4 : Below wq.heap.size wq w3 := bstep hbl hB3
          clear hS hS2 hS3 hB2 hbd hb3
          go_wp2
          exact ⟨⟨k + 1, by omega, by go_num, by rw [HC2.out], hB4⟩, by simp [intOf]; omega⟩
        · obtain rfl : k = n2 := by omega
          have hti : ¬ (k : Int) < (k : Int) := by omega
          have x2 := cell_keep hbl y2
          have HPrev : Hid (catT (tx1 d) (voteT d) k = tx2 d) := hPv1.out
          rw [show catT (tx1 d) (voteT d) k = tx2 d from HPrev.out]
          go_wp2
          go_loopw [3, 6] (fun s i W => ∃ k : Nat, k ≤ n3 ∧ i = .int .i64 k ∧ s = .string (catT (tx2 d) (heldT d) k) ∧ Below wq.heap.size wq W) (fun _ i _ => n3 - (intOf i).toNat)
          case atStart => exact ⟨0, Nat.zero_le _, rfl, rfl, hbl⟩
          case round =>
            clear hbl
            obtain ⟨k, hk, rfl, rfl, hbl⟩ := hrel
            have hs := HSz2.out k hk
            by_cases hlt : k < n3
            · obtain ⟨bx, ox, rfl, g⟩ := HX2.out k hlt
              have hok := HOk2.out k hlt
              have HLn := hLn2 d k
              have hls := hLs2 d k
              have HC : Hid (catT (tx2 d) (heldT d) (k + 1) = catT (tx2 d) (heldT d) k ++ heldT d k) := rfl
              have HLw : Hid (heldT d k = lineB ⟨#[104, 101, 108, 100]⟩ [(d.held.getD k default).id]) := rfl
              have g0 := g
              have k0 := hok
              replace g0 := cell_keep (bstep hBq hbl) g0
              have x3 := cell_keep hbl y3
              have zb : bx < wr.heap.size := World.block_lt_of_cell? wr _ g0
              rw [HLw.out] at hls
              generalize catT (tx2 d) (heldT d) k = A at *
              generalize (d.held.getD k default).id = v0 at *
              generalize hLB : lineB ⟨#[104, 101, 108, 100]⟩ [v0] = LB at *
              have HLB : Hid (lineB ⟨#[104, 101, 108, 100]⟩ [v0] = LB) := hLB
              have HC2 : Hid (catT (tx2 d) (heldT d) (k + 1) = A ++ LB) := by show _ = _; rw [HC.out, HLw.out]; try rw [hLB]
              have hcat : ¬ 9223372036854775807 < A.size + LB.size := by omega
              have hti : (k : Int) < (n3 : Int) := by omega
              have hti0 : (0 : Int) ≤ (k : Int) := by omega
              clear hLB HLn HC HLw
              have hw10 : ((⟨#[104, 101, 108, 100]⟩ : ByteArray)).size ≤ 10 := by decide
              go_wp2_with fail
              refine (line1_any _ _ v0 _ hw10 (by simp [go_sem]) k0).mono ?_
              rintro e w3 ⟨rfl, hb3⟩
              rw [HLB.out]
              have hB4 : Below wq.heap.size wq w3 := bstep hbl (bstep (by (repeat (first | exact Below.refl _ _ | assumption | refine Below.drew ?_ | refine balloc ?_ _ | refine bset ?_ (by simp; omega) _ | refine bset ?_ (by simp) _ | refine bstep ?_ (by assumption)))) hb3)
              clear hb3
              go_wp2
              exact ⟨⟨k + 1, by omega, by go_num, by rw [HC2.out], hB4⟩, by simp [intOf]; omega⟩
            · obtain rfl : k = n3 := by omega
              have hti : ¬ (k : Int) < (k : Int) := by omega
              have x3 := cell_keep hbl y3
              have HPrev : Hid (catT (tx2 d) (heldT d) k = tx3 d) := hPv2.out
              rw [show catT (tx2 d) (heldT d) k = tx3 d from HPrev.out]
              go_wp2
              go_loopw [3, 7] (fun s i W => ∃ k : Nat, k ≤ n4 ∧ i = .int .i64 k ∧ s = .string (catT (tx3 d) (doneT d) k) ∧ Below wq.heap.size wq W) (fun _ i _ => n4 - (intOf i).toNat)
              case atStart => exact ⟨0, Nat.zero_le _, rfl, rfl, hbl⟩
              case round =>
                clear hbl
                obtain ⟨k, hk, rfl, rfl, hbl⟩ := hrel
                have hs := HSz3.out k hk
                by_cases hlt : k < n4
                · obtain ⟨bx, ox, rfl, g⟩ := HX3.out k hlt
                  have hok := HOk3.out k hlt
                  have HLn := hLn3 d k
                  have hls := hLs3 d k
                  have HC : Hid (catT (tx3 d) (doneT d) (k + 1) = catT (tx3 d) (doneT d) k ++ doneT d k) := rfl
                  have HLw : Hid (doneT d k = lineB ⟨#[100, 111, 110, 101]⟩ [(d.done.getD k default).con, (d.done.getD k default).val]) := rfl
                  obtain ⟨g0, g1⟩ := g
                  obtain ⟨k0, k1⟩ := hok
                  replace g0 := cell_keep (bstep hBq hbl) g0
                  replace g1 := cell_keep (bstep hBq hbl) g1
                  have x4 := cell_keep hbl y4
                  have zb : bx < wr.heap.size := World.block_lt_of_cell? wr _ g0
                  rw [HLw.out] at hls
                  generalize catT (tx3 d) (doneT d) k = A at *
                  generalize (d.done.getD k default).con = v0 at *
                  generalize (d.done.getD k default).val = v1 at *
                  generalize hLB : lineB ⟨#[100, 111, 110, 101]⟩ [v0, v1] = LB at *
                  have HLB : Hid (lineB ⟨#[100, 111, 110, 101]⟩ [v0, v1] = LB) := hLB
                  have HC2 : Hid (catT (tx3 d) (doneT d) (k + 1) = A ++ LB) := by show _ = _; rw [HC.out, HLw.out]; try rw [hLB]
                  have hcat : ¬ 9223372036854775807 < A.size + LB.size := by omega
                  have hti : (k : Int) < (n4 : Int) := by omega
                  have hti0 : (0 : Int) ≤ (k : Int) := by omega
                  clear hLB HLn HC HLw
                  have hw10 : ((⟨#[100, 111, 110, 101]⟩ : ByteArray)).size ≤ 10 := by decide
                  go_wp2
                  refine wp_region_noPanic ?_
                  refine region_upto (fun W => Below wr.heap.size wr W ∧ W.cell? ⟨w.heap.size, 4, none⟩ = some (.slice (some ⟨bx, ox, none⟩) n4 c4) ∧ W.cell? ⟨bx, ox + k * 2, none⟩ = some (.int .i64 v0) ∧ W.cell? ⟨bx, ox + k * 2 + 1, none⟩ = some (.int .i64 v1)) 17 (by kernel_rfl) ⟨by (repeat (first | exact Below.refl _ _ | assumption | refine Below.drew ?_ | refine balloc ?_ _ | refine bset ?_ (by simp; omega) _ | refine bset ?_ (by simp) _ | refine bstep ?_ (by assumption))), cell_keep (by (repeat (first | exact Below.refl _ _ | assumption | refine Below.drew ?_ | refine balloc ?_ _ | refine bset ?_ (by simp; omega) _ | refine bset ?_ (by simp) _ | refine bstep ?_ (by assumption)))) x4, cell_keep (by (repeat (first | exact Below.refl _ _ | assumption | refine Below.drew ?_ | refine balloc ?_ _ | refine bset ?_ (by simp; omega) _ | refine bset ?_ (by simp) _ | refine bstep ?_ (by assumption)))) g0, cell_keep (by (repeat (first | exact Below.refl _ _ | assumption | refine Below.drew ?_ | refine balloc ?_ _ | refine bset ?_ (by simp; omega) _ | refine bset ?_ (by simp) _ | refine bstep ?_ (by assumption)))) g1⟩ (fun hS => ?_)
                  refine upto_takeN (i := 0) (v := ?_) rfl (by kernel_rfl) (by kernel_rfl) (by kernel_rfl) (by kernel_rfl) (fun _ _ _ h => h) (by rfl) hS ?_ ?_
                  rotate_left
                  · intro wS hSw
                    try dsimp only at hSw
                    first | (go_simp; done) | (go_simp; with_reducible rfl)
                  try simp only [Act.put, List.getElem_toArray, List.getElem_cons_zero, List.getElem_cons_succ, List.setIfInBounds_toArray, List.set_cons_zero, List.set_cons_succ]
                  refine upto_takeN (i := 1) (v := ?_) rfl (by kernel_rfl) (by kernel_rfl) (by kernel_rfl) (by kernel_rfl) (fun _ _ _ h => h) (by rfl) hS ?_ ?_
                  rotate_left
                  · intro wS hSw
                    try dsimp only at hSw
                    first | (go_simp; done) | (go_simp; with_reducible rfl)
                  try simp only [Act.put, List.getElem_toArray, List.getElem_cons_zero, List.getElem_cons_succ, List.setIfInBounds_toArray, List.set_cons_zero, List.set_cons_succ]
                  refine upto_takeN (i := 2) (v := ?_) rfl (by kernel_rfl) (by kernel_rfl) (by kernel_rfl) (by kernel_rfl) (fun _ _ _ h => h) (by rfl) hS ?_ ?_
                  rotate_left
                  · intro wS hSw
                    try dsimp only at hSw
                    first | (go_simp; done) | (go_simp; with_reducible rfl)
                  try simp only [Act.put, List.getElem_toArray, List.getElem_cons_zero, List.getElem_cons_succ, List.setIfInBounds_toArray, List.set_cons_zero, List.set_cons_succ]
                  refine upto_takeN (i := 3) (v := ?_) rfl (by kernel_rfl) (by kernel_rfl) (by kernel_rfl) (by kernel_rfl) (fun _ _ _ h => h) (by rfl) hS ?_ ?_
                  rotate_left
                  · intro wS hSw
                    try dsimp only at hSw
                    first | (go_simp; done) | (go_simp; with_reducible rfl)
                  try simp only [Act.put, List.getElem_toArray, List.getElem_cons_zero, List.getElem_cons_succ, List.setIfInBounds_toArray, List.set_cons_zero, List.set_cons_succ]
                  refine upto_takeN (i := 4) (v := ?_) rfl (by kernel_rfl) (by kernel_rfl) (by kernel_rfl) (by kernel_rfl) (fun _ _ _ h => h) (by rfl) hS ?_ ?_
                  rotate_left
                  · intro wS hSw
                    try dsimp only at hSw
                    first | (go_simp; done) | (go_simp; with_reducible rfl)
                  try simp only [Act.put, List.getElem_toArray, List.getElem_cons_zero, List.getElem_cons_succ, List.setIfInBounds_toArray, List.set_cons_zero, List.set_cons_succ]
                  refine upto_takeN (i := 5) (v := ?_) rfl (by kernel_rfl) (by kernel_rfl) (by kernel_rfl) (by kernel_rfl) (fun _ _ _ h => h) (by rfl) hS ?_ ?_
                  rotate_left
                  · intro wS hSw
                    try dsimp only at hSw
                    first | (go_simp; done) | (go_simp; with_reducible rfl)
                  try simp only [Act.put, List.getElem_toArray, List.getElem_cons_zero, List.getElem_cons_succ, List.setIfInBounds_toArray, List.set_cons_zero, List.set_cons_succ]
                  refine upto_takeN (i := 6) (v := ?_) rfl (by kernel_rfl) (by kernel_rfl) (by kernel_rfl) (by kernel_rfl) (fun _ _ _ h => h) (by rfl) hS ?_ ?_
                  rotate_left
                  · intro wS hSw
                    try dsimp only at hSw
                    first | (go_simp; done) | (go_simp; with_reducible rfl)
                  try simp only [Act.put, List.getElem_toArray, List.getElem_cons_zero, List.getElem_cons_succ, List.setIfInBounds_toArray, List.set_cons_zero, List.set_cons_succ]
                  refine upto_takeN (i := 7) (v := ?_) rfl (by kernel_rfl) (by kernel_rfl) (by kernel_rfl) (by kernel_rfl) (fun _ _ _ h => h) (by rfl) hS ?_ ?_
                  rotate_left
                  · intro wS hSw
                    try dsimp only at hSw
                    first | (go_simp; done) | (go_simp; with_reducible rfl)
                  try simp only [Act.put, List.getElem_toArray, List.getElem_cons_zero, List.getElem_cons_succ, List.setIfInBounds_toArray, List.set_cons_zero, List.set_cons_succ]
                  refine upto_takeN (i := 8) (v := ?_) rfl (by kernel_rfl) (by kernel_rfl) (by kernel_rfl) (by kernel_rfl) (fun _ _ _ h => h) (by rfl) hS ?_ ?_
                  rotate_left
                  · intro wS hSw
                    try dsimp only at hSw
                    first | (go_simp; done) | (go_simp; with_reducible rfl)
                  try simp only [Act.put, List.getElem_toArray, List.getElem_cons_zero, List.getElem_cons_succ, List.setIfInBounds_toArray, List.set_cons_zero, List.set_cons_succ]
                  refine upto_takeN (i := 9) (v := ?_) rfl (by kernel_rfl) (by kernel_rfl) (by kernel_rfl) (by kernel_rfl) (fun _ _ _ h => h) (by rfl) hS ?_ ?_
                  rotate_left
                  · intro wS hSw
                    try dsimp only at hSw
                    first | (go_simp; done) | (go_simp; with_reducible rfl)
                  try simp only [Act.put, List.getElem_toArray, List.getElem_cons_zero, List.getElem_cons_succ, List.setIfInBounds_toArray, List.set_cons_zero, List.set_cons_succ]
                  refine upto_takeN (i := 10) (v := ?_) rfl (by kernel_rfl) (by kernel_rfl) (by kernel_rfl) (by kernel_rfl) (fun _ _ _ h => h) (by rfl) hS ?_ ?_
                  rotate_left
                  · intro wS hSw
                    try dsimp only at hSw
                    first | (go_simp; done) | (go_simp; with_reducible rfl)
                  try simp only [Act.put, List.getElem_toArray, List.getElem_cons_zero, List.getElem_cons_succ, List.setIfInBounds_toArray, List.set_cons_zero, List.set_cons_succ]
                  refine upto_takeN (i := 11) (v := ?_) rfl (by kernel_rfl) (by kernel_rfl) (by kernel_rfl) (by kernel_rfl) (fun _ _ _ h => h) (by rfl) hS ?_ ?_
                  rotate_left
                  · intro wS hSw
                    try dsimp only at hSw
                    first | (go_simp; done) | (go_simp; with_reducible rfl)
                  try simp only [Act.put, List.getElem_toArray, List.getElem_cons_zero, List.getElem_cons_succ, List.setIfInBounds_toArray, List.set_cons_zero, List.set_cons_succ]
                  refine upto_takeN (i := 12) (v := ?_) rfl (by kernel_rfl) (by kernel_rfl) (by kernel_rfl) (by kernel_rfl) (fun _ _ _ h => h) (by rfl) hS ?_ ?_
                  rotate_left
                  · intro wS hSw
                    try dsimp only at hSw
                    first | (go_simp; done) | (go_simp; with_reducible rfl)
                  try simp only [Act.put, List.getElem_toArray, List.getElem_cons_zero, List.getElem_cons_succ, List.setIfInBounds_toArray, List.set_cons_zero, List.set_cons_succ]
                  have hbd : Below wr.heap.size wr wr.drew := Below.drew (Below.refl _ _)
                  refine upto_step (i := 13) (by kernel_rfl) rfl ?_
                  intro K hK
                  go_simp
                  have hB2 : Below wr.heap.size wr (wr.drew.alloc (.cells #[.int .i64 v0, .int .i64 v1] 2)) := balloc hbd _
                  have hS2 : (fun W => Below wr.heap.size wr W ∧ W.cell? ⟨w.heap.size, 4, none⟩ = some (.slice (some ⟨bx, ox, none⟩) n4 c4) ∧ W.cell? ⟨bx, ox + k * 2, none⟩ = some (.int .i64 v0) ∧ W.cell? ⟨bx, ox + k * 2 + 1, none⟩ = some (.int .i64 v1)) (wr.drew.alloc (.cells #[.int .i64 v0, .int .i64 v1] 2)) := ⟨hB2, cell_keep hB2 x4, cell_keep hB2 g0, cell_keep hB2 g1⟩
                  refine hK _ _ (fun _ => hS2) ?_
                  clear hK K
                  try simp only [Act.put, List.getElem_toArray, List.getElem_cons_zero, List.getElem_cons_succ, List.setIfInBounds_toArray, List.set_cons_zero, List.set_cons_succ]
                  refine upto_step (i := 14) (by kernel_rfl) rfl ?_
                  intro K hK
                  go_simp
                  refine (line2_any _ _ v0 v1 _ hw10 (by simp [go_sem]) (by simp [go_sem]) k0 k1).mono ?_
                  rintro e w3 ⟨rfl, hb3⟩
                  rw [HLB.out]
                  have hB3 : Below wr.heap.size wr w3 := bstep hB2 hb3
                  have hS3 : (fun W => Below wr.heap.size wr W ∧ W.cell? ⟨w.heap.size, 4, none⟩ = some (.slice (some ⟨bx, ox, none⟩) n4 c4) ∧ W.cell? ⟨bx, ox + k * 2, none⟩ = some (.int .i64 v0) ∧ W.cell? ⟨bx, ox + k * 2 + 1, none⟩ = some (.int .i64 v1)) w3 := ⟨hB3, cell_keep hB3 x4, cell_keep hB3 g0, cell_keep hB3 g1⟩
                  refine hK _ _ (fun _ => hS3) ?_
                  clear hK K
                  try simp only [Act.put, List.getElem_toArray, List.getElem_cons_zero, List.getElem_cons_succ, List.setIfInBounds_toArray, List.set_cons_zero, List.set_cons_succ]
                  refine upto_takeN (i := 15) (v := (.string (A ++ LB))) rfl (by kernel_rfl) (by kernel_rfl) (by kernel_rfl) (by kernel_rfl) (fun _ _ _ h => h) (by rfl) hS3 ?_ ?_
                  · intro wS hSw
                    try dsimp only at hSw
                    go_simp
                  try simp only [Act.put, List.getElem_toArray, List.getElem_cons_zero, List.getElem_cons_succ, List.setIfInBounds_toArray, List.set_cons_zero, List.set_cons_succ]
                  refine upto_takeN (i := 16) (v := ?_) rfl (by kernel_rfl) (by kernel_rfl) (by kernel_rfl) (by kernel_rfl) (fun _ _ _ h => h) (by rfl) hS3 ?_ ?_
                  rotate_left
                  · intro wS hSw
                    try dsimp only at hSw
                    first | (go_simp; done) | (go_simp; with_reducible rfl)
                  try simp only [Act.put, List.getElem_toArray, List.getElem_cons_zero, List.getElem_cons_succ, List.setIfInBounds_toArray, List.set_cons_zero, List.set_cons_succ]
                  refine upto_done (by kernel_rfl) ?_
                  refine NoPanic.normal ?_
                  have hB4 : Below wq.heap.size wq w3 := bstep hbl hB3
                  clear hS hS2 hS3 hB2 hbd hb3
                  go_wp2
                  exact ⟨⟨k + 1, by omega, by go_num, by rw [HC2.out], hB4⟩, by simp [intOf]; omega⟩
                · obtain rfl : k = n4 := by omega
                  have hti : ¬ (k : Int) < (k : Int) := by omega
                  have x4 := cell_keep hbl y4
                  have HPrev : Hid (catT (tx3 d) (doneT d) k = shTxt d) := hPv3.out
                  have HEnd := HPrev
                  rw [show catT (tx3 d) (doneT d) k = shTxt d from HPrev.out]
                  go_wp2
                  go_ret
                  exact ⟨rfl, bstep hBq hbl⟩
end Go.Proofs.YtndghenlapbaaaaGreatDoor

/-
  Numbers' texts, joins and builders: the library's contracts, laid at this program.
-/
namespace Go.Proofs.YtndghenlapbaaaaGreatDoor
open Go.Shelf
def Tryz.lays173_ren : Go.Shelf.Ren := ⟨fun | 173 => 76 | 246 => 99 | 283 => 113 | 284 => 114 | 285 => 115 | 286 => 116 | 129 => 136 | 317 => 137 | 318 => 138 | 319 => 139 | 320 => 140 | 337 => 150 | 338 => 151 | n => n, fun | 2 => 2 | 3 => 3 | 9 => 9 | 4 => 4 | 171 => 155 | 0 => 0 | 53 => 156 | 37 => 52 | 5 => 5 | 173 => 159 | 212 => 179 | 51 => 176 | 20 => 20 | 213 => 180 | 46 => 153 | 232 => 194 | 233 => 195 | n => n, fun | 17 => 0 | 18 => 2 | 19 => 3 | n => n⟩
theorem Tryz.lays173 : Go.Proofs.LaysM.n173 Tryz.prog Tryz.lays173_ren := {
  mixed := by kernel_rfl
  f129 := Tryz.func136.trans (congrArg some (by kernel_rfl))
  f173 := Tryz.func76.trans (congrArg some (by kernel_rfl))
  f246 := Tryz.func99.trans (congrArg some (by kernel_rfl))
  f283 := Tryz.func113.trans (congrArg some (by kernel_rfl))
  f284 := Tryz.func114.trans (congrArg some (by kernel_rfl))
  f285 := Tryz.func115.trans (congrArg some (by kernel_rfl))
  f286 := Tryz.func116.trans (congrArg some (by kernel_rfl))
  f317 := Tryz.func137.trans (congrArg some (by kernel_rfl))
  f318 := Tryz.func138.trans (congrArg some (by kernel_rfl))
  f319 := Tryz.func139.trans (congrArg some (by kernel_rfl))
  f320 := Tryz.func140.trans (congrArg some (by kernel_rfl))
  f337 := Tryz.func150.trans (congrArg some (by kernel_rfl))
  f338 := Tryz.func151.trans (congrArg some (by kernel_rfl))
  t0 := Tryz.underlying0
  a0 := Tryz.isAgg0
  z0 := Tryz.sizeOf0
  v0 := Tryz.zeroValue0
  t2 := Tryz.underlying2
  a2 := Tryz.isAgg2
  z2 := Tryz.sizeOf2
  v2 := Tryz.zeroValue2
  t3 := Tryz.underlying3
  a3 := Tryz.isAgg3
  z3 := Tryz.sizeOf3
  v3 := Tryz.zeroValue3
  t4 := Tryz.underlying4
  a4 := Tryz.isAgg4
  z4 := Tryz.sizeOf4
  v4 := Tryz.zeroValue4
  t5 := Tryz.underlying5
  a5 := Tryz.isAgg5
  z5 := Tryz.sizeOf5
  v5 := Tryz.zeroValue5
  t9 := Tryz.underlying9
  a9 := Tryz.isAgg9
  z9 := Tryz.sizeOf9
  v9 := Tryz.zeroValue9
  t20 := Tryz.underlying20
  a20 := Tryz.isAgg20
  z20 := Tryz.sizeOf20
  v20 := Tryz.zeroValue20
  t37 := Tryz.underlying52
  a37 := Tryz.isAgg52
  z37 := Tryz.sizeOf52
  v37 := Tryz.zeroValue52
  t46 := Tryz.underlying153
  a46 := Tryz.isAgg153
  z46 := Tryz.sizeOf153
  v46 := Tryz.zeroValue153
  t51 := Tryz.underlying176
  a51 := Tryz.isAgg176
  z51 := Tryz.sizeOf176
  v51 := Tryz.zeroValue176
  t53 := Tryz.underlying156
  a53 := Tryz.isAgg156
  z53 := Tryz.sizeOf156
  v53 := Tryz.zeroValue156
  t171 := Tryz.underlying155
  a171 := Tryz.isAgg155
  z171 := Tryz.sizeOf155
  v171 := Tryz.zeroValue155
  t173 := Tryz.underlying159
  a173 := Tryz.isAgg159
  z173 := Tryz.sizeOf159
  v173 := Tryz.zeroValue159
  t212 := Tryz.underlying179
  a212 := Tryz.isAgg179
  z212 := Tryz.sizeOf179
  v212 := Tryz.zeroValue179
  t213 := Tryz.underlying180
  a213 := Tryz.isAgg180
  z213 := Tryz.sizeOf180
  t232 := Tryz.underlying194
  a232 := Tryz.isAgg194
  z232 := Tryz.sizeOf194
  v232 := Tryz.zeroValue194
  t233 := Tryz.underlying195
  a233 := Tryz.isAgg195
  z233 := Tryz.sizeOf195
  v233 := Tryz.zeroValue195
  g17 := by kernel_rfl
  g18 := by kernel_rfl
  g19 := by kernel_rfl
  i0 := by kernel_rfl
  i2 := by kernel_rfl
  i3 := by kernel_rfl
  i4 := by kernel_rfl
  i5 := by kernel_rfl
  i9 := by kernel_rfl
  i20 := by kernel_rfl
  i37 := by kernel_rfl
  i46 := by kernel_rfl
  i51 := by kernel_rfl
  i53 := by kernel_rfl
  i171 := by kernel_rfl
  i173 := by kernel_rfl
  i212 := by kernel_rfl
  i232 := by kernel_rfl
  i233 := by kernel_rfl
  m17 := by kernel_rfl
  m18 := by kernel_rfl
  m19 := by kernel_rfl }
def Tryz.lays156_ren : Go.Shelf.Ren := ⟨fun | 156 => 77 | 165 => 100 | 166 => 21 | 169 => 23 | 240 => 42 | 241 => 117 | 276 => 75 | 277 => 141 | n => n, fun | 31 => 92 | 9 => 9 | 3 => 3 | 4 => 4 | 0 => 0 | 20 => 20 | 72 => 54 | 76 => 57 | 70 => 51 | 37 => 52 | 75 => 56 | 127 => 95 | 164 => 126 | 5 => 5 | 80 => 67 | n => n, fun | n => n⟩
theorem Tryz.lays156 : Go.Proofs.Lays.n156 Tryz.prog Tryz.lays156_ren := {
  mixed := by kernel_rfl
  f156 := Tryz.func77.trans (congrArg some (by kernel_rfl))
  f165 := Tryz.func100.trans (congrArg some (by kernel_rfl))
  f166 := Tryz.func21.trans (congrArg some (by kernel_rfl))
  f169 := Tryz.func23.trans (congrArg some (by kernel_rfl))
  f240 := Tryz.func42.trans (congrArg some (by kernel_rfl))
  f241 := Tryz.func117.trans (congrArg some (by kernel_rfl))
  f276 := Tryz.func75.trans (congrArg some (by kernel_rfl))
  f277 := Tryz.func141.trans (congrArg some (by kernel_rfl))
  t0 := Tryz.underlying0
  a0 := Tryz.isAgg0
  z0 := Tryz.sizeOf0
  v0 := Tryz.zeroValue0
  t3 := Tryz.underlying3
  a3 := Tryz.isAgg3
  z3 := Tryz.sizeOf3
  v3 := Tryz.zeroValue3
  t4 := Tryz.underlying4
  a4 := Tryz.isAgg4
  z4 := Tryz.sizeOf4
  v4 := Tryz.zeroValue4
  t9 := Tryz.underlying9
  a9 := Tryz.isAgg9
  z9 := Tryz.sizeOf9
  v9 := Tryz.zeroValue9
  t20 := Tryz.underlying20
  a20 := Tryz.isAgg20
  z20 := Tryz.sizeOf20
  v20 := Tryz.zeroValue20
  t31 := Tryz.underlying92
  a31 := Tryz.isAgg92
  z31 := Tryz.sizeOf92
  v31 := Tryz.zeroValue92
  t37 := Tryz.underlying52
  a37 := Tryz.isAgg52
  z37 := Tryz.sizeOf52
  v37 := Tryz.zeroValue52
  t70 := Tryz.underlying51
  a70 := Tryz.isAgg51
  z70 := Tryz.sizeOf51
  v70 := Tryz.zeroValue51
  t72 := Tryz.underlying54
  a72 := Tryz.isAgg54
  z72 := Tryz.sizeOf54
  v72 := Tryz.zeroValue54
  t75 := Tryz.underlying56
  a75 := Tryz.isAgg56
  z75 := Tryz.sizeOf56
  v75 := Tryz.zeroValue56
  t76 := Tryz.underlying57
  a76 := Tryz.isAgg57
  z76 := Tryz.sizeOf57
  v76 := Tryz.zeroValue57
  t127 := Tryz.underlying95
  a127 := Tryz.isAgg95
  z127 := Tryz.sizeOf95
  v127 := Tryz.zeroValue95
  t164 := Tryz.underlying126
  a164 := Tryz.isAgg126
  z164 := Tryz.sizeOf126
  v164 := Tryz.zeroValue126 }
theorem Tryz.extra156 : Builder.Extra Tryz.prog Tryz.lays156_ren := {
  sizeBuilder := by kernel_rfl
  liesBuilder := by kernel_rfl
  t5 := Tryz.underlying5
  a5 := Tryz.isAgg5
  z5 := Tryz.sizeOf5
  v5 := Tryz.zeroValue5
  infoByte := by kernel_rfl
  cellsByte := by kernel_rfl
  sizeByte := by kernel_rfl
  neB5 := by decide }
def Tryz.lays169_ren : Go.Shelf.Ren := ⟨fun | 169 => 23 | n => n, fun | 70 => 51 | 9 => 9 | 0 => 0 | 72 => 54 | 37 => 52 | 127 => 95 | 3 => 3 | 5 => 5 | n => n, fun | n => n⟩
theorem Tryz.lays169 : Go.Proofs.Lays.n169 Tryz.prog Tryz.lays169_ren := {
  mixed := by kernel_rfl
  f169 := Tryz.func23.trans (congrArg some (by kernel_rfl))
  t0 := Tryz.underlying0
  a0 := Tryz.isAgg0
  z0 := Tryz.sizeOf0
  v0 := Tryz.zeroValue0
  t3 := Tryz.underlying3
  a3 := Tryz.isAgg3
  z3 := Tryz.sizeOf3
  v3 := Tryz.zeroValue3
  t9 := Tryz.underlying9
  a9 := Tryz.isAgg9
  z9 := Tryz.sizeOf9
  v9 := Tryz.zeroValue9
  t37 := Tryz.underlying52
  a37 := Tryz.isAgg52
  z37 := Tryz.sizeOf52
  v37 := Tryz.zeroValue52
  t70 := Tryz.underlying51
  a70 := Tryz.isAgg51
  z70 := Tryz.sizeOf51
  v70 := Tryz.zeroValue51
  t72 := Tryz.underlying54
  a72 := Tryz.isAgg54
  z72 := Tryz.sizeOf54
  v72 := Tryz.zeroValue54
  t127 := Tryz.underlying95
  a127 := Tryz.isAgg95
  z127 := Tryz.sizeOf95
  v127 := Tryz.zeroValue95 }
theorem Tryz.extra169 : Builder.Extra Tryz.prog Tryz.lays169_ren := {
  sizeBuilder := by kernel_rfl
  liesBuilder := by kernel_rfl
  t5 := Tryz.underlying5
  a5 := Tryz.isAgg5
  z5 := Tryz.sizeOf5
  v5 := Tryz.zeroValue5
  infoByte := by kernel_rfl
  cellsByte := by kernel_rfl
  sizeByte := by kernel_rfl
  neB5 := by decide }
end Go.Proofs.YtndghenlapbaaaaGreatDoor

/-
  Numbers and lines, the program's.
-/
set_option linter.unusedSimpArgs false
set_option linter.unusedVariables false
namespace Go.Proofs.YtndghenlapbaaaaGreatDoor
open Go.RowKit
set_option linter.unusedSectionVars false
variable [DecidableEq Leg] [Inhabited Leg] [DecidableEq Bal] [Inhabited Bal] [DecidableEq Mrk] [Inhabited Mrk] [DecidableEq Cont] [Inhabited Cont] [DecidableEq Shd] [Inhabited Shd]
attribute [local go_sem ↓] Go.wp_at_zero Go.wp_at_succ

theorem ba_append (a b : ByteArray) : (a ++ b).data.toList = a.data.toList ++ b.data.toList := by simp
theorem ba_ext {a b : ByteArray} (h : a.data.toList = b.data.toList) : a = b := by
  obtain ⟨⟨x⟩⟩ := a
  obtain ⟨⟨y⟩⟩ := b
  simp at h
  rw [h]
theorem dig1_list {d : Nat} (h : d < 10) : (dig1 d).data.toList = [UInt8.ofNat (48 + d)] := by
  have e : (48 + d) % 256 = 48 + d := by omega
  have e2 : ((48 : Int) + (d : Int)).toNat = 48 + d := by omega
  simp only [dig1, bstr, strOfNums, Fin.ofNat, e, List.map_cons, List.map_nil, List.toList_toArray]
  congr 2
theorem dec_dig : ∀ (f u : Nat), u < 10 ^ (f + 1) → Lib.decDigits u = (digF f u).data.toList
  | 0, u, h => by
    have h1 : u < 10 := by simpa using h
    rw [Lib.decDigits_one h1, digF_small h1, dig1_list h1]
  | f + 1, u, h => by
    by_cases h1 : u < 10
    · rw [Lib.decDigits_one h1, digF_small h1, dig1_list h1]
    · have hq : u / 10 < 10 ^ (f + 1) := by
        rw [Nat.pow_succ] at h
        exact Nat.div_lt_of_lt_mul (by rw [Nat.mul_comm]; exact h)
      rw [Lib.decDigits, dif_neg h1, digF_great h1, ba_append, dec_dig f (u / 10) hq, dig1_list (Nat.mod_lt _ (by omega))]
theorem itoa_dig {n : Int} (h : okN n) : (⟨(Lib.itoa n).toArray⟩ : ByteArray) = digF 20 n.toNat := by
  have e : Lib.itoa n = Lib.decDigits n.toNat := by unfold Lib.itoa; rw [if_neg (by have := h.1; omega)]
  have hp : (10 : Nat) ^ 21 = 1000000000000000000000 := by decide
  refine ba_ext ?_
  rw [e, dec_dig 20 n.toNat (by have := h.2; omega)]
def TabW (w : World) : Prop := Lib.TabIs Tryz.prog w "internal/strconv.uint64pow10" .u64 Lib.pow10Tab
theorem TabW.below {w w' : World} (h : TabW w) (hb : Below w.heap.size w w') : TabW w' := by
  unfold TabW Lib.TabIs World.var? at h ⊢
  generalize Tryz.prog.globalNamed "internal/strconv.uint64pow10" = og at *
  cases og with
  | none => cases h
  | some g =>
    simp only [Option.bind_some] at h ⊢
    have hlt : g < w.heap.size := by
      rcases Nat.lt_or_ge g w.heap.size with h' | h'
      · exact h'
      · rw [Array.getElem?_eq_none h'] at h; cases h
    rw [hb.block g hlt]
    exact h
theorem grow_below (w : World) (k : Nat) (os : Array Obj) : Below w.heap.size w (Go.Sort.grow (w.drewN k) os) := by
  refine ⟨rfl, rfl, rfl, ?_, fun i hi => ?_⟩
  · show w.heap.size ≤ (w.heap ++ os).size
    rw [Array.size_append]
    omega
  · show (w.heap ++ os)[i]? = w.heap[i]?
    rw [Array.getElem?_append_left hi]
theorem fmt10_any (n : Int) (w : World) (hn : okN n) (ht : TabW w) :
    Calls Tryz.prog 76 #[.int .i64 n, .int .i64 10] w fun e w' => e = .returned (.string (digF 20 n.toNat)) ∧ Below w.heap.size w w' := by
  have h : Calls Tryz.prog 76 #[.int .i64 n, .int .i64 10] w fun e w' => e = .returned (.string ⟨(Lib.itoa n).toArray⟩) ∧ ∃ k os, w' = Go.Sort.grow (w.drewN k) os := Any.strconv_FormatInt_10 Tryz.lays173 n (by have := hn.1; omega) hn.2 w ht
  refine h.mono ?_
  rintro e w' ⟨rfl, k, os, rfl⟩
  exact ⟨by rw [itoa_dig hn], grow_below w k os⟩
theorem decimal_any (n : Int) (w : World) (hn : okN n) (ht : TabW w) :
    Calls Tryz.prog 43 #[.int .i64 n] w fun e w' => e = .returned (.string (digF 20 n.toNat)) ∧ Below w.heap.size w w' := by
  go_enter Tryz.func43, Tryz.ntmps43
  go_wp2_with fail
  refine (fmt10_any n _ hn ht).mono ?_
  rintro e w1 ⟨rfl, hb1⟩
  go_wp2
  go_ret
  exact ⟨rfl, hb1⟩
def wdsB (wd : ByteArray) (ns : List Int) : List ByteArray := wd :: ns.map (fun n => digF 20 n.toNat)
theorem join_numsB (wd : ByteArray) (ns : List Int) : (⟨(Lib.join ((wdsB wd ns).map (·.data.toList)) spB.data.toList).toArray⟩ : ByteArray) = numsB wd ns := by
  refine ba_ext ?_
  have h : ∀ k, k ≤ ns.length → Lib.join ((wdsB wd (ns.take k)).map (·.data.toList)) spB.data.toList = (numsB wd (ns.take k)).data.toList := fun k => by
    induction k with
    | zero => intro _; simp [wdsB, numsB, Lib.join_one]
    | succ k ih =>
      intro hk
      have ih' := ih (by omega)
      rw [numsB_take wd ns (by omega), ba_append, ba_append, ← ih']
      have e : ns.take (k + 1) = ns.take k ++ [ns.getD k 0] := by rw [List.take_add_one]; simp [List.getD, show k < ns.length by omega]
      unfold wdsB
      rw [e, List.map_cons, List.map_cons, Lib.join_cons, Lib.join_cons]
      simp [Lib.joinTail]
  have := h ns.length (Nat.le_refl _)
  rw [List.take_length] at this
  simpa using this
theorem join_len {wd : ByteArray} {ns : List Int} (h1 : wd.size ≤ 100) (h2 : ns.length ≤ 10) : (Lib.join ((wdsB wd ns).map (·.data.toList)) spB.data.toList).length ≤ 1000 := by
  have e := congrArg ByteArray.size (join_numsB wd ns)
  have h := numsB_size wd ns
  have e2 : (⟨(Lib.join ((wdsB wd ns).map (·.data.toList)) spB.data.toList).toArray⟩ : ByteArray).size = (Lib.join ((wdsB wd ns).map (·.data.toList)) spB.data.toList).length := by simp [ByteArray.size]
  omega
theorem lineOf_any (wd : ByteArray) (ns : List Int) (g c : Nat) (w : World) (hc : ∀ (j : Nat) x, (wdsB wd ns)[j]? = some x → w.cell? ⟨g, j, none⟩ = some (.string x)) (hg : g < w.heap.size) (hcap : ns.length + 1 ≤ c) (h1 : wd.size ≤ 100) (h2 : ns.length ≤ 10) :
    Calls Tryz.prog 44 #[.slice (some ⟨g, 0, none⟩) (ns.length + 1) c] w fun e w' => e = .returned (.string (lineB wd ns)) ∧ Below w.heap.size w w' := by
  have hl := join_len h1 h2
  have hw : (wdsB wd ns).length = ns.length + 1 := by simp [wdsB]
  have HJ : Hid (Calls Tryz.prog 77 #[.slice (some ⟨g, 0, none⟩) (ns.length + 1) c, .string ⟨#[32]⟩] w fun e w' => e = .returned (.string (numsB wd ns)) ∧ Below w.heap.size w w') := by
    have h : Calls Tryz.prog 77 #[.slice (some ⟨g, 0, none⟩) (wdsB wd ns).length c, .string spB] w fun e w' => e = .returned (.string ⟨(Lib.join ((wdsB wd ns).map (·.data.toList)) spB.data.toList).toArray⟩) ∧ Below w.heap.size w w' := Any.strings_Join Tryz.lays156 Tryz.extra156 g 0 c (wdsB wd ns) spB w (fun j x hj => by rw [Nat.zero_add]; exact hc j x hj) hg (by rw [hw]; omega) (by rw [hw]; exact hcap) (by omega)
    rw [hw, join_numsB] at h
    exact h
  have hs := numsB_size wd ns
  have hcat : ¬ 9223372036854775807 < (numsB wd ns).size + 1 := by omega
  clear hl hw hc
  generalize ns.length + 1 = m at *
  go_enter Tryz.func44, Tryz.ntmps44
  go_wp2_with fail
  refine HJ.out.mono ?_
  rintro e w1 ⟨rfl, hb1⟩
  go_wp2
  go_ret
  exact ⟨rfl, hb1⟩
end Go.Proofs.YtndghenlapbaaaaGreatDoor

/-
  A row of a table: the law's own copy, comparison, count; RowFault on both sides.
-/
namespace Go.Proofs.YtndghenlapbaaaaGreatDoor
open Go.RowKit
set_option linter.unusedSectionVars false
attribute [local go_sem ↓] Go.wp_at_zero Go.wp_at_succ
set_option linter.unusedSimpArgs false

structure Rw where
  key : ByteArray
  ver : Int
  val : ByteArray
  gone : Bool
variable [DecidableEq Rw] [Inhabited Rw]

end Go.Proofs.YtndghenlapbaaaaGreatDoor


import Derived.Test.YtackhljepbhpgaaGreatPrnSettledAtLaw21
import Derived.BigQuiet
import Derived.Deep.QuietTactic
import Derived.Deep.RegionHeld3
import Derived.Defers
import Derived.Recover
import Derived.Laws.Pointers
import Derived.Test.YtackhljepbhpgaaGreatPrnSettledAtLaw20
set_option maxHeartbeats 8000000
set_option maxRecDepth 20000
set_option linter.unusedSimpArgs false
set_option linter.unusedVariables false
set_option linter.unusedSectionVars false

namespace Go.Proofs.YtackhljepbhpgaaGreat
open Go.RowKit
variable [DecidableEq Rw] [Inhabited Rw] [DecidableEq Bal] [Inhabited Bal] [DecidableEq Ledg] [Inhabited Ledg] [DecidableEq Leg] [Inhabited Leg] [DecidableEq Cont] [Inhabited Cont] [DecidableEq LedgR] [Inhabited LedgR] [DecidableEq OutcR] [Inhabited OutcR] [DecidableEq Mrk] [Inhabited Mrk] [DecidableEq Shd] [Inhabited Shd] [DecidableEq ShdR] [Inhabited ShdR]
attribute [local go_sem ↓] Go.wp_at_zero Go.wp_at_succ

theorem inDoubtF_any (x : Value) (d : Shd) (w : World) (hx : shdR.V w x d) (hok : LsOk d) :
  Calls Tryz.prog 191 #[x] w fun e w' => e = .returned (.int .i64 (scanI (heldAt d) d.held.length)) ∧ Below w.heap.size w w' := by
 have HAw : Hid (∀ W c, Below w.heap.size w W → Calls Tryz.prog 220 #[x, .int .i64 c] W fun e w' => e = .returned (.bool (awaitB d c)) ∧ Below W.heap.size W w') := fun W c hW => awaits_any x d c W (shdR.below hx hW) ⟨by have := hok.nv; omega, by have := hok.nd; omega⟩ hok.ov hok.od
 obtain ⟨u1, u2, u3, u4, u5, rfl, h1, h2, h3, h4, h5⟩ := hx
 have HX3 : Hid (∃ a c, u3 = .slice a d.held.length c ∧ d.held.length ≤ c ∧ c ≤ maxLen ∧ ∀ k, k < d.held.length → ∃ b o p q, a = some ⟨b, o, none⟩ ∧ w.cell? ⟨b, o + k * 2, none⟩ = some (.int .i64 (d.held.getD k default).id) ∧ w.cell? ⟨b, o + k * 2 + 1, none⟩ = some (.slice p (d.held.getD k default).legs.length q) ∧ contR.V w (.agg #[.int .i64 (d.held.getD k default).id, .slice p (d.held.getD k default).legs.length q]) (d.held.getD k default)) := conts_at h3
 obtain ⟨a1, c1, rfl⟩ := bals_form h1; obtain ⟨a2, c2, rfl⟩ := mrks_form h2; obtain ⟨a3, c3, rfl⟩ := conts_form h3; obtain ⟨a4, c4, rfl⟩ := mrks_form h4; obtain ⟨a5, c5, rfl⟩ := ints_form h5; obtain ⟨_, _, e3, hc3, hm3, hx3⟩ := HX3.out
 simp only [Value.slice.injEq, true_and] at e3
 obtain ⟨rfl, rfl⟩ := e3
 unfold maxLen at hm3
 have HX : Hid (∀ k, k < d.held.length → ∃ b o p q, a3 = some ⟨b, o, none⟩ ∧ w.cell? ⟨b, o + k * 2, none⟩ = some (.int .i64 (d.held.getD k default).id) ∧ w.cell? ⟨b, o + k * 2 + 1, none⟩ = some (.slice p (d.held.getD k default).legs.length q) ∧ contR.V w (.agg #[.int .i64 (d.held.getD k default).id, .slice p (d.held.getD k default).legs.length q]) (d.held.getD k default)) := hx3
 have HHe : Hid (∀ k c, k < d.held.length → scanI (heldAt d) k = 0 → heldAt d k = c → c ≠ 0 → scanI (heldAt d) d.held.length = c) := fun k c hk hs h hc => by rw [scanI_hit hs (by rw [h]; exact hc) _ hk, h]
 clear h1 h2 h3 h4 h5 hok HX3 hx3; generalize d.bals.length = n1 at *; generalize d.votes.length = n2 at *; generalize d.held.length = n3 at *; generalize d.done.length = n4 at *; generalize d.appl.length = n5 at *
 obtain ⟨Z, hZ⟩ : ∃ Z, Z = scanI (heldAt d) n3 := ⟨_, rfl⟩
 have HZ : Hid (Z = scanI (heldAt d) n3) := hZ
 rw [← hZ] at HHe ⊢
 clear hZ
 go_enter Tryz.func191, Tryz.ntmps191
 go_wp2
 go_loopw [10] (fun i w' => ∃ k : Nat, k ≤ n3 ∧ i = .int .i64 k ∧ Hid (scanI (heldAt d) k = 0) ∧ (w'.cell? ⟨w.heap.size, 0, none⟩ = some (.int .i64 d.idx) ∧ w'.cell? ⟨w.heap.size, 1, none⟩ = some (.slice a1 n1 c1) ∧ w'.cell? ⟨w.heap.size, 2, none⟩ = some (.slice a2 n2 c2) ∧ w'.cell? ⟨w.heap.size, 3, none⟩ = some (.slice a3 n3 c3) ∧ w'.cell? ⟨w.heap.size, 4, none⟩ = some (.slice a4 n4 c4) ∧ w'.cell? ⟨w.heap.size, 5, none⟩ = some (.slice a5 n5 c5)) ∧ Below w.heap.size w w') (fun i _ => n3 - (intOf i).toNat)
 case atStart => exact ⟨0, Nat.zero_le _, rfl, rfl, by simp [go_sem], qBq⟩
 case round =>
  obtain ⟨k, hk, rfl, HS, ⟨y0, y1, y2, y3, y4, y5⟩, hbl⟩ := hrel
  have zq : w.heap.size < wr.heap.size := wL wr _ y0
  by_cases hlt : k < n3
  ·
   obtain ⟨bx, ox, pp, qq, rfl, g0, g1, hV⟩ := HX.out k hlt; obtain ⟨ul, hul, hvl⟩ := hV
   simp only [Value.agg.injEq, Array.mk.injEq, List.cons.injEq, and_true, true_and] at hul
   subst hul
   have HC1 : Hid (∀ W, Below wr.heap.size wr W → Calls Tryz.prog 107 #[.agg #[.int .i64 (d.held.getD k default).id, .slice pp (d.held.getD k default).legs.length qq]] W fun e w' => e = .returned (.int .i64 (contractFault (d.held.getD k default).id (d.held.getD k default).legs)) ∧ Below W.heap.size W w') := fun W hW => implFault_any _ _ _ W (legsR.below hvl (bS hbl hW))
   have HC2 : Hid (∀ W, Below wr.heap.size wr W → contractFault (d.held.getD k default).id (d.held.getD k default).legs = 0 → Calls Tryz.prog 108 #[.slice pp (d.held.getD k default).legs.length qq, .int .i64 d.idx] W fun e w' => ∃ v, e = .returned v ∧ w'.ownsRow W.heap.size 152 4 v (legsH d k).length (legsC (legsH d k)) ∧ Below W.heap.size W w') := fun W hW h0 => legsOn_any _ _ _ W (legsR.below hvl (bS hbl hW)) (by have := (cf_inv h0).2.2.1; omega)
   have HC3 : Hid (∀ W, Below wr.heap.size wr W → Calls Tryz.prog 220 #[.agg #[.int .i64 d.idx, .slice a1 n1 c1, .slice a2 n2 c2, .slice (some ⟨bx, ox, none⟩) n3 c3, .slice a4 n4 c4, .slice a5 n5 c5], .int .i64 (d.held.getD k default).id] W fun e w' => e = .returned (.bool (awaitB d (d.held.getD k default).id)) ∧ Below W.heap.size W w') := fun W hW => HAw.out W _ (bS hbl hW)
   have HE1 : Hid (¬ contractFault (d.held.getD k default).id (d.held.getD k default).legs = 0 → Z = contractFault (d.held.getD k default).id (d.held.getD k default).legs) := fun h => HHe.out k _ hlt HS.out (heldAt_code h) h
   have HE2 : Hid (contractFault (d.held.getD k default).id (d.held.getD k default).legs = 0 → ¬ (riseC d.held k = true ∧ ¬ (legsH d k).length = 0 ∧ awaitB d (d.held.getD k default).id = true) → Z = 1) := fun h h2 => HHe.out k 1 hlt HS.out (heldAt_bad h (fun h3 => h2 ⟨h3.1, h3.2.1, by unfold awaitB; rw [h3.2.2.1, h3.2.2.2]; rfl⟩)) (by omega)
   have HE3 : Hid (contractFault (d.held.getD k default).id (d.held.getD k default).legs = 0 → (riseC d.held k = true ∧ ¬ (legsH d k).length = 0 ∧ awaitB d (d.held.getD k default).id = true) → scanI (heldAt d) (k + 1) = 0) := fun h h2 => scanI_succ HS.out (heldAt_ok h (by
    have h3 := h2.2.2
    unfold awaitB at h3
    simp at h3
    exact ⟨h2.1, h2.2.1, h3.1, h3.2⟩))
   have HPre : Hid (∀ m, k = m + 1 → ∃ q, wr.cell? ⟨bx, ox + m * 2, none⟩ = some (.int .i64 q) ∧ (riseC d.held k = decide (q < (d.held.getD k default).id))) := fun m hm => by
    obtain ⟨bx', ox', _, _, he, g2, _, _⟩ := HX.out m (by omega)
    simp only [Option.some.injEq, Addr.mk.injEq, and_true] at he
    obtain ⟨rfl, rfl⟩ := he
    refine ⟨_, cK hbl g2, ?_⟩
    unfold riseC
    rw [hm, Nat.add_sub_cancel, decide_eq_decide]
    constructor
    ·
     rintro (h | h)
     ·
      omega
     ·
      exact h
    ·
     exact .inr
   have HR0 : Hid (k = 0 → riseC d.held k = true) := fun h => by unfold riseC; exact decide_eq_true (.inl h)
   replace g0 := cK hbl g0; replace g1 := cK hbl g1; clear hvl HHe HS; generalize (d.held.getD k default).legs.length = ll at *; generalize contractFault (d.held.getD k default).id (d.held.getD k default).legs = cf at *; generalize awaitB d (d.held.getD k default).id = aw at *; generalize (d.held.getD k default).id = qid at *
   have zb : bx < wr.heap.size := wL wr _ g0
   go_wp2_with fail
   refine (HC1.out _ (qBq)).mono ?_
   rintro e w3 ⟨rfl, hb3⟩
   have hB3 : Below wr.heap.size wr w3 := bS (qBq) hb3
   have b0 : w3.cell? ⟨wr.heap.size, 0, none⟩ = some (.int .i64 qid) := cK hb3 (by simp [go_sem])
   have b1 : w3.cell? ⟨wr.heap.size, 1, none⟩ = some (.slice pp ll qq) := cK hb3 (by simp [go_sem])
   clear hb3 HC1
   by_cases hcf : cf = 0
   rotate_left
   ·
    have HC := HE1.out hcf
    have hcf' : (cf != 0) = true := by simp [hcf]
    clear HE1 HE2 HE3 HC2 HC3; go_wp2; go_ret
    exact ⟨by rw [HC]; rfl, qBq⟩
   have HC2' : Hid (∀ W, Below wr.heap.size wr W → Calls Tryz.prog 108 #[.slice pp ll qq, .int .i64 d.idx] W fun e w' => ∃ v, e = .returned v ∧ w'.ownsRow W.heap.size 152 4 v (legsH d k).length (legsC (legsH d k)) ∧ Below W.heap.size W w') := fun W hW => HC2.out W hW hcf
   have HE2' : Hid (¬ (riseC d.held k = true ∧ ¬ (legsH d k).length = 0 ∧ aw = true) → Z = 1) := fun h => HE2.out hcf h
   have HE3' : Hid ((riseC d.held k = true ∧ ¬ (legsH d k).length = 0 ∧ aw = true) → scanI (heldAt d) (k + 1) = 0) := fun h => HE3.out hcf h
   rw [hcf]
   clear HE1 HE2 HE3 HC2 hcf; replace g0 := cK hB3 g0; replace y0 := cK hB3 y0; replace y1 := cK hB3 y1; replace y2 := cK hB3 y2; replace y3 := cK hB3 y3; replace y4 := cK hB3 y4; replace y5 := cK hB3 y5
   have hz3 := hB3.size
   generalize hll : legsH d k = lgs at *; clear hll
   have HRS : Hid (riseC d.held k = true ∨ riseC d.held k = false) := by cases riseC d.held k <;> simp [Hid]
   cases k with
   | zero =>
    have hrs := HR0.out rfl
    rw [hrs] at HE2' HE3'
    simp only [Nat.zero_mul, Nat.add_zero] at g0 g1
    clear HPre HR0 hrs HRS; go_wp2
    go_quiet (fail)
    obtain ⟨w4, hw4⟩ : ∃ w4, w4 = w3.drewN nq := ⟨_, rfl⟩
    have hb4 : Below w3.heap.size w3 w4 := by rw [hw4]; exact bdrewN (Below.refl _ _) _
    rw [← hw4]
    clear hw4; replace y0 := cK hb4 y0; replace y1 := cK hb4 y1; replace y2 := cK hb4 y2; replace y3 := cK hb4 y3; replace y4 := cK hb4 y4; replace y5 := cK hb4 y5; replace b0 := cK hb4 b0; replace b1 := cK hb4 b1
    have hB4 : Below wr.heap.size wr w4 := bS hB3 hb4
    go_wp2_with fail
    refine (HC2'.out _ hB4).mono ?_
    rintro e w5 ⟨vl, rfl, ol, hb5⟩; obtain ⟨al, cl, rfl⟩ := owns_form ol; replace y0 := cK hb5 y0; replace y1 := cK hb5 y1; replace y2 := cK hb5 y2; replace y3 := cK hb5 y3; replace y4 := cK hb5 y4; replace y5 := cK hb5 y5; replace b0 := cK hb5 b0
    have hB5 : Below wr.heap.size wr w5 := bS hB4 hb5
    clear hb5 hb4 ol
    by_cases hl0 : lgs.length = 0
    ·
     have hl0' : (((lgs.length : Nat) : Int) == 0) = true := by simp [hl0]
     have HC := HE2'.out (fun h => h.2.1 hl0)
     clear HE2' HE3' hl0; generalize lgs.length = lg at *; go_wp2; go_ret
     exact ⟨by rw [HC]; rfl, qBq⟩
    have hl0' : (((lgs.length : Nat) : Int) == 0) = false := by simp; exact fun h => hl0 (by rw [h]; rfl)
    cases haw : aw
    ·
     have HC := HE2'.out (fun h => by rw [haw] at h; exact absurd h.2.2 (by decide))
     rw [haw] at HC3
     clear HE2' HE3' hl0 haw; generalize lgs.length = lg at *
     go_wp2_with (first | (go_at_call 220; refine (HC3.out _ (qBq)).mono ?_; rintro e w6 ⟨rfl, hb6⟩))
     go_ret
     exact ⟨by rw [HC]; rfl, qBq⟩
    ·
     have HC : Hid (scanI (heldAt d) (0 + 1) = 0) := HE3'.out ⟨by first | rfl | trivial, hl0, haw⟩
     rw [haw] at HC3
     clear HE2' HE3' hl0 haw; generalize lgs.length = lg at *
     go_wp2_with fail
     refine (HC3.out _ hB5).mono ?_
     rintro e w6 ⟨rfl, hb6⟩; replace y0 := cK hb6 y0; replace y1 := cK hb6 y1; replace y2 := cK hb6 y2; replace y3 := cK hb6 y3; replace y4 := cK hb6 y4; replace y5 := cK hb6 y5
     have hB6 : Below wr.heap.size wr w6 := bS hB5 hb6
     have hBw6 : Below w.heap.size w w6 := bS hbl hB6
     clear hb6; go_wp2
     exact ⟨⟨1, by omega, by go_num, HC, ⟨y0, y1, y2, y3, y4, y5⟩, hBw6⟩, by simp [intOf]; omega⟩
   | succ m =>
    obtain ⟨q, gq, hq⟩ := HPre.out m rfl; replace gq := cK hB3 gq; clear HPre HR0 HRS
    have hw1 : IntKind.i64.wrap (((m + 1 : Nat) : Int) - 1) = (m : Int) := by rw [IntKind.wrap_i64]; omega
    have hw2 : (((m + 1 : Nat) : Int) - 1) = (m : Int) := by omega
    have hw3 : IntKind.i64.wrap (m : Int) = (m : Int) := wrapId (by omega) (by omega)
    have e1 : ((m + 1 : Nat) : Int) < n3 := by omega
    have e2 : (m : Int) < n3 := by omega
    have e3 : (0 : Int) ≤ m := by omega
    have e4 : (((m + 1 : Nat) : Int) == 0) = false := by simp; omega
    have e5 : (0 : Int) ≤ ((m + 1 : Nat) : Int) := by omega
    obtain ⟨ii, hii⟩ : ∃ ii : Nat, ii = m + 1 := ⟨_, rfl⟩
    have HII : Hid (ii = m + 1) := hii
    rw [← hii] at g0 g1 hw1 hw2 e1 e4 e5 HE2' HE3' hlt hk hq ⊢
    clear hii
    have e6 : ¬ ii = 0 := by have := HII.out; omega
    by_cases hle : q < qid
    ·
     rw [decide_eq_true hle] at hq
     rw [hq] at HE2' HE3'
     have hle' : decide (q < qid) = true := decide_eq_true hle
     clear hq; go_wp2
     go_quiet (fail)
     obtain ⟨w4, hw4⟩ : ∃ w4, w4 = w3.drewN nq := ⟨_, rfl⟩
     have hb4 : Below w3.heap.size w3 w4 := by rw [hw4]; exact bdrewN (Below.refl _ _) _
     rw [← hw4]
     clear hw4; replace y0 := cK hb4 y0; replace y1 := cK hb4 y1; replace y2 := cK hb4 y2; replace y3 := cK hb4 y3; replace y4 := cK hb4 y4; replace y5 := cK hb4 y5; replace b0 := cK hb4 b0; replace b1 := cK hb4 b1
     have hB4 : Below wr.heap.size wr w4 := bS hB3 hb4
     go_wp2_with fail
     refine (HC2'.out _ hB4).mono ?_
     rintro e w5 ⟨vl, rfl, ol, hb5⟩; obtain ⟨al, cl, rfl⟩ := owns_form ol; replace y0 := cK hb5 y0; replace y1 := cK hb5 y1; replace y2 := cK hb5 y2; replace y3 := cK hb5 y3; replace y4 := cK hb5 y4; replace y5 := cK hb5 y5; replace b0 := cK hb5 b0
     have hB5 : Below wr.heap.size wr w5 := bS hB4 hb5
     clear hb5 hb4 ol
     by_cases hl0 : lgs.length = 0
     ·
      have hl0' : (((lgs.length : Nat) : Int) == 0) = true := by simp [hl0]
      have HC := HE2'.out (fun h => h.2.1 hl0)
      clear HE2' HE3' hl0; generalize lgs.length = lg at *; go_wp2; go_ret
      exact ⟨by rw [HC]; rfl, qBq⟩
     have hl0' : (((lgs.length : Nat) : Int) == 0) = false := by simp; exact fun h => hl0 (by rw [h]; rfl)
     cases haw : aw
     ·
      have HC := HE2'.out (fun h => by rw [haw] at h; exact absurd h.2.2 (by decide))
      rw [haw] at HC3
      clear HE2' HE3' hl0 haw; generalize lgs.length = lg at *
      go_wp2_with (first | (go_at_call 220; refine (HC3.out _ (qBq)).mono ?_; rintro e w6 ⟨rfl, hb6⟩))
      go_ret
      exact ⟨by rw [HC]; rfl, qBq⟩
     ·
      have HC : Hid (scanI (heldAt d) (ii + 1) = 0) := HE3'.out ⟨by first | rfl | trivial, hl0, haw⟩
      rw [haw] at HC3
      clear HE2' HE3' hl0 haw; generalize lgs.length = lg at *
      go_wp2_with fail
      refine (HC3.out _ hB5).mono ?_
      rintro e w6 ⟨rfl, hb6⟩; replace y0 := cK hb6 y0; replace y1 := cK hb6 y1; replace y2 := cK hb6 y2; replace y3 := cK hb6 y3; replace y4 := cK hb6 y4; replace y5 := cK hb6 y5
      have hB6 : Below wr.heap.size wr w6 := bS hB5 hb6
      have hBw6 : Below w.heap.size w w6 := bS hbl hB6
      clear hb6; go_wp2
      exact ⟨⟨ii + 1, by omega, by go_num, HC, ⟨y0, y1, y2, y3, y4, y5⟩, hBw6⟩, by simp [intOf]; omega⟩
    ·
     rw [decide_eq_false hle] at hq
     rw [hq] at HE2' HE3'
     have HC := HE2'.out (fun h => by exact absurd h.1 (by decide))
     have hle' : decide (q < qid) = false := decide_eq_false hle
     clear hq HE2' HE3'; go_wp2
     go_quiet (fail)
     go_wp2; go_ret
     exact ⟨by rw [HC]; rfl, bdrewN (qBq) _⟩
  ·
   have hkn : k = n3 := by omega
   subst hkn
   have HC : Hid (Z = 0) := by show _ = _; rw [HZ.out]; exact HS.out
   go_wp2; go_ret; exact ⟨by rw [HC.out]; rfl, qBq⟩
theorem startFault_any (i : Int) (x : Value) (xs : List Bal) (w : World) (hx : balsR.V w x xs) :
  Calls Tryz.prog 187 #[.int .i64 i, x] w fun e w' => e = .returned (.int .i64 (baseF i xs)) ∧ Below w.heap.size w w' := by
 have HB : Hid (∀ W, Below w.heap.size w W → Calls Tryz.prog 219 #[x] W fun e w' => e = .returned (.int .i64 (balFault xs)) ∧ Below W.heap.size W w') := fun W hW => implBalFault_any x xs W (balsR.below hx hW)
 obtain ⟨a, c, rfl⟩ := bals_form hx; clear hx; generalize xs.length = n at *
 unfold baseF
 cases h : inB i 0 2
 ·
  go_enter Tryz.func187, Tryz.ntmps187
  go_wp2_with (first | (go_at_call 199; refine (isShard_any _ _).mono ?_; rintro e w' ⟨rfl, rfl⟩; rw [h]))
  go_ret
  exact ⟨rfl, qBq⟩
 ·
  go_enter Tryz.func187, Tryz.ntmps187
  go_wp2_with (first | (go_at_call 199; refine (isShard_any _ _).mono ?_; rintro e w' ⟨rfl, rfl⟩; rw [h]) | (go_at_call 219; refine (HB.out _ (qBq)).mono ?_; rintro e w' ⟨rfl, hb1⟩))
  go_ret
  exact ⟨rfl, qBq⟩
def mx4 (x y z u : Int) : Int := if u > (if z > (if y > x then y else x) then z else (if y > x then y else x)) then u else (if z > (if y > x then y else x) then z else (if y > x then y else x))
theorem mx4_gt {x y z u : Int} : 100 < mx4 x y z u ↔ (100 < x ∨ 100 < y ∨ 100 < z ∨ 100 < u) := by
 unfold mx4
 constructor
 ·
  intro h; (repeat' split at h) <;> omega
 ·
  intro h; (repeat' split) <;> omega
theorem run_max_int4 {P : Program} (w : World) (ts : Array TypeId) (t : TypeId) (k k' k'' k3 : IntKind) (x y z u : Int) : (Builtin.max_ ts t #[.int k x, .int k' y, .int k'' z, .int k3 u]).run P w = .ok (.int k (mx4 x y z u)) w := by
 simp [Builtin.max_, Builtin.max2, mx4]
attribute [local go_sem] run_max_int4

theorem listsFault_any (x : Value) (d : Shd) (w : World) (hx : shdR.V w x d) :
  Calls Tryz.prog 137 #[x] w fun e w' => e = .returned (.int .i64 (listsF d)) ∧ Below w.heap.size w w' := by
 have HDo : Hid (∀ W, Below w.heap.size w W → LsOk d → Calls Tryz.prog 191 #[x] W fun e w' => e = .returned (.int .i64 (scanI (heldAt d) d.held.length)) ∧ Below W.heap.size W w') := fun W hW ho => inDoubtF_any x d W (shdR.below hx hW) ho
 have HFo : Hid (∀ W, Below w.heap.size w W → LsOk d → HeldOk d → Calls Tryz.prog 192 #[x] W fun e w' => e = .returned (.bool (decide (¬ scanI (lostAt d) d.votes.length = 0))) ∧ Below W.heap.size W w') := fun W hW ho hh => forgotten_any x d W (shdR.below hx hW) ho hh
 have HCd : Hid (∀ W, Below w.heap.size w W → LsOk d → Calls Tryz.prog 194 #[x] W fun e w' => ∃ v, e = .returned v ∧ w'.ownsRow W.heap.size 2 1 v (doneL d.done).length (intsC (doneL d.done)) ∧ Below W.heap.size W w') := fun W hW ho => contractsDone_any x d W (shdR.below hx hW) (by have := ho.nd; omega)
 obtain ⟨u1, u2, u3, u4, u5, rfl, h1, h2, h3, h4, h5⟩ := hx
 have HBa : Hid (∀ W, Below w.heap.size w W → Calls Tryz.prog 187 #[.int .i64 d.idx, u1] W fun e w' => e = .returned (.int .i64 (baseF d.idx d.bals)) ∧ Below W.heap.size W w') := fun W hW => startFault_any _ u1 _ W (balsR.below h1 hW)
 have HVo : Hid (∀ W, Below w.heap.size w W → Calls Tryz.prog 188 #[u2, .func (.func 189) #[] #[]] W fun e w' => e = .returned (.int .i64 (mrkF d.votes)) ∧ Below W.heap.size W w') := fun W hW => marksV_any u2 _ W (mrksR.below h2 hW)
 have HDn : Hid (∀ W, Below w.heap.size w W → Calls Tryz.prog 188 #[u4, .func (.func 190) #[] #[]] W fun e w' => e = .returned (.int .i64 (mrkF d.done)) ∧ Below W.heap.size W w') := fun W hW => marksO_any u4 _ W (mrksR.below h4 hW)
 have HSo : Hid (∀ W Bs, Below w.heap.size w W → LsOk d → W.cell? ⟨Bs, 0, none⟩ = some u5 → Calls Tryz.prog 157 #[.func (.func 207) #[] #[.pointer (some ⟨Bs, 0, none⟩)]] W fun e w' => ∃ v, e = .returned v ∧ w'.ownsRow W.heap.size 2 1 v (sortI d.appl).length (intsC (sortI d.appl)) ∧ Below W.heap.size W w') := fun W Bs hW ho hc => by
  obtain ⟨a5, c5, rfl⟩ := ints_form h5
  exact sortedQ_any a5 _ c5 d.appl W (intsR.below h5 hW) Bs hc (by have := ho.na; omega)
 obtain ⟨a1, c1, rfl⟩ := bals_form h1; obtain ⟨a2, c2, rfl⟩ := mrks_form h2; obtain ⟨a3, c3, rfl⟩ := conts_form h3; obtain ⟨a4, c4, rfl⟩ := mrks_form h4; obtain ⟨a5, c5, rfl⟩ := ints_form h5; obtain ⟨_, _, e2, hc2, hm2, _⟩ := h2; obtain ⟨_, _, e3, hc3, hm3, _⟩ := conts_at h3; obtain ⟨_, _, e4, hc4, hm4, _⟩ := h4; obtain ⟨_, _, e5, hc5, hm5, _⟩ := h5
 simp only [Value.slice.injEq, true_and] at e2 e3 e4 e5
 obtain ⟨rfl, rfl⟩ := e2; obtain ⟨rfl, rfl⟩ := e3; obtain ⟨rfl, rfl⟩ := e4; obtain ⟨rfl, rfl⟩ := e5
 unfold maxLen at hm2 hm3 hm4 hm5
 have HEq : Hid (∀ W x y, IntsV W x (sortI d.appl) → IntsV W y (doneL d.done) → Calls Tryz.prog 193 #[x, y] W fun e w' => e = .returned (.bool (decide (sortI d.appl = doneL d.done))) ∧ Below W.heap.size W w') := fun W x y hx hy => equalI_any x y _ _ W hx hy
 have HD0 : Hid (¬ baseF d.idx d.bals = 0 → listsF d = baseF d.idx d.bals) := fun h => by unfold listsF; rw [if_neg h]
 have HD1 : Hid (baseF d.idx d.bals = 0 → (100 < d.votes.length ∨ 100 < d.held.length ∨ 100 < d.done.length ∨ 100 < d.appl.length) → listsF d = 2) := fun h h1 => by unfold listsF; rw [if_pos h, if_pos h1]
 have HD2 : Hid (baseF d.idx d.bals = 0 → ¬ (100 < d.votes.length ∨ 100 < d.held.length ∨ 100 < d.done.length ∨ 100 < d.appl.length) → ¬ mrkF d.votes = 0 → listsF d = mrkF d.votes) := fun h h1 h2 => by unfold listsF; rw [if_pos h, if_neg h1, if_neg h2]
 have HD3 : Hid (baseF d.idx d.bals = 0 → ¬ (100 < d.votes.length ∨ 100 < d.held.length ∨ 100 < d.done.length ∨ 100 < d.appl.length) → mrkF d.votes = 0 → ¬ mrkF d.done = 0 → listsF d = mrkF d.done) := fun h h1 h2 h3 => by unfold listsF; rw [if_pos h, if_neg h1, if_pos h2, if_neg h3]
 have HD4 : Hid (baseF d.idx d.bals = 0 → ¬ (100 < d.votes.length ∨ 100 < d.held.length ∨ 100 < d.done.length ∨ 100 < d.appl.length) → mrkF d.votes = 0 → mrkF d.done = 0 → ¬ scanI (heldAt d) d.held.length = 0 → listsF d = scanI (heldAt d) d.held.length) := fun h h1 h2 h3 h4 => by unfold listsF; rw [if_pos h, if_neg h1, if_pos h2, if_pos h3, if_neg h4]
 have HD5 : Hid (baseF d.idx d.bals = 0 → ¬ (100 < d.votes.length ∨ 100 < d.held.length ∨ 100 < d.done.length ∨ 100 < d.appl.length) → mrkF d.votes = 0 → mrkF d.done = 0 → scanI (heldAt d) d.held.length = 0 → ¬ scanI (lostAt d) d.votes.length = 0 → listsF d = 1) := fun h h1 h2 h3 h4 h5 => by unfold listsF; rw [if_pos h, if_neg h1, if_pos h2, if_pos h3, if_pos h4, if_neg h5]
 have HD6 : Hid (baseF d.idx d.bals = 0 → ¬ (100 < d.votes.length ∨ 100 < d.held.length ∨ 100 < d.done.length ∨ 100 < d.appl.length) → mrkF d.votes = 0 → mrkF d.done = 0 → scanI (heldAt d) d.held.length = 0 → scanI (lostAt d) d.votes.length = 0 → listsF d = if decide (sortI d.appl = doneL d.done) = true then 0 else 1) := fun h h1 h2 h3 h4 h5 => by
  unfold listsF
  rw [if_pos h, if_neg h1, if_pos h2, if_pos h3, if_pos h4, if_pos h5, applG_sort (mrksOk_of h3)]
  rfl
 have HOk : Hid (¬ (100 < d.votes.length ∨ 100 < d.held.length ∨ 100 < d.done.length ∨ 100 < d.appl.length) → mrkF d.votes = 0 → mrkF d.done = 0 → LsOk d) := fun h h2 h3 => ⟨by omega, by omega, by omega, by omega, mrksOk_of h2, mrksOk_of h3⟩
 have HHk : Hid (scanI (heldAt d) d.held.length = 0 → HeldOk d) := fun h => heldOk_of h
 clear h1 h3; generalize d.bals.length = n1 at *; generalize d.votes.length = n2 at *; generalize d.held.length = n3 at *; generalize d.done.length = n4 at *; generalize d.appl.length = n5 at *; generalize mrkF d.votes = fv at *; generalize mrkF d.done = fd at *; generalize hhf : scanI (heldAt d) n3 = fh at *; generalize hlf : scanI (lostAt d) n2 = fl at *; generalize hbf : baseF d.idx d.bals = bf at *
 obtain ⟨ga, hga⟩ : ∃ ga, ga = decide (sortI d.appl = doneL d.done) := ⟨_, rfl⟩
 rw [← hga] at HEq HD6
 obtain ⟨Z, hZ⟩ : ∃ Z, Z = listsF d := ⟨_, rfl⟩
 rw [← hZ] at HD0 HD1 HD2 HD3 HD4 HD5 HD6 ⊢
 clear hZ hbf hga hhf hlf
 have HVl : Hid (∀ W, Below w.heap.size w W → Calls Tryz.prog 158 #[.slice a5 n5 c5] W fun e w' => e = .returned (.func (.func 207) #[] #[.pointer (some ⟨W.heap.size, 0, none⟩)]) ∧ w'.cell? ⟨W.heap.size, 0, none⟩ = some (.slice a5 n5 c5) ∧ Below W.heap.size W w') := fun W _ => (valuesQ_any a5 n5 c5 W).mono (by rintro e w' ⟨rfl, rfl⟩; exact ⟨rfl, by simp [go_sem], qBq⟩)
 go_enter Tryz.func137, Tryz.ntmps137
 go_wp2_with fail
 refine (HBa.out _ (qBq)).mono ?_
 rintro e w1 ⟨rfl, hb1⟩
 have y0 : w1.cell? ⟨w.heap.size, 0, none⟩ = some (.int .i64 d.idx) := cK hb1 (by simp [go_sem])
 have y1 : w1.cell? ⟨w.heap.size, 1, none⟩ = some (.slice a1 n1 c1) := cK hb1 (by simp [go_sem])
 have y2 : w1.cell? ⟨w.heap.size, 2, none⟩ = some (.slice a2 n2 c2) := cK hb1 (by simp [go_sem])
 have y3 : w1.cell? ⟨w.heap.size, 3, none⟩ = some (.slice a3 n3 c3) := cK hb1 (by simp [go_sem])
 have y4 : w1.cell? ⟨w.heap.size, 4, none⟩ = some (.slice a4 n4 c4) := cK hb1 (by simp [go_sem])
 have y5 : w1.cell? ⟨w.heap.size, 5, none⟩ = some (.slice a5 n5 c5) := cK hb1 (by simp [go_sem])
 have hB1 : Below w.heap.size w w1 := bS (qBq) hb1
 clear hb1 HBa
 by_cases hbf : bf = 0
 rotate_left
 ·
  have HC := HD0.out hbf
  have hbf' : (bf != 0) = true := by simp [hbf]
  go_wp2; go_ret
  exact ⟨by rw [HC]; rfl, qBq⟩
 by_cases hmany : (100 < n2 ∨ 100 < n3 ∨ 100 < n4 ∨ 100 < n5)
 ·
  have HC := HD1.out hbf hmany
  have hm4' : (100 : Int) < mx4 n2 n3 n4 n5 := mx4_gt.2 (by omega)
  rw [hbf]
  clear HD0 HD1 HD2 HD3 HD4 HD5 HD6 HOk; go_wp2; go_ret
  exact ⟨by rw [HC]; rfl, qBq⟩
 have hm4' : ¬ (100 : Int) < mx4 n2 n3 n4 n5 := fun h => hmany (by have := mx4_gt.1 h; omega)
 have HE2 : Hid (¬ fv = 0 → Z = fv) := fun h => HD2.out hbf hmany h
 have HE3 : Hid (fv = 0 → ¬ fd = 0 → Z = fd) := fun h h2 => HD3.out hbf hmany h h2
 have HE4 : Hid (fv = 0 → fd = 0 → ¬ fh = 0 → Z = fh) := fun h h2 h3 => HD4.out hbf hmany h h2 h3
 have HE5 : Hid (fv = 0 → fd = 0 → fh = 0 → ¬ fl = 0 → Z = 1) := fun h h2 h3 h4 => HD5.out hbf hmany h h2 h3 h4
 have HE6 : Hid (fv = 0 → fd = 0 → fh = 0 → fl = 0 → Z = if ga = true then 0 else 1) := fun h h2 h3 h4 => HD6.out hbf hmany h h2 h3 h4
 have HOk' : Hid (fv = 0 → fd = 0 → LsOk d) := fun h h2 => HOk.out hmany h h2
 rw [hbf]
 clear HD0 HD1 HD2 HD3 HD4 HD5 HD6 HOk hbf hmany
 go_wp2_with fail
 refine (HVo.out _ hB1).mono ?_
 rintro e w2 ⟨rfl, hb2⟩
 have hB2 : Below w.heap.size w w2 := bS hB1 hb2
 replace y0 := cK hb2 y0; replace y1 := cK hb2 y1; replace y2 := cK hb2 y2; replace y3 := cK hb2 y3; replace y4 := cK hb2 y4; replace y5 := cK hb2 y5; clear hb2
 by_cases hfv : fv = 0
 rotate_left
 ·
  have HC := HE2.out hfv
  have hfv' : (fv != 0) = true := by simp [hfv]
  go_wp2; go_ret
  exact ⟨by rw [HC]; rfl, qBq⟩
 rw [hfv]
 have HE3' : Hid (¬ fd = 0 → Z = fd) := fun h => HE3.out hfv h
 go_wp2_with fail
 refine (HDn.out _ hB2).mono ?_
 rintro e w3 ⟨rfl, hb3⟩
 have hB3 : Below w.heap.size w w3 := bS hB2 hb3
 replace y0 := cK hb3 y0; replace y1 := cK hb3 y1; replace y2 := cK hb3 y2; replace y3 := cK hb3 y3; replace y4 := cK hb3 y4; replace y5 := cK hb3 y5; clear hb3
 by_cases hfd : fd = 0
 rotate_left
 ·
  have HC := HE3'.out hfd
  have hfd' : (fd != 0) = true := by simp [hfd]
  go_wp2; go_ret
  exact ⟨by rw [HC]; rfl, qBq⟩
 have hok : Hid (LsOk d) := HOk'.out hfv hfd
 have HE4' : Hid (¬ fh = 0 → Z = fh) := fun h => HE4.out hfv hfd h
 have HE5' : Hid (fh = 0 → ¬ fl = 0 → Z = 1) := fun h => HE5.out hfv hfd h
 have HE6' : Hid (fh = 0 → fl = 0 → Z = if ga = true then 0 else 1) := fun h => HE6.out hfv hfd h
 clear HE3' HE2 HE3 HE4 HE5 HE6 HOk' hfv HVo HDn
 rw [hfd]
 go_wp2_with fail
 refine (HDo.out _ hB3 hok.out).mono ?_
 rintro e w4 ⟨rfl, hb4⟩
 have hB4 : Below w.heap.size w w4 := bS hB3 hb4
 replace y0 := cK hb4 y0; replace y1 := cK hb4 y1; replace y2 := cK hb4 y2; replace y3 := cK hb4 y3; replace y4 := cK hb4 y4; replace y5 := cK hb4 y5; clear hb4
 by_cases hfh : fh = 0
 rotate_left
 ·
  have HC := HE4'.out hfh
  have hfh' : (fh != 0) = true := by simp [hfh]
  go_wp2; go_ret
  exact ⟨by rw [HC]; rfl, qBq⟩
 have HF5 : Hid (¬ fl = 0 → Z = 1) := fun h => HE5'.out hfh h
 have HF6 : Hid (fl = 0 → Z = if ga = true then 0 else 1) := fun h => HE6'.out hfh h
 have hhk : Hid _ := HHk.out hfh
 clear HE4' HE5' HE6' HHk HDo
 rw [hfh]
 clear hfh hfd hm4' hB1 hB2 hB3
 have HFo' : Hid (∀ W, Below w.heap.size w W → Calls Tryz.prog 192 #[.agg #[.int .i64 d.idx, .slice a1 n1 c1, .slice a2 n2 c2, .slice a3 n3 c3, .slice a4 n4 c4, .slice a5 n5 c5]] W fun e w' => e = .returned (.bool (decide (¬ fl = 0))) ∧ Below W.heap.size W w') := fun W hW => HFo.out W hW hok.out hhk.out
 have HSo' : Hid (∀ W Bs, Below w.heap.size w W → W.cell? ⟨Bs, 0, none⟩ = some (.slice a5 n5 c5) → Calls Tryz.prog 157 #[.func (.func 207) #[] #[.pointer (some ⟨Bs, 0, none⟩)]] W fun e w' => ∃ v, e = .returned v ∧ w'.ownsRow W.heap.size 2 1 v (sortI d.appl).length (intsC (sortI d.appl)) ∧ Below W.heap.size W w') := fun W Bs hW => HSo.out W Bs hW hok.out
 have HCd' : Hid (∀ W, Below w.heap.size w W → Calls Tryz.prog 194 #[.agg #[.int .i64 d.idx, .slice a1 n1 c1, .slice a2 n2 c2, .slice a3 n3 c3, .slice a4 n4 c4, .slice a5 n5 c5]] W fun e w' => ∃ v, e = .returned v ∧ w'.ownsRow W.heap.size 2 1 v (doneL d.done).length (intsC (doneL d.done)) ∧ Below W.heap.size W w') := fun W hW => HCd.out W hW hok.out
 clear HFo HSo HCd hok hhk
 by_cases hfl : fl = 0
 rotate_left
 ·
  have HC := HF5.out hfl
  rw [show decide (¬ fl = 0) = true from decide_eq_true hfl] at HFo'
  clear HF5 HF6 HSo' HCd' HEq HVl hfl; go_wp2
  refine wp_region_noPanic ?_
  refine region_upto (fun W => Below w4.heap.size w4 W ∧ W.cell? ⟨w.heap.size, 0, none⟩ = some (.int .i64 d.idx) ∧ W.cell? ⟨w.heap.size, 1, none⟩ = some (.slice a1 n1 c1) ∧ W.cell? ⟨w.heap.size, 2, none⟩ = some (.slice a2 n2 c2) ∧ W.cell? ⟨w.heap.size, 3, none⟩ = some (.slice a3 n3 c3) ∧ W.cell? ⟨w.heap.size, 4, none⟩ = some (.slice a4 n4 c4) ∧ W.cell? ⟨w.heap.size, 5, none⟩ = some (.slice a5 n5 c5)) 12 (by kernel_rfl) ⟨qBq, cK (qBq) y0, cK (qBq) y1, cK (qBq) y2, cK (qBq) y3, cK (qBq) y4, cK (qBq) y5⟩ (fun hS => ?_)
  refine tM 0 rfl hS ?_; try simp only [jX]
  refine uS 1 rfl (fun K hK => ?_)
  go_simp
  refine (HFo'.out _ (bS hB4 hS.1)).mono ?_
  rintro e wz ⟨rfl, hbz⟩
  have hbz' : Below w4.heap.size w4 wz := bS hS.1 hbz
  have hS3 := And.intro hbz' (And.intro (cK hbz hS.2.1) (And.intro (cK hbz hS.2.2.1) (And.intro (cK hbz hS.2.2.2.1) (And.intro (cK hbz hS.2.2.2.2.1) (And.intro (cK hbz hS.2.2.2.2.2.1) (cK hbz hS.2.2.2.2.2.2))))))
  refine hK _ _ (fun _ => hS3) ?_
  clear hK K hS hbz
  have hS := hS3
  clear hS3
  try simp only [jX]
  refine tM 2 (v := (.bool true)) rfl hS ?_; try simp only [jX]
  refine sU 3 rfl hS ?_; try simp only [jX]
  refine sU 4 rfl hS ?_; try simp only [jX]
  refine sU 5 rfl hS ?_; try simp only [jX]
  refine sU 6 rfl hS ?_; try simp only [jX]
  refine sU 7 rfl hS ?_; try simp only [jX]
  refine sU 8 rfl hS ?_; try simp only [jX]
  refine sU 9 rfl hS ?_; try simp only [jX]
  refine sU 10 rfl hS ?_; try simp only [jX]
  refine tM 11 (v := (.bool true)) rfl hS ?_; try simp only [jX]
  refine dN (NoPanic.normal ?_)
  go_wp2; go_ret
  exact ⟨by rw [HC]; rfl, bS hB4 hS.1⟩
 have HC : Hid _ := HF6.out hfl
 rw [show decide (¬ fl = 0) = false from decide_eq_false (fun h => h hfl)] at HFo'
 clear HF5 HF6 hfl; go_wp2
 refine wp_region_noPanic ?_
 refine region_upto (fun W => Below w4.heap.size w4 W ∧ W.cell? ⟨w.heap.size, 0, none⟩ = some (.int .i64 d.idx) ∧ W.cell? ⟨w.heap.size, 1, none⟩ = some (.slice a1 n1 c1) ∧ W.cell? ⟨w.heap.size, 2, none⟩ = some (.slice a2 n2 c2) ∧ W.cell? ⟨w.heap.size, 3, none⟩ = some (.slice a3 n3 c3) ∧ W.cell? ⟨w.heap.size, 4, none⟩ = some (.slice a4 n4 c4) ∧ W.cell? ⟨w.heap.size, 5, none⟩ = some (.slice a5 n5 c5)) 12 (by kernel_rfl) ⟨qBq, cK (qBq) y0, cK (qBq) y1, cK (qBq) y2, cK (qBq) y3, cK (qBq) y4, cK (qBq) y5⟩ (fun hS => ?_)
 refine tM 0 rfl hS ?_; try simp only [jX]
 refine uS 1 rfl (fun K hK => ?_)
 go_simp
 refine (HFo'.out _ (bS hB4 hS.1)).mono ?_
 rintro e wz ⟨rfl, hbz⟩
 have hbz' : Below w4.heap.size w4 wz := bS hS.1 hbz
 have hS3 := And.intro hbz' (And.intro (cK hbz hS.2.1) (And.intro (cK hbz hS.2.2.1) (And.intro (cK hbz hS.2.2.2.1) (And.intro (cK hbz hS.2.2.2.2.1) (And.intro (cK hbz hS.2.2.2.2.2.1) (cK hbz hS.2.2.2.2.2.2))))))
 refine hK _ _ (fun _ => hS3) ?_
 clear hK K hS hbz
 have hS := hS3
 clear hS3
 try simp only [jX]
 refine tM 2 (v := (.bool false)) rfl hS ?_; try simp only [jX]
 refine tM 3 rfl hS ?_; try simp only [jX]
 refine tM 4 rfl hS ?_; try simp only [jX]
 refine tM 7 rfl hS ?_; try simp only [jX]
 refine uS 5 rfl (fun K hK => ?_)
 go_simp
 refine (HVl.out _ (bS hB4 hS.1)).mono ?_
 rintro e wz ⟨rfl, gB, hbz⟩
 have hbz' : Below w4.heap.size w4 wz := bS hS.1 hbz
 have hS3 := And.intro hbz' (And.intro (cK hbz hS.2.1) (And.intro (cK hbz hS.2.2.1) (And.intro (cK hbz hS.2.2.2.1) (And.intro (cK hbz hS.2.2.2.2.1) (And.intro (cK hbz hS.2.2.2.2.2.1) (cK hbz hS.2.2.2.2.2.2))))))
 refine hK _ _ (fun _ => hS3) ?_
 clear hK K hS hbz
 have hS := hS3
 clear hS3
 try simp only [jX]
 refine uS 6 rfl (fun K hK => ?_)
 go_simp
 refine (HSo'.out _ _ (bS hB4 hS.1) gB).mono ?_
 rintro e wz ⟨vs, rfl, os, hbz⟩
 have V6 : IntsV wz vs (sortI d.appl) := IntsV_of_owns os
 obtain ⟨aS, cS, rfl⟩ := owns_form os; clear os gB
 have hbz' : Below w4.heap.size w4 wz := bS hS.1 hbz
 have hS3 := And.intro hbz' (And.intro (cK hbz hS.2.1) (And.intro (cK hbz hS.2.2.1) (And.intro (cK hbz hS.2.2.2.1) (And.intro (cK hbz hS.2.2.2.2.1) (And.intro (cK hbz hS.2.2.2.2.2.1) (cK hbz hS.2.2.2.2.2.2))))))
 refine hK _ _ (fun _ => hS3) ?_
 clear hK K hS hbz
 have hS := hS3
 clear hS3
 try simp only [jX]
 refine uS 8 rfl (fun K hK => ?_)
 go_simp
 refine (HCd'.out _ (bS hB4 hS.1)).mono ?_
 rintro e wz ⟨vd, rfl, od, hbz⟩
 replace V6 := IntsV_below V6 hbz
 have V8 : IntsV wz vd (doneL d.done) := IntsV_of_owns od
 obtain ⟨ad, cd, rfl⟩ := owns_form od; clear od
 have hbz' : Below w4.heap.size w4 wz := bS hS.1 hbz
 have hS3 := And.intro hbz' (And.intro (cK hbz hS.2.1) (And.intro (cK hbz hS.2.2.1) (And.intro (cK hbz hS.2.2.2.1) (And.intro (cK hbz hS.2.2.2.2.1) (And.intro (cK hbz hS.2.2.2.2.2.1) (cK hbz hS.2.2.2.2.2.2))))))
 refine hK _ _ (fun _ => hS3) ?_
 clear hK K hS hbz
 have hS := hS3
 clear hS3
 try simp only [jX]
 refine uS 9 rfl (fun K hK => ?_)
 go_simp
 have hEQ := HEq.out _ _ _ V6 V8
 clear V6 V8
 refine hEQ.mono ?_
 rintro e wz ⟨rfl, hbz⟩
 have hbz' : Below w4.heap.size w4 wz := bS hS.1 hbz
 have hS3 := And.intro hbz' (And.intro (cK hbz hS.2.1) (And.intro (cK hbz hS.2.2.1) (And.intro (cK hbz hS.2.2.2.1) (And.intro (cK hbz hS.2.2.2.2.1) (And.intro (cK hbz hS.2.2.2.2.2.1) (cK hbz hS.2.2.2.2.2.2))))))
 refine hK _ _ (fun _ => hS3) ?_
 clear hK K hS hbz
 have hS := hS3
 clear hS3
 try simp only [jX]
 refine tM 10 (v := (.bool (!ga))) rfl hS ?_; try simp only [jX]
 refine tM 11 (v := (.bool (!ga))) rfl hS ?_; try simp only [jX]
 refine dN (NoPanic.normal ?_)
 cases ga
 ·
  go_wp2; go_ret
  exact ⟨by rw [HC.out]; rfl, bS hB4 hS.1⟩
 ·
  go_wp2; go_ret
  exact ⟨by rw [HC.out]; rfl, bS hB4 hS.1⟩
theorem taRef (c : Int) (w : World) : (Instr.typeAssert (.iface 211 (.int .i64 c)) 20 211 true).run Tryz.prog w = .ok (.tuple #[.int .i64 c, .bool true]) w := by kernel_rfl
theorem taNil (w : World) : (Instr.typeAssert .nilIface 20 211 true).run Tryz.prog w = .ok (.tuple #[.int .i64 0, .bool false]) w := by kernel_rfl
theorem refusalOf_ref (c : Int) (w : World) : Calls Tryz.prog 139 #[refV c] w fun e w' => e = .returned (.tuple #[.int .i64 c, .bool true]) ∧ Below w.heap.size w w' := by
 unfold refV
 have h1 := taRef c
 go_enter Tryz.func139, Tryz.ntmps139
 go_wp2
 refine bodyPost_ret (v := .tuple #[.int .i64 c, .bool true]) (by simp [results, Tryz.results139, go_sem]) rfl ?_
 exact ⟨rfl, qBq⟩
theorem refusalOf_nil (w : World) : Calls Tryz.prog 139 #[.nilIface] w fun e w' => e = .returned (.tuple #[.int .i64 0, .bool false]) ∧ Below w.heap.size w w' := by
 have h1 := taNil
 go_enter Tryz.func139, Tryz.ntmps139
 go_wp2
 refine bodyPost_ret (v := .tuple #[.int .i64 0, .bool false]) (by simp [results, Tryz.results139, go_sem]) rfl ?_
 exact ⟨rfl, qBq⟩
theorem catchSF_panicking (p : Addr) (x c : Int) (older : List PanicEntry) (w : World) (hc : w.cell? p = some (.int .i64 x)) (hz : w.frozen? p = false) :
  CallsD Tryz.prog 138 #[.pointer (some p)] (.panicking ({ v := refV c, recovered := false } :: older)) w fun e u' w' =>
   e = .returned (.tuple #[]) ∧ u' = .panicking ({ v := refV c, recovered := true } :: older) ∧ ∃ w1, Below w.heap.size w w1 ∧ w' = w1.setCell p (.int .i64 c) := by
 refine callsD_of_wpS Tryz.func138 rfl fun c₀ cs hu => ?_
 apply wpS_seq
 apply wpS_region
 simp [wpOpsS, go_sem, recoverD, hu, Tryz.ntmps138, Exit.thenS]
 refine (refusalOf_ref c w).mono ?_
 rintro e w1 ⟨rfl, hb⟩; obtain ⟨_, f1⟩ := bcell hb
 have hp : p.block < w.heap.size := wL w _ hc
 have hc1 : w1.cell? p = some (.int .i64 x) := cK hb hc
 have hz1 : w1.frozen? p = false := by rw [hb.frozen (p := p) hp]; exact hz
 simp [wpOpsS, go_sem, recoverD, Exit.thenS]
 apply wpS_seq
 apply wpS_region
 simp [wpOpsS, go_sem, recoverD, Exit.thenS]
 refine wpS_cond (t := true) (by simp [Act.eval, Array.replicate]) ?_
 simp only [if_true]
 apply wpS_region
 simp [wpOpsS, go_sem, hc1, hz1, bodyPostS, results, Tryz.results138]
 exact ⟨w1, hb, rfl⟩
theorem catchSF_idle (p : Addr) (w : World) :
  CallsD Tryz.prog 138 #[.pointer (some p)] .returning w fun e u' w' => e = .returned (.tuple #[]) ∧ u' = .returning ∧ Below w.heap.size w w' := by
 refine callsD_of_wpS Tryz.func138 rfl fun c₀ cs hu => ?_
 apply wpS_seq
 apply wpS_region
 simp [wpOpsS, go_sem, recoverD, hu, Tryz.ntmps138, Exit.thenS]
 refine (refusalOf_nil w).mono ?_
 rintro e w1 ⟨rfl, hb⟩
 simp [wpOpsS, go_sem, recoverD, Exit.thenS]
 apply wpS_seq
 apply wpS_region
 simp [wpOpsS, go_sem, recoverD, Exit.thenS]
 refine wpS_cond (t := false) (by simp [Act.eval, Array.replicate]) ?_
 simp only [Bool.false_eq_true, if_false]
 refine wpS_of_wp (wp_skip ?_)
 cases c₀
 simp_all [bodyPostS, results, Tryz.results138]
def PanicAs (D : List Deferred) (k : Nat) (p : Value) (R : List PanicEntry → World → Prop) (Q : Exit → Act → World → Prop) : Exit → Act → World → Prop
 | .panic c, a, w => a.defers = D ∧ a.tmps[k]? = some p ∧ R c w
 | e, a, w => Q e a w
theorem PanicAs.put {D : List Deferred} {k : Nat} {p : Value} {R : List PanicEntry → World → Prop} {Q : Exit → Act → World → Prop} {dst : Option Nat} {v : Value} {c : List PanicEntry} {a : Act} {w : World} (hk : dst ≠ some k) (h : PanicAs D k p R Q (.panic c) (a.put dst v) w) : PanicAs D k p R Q (.panic c) a w := by
 cases dst with
 | none => exact h
 | some j =>
  obtain ⟨h1, h2, h3⟩ := h
  have hj : j ≠ k := fun e => hk (by rw [e])
  refine ⟨h1, ?_, h3⟩
  simp only [Act.put] at h2
  rw [Array.getElem?_setIfInBounds_ne hj] at h2
  exact h2
theorem PanicAs.normal {D : List Deferred} {k : Nat} {p : Value} {R : List PanicEntry → World → Prop} {Q : Exit → Act → World → Prop} {a : Act} {w : World} (h : Q .normal a w) : PanicAs D k p R Q .normal a w := h
theorem wp_region_panicAs {P : Program} {id : Nat} {ops : Array Oper} {b : Bool} {Q : Exit → Act → World → Prop} {a : Act} {w : World} (D : List Deferred) (k : Nat) (p : Value) (R : List PanicEntry → World → Prop)
  (hi : ∀ c a w, a.defers = D → a.tmps[k]? = some p → R c w → Q (.panic c) a w) (h : (Code.region id ops b).wp P (PanicAs D k p R Q) a w) : (Code.region id ops b).wp P Q a w :=
 Code.wp_mono (fun e a w h => by
  cases e with
  | panic c => exact hi c a w h.1 h.2.1 h.2.2
  | _ => exact h) h
theorem doorP (w W : World) (tm : Array Value) (B : Nat) (Z c x : Int) (hz : Z = c) (ht : tm[2]? = some (.pointer (some ⟨B, 0, none⟩))) (hB : w.heap.size ≤ B) (hc : W.cell? ⟨B, 0, none⟩ = some (.int .i64 x)) (hf : W.frozen? ⟨B, 0, none⟩ = false) (hb : Below w.heap.size w W) :
  Leaves Tryz.prog Tryz.f95 tm (fun e w' => e = .returned (.int .i64 Z) ∧ Below w.heap.size w w') [{ target := .fn (.func 138) #[.pointer (some ⟨B, 0, none⟩)], args := #[] }] (.panicking [{ v := refV c, recovered := false }]) W := by
 refine leaves_cons (f := 138) (args := #[.pointer (some ⟨B, 0, none⟩)]) (by simp) (by simp [go_sem]) ?_
 refine (catchSF_panicking ⟨B, 0, none⟩ x c [] W hc hf).mono ?_
 rintro e u' w2 ⟨rfl, rfl, w1, hb1, rfl⟩
 have hc1 : w1.cell? ⟨B, 0, none⟩ = some (.int .i64 x) := cK hb1 hc
 have hf1 : w1.frozen? ⟨B, 0, none⟩ = false := by rw [hb1.frozen (p := ⟨B, 0, none⟩) (wL W _ hc)]; exact hf
 have hB1 : Below w.heap.size w w1 := bS hb hb1
 subst hz
 refine ⟨.int .i64 Z, ?_, rfl, ?_⟩
 ·
  simp [results, Tryz.results95, go_sem, ht, hc1, hf1]
 ·
  (repeat (first | refine bset ?_ (by simp; omega) _ | refine bset ?_ (by simp) _ | refine bA ?_ _ | assumption))
theorem doorR (w W : World) (tm : Array Value) (B : Nat) (Z x : Int) (hz : Z = x) (ht : tm[2]? = some (.pointer (some ⟨B, 0, none⟩))) (hB : w.heap.size ≤ B) (hc : W.cell? ⟨B, 0, none⟩ = some (.int .i64 x)) (hb : Below w.heap.size w W) :
  Leaves Tryz.prog Tryz.f95 tm (fun e w' => e = .returned (.int .i64 Z) ∧ Below w.heap.size w w') [{ target := .fn (.func 138) #[.pointer (some ⟨B, 0, none⟩)], args := #[] }] .returning W := by
 refine leaves_cons (f := 138) (args := #[.pointer (some ⟨B, 0, none⟩)]) (by simp) (by simp [go_sem]) ?_
 refine (catchSF_idle ⟨B, 0, none⟩ W).mono ?_
 rintro e u' w2 ⟨rfl, rfl, hb1⟩
 have hc1 : w2.cell? ⟨B, 0, none⟩ = some (.int .i64 x) := cK hb1 hc
 have hB1 : Below w.heap.size w w2 := bS hb hb1
 subst hz
 refine ⟨.int .i64 Z, ?_, rfl, hB1⟩
 simp [results, Tryz.results95, go_sem, ht, hc1]
theorem conts_take {w : World} {a : Option Addr} {n c k : Nat} {xs : List Cont} (hx : contsR.V w (.slice a n c) xs) (hk : k ≤ n) : contsR.V w (.slice a k c) (xs.take k) := by
 obtain ⟨a', c', e, h1, h2, h3⟩ := hx
 simp only [Value.slice.injEq] at e
 obtain ⟨rfl, rfl, rfl⟩ := e
 refine ⟨a, c, by rw [List.length_take, Nat.min_eq_left hk], by rw [List.length_take]; omega, h2, fun i hi => ?_⟩
 rw [List.length_take] at hi
 have e : (xs.take k).getD i default = xs.getD i default := by simp [List.getD, List.getElem?_take, show i < k by omega]
 rw [e]
 exact h3 i (by omega)
theorem frz {w w' : World} {p : Addr} (hb : Below w.heap.size w w') (hp : p.block < w.heap.size) (h : w.frozen? p = false) : w'.frozen? p = false := by rw [hb.frozen hp]; exact h
theorem apartC_at {d : Shd} {k : Nat} (hk : k < d.held.length) : apartC d.idx (d.held.take k) (d.held.getD k default).legs = apartAt d k := by
 unfold apartC apartAt
 rw [apartB_range (by omega)]
 rfl
theorem listsF_ok {d : Shd} (h : listsF d = 0) : baseF d.idx d.bals = 0 ∧ LsOk d ∧ HeldOk d := by
 unfold listsF at h
 split at h
 ·
  rename_i h0
  split at h
  ·
   omega
  ·
   rename_i h1
   split at h
   ·
    rename_i h2
    split at h
    ·
     rename_i h3
     split at h
     ·
      rename_i h4
      exact ⟨h0, ⟨by omega, by omega, by omega, by omega, mrksOk_of h2, mrksOk_of h3⟩, heldOk_of h4⟩
     ·
      rename_i h4; exact absurd h h4
    ·
     rename_i h3; exact absurd h h3
   ·
    rename_i h2; exact absurd h h2
 ·
  rename_i h0; exact absurd h h0
theorem implShdF_any (x : Value) (d : Shd) (w : World) (hx : shdR.V w x d) :
  Calls Tryz.prog 95 #[x] w fun e w' => e = .returned (.int .i64 (shdF d)) ∧ Below w.heap.size w w' := by
 have HLi : Hid (∀ W, Below w.heap.size w W → Calls Tryz.prog 137 #[x] W fun e w' => e = .returned (.int .i64 (listsF d)) ∧ Below W.heap.size W w') := fun W hW => listsFault_any x d W (shdR.below hx hW)
 have HBo : Hid (∀ W, Below w.heap.size w W → baseF d.idx d.bals = 0 → Calls Tryz.prog 141 #[x] W fun e w' => ∃ b, e = .returned (.agg #[.int .i64 3, .map (some b)]) ∧ W.heap.size ≤ b ∧ Book w' b 54 (bookF (hereG d.idx d.bals)) ∧ Below W.heap.size W w') := fun W hW h0 => bookHere_any x d W (shdR.below hx hW) h0
 obtain ⟨u1, u2, u3, u4, u5, rfl, h1, h2, h3, h4, h5⟩ := hx
 have HX3 : Hid (∃ a c, u3 = .slice a d.held.length c ∧ d.held.length ≤ c ∧ c ≤ maxLen ∧ ∀ k, k < d.held.length → ∃ b o p q, a = some ⟨b, o, none⟩ ∧ w.cell? ⟨b, o + k * 2, none⟩ = some (.int .i64 (d.held.getD k default).id) ∧ w.cell? ⟨b, o + k * 2 + 1, none⟩ = some (.slice p (d.held.getD k default).legs.length q) ∧ contR.V w (.agg #[.int .i64 (d.held.getD k default).id, .slice p (d.held.getD k default).legs.length q]) (d.held.getD k default)) := conts_at h3
 obtain ⟨a1, c1, rfl⟩ := bals_form h1; obtain ⟨a2, c2, rfl⟩ := mrks_form h2; obtain ⟨a3, c3, rfl⟩ := conts_form h3; obtain ⟨a4, c4, rfl⟩ := mrks_form h4; obtain ⟨a5, c5, rfl⟩ := ints_form h5; obtain ⟨_, _, e3, hc3, hm3, hx3⟩ := HX3.out
 simp only [Value.slice.injEq, true_and] at e3
 obtain ⟨rfl, rfl⟩ := e3
 unfold maxLen at hm3
 have HX : Hid (∀ k, k < d.held.length → ∃ b o p q, a3 = some ⟨b, o, none⟩ ∧ w.cell? ⟨b, o + k * 2, none⟩ = some (.int .i64 (d.held.getD k default).id) ∧ w.cell? ⟨b, o + k * 2 + 1, none⟩ = some (.slice p (d.held.getD k default).legs.length q) ∧ contR.V w (.agg #[.int .i64 (d.held.getD k default).id, .slice p (d.held.getD k default).legs.length q]) (d.held.getD k default)) := hx3
 have HAp : Hid (HeldOk d → ∀ k W id ul, k < d.held.length → Below w.heap.size w W → legsR.V W ul (d.held.getD k default).legs → Calls Tryz.prog 140 #[.int .i64 d.idx, .slice a3 k c3, .agg #[.int .i64 id, ul]] W (KeepE (apartAt d k) W)) := fun hh k W id ul hk hW hl => by
  rw [← apartC_at hk]
  exact keepApart_any d.idx id _ ul (d.held.take k) _ W (contsR.below (conts_take h3 (by omega)) hW) hl (by have := hh.len hk; omega)
 have HCo : Hid (HeldOk d → baseF d.idx d.bals = 0 → ∀ k W id ul b, k < d.held.length → legsR.V W ul (d.held.getD k default).legs → Book W b 54 (bookF (hereG d.idx d.bals)) → Calls Tryz.prog 142 #[.int .i64 d.idx, .agg #[.int .i64 3, .map (some b)], .agg #[.int .i64 id, ul]] W (KeepE (coverAt d k) W)) := fun hh h0 k W id ul b hk hl hb =>
  keepCovered_any d.idx id b ul d.bals _ W hb hl (by have := hh.len hk; omega) (base_idx h0).1 (base_idx h0).2 (hh.fault hk)
 have HD0 : Hid (¬ listsF d = 0 → shdF d = listsF d) := fun h => by unfold shdF; rw [if_neg h]
 have HD1 : Hid (listsF d = 0 → ∀ k, k < d.held.length → scanI (apartAt d) k = 0 → ¬ apartAt d k = 0 → shdF d = apartAt d k) := fun h k hk hs hc => by
  have h1 := scanI_hit hs hc _ hk
  unfold shdF keptF
  rw [if_pos h, if_neg (by rw [h1]; exact hc), h1]
 have HD2 : Hid (listsF d = 0 → scanI (apartAt d) d.held.length = 0 → ∀ k, k < d.held.length → scanI (coverAt d) k = 0 → ¬ coverAt d k = 0 → shdF d = coverAt d k) := fun h h0 k hk hs hc => by
  have h1 := scanI_hit hs hc _ hk
  unfold shdF keptF
  rw [if_pos h, if_pos h0, h1]
 have HD3 : Hid (listsF d = 0 → scanI (apartAt d) d.held.length = 0 → scanI (coverAt d) d.held.length = 0 → shdF d = 0) := fun h h0 h1 => by
  unfold shdF keptF
  rw [if_pos h, if_pos h0, h1]
 have HOk : Hid (listsF d = 0 → baseF d.idx d.bals = 0 ∧ LsOk d ∧ HeldOk d) := fun h => listsF_ok h
 clear h1 h2 h3 h4 h5 HX3 hx3; generalize d.bals.length = n1 at *; generalize d.votes.length = n2 at *; generalize d.held.length = n3 at *; generalize d.done.length = n4 at *; generalize d.appl.length = n5 at *
 obtain ⟨Z, hZ⟩ : ∃ Z, Z = shdF d := ⟨_, rfl⟩
 rw [← hZ] at HD0 HD1 HD2 HD3 ⊢
 clear hZ; generalize listsF d = lf at *
 have hmf : ∀ (fn : Fn) (first cap : Array Value) (w : World), (Instr.makeFunc fn first cap).run Tryz.prog w = .ok (.func fn first cap) w := fun _ _ _ _ => rfl
 go_enter_defers Tryz.func95, Tryz.ntmps95
 go_wp2_with fail
 refine (HLi.out _ (qBq)).mono ?_
 rintro e w1 ⟨rfl, hb1⟩
 have f1 := (bcell hb1).2
 have hB1 : Below w.heap.size w w1 := bS (qBq) hb1
 have hz1 := hb1.size
 simp at hz1
 have y0 : w1.cell? ⟨w.heap.size, 0, none⟩ = some (.int .i64 d.idx) := cK hb1 (by simp [go_sem])
 have y1 : w1.cell? ⟨w.heap.size, 1, none⟩ = some (.slice a1 n1 c1) := cK hb1 (by simp [go_sem])
 have y2 : w1.cell? ⟨w.heap.size, 2, none⟩ = some (.slice a2 n2 c2) := cK hb1 (by simp [go_sem])
 have y3 : w1.cell? ⟨w.heap.size, 3, none⟩ = some (.slice a3 n3 c3) := cK hb1 (by simp [go_sem])
 have y4 : w1.cell? ⟨w.heap.size, 4, none⟩ = some (.slice a4 n4 c4) := cK hb1 (by simp [go_sem])
 have y5 : w1.cell? ⟨w.heap.size, 5, none⟩ = some (.slice a5 n5 c5) := cK hb1 (by simp [go_sem])
 have r0 : w1.cell? ⟨w.heap.size + 1, 0, none⟩ = some (.int .i64 0) := cK hb1 (by simp [go_sem])
 have rf : w1.frozen? ⟨w.heap.size + 1, 0, none⟩ = false := by rw [f1 _ _ (by simp)]; simp [go_sem]
 clear hb1 f1 HLi
 by_cases hlf : lf = 0
 rotate_left
 ·
  have HC := HD0.out hlf
  have hlf' : (lf != 0) = true := by simp [hlf]
  clear HD0 HD1 HD2 HD3 HAp HCo HBo HX HOk; go_wp2
  refine ⟨.int .i64 lf, by simp [results, Tryz.results95, go_sem, r0, rf], by rw [HC], ?_⟩
  (repeat (first | refine bset ?_ (by simp; omega) _ | refine bset ?_ (by simp) _ | refine bA ?_ _ | assumption))
 obtain ⟨h0, hls, hhk⟩ := HOk.out hlf
 have HD1' : Hid (∀ k, k < n3 → scanI (apartAt d) k = 0 → ¬ apartAt d k = 0 → Z = apartAt d k) := HD1.out hlf
 have HD2' : Hid (scanI (apartAt d) n3 = 0 → ∀ k, k < n3 → scanI (coverAt d) k = 0 → ¬ coverAt d k = 0 → Z = coverAt d k) := HD2.out hlf
 have HD3' : Hid (scanI (apartAt d) n3 = 0 → scanI (coverAt d) n3 = 0 → Z = 0) := HD3.out hlf
 have HAp' : Hid (∀ k W id ul, k < n3 → Below w.heap.size w W → legsR.V W ul (d.held.getD k default).legs → Calls Tryz.prog 140 #[.int .i64 d.idx, .slice a3 k c3, .agg #[.int .i64 id, ul]] W (KeepE (apartAt d k) W)) := HAp.out hhk
 have HCo' : Hid (∀ k W id ul b, k < n3 → legsR.V W ul (d.held.getD k default).legs → Book W b 54 (bookF (hereG d.idx d.bals)) → Calls Tryz.prog 142 #[.int .i64 d.idx, .agg #[.int .i64 3, .map (some b)], .agg #[.int .i64 id, ul]] W (KeepE (coverAt d k) W)) := HCo.out hhk h0
 have HBo' : Hid (∀ W, Below w.heap.size w W → Calls Tryz.prog 141 #[.agg #[.int .i64 d.idx, .slice a1 n1 c1, .slice a2 n2 c2, .slice a3 n3 c3, .slice a4 n4 c4, .slice a5 n5 c5]] W fun e w' => ∃ b, e = .returned (.agg #[.int .i64 3, .map (some b)]) ∧ W.heap.size ≤ b ∧ Book w' b 54 (bookF (hereG d.idx d.bals)) ∧ Below W.heap.size W w') := fun W hW => HBo.out W hW h0
 clear HD0 HD1 HD2 HD3 HAp HCo HBo HOk h0 hls hhk
 rw [hlf]
 clear hlf; go_wp2
 obtain ⟨wq, hwq⟩ : ∃ wq, wq = w1.setCell ⟨w.heap.size + 1, 0, none⟩ (.int .i64 0) := ⟨_, rfl⟩
 have hBq : Below w.heap.size w wq := by rw [hwq]; (repeat (first | refine bset ?_ (by simp; omega) _ | refine bset ?_ (by simp) _ | refine bA ?_ _ | assumption))
 have zq : w.heap.size + 1 < wq.heap.size := by rw [hwq]; simp; omega
 replace y0 : wq.cell? ⟨w.heap.size, 0, none⟩ = some (.int .i64 d.idx) := by rw [hwq]; simp [go_sem, y0]
 replace y1 : wq.cell? ⟨w.heap.size, 1, none⟩ = some (.slice a1 n1 c1) := by rw [hwq]; simp [go_sem, y1]
 replace y2 : wq.cell? ⟨w.heap.size, 2, none⟩ = some (.slice a2 n2 c2) := by rw [hwq]; simp [go_sem, y2]
 replace y3 : wq.cell? ⟨w.heap.size, 3, none⟩ = some (.slice a3 n3 c3) := by rw [hwq]; simp [go_sem, y3]
 replace y4 : wq.cell? ⟨w.heap.size, 4, none⟩ = some (.slice a4 n4 c4) := by rw [hwq]; simp [go_sem, y4]
 replace y5 : wq.cell? ⟨w.heap.size, 5, none⟩ = some (.slice a5 n5 c5) := by rw [hwq]; simp [go_sem, y5]
 replace r0 : wq.cell? ⟨w.heap.size + 1, 0, none⟩ = some (.int .i64 0) := by rw [hwq]; simp [go_sem, r0]
 replace rf : wq.frozen? ⟨w.heap.size + 1, 0, none⟩ = false := by rw [hwq]; simp [go_sem, rf]
 rw [← hwq]
 clear hwq hB1 hz1
 try clear w1
 go_loopw [17] (fun i w' => ∃ k : Nat, k ≤ n3 ∧ i = .int .i64 k ∧ Hid (scanI (apartAt d) k = 0) ∧ Below wq.heap.size wq w') (fun i _ => n3 - (intOf i).toNat)
 case atStart => exact ⟨0, Nat.zero_le _, rfl, rfl, Below.refl _ _⟩
 case round =>
  obtain ⟨k, hk, rfl, HS, hbl⟩ := hrel
  have hBr : Below w.heap.size w wr := bS hBq hbl
  have zr := hbl.size
  replace y0 := cK hbl y0; replace y1 := cK hbl y1; replace y2 := cK hbl y2; replace y3 := cK hbl y3; replace y4 := cK hbl y4; replace y5 := cK hbl y5; replace r0 := cK hbl r0
  replace rf : wr.frozen? ⟨w.heap.size + 1, 0, none⟩ = false := by rw [hbl.frozen (p := ⟨w.heap.size + 1, 0, none⟩) zq]; exact rf
  by_cases hlt : k < n3
  ·
   obtain ⟨bx, ox, pp, qq, rfl, g0, g1, hV⟩ := HX.out k hlt; obtain ⟨ul, hul, hvl⟩ := hV
   simp only [Value.agg.injEq, Array.mk.injEq, List.cons.injEq, and_true, true_and] at hul
   subst hul
   have HC1 : Hid (∀ W, Below wr.heap.size wr W → Calls Tryz.prog 140 #[.int .i64 d.idx, .slice (some ⟨bx, ox, none⟩) k c3, .agg #[.int .i64 (d.held.getD k default).id, .slice pp (d.held.getD k default).legs.length qq]] W (KeepE (apartAt d k) W)) := fun W hW => HAp'.out k W _ _ hlt (bS hBr hW) (legsR.below hvl (bS hBr hW))
   have HP : Hid (¬ apartAt d k = 0 → Z = apartAt d k) := fun h => HD1'.out k hlt HS.out h
   have HN : Hid (apartAt d k = 0 → scanI (apartAt d) (k + 1) = 0) := fun h => scanI_succ HS.out h
   clear hvl HS; generalize (d.held.getD k default).legs.length = ll at *; generalize (d.held.getD k default).id = qid at *; generalize apartAt d k = ak at *; replace g0 := cK hBr g0; replace g1 := cK hBr g1
   have zb : bx < wr.heap.size := wL wr _ g0
   have hkc : k ≤ c3 := by omega
   have zz0 : w.heap.size < wr.heap.size := by omega
   go_wp2
   refine wp_region_panicAs [{ target := .fn (.func 138) #[.pointer (some ⟨w.heap.size + 1, 0, none⟩)], args := #[] }] 2 (.pointer (some ⟨w.heap.size + 1, 0, none⟩)) (fun c W => ∃ q, c = [{ v := refV q, recovered := false }] ∧ Z = q ∧ W.cell? ⟨w.heap.size + 1, 0, none⟩ = some (.int .i64 0) ∧ W.frozen? ⟨w.heap.size + 1, 0, none⟩ = false ∧ Below w.heap.size w W) ?_ ?_
   ·
    rintro c a W hd ht ⟨q, rfl, hz, hc, hf, hb⟩
    show Leaves Tryz.prog Tryz.f95 a.tmps _ a.defers (.panicking _) W
    rw [hd]
    exact doorP w W a.tmps _ Z q 0 hz ht (Nat.le_succ _) hc hf hb
   refine region_upto (fun W => Below wr.heap.size wr W ∧ W.cell? ⟨w.heap.size, 0, none⟩ = some (.int .i64 d.idx) ∧ W.cell? ⟨w.heap.size, 3, none⟩ = some (.slice (some ⟨bx, ox, none⟩) n3 c3) ∧ W.cell? ⟨wr.heap.size, 0, none⟩ = some (.int .i64 qid) ∧ W.cell? ⟨wr.heap.size, 1, none⟩ = some (.slice pp ll qq) ∧ W.cell? ⟨w.heap.size + 1, 0, none⟩ = some (.int .i64 0) ∧ W.frozen? ⟨w.heap.size + 1, 0, none⟩ = false) 8 (by kernel_rfl) ⟨qBq, cK (qBq) y0, cK (qBq) y3, by simp [go_sem], by simp [go_sem], cK (qBq) r0, frz (qBq) (show w.heap.size + 1 < wr.heap.size by omega) rf⟩ (fun hS => ?_)
   refine upto_takeN (i := 0) (v := ?_) rfl (by kernel_rfl) (by kernel_rfl) (by kernel_rfl) (by kernel_rfl) (fun _ _ _ => PanicAs.put (by decide)) (by rfl) hS ?_ ?_
   rotate_left
   ·
    intro wS hSw; (try dsimp only at hSw); go_simp; try with_reducible rfl
   try simp only [jX]
   refine upto_takeN (i := 1) (v := ?_) rfl (by kernel_rfl) (by kernel_rfl) (by kernel_rfl) (by kernel_rfl) (fun _ _ _ => PanicAs.put (by decide)) (by rfl) hS ?_ ?_
   rotate_left
   ·
    intro wS hSw; (try dsimp only at hSw); go_simp; try with_reducible rfl
   try simp only [jX]
   refine upto_takeN (i := 2) (v := ?_) rfl (by kernel_rfl) (by kernel_rfl) (by kernel_rfl) (by kernel_rfl) (fun _ _ _ => PanicAs.put (by decide)) (by rfl) hS ?_ ?_
   rotate_left
   ·
    intro wS hSw; (try dsimp only at hSw); go_simp; try with_reducible rfl
   try simp only [jX]
   refine upto_takeN (i := 3) (v := ?_) rfl (by kernel_rfl) (by kernel_rfl) (by kernel_rfl) (by kernel_rfl) (fun _ _ _ => PanicAs.put (by decide)) (by rfl) hS ?_ ?_
   rotate_left
   ·
    intro wS hSw; (try dsimp only at hSw); go_simp; try with_reducible rfl
   try simp only [jX]
   refine upto_takeN (i := 4) (v := ?_) rfl (by kernel_rfl) (by kernel_rfl) (by kernel_rfl) (by kernel_rfl) (fun _ _ _ => PanicAs.put (by decide)) (by rfl) hS ?_ ?_
   rotate_left
   ·
    intro wS hSw; (try dsimp only at hSw); go_simp; try with_reducible rfl
   try simp only [jX]
   refine upto_takeN (i := 5) (v := ?_) rfl (by kernel_rfl) (by kernel_rfl) (by kernel_rfl) (by kernel_rfl) (fun _ _ _ => PanicAs.put (by decide)) (by rfl) hS ?_ ?_
   rotate_left
   ·
    intro wS hSw; (try dsimp only at hSw); go_simp; try with_reducible rfl
   try simp only [jX]
   refine upto_takeN (i := 6) (v := ?_) rfl (by kernel_rfl) (by kernel_rfl) (by kernel_rfl) (by kernel_rfl) (fun _ _ _ => PanicAs.put (by decide)) (by rfl) hS ?_ ?_
   rotate_left
   ·
    intro wS hSw; (try dsimp only at hSw); go_simp; try with_reducible rfl
   try simp only [jX]
   refine uS 7 rfl (fun K hK => ?_)
   go_simp
   refine (HC1.out _ hS.1).mono ?_
   rintro e wz ⟨he, hbz⟩
   have hbz' : Below wr.heap.size wr wz := bS hS.1 hbz
   have zz : w.heap.size + 1 < wr.heap.size := by omega
   rcases he with ⟨h, rfl⟩ | ⟨h, rfl⟩
   rotate_left
   ·
    refine ⟨rfl, rfl, ak, rfl, HP.out h, cK hbz' r0, frz hbz' zz rf, bS hBr hbz'⟩
   refine hK _ _ (fun _ => ⟨hbz', cK hbz hS.2.1, cK hbz hS.2.2.1, cK hbz hS.2.2.2.1, cK hbz hS.2.2.2.2.1, cK hbz' r0, frz hbz' zz rf⟩) ?_
   clear hK K hS hbz
   try simp only [jX]
   refine upto_done (by kernel_rfl) ?_
   refine PanicAs.normal ?_
   go_wp2
   exact ⟨⟨k + 1, by omega, by go_num, HN.out h, bS hbl hbz'⟩, by simp [intOf]; omega⟩
  ·
   have hkn : k = n3 := by omega
   subst hkn
   have HP2 : Hid (∀ j, j < k → scanI (coverAt d) j = 0 → ¬ coverAt d j = 0 → Z = coverAt d j) := HD2'.out HS.out
   have HP3 : Hid (scanI (coverAt d) k = 0 → Z = 0) := HD3'.out HS.out
   clear HD1' HD2' HD3' HAp' HS
   go_wp2_with fail
   refine (HBo'.out _ hBr).mono ?_
   rintro e w3 ⟨b, rfl, hbb, hbk, hb3⟩
   have hB3 : Below w.heap.size w w3 := bS hBr hb3
   have zz : w.heap.size + 1 < wr.heap.size := by omega
   have z3 := hb3.size
   have zb : b < w3.heap.size := hbk.lt
   replace y0 := cK hb3 y0; replace y1 := cK hb3 y1; replace y2 := cK hb3 y2; replace y3 := cK hb3 y3; replace y4 := cK hb3 y4; replace y5 := cK hb3 y5; replace r0 := cK hb3 r0
   replace rf := frz hb3 zz rf
   have HBk : Hid (Book w3 b 54 (bookF (hereG d.idx d.bals))) := hbk
   have zw : w.heap.size < w3.heap.size := by omega
   have zw1 : w.heap.size + 1 < w3.heap.size := by omega
   clear hbk hb3 HBo' hbl hBr hBq; go_wp2
   obtain ⟨w4, hw4⟩ : ∃ w4, w4 = w3.alloc (.cells #[.int .i64 3, .map (some b)] 217) := ⟨_, rfl⟩
   have hb4 : Below w3.heap.size w3 w4 := by rw [hw4]; (repeat (first | exact bR _ _ | assumption | refine bD ?_ | refine bA ?_ _ | refine bset ?_ (by simp; omega) _ | refine bset ?_ (by simp) _ | refine bS ?_ (by assumption)))
   have q0 : w4.cell? ⟨w3.heap.size, 0, none⟩ = some (.int .i64 3) := by rw [hw4]; simp [go_sem]
   have q1 : w4.cell? ⟨w3.heap.size, 1, none⟩ = some (.map (some b)) := by rw [hw4]; simp [go_sem]
   rw [← hw4]
   clear hw4
   have hB4 : Below w.heap.size w w4 := bS hB3 hb4
   have z4 : w.heap.size + 1 < w4.heap.size := by have := hb4.size; omega
   have HBk4 : Hid (Book w4 b 54 (bookF (hereG d.idx d.bals))) := HBk.out.below hb4
   replace y0 := cK hb4 y0; replace y1 := cK hb4 y1; replace y2 := cK hb4 y2; replace y3 := cK hb4 y3; replace y4 := cK hb4 y4; replace y5 := cK hb4 y5; replace r0 := cK hb4 r0
   replace rf := frz hb4 (show w.heap.size + 1 < w3.heap.size by omega) rf
   clear HBk
   go_loopw [36] (fun i w' => ∃ j : Nat, j ≤ k ∧ i = .int .i64 j ∧ Hid (scanI (coverAt d) j = 0) ∧ Below w4.heap.size w4 w') (fun i _ => k - (intOf i).toNat)
   case atStart => exact ⟨0, Nat.zero_le _, rfl, rfl, Below.refl _ _⟩
   case round =>
    rename_i wr0
    obtain ⟨j, hj, rfl, HS, hbl⟩ := hrel
    have hBr : Below w.heap.size w wr := bS hB4 hbl
    have zr := hbl.size
    replace y0 := cK hbl y0; replace y1 := cK hbl y1; replace y2 := cK hbl y2; replace y3 := cK hbl y3; replace y4 := cK hbl y4; replace y5 := cK hbl y5; replace r0 := cK hbl r0
    replace rf := frz hbl z4 rf
    replace q0 := cK hbl q0; replace q1 := cK hbl q1
    have HBkr : Hid (Book wr b 54 (bookF (hereG d.idx d.bals))) := HBk4.out.below hbl
    by_cases hlt2 : j < k
    ·
     obtain ⟨bx, ox, pp, qq, rfl, g0, g1, hV⟩ := HX.out j hlt2; obtain ⟨ul, hul, hvl⟩ := hV
     simp only [Value.agg.injEq, Array.mk.injEq, List.cons.injEq, and_true, true_and] at hul
     subst hul
     have HC1 : Hid (∀ W, Below wr.heap.size wr W → Calls Tryz.prog 142 #[.int .i64 d.idx, .agg #[.int .i64 3, .map (some b)], .agg #[.int .i64 (d.held.getD j default).id, .slice pp (d.held.getD j default).legs.length qq]] W (KeepE (coverAt d j) W)) := fun W hW => HCo'.out j W _ _ b hlt2 (legsR.below hvl (bS hBr hW)) (HBkr.out.below hW)
     have HP : Hid (¬ coverAt d j = 0 → Z = coverAt d j) := fun h => HP2.out j hlt2 HS.out h
     have HN : Hid (coverAt d j = 0 → scanI (coverAt d) (j + 1) = 0) := fun h => scanI_succ HS.out h
     clear hvl HS; generalize (d.held.getD j default).legs.length = ll at *; generalize (d.held.getD j default).id = qid at *; generalize coverAt d j = ak at *; replace g0 := cK hBr g0; replace g1 := cK hBr g1
     have zb2 : bx < wr.heap.size := wL wr _ g0
     have zq3 : w3.heap.size < wr.heap.size := wL wr _ q0
     have zz2 : w.heap.size + 1 < wr.heap.size := by omega
     have zz3 : w.heap.size < wr.heap.size := by omega
     go_wp2_with fail
     refine (HC1.out _ (qBq)).mono ?_
     rintro e wz ⟨he, hbz⟩
     have hbz' : Below wr.heap.size wr wz := bS (qBq) hbz
     clear hbz
     rcases he with ⟨h, rfl⟩ | ⟨h, rfl⟩
     ·
      have HN2 : Hid _ := HN.out h
      clear HN HP h; go_wp2
      exact ⟨⟨j + 1, by omega, by go_num, HN2, bS hbl hbz'⟩, by simp [intOf]; omega⟩
     ·
      have hz := HP.out h
      exact doorP w wz _ _ Z ak 0 hz rfl (Nat.le_succ _) (cK hbz' r0) (frz hbz' zz2 rf) (bS hBr hbz')
    ·
     have hjn : j = k := by omega
     subst hjn
     have hz := HP3.out HS.out
     clear HP2 HP3 HS; go_wp2
     refine doorR w _ _ (w.heap.size + 1) Z 0 hz rfl (Nat.le_succ _) (by simp [go_sem, r0, rf]) ?_
     (repeat (first | refine bset ?_ (by simp; omega) _ | refine bset ?_ (by simp) _ | refine bA ?_ _ | assumption))
end Go.Proofs.YtackhljepbhpgaaGreat

namespace Go.Proofs.YtackhljepbhpgaaGreat
open Go.RowKit
variable [DecidableEq Vot] [Inhabited Vot] [DecidableEq Slt] [Inhabited Slt] [DecidableEq Bal] [Inhabited Bal] [DecidableEq Ledg] [Inhabited Ledg] [DecidableEq Leg] [Inhabited Leg]
attribute [local go_sem ↓] Go.wp_at_zero Go.wp_at_succ

theorem other_or (v p : Vot) : other v p = (decide (v.bal < p.bal) || otherB v p) := rfl
theorem implSlotF_any (x : Value) (d : Slt) (w : World) (hx : sltR.V w x d) :
  Calls Tryz.prog 148 #[x] w fun e w' => e = .returned (.int .i64 (sltFault d)) ∧ Below w.heap.size w w' := by
 obtain ⟨u1, rfl, hx⟩ := hx; obtain ⟨ax, cx, rfl, hcx, hmx, hx⟩ := hx
 unfold maxLen at hmx
 cases h1 : inB d.con 1 1000000000
 ·
  rw [sltF_range (by simp [sltRange, h1])]
  go_enter Tryz.func148, Tryz.ntmps148
  go_wp2_with (first | (go_at_call 165; refine (isId_any _ _).mono ?_; rintro e w' ⟨rfl, rfl⟩) | (go_at_call 199; refine (isShard_any _ _).mono ?_; rintro e w' ⟨rfl, rfl⟩) | (go_at_call 101; refine (within_any _ _ _ _).mono ?_; rintro e w' ⟨rfl, rfl⟩))
  go_ret
  exact ⟨rfl, qBq⟩
 cases h2 : inB d.sh 0 2
 ·
  rw [sltF_range (by simp [sltRange, h2])]
  go_enter Tryz.func148, Tryz.ntmps148
  go_wp2_with (first | (go_at_call 165; refine (isId_any _ _).mono ?_; rintro e w' ⟨rfl, rfl⟩) | (go_at_call 199; refine (isShard_any _ _).mono ?_; rintro e w' ⟨rfl, rfl⟩) | (go_at_call 101; refine (within_any _ _ _ _).mono ?_; rintro e w' ⟨rfl, rfl⟩))
  go_ret
  exact ⟨rfl, qBq⟩
 cases h3 : inB d.pr (-1) 1000
 ·
  rw [sltF_range (by simp [sltRange, h3])]
  go_enter Tryz.func148, Tryz.ntmps148
  go_wp2_with (first | (go_at_call 165; refine (isId_any _ _).mono ?_; rintro e w' ⟨rfl, rfl⟩) | (go_at_call 199; refine (isShard_any _ _).mono ?_; rintro e w' ⟨rfl, rfl⟩) | (go_at_call 101; refine (within_any _ _ _ _).mono ?_; rintro e w' ⟨rfl, rfl⟩))
  go_ret
  exact ⟨rfl, qBq⟩
 have hR : Hid (sltRange d = true) := by show _ = _; simp [sltRange, h1, h2, h3]
 by_cases h6 : 60 < d.cast.length
 ·
  rw [sltF_many hR.out h6]
  go_enter Tryz.func148, Tryz.ntmps148
  go_wp2_with (first | (go_at_call 165; refine (isId_any _ _).mono ?_; rintro e w' ⟨rfl, rfl⟩) | (go_at_call 199; refine (isShard_any _ _).mono ?_; rintro e w' ⟨rfl, rfl⟩) | (go_at_call 101; refine (within_any _ _ _ _).mono ?_; rintro e w' ⟨rfl, rfl⟩))
  go_ret
  exact ⟨rfl, qBq⟩
 obtain ⟨xs, hxs⟩ : ∃ xs, xs = d.cast := ⟨_, rfl⟩
 have HXS : Hid (d.cast = xs) := hxs.symm
 rw [← hxs] at h6 hcx hx ⊢
 clear hxs
 obtain ⟨n, hn'⟩ : ∃ n, n = xs.length := ⟨_, rfl⟩
 have HN : Hid (xs.length = n) := hn'.symm
 rw [← hn'] at h6 hcx hx ⊢
 clear hn'
 go_enter Tryz.func148, Tryz.ntmps148
 go_wp2_with (first | (go_at_call 165; refine (isId_any _ _).mono ?_; rintro e w' ⟨rfl, rfl⟩) | (go_at_call 199; refine (isShard_any _ _).mono ?_; rintro e w' ⟨rfl, rfl⟩) | (go_at_call 101; refine (within_any _ _ _ _).mono ?_; rintro e w' ⟨rfl, rfl⟩) | fail)
 refine (noVote_any _).mono ?_
 rintro e w1 ⟨rfl, hb1⟩
 have hB1 : Below w.heap.size w w1 := bS (qBq) hb1
 have k2 : w1.cell? ⟨w.heap.size, 2, none⟩ = some (.int .i64 d.pr) := cK hb1 (by simp [go_sem])
 have k3 : w1.cell? ⟨w.heap.size, 3, none⟩ = some (.int .i64 d.lb) := cK hb1 (by simp [go_sem])
 have k4 : w1.cell? ⟨w.heap.size, 4, none⟩ = some (.int .i64 d.lv) := cK hb1 (by simp [go_sem])
 have k5 : w1.cell? ⟨w.heap.size, 5, none⟩ = some (.slice ax n cx) := cK hb1 (by simp [go_sem])
 clear hb1
 have z1 : w.heap.size < w1.heap.size := wL w1 _ k2
 go_wp2
 go_loopw [30] (fun i w' => ∃ k : Nat, k ≤ n ∧ i = .int .i64 k ∧ scanI (votAt xs) k = 0 ∧ (w'.cell? ⟨w.heap.size, 2, none⟩ = some (.int .i64 d.pr) ∧ w'.cell? ⟨w.heap.size, 3, none⟩ = some (.int .i64 d.lb) ∧ w'.cell? ⟨w.heap.size, 4, none⟩ = some (.int .i64 d.lv)) ∧ w'.cell? ⟨w1.heap.size, 0, none⟩ = some (.int .i64 (lastV xs k).bal) ∧ w'.cell? ⟨w1.heap.size, 1, none⟩ = some (.int .i64 (lastV xs k).val) ∧ (∀ o, w'.frozen? ⟨w1.heap.size, o, none⟩ = false) ∧ Below w.heap.size w w') (fun i _ => n - (intOf i).toNat)
 case atStart => exact ⟨0, Nat.zero_le _, rfl, rfl, ⟨cK (bA (Below.refl _ _) _) k2, cK (bA (Below.refl _ _) _) k3, cK (bA (Below.refl _ _) _) k4⟩, by simp [go_sem, lastV_zero, noV], by simp [go_sem, lastV_zero, noV], by simp [go_sem], qBq⟩
 case round =>
  clear k2 k3 k4 k5 hB1
  obtain ⟨k, hk, rfl, hs, ⟨c2, c3, c4⟩, e0, e1, ef, hbl⟩ := hrel
  have HS : Hid (scanI (votAt xs) k = 0) := hs
  clear hs
  have z0 : w.heap.size < wr.heap.size := wL wr _ c2
  have z2 : w1.heap.size < wr.heap.size := wL wr _ e0
  obtain ⟨q, hq⟩ : ∃ q, q = lastV xs k := ⟨_, rfl⟩
  have HQ : Hid (lastV xs k = q) := hq.symm
  rw [← hq] at e0 e1
  clear hq
  by_cases hlt : k < n
  ·
   obtain ⟨bx, ox, rfl, g1⟩ := hx k hlt
   obtain ⟨l, hl⟩ : ∃ l, l = xs.getD k default := ⟨_, rfl⟩
   rw [← hl] at g1
   have HL : Hid (l = xs.getD k default) := hl
   clear hl hx; obtain ⟨a1, a2⟩ := votCells_below hbl g1; clear g1
   cases v1 : votB l
   ·
    go_wp2_with (go_at_call 159; refine (isVote_any l _).mono ?_; rintro e w' ⟨rfl, hb⟩)
    go_ret
    refine ⟨?_, qBq⟩
    rw [sltF_hit (k := k) (c := 3) hR.out (by rw [HXS.out, HN.out]; omega) (by rw [HXS.out, HN.out]; exact hlt) (by rw [HXS.out]; exact HS.out) (by rw [HXS.out]; exact votAt_bad (by rw [← HL.out]; exact v1)) (by omega)]
    rfl
   have hok : Hid (votB (xs.getD k default) = true) := by show _ = _; rw [← HL.out]; exact v1
   go_wp2_with fail
   refine (isVote_any l _).mono ?_
   rintro e w2 ⟨rfl, hb2⟩
   have hB2 : Below w.heap.size w w2 := bS (bA hbl _) hb2
   have b0 : w2.cell? ⟨wr.heap.size, 0, none⟩ = some (.int .i64 l.bal) := cK hb2 (by simp [go_sem])
   have b1 : w2.cell? ⟨wr.heap.size, 1, none⟩ = some (.int .i64 l.val) := cK hb2 (by simp [go_sem])
   replace c2 := cK hb2 (cK (qBq) c2)
   replace c3 := cK hb2 (cK (qBq) c3)
   replace c4 := cK hb2 (cK (qBq) c4)
   replace e0 := cK hb2 (cK (qBq) e0)
   replace e1 := cK hb2 (cK (qBq) e1)
   replace ef : ∀ o, w2.frozen? ⟨w1.heap.size, o, none⟩ = false := fun o => by rw [(bcell hb2).2 _ _ (by simp; omega)]; simp [go_sem, ef, z2]
   clear hb2 hbl a1 a2
   rw [v1]
   by_cases q1 : l.bal < q.bal
   ·
    go_wp2; go_ret
    refine ⟨?_, hB2⟩
    rw [sltF_hit (k := k) (c := 1) hR.out (by rw [HXS.out, HN.out]; omega) (by rw [HXS.out, HN.out]; exact hlt) (by rw [HXS.out]; exact HS.out) (by rw [HXS.out]; exact votAt_other hok.out (by rw [← HL.out, HQ.out, other_or]; simp [q1])) (by omega)]
    rfl
   ·
    go_wp2_with fail
    refine (isOtherwise_any l q _).mono ?_
    rintro e w3 ⟨rfl, hb3⟩
    have hB3 : Below w.heap.size w w3 := bS hB2 hb3
    have z3 : w1.heap.size < w2.heap.size := wL w2 _ e0
    replace b0 := cK hb3 b0; replace b1 := cK hb3 b1; replace c2 := cK hb3 c2; replace c3 := cK hb3 c3; replace c4 := cK hb3 c4; replace e0 := cK hb3 e0; replace e1 := cK hb3 e1
    replace ef : ∀ o, w3.frozen? ⟨w1.heap.size, o, none⟩ = false := fun o => by rw [(bcell hb3).2 _ _ z3]; exact ef o
    clear hb3 hB2
    cases q2 : otherB l q
    ·
     go_wp2
     refine ⟨⟨k + 1, by omega, by go_num, scanI_succ HS.out (votAt_ok hok.out (by rw [← HL.out, HQ.out, other_or, q2]; simp [q1])), ⟨by simp [go_sem, c2], by simp [go_sem, c3], by simp [go_sem, c4]⟩, ?_, ?_, by simp [go_sem, ef], by (repeat (first | refine bset ?_ (by simp; omega) _ | refine bset ?_ (by simp) _ | refine bA ?_ _ | assumption))⟩, by simp [intOf]; omega⟩
     ·
      rw [lastV_succ, ← HL.out]
      simp [go_sem, e0]
     ·
      rw [lastV_succ, ← HL.out]
      simp [go_sem, e1]
    ·
     go_wp2; go_ret
     refine ⟨?_, hB3⟩
     rw [sltF_hit (k := k) (c := 1) hR.out (by rw [HXS.out, HN.out]; omega) (by rw [HXS.out, HN.out]; exact hlt) (by rw [HXS.out]; exact HS.out) (by rw [HXS.out]; exact votAt_other hok.out (by rw [← HL.out, HQ.out, other_or, q2]; simp)) (by omega)]
     rfl
  ·
   have hkn : k = n := by omega
   subst hkn
   have HE : Hid (sltFault d = if (d.lb = q.bal ∧ d.lv = q.val) ∧ d.lb ≤ d.pr then 0 else 1) := by
    show _ = _
    rw [sltF_end hR.out (by rw [HXS.out, HN.out]; omega) (by rw [HXS.out, HN.out]; exact HS.out), HXS.out, HN.out, HQ.out]
   clear hx hlt
   cases he : (decide (d.lb = q.bal) && decide (d.lv = q.val))
   ·
    have heq : ∀ w, (binOp .neq 87 (.agg #[.int .i64 d.lb, .int .i64 d.lv]) (.agg #[.int .i64 q.bal, .int .i64 q.val])).run Tryz.prog w = .ok (.bool true) w := fun w => by rw [neqVot, he]; rfl
    go_wp2; go_ret
    refine ⟨?_, hbl⟩
    rw [HE.out, if_neg (by simp at he; rintro ⟨⟨e1, e2⟩, _⟩; exact he e1 e2)]
    rfl
   ·
    have heq : ∀ w, (binOp .neq 87 (.agg #[.int .i64 d.lb, .int .i64 d.lv]) (.agg #[.int .i64 q.bal, .int .i64 q.val])).run Tryz.prog w = .ok (.bool false) w := fun w => by rw [neqVot, he]; rfl
    simp at he
    have HB : Hid (d.lb = q.bal ∧ d.lv = q.val) := he
    clear he; go_wp2
    ·
     rename_i hle
     go_ret
     refine ⟨?_, hbl⟩
     rw [HE.out, if_neg (by rintro ⟨_, h⟩; have := HB.out.1; omega)]
     rfl
    ·
     rename_i hle
     go_ret
     refine ⟨?_, hbl⟩
     rw [HE.out, if_pos ⟨HB.out, by have := HB.out.1; omega⟩]
     rfl
variable [DecidableEq SltR] [Inhabited SltR] [DecidableEq Acc] [Inhabited Acc] [DecidableEq AccR] [Inhabited AccR] [DecidableEq AccsR] [Inhabited AccsR] [DecidableEq SltsR] [Inhabited SltsR]
theorem implAccF_any (x : Value) (d : Acc) (w : World) (hx : accR.V w x d) :
  Calls Tryz.prog 97 #[x] w fun e w' => e = .returned (.int .i64 (accF d.slots)) ∧ Below w.heap.size w w' := by
 obtain ⟨u1, rfl, hx⟩ := hx; obtain ⟨ax, cx, rfl, hcx, hmx, hx⟩ := hx
 unfold maxLen at hmx
 obtain ⟨xs⟩ := d
 dsimp only at hx hcx ⊢
 obtain ⟨n, hn'⟩ : ∃ n, n = xs.length := ⟨_, rfl⟩
 have HN : Hid (xs.length = n) := hn'.symm
 rw [← hn'] at hcx hx ⊢
 clear hn'
 by_cases h6 : 60 < n
 ·
  have HC : Hid (accF xs = 2) := accF_many (by rw [HN.out]; exact h6)
  have h6' : (60 : Int) < n := by omega
  clear hx
  go_enter Tryz.func97, Tryz.ntmps97
  go_wp2; go_ret; exact ⟨by rw [HC.out]; rfl, qBq⟩
 have h6' : ¬ (60 : Int) < n := by omega
 have HH : Hid (∀ k c, k < n → scanI (accAt xs) k = 0 → accAt xs k = c → ¬ c = 0 → accF xs = c) := fun k c hk hs hc h0 => accF_hit (by rw [HN.out]; exact h6) (by rw [HN.out]; exact hk) hs hc h0
 have HE : Hid (scanI (accAt xs) n = 0 → accF xs = 0) := fun hs => accF_end (by rw [HN.out]; exact h6) (by rw [HN.out]; exact hs)
 clear h6
 go_enter Tryz.func97, Tryz.ntmps97
 go_wp2
 go_loopw [13] (fun i w' => ∃ k : Nat, k ≤ n ∧ i = .int .i64 k ∧ scanI (accAt xs) k = 0 ∧ w'.cell? ⟨w.heap.size, 0, none⟩ = some (.slice ax n cx) ∧ Below w.heap.size w w') (fun i _ => n - (intOf i).toNat)
 case atStart => exact ⟨0, Nat.zero_le _, rfl, rfl, by simp [go_sem], qBq⟩
 case round =>
  obtain ⟨k, hk, rfl, hs, hq, hbl⟩ := hrel
  have HS : Hid (scanI (accAt xs) k = 0) := hs
  clear hs
  by_cases hlt : k < n
  ·
   obtain ⟨bxa, oxa, ua, rfl, _, pa, hva⟩ := hx k (by omega)
   obtain ⟨l, hla⟩ : ∃ l, l = xs.getD k default := ⟨_, rfl⟩
   rw [← hla] at hva
   have HLa : Hid (l = xs.getD k default) := hla
   clear hla
   have hVa := hva
   obtain ⟨sa, rfl, hca⟩ := hva; obtain ⟨aua, cua, rfl⟩ := vots_form hca; clear hca
   have ga0 : w.cell? ⟨bxa, oxa + k * 6, none⟩ = some (.int .i64 l.con) := pa 0 (by omega)
   have ga1 : w.cell? ⟨bxa, oxa + k * 6 + 1, none⟩ = some (.int .i64 l.sh) := pa 1 (by omega)
   have ga2 : w.cell? ⟨bxa, oxa + k * 6 + 2, none⟩ = some (.int .i64 l.pr) := pa 2 (by omega)
   have ga3 : w.cell? ⟨bxa, oxa + k * 6 + 3, none⟩ = some (.int .i64 l.lb) := pa 3 (by omega)
   have ga4 : w.cell? ⟨bxa, oxa + k * 6 + 4, none⟩ = some (.int .i64 l.lv) := pa 4 (by omega)
   have ga5 : w.cell? ⟨bxa, oxa + k * 6 + 5, none⟩ = some (.slice aua l.cast.length cua) := pa 5 (by omega)
   clear pa
   have HF : Hid (∀ W, Below w.heap.size w W → Calls Tryz.prog 148 #[.agg #[.int .i64 l.con, .int .i64 l.sh, .int .i64 l.pr, .int .i64 l.lb, .int .i64 l.lv, .slice aua l.cast.length cua]] W fun e w' => e = .returned (.int .i64 (sltFault l)) ∧ Below W.heap.size W w') := fun W h => implSlotF_any _ l W (sltR.below hVa h)
   clear hVa
   have hX : Hid (∀ i, i < n → ∃ b o u, some (⟨bxa, oxa, none⟩ : Addr) = some ⟨b, o, none⟩ ∧ (lvSlt u).length = 6 ∧ (∀ j, j < 6 → w.cell? ⟨b, o + i * 6 + j, none⟩ = (lvSlt u)[j]?) ∧ sltR.V w u (xs.getD i default)) := hx
   clear hx; replace ga0 := cK hbl ga0; replace ga1 := cK hbl ga1; replace ga2 := cK hbl ga2; replace ga3 := cK hbl ga3; replace ga4 := cK hbl ga4; replace ga5 := cK hbl ga5
   have zb : bxa < wr.heap.size := wL wr _ ga0
   have zq : w.heap.size < wr.heap.size := wL wr _ hq
   go_wp2_with fail
   refine (HF.out _ (qBq)).mono ?_
   rintro e w1 ⟨rfl, hb1⟩
   have hB1 : Below w.heap.size w w1 := bS (qBq) hb1
   have hq1 : w1.cell? ⟨w.heap.size, 0, none⟩ = some (.slice (some ⟨bxa, oxa, none⟩) n cx) := cK hb1 (by simp [go_sem, hq, zq])
   have s0 : w1.cell? ⟨wr.heap.size, 0, none⟩ = some (.int .i64 l.con) := cK hb1 (by simp [go_sem])
   have s1 : w1.cell? ⟨wr.heap.size, 1, none⟩ = some (.int .i64 l.sh) := cK hb1 (by simp [go_sem])
   have s2 : w1.cell? ⟨wr.heap.size, 2, none⟩ = some (.int .i64 l.pr) := cK hb1 (by simp [go_sem])
   have s3 : w1.cell? ⟨wr.heap.size, 3, none⟩ = some (.int .i64 l.lb) := cK hb1 (by simp [go_sem])
   have s4 : w1.cell? ⟨wr.heap.size, 4, none⟩ = some (.int .i64 l.lv) := cK hb1 (by simp [go_sem])
   have s5 : w1.cell? ⟨wr.heap.size, 5, none⟩ = some (.slice aua l.cast.length cua) := cK hb1 (by simp [go_sem])
   replace ga0 := cK hb1 (cK (qBq) ga0)
   replace ga1 := cK hb1 (cK (qBq) ga1)
   replace ga2 := cK hb1 (cK (qBq) ga2)
   replace ga3 := cK hb1 (cK (qBq) ga3)
   replace ga4 := cK hb1 (cK (qBq) ga4)
   replace ga5 := cK hb1 (cK (qBq) ga5)
   clear hb1 hq
   have HX : Hid (accAt xs k = if sltFault l = 0 then (if k = 0 then 0 else if aheadS (xs.getD (k - 1) default) l = true then 0 else 1) else sltFault l) := by show _ = _; unfold accAt; rw [← HLa.out]
   by_cases hf : sltFault l = 0
   ·
    rw [hf]
    have HX2 : Hid (accAt xs k = if k = 0 then 0 else if aheadS (xs.getD (k - 1) default) l = true then 0 else 1) := by show _ = _; rw [HX.out, if_pos hf]
    clear hf HX
    cases k with
    | zero =>
     have H0 : Hid (accAt xs 0 = 0) := by show _ = _; rw [HX2.out, if_pos rfl]
     clear HX2; clear ga0 ga1 ga2 ga3 ga4 ga5 hX; go_wp2
     go_quiet (fail)
     go_wp2
     exact ⟨⟨1, by omega, by go_num, scanI_succ HS.out H0.out, cK (bdrewN (Below.refl _ _) _) hq1, bdrewN hB1 _⟩, by simp [intOf]; omega⟩
    | succ p =>
     have hx := hX.out
     clear hX
     have hxz := hx p (by omega)
     obtain ⟨bxz, oxz, uz, hez, _, pz, hvz⟩ := hxz
     simp only [Option.some.injEq, Addr.mk.injEq, and_true] at hez
     obtain ⟨rfl, rfl⟩ := hez
     obtain ⟨z, hlz⟩ : ∃ l, l = xs.getD p default := ⟨_, rfl⟩
     rw [← hlz] at hvz
     have HLz : Hid (z = xs.getD p default) := hlz
     clear hlz
     have hVz := hvz
     obtain ⟨sz, rfl, hcz⟩ := hvz; obtain ⟨auz, cuz, rfl⟩ := vots_form hcz; clear hcz
     have gz0 : w.cell? ⟨bxa, oxa + p * 6, none⟩ = some (.int .i64 z.con) := pz 0 (by omega)
     have gz1 : w.cell? ⟨bxa, oxa + p * 6 + 1, none⟩ = some (.int .i64 z.sh) := pz 1 (by omega)
     have gz2 : w.cell? ⟨bxa, oxa + p * 6 + 2, none⟩ = some (.int .i64 z.pr) := pz 2 (by omega)
     have gz3 : w.cell? ⟨bxa, oxa + p * 6 + 3, none⟩ = some (.int .i64 z.lb) := pz 3 (by omega)
     have gz4 : w.cell? ⟨bxa, oxa + p * 6 + 4, none⟩ = some (.int .i64 z.lv) := pz 4 (by omega)
     have gz5 : w.cell? ⟨bxa, oxa + p * 6 + 5, none⟩ = some (.slice auz z.cast.length cuz) := pz 5 (by omega)
     clear pz; clear hx hVz; replace gz0 := cK hB1 gz0; replace gz1 := cK hB1 gz1; replace gz2 := cK hB1 gz2; replace gz3 := cK hB1 gz3; replace gz4 := cK hB1 gz4; replace gz5 := cK hB1 gz5
     have i1 : (p : Int) < (n : Int) := by omega
     have i2 : ((p + 1 : Nat) : Int) < (n : Int) := by omega
     have i3 : (0 : Int) < ((p + 1 : Nat) : Int) := by omega
     have i4 : decide (0 < p + 1) = true := decide_eq_true (by omega)
     have i5 : IntKind.i64.wrap (((p + 1 : Nat) : Int) - 1) = (p : Int) := by rw [IntKind.wrap_i64]; omega
     have i6 : (0 : Int) ≤ ((p + 1 : Nat) : Int) := by omega
     have i7 : (0 : Int) ≤ (p : Int) := by omega
     have i8 : (p : Int) + 1 < (n : Int) := by omega
     have i9 : (0 : Int) ≤ (p : Int) + 1 := by omega
     have i10 : ((p : Int) + 1).toNat = p + 1 := by omega
     have w1' : IntKind.i64.wrap (p : Int) = p := wrapId (by omega) (by omega)
     have HX3 : Hid (accAt xs (p + 1) = if aheadS z l = true then 0 else 1) := by show _ = _; rw [HX2.out, if_neg (by omega), Nat.add_sub_cancel, ← HLz.out]
     clear HX2
     obtain ⟨u, hu⟩ : ∃ u : Value, u = .slice aua l.cast.length cua := ⟨_, rfl⟩
     obtain ⟨u', hu'⟩ : ∃ u : Value, u = .slice auz z.cast.length cuz := ⟨_, rfl⟩
     have rA : w1.cell? ⟨wr.heap.size, 0, none⟩ = some (.int .i64 l.con) ∧ w1.cell? ⟨wr.heap.size, 0 + 1, none⟩ = some (.int .i64 l.sh) ∧ w1.cell? ⟨wr.heap.size, 0 + 2, none⟩ = some (.int .i64 l.pr) ∧ w1.cell? ⟨wr.heap.size, 0 + 3, none⟩ = some (.int .i64 l.lb) ∧ w1.cell? ⟨wr.heap.size, 0 + 4, none⟩ = some (.int .i64 l.lv) ∧ w1.cell? ⟨wr.heap.size, 0 + 5, none⟩ = some (.slice aua l.cast.length cua) := ⟨s0, s1, s2, s3, s4, s5⟩
     have rZ : w1.cell? ⟨bxa, oxa + p * 6, none⟩ = some (.int .i64 z.con) ∧ w1.cell? ⟨bxa, oxa + p * 6 + 1, none⟩ = some (.int .i64 z.sh) ∧ w1.cell? ⟨bxa, oxa + p * 6 + 2, none⟩ = some (.int .i64 z.pr) ∧ w1.cell? ⟨bxa, oxa + p * 6 + 3, none⟩ = some (.int .i64 z.lb) ∧ w1.cell? ⟨bxa, oxa + p * 6 + 4, none⟩ = some (.int .i64 z.lv) ∧ w1.cell? ⟨bxa, oxa + p * 6 + 5, none⟩ = some (.slice auz z.cast.length cuz) := ⟨gz0, gz1, gz2, gz3, gz4, gz5⟩
     clear ga0 gz0 s0 ga1 gz1 s1 ga2 gz2 s2 ga3 gz3 s3 ga4 gz4 s4 ga5 gz5 s5 hu hu'
     cases hah : aheadS z l
     ·
      have hah' : aheadS z l = false := hah
      have hge : decide (0 ≤ cmpS z l) = true := by unfold aheadS at hah; have h' := of_decide_eq_false hah; exact decide_eq_true (by omega)
      have hg2 : 0 ≤ cmpS z l := of_decide_eq_true hge
      have HAH : Hid (aheadS z l = false) := hah'
      clear hah'; go_wp2
      go_region_held3 (fun W => Below w1.heap.size w1 W ∧ (W.cell? ⟨wr.heap.size, 0, none⟩ = some (.int .i64 l.con) ∧ W.cell? ⟨wr.heap.size, 0 + 1, none⟩ = some (.int .i64 l.sh) ∧ W.cell? ⟨wr.heap.size, 0 + 2, none⟩ = some (.int .i64 l.pr) ∧ W.cell? ⟨wr.heap.size, 0 + 3, none⟩ = some (.int .i64 l.lb) ∧ W.cell? ⟨wr.heap.size, 0 + 4, none⟩ = some (.int .i64 l.lv) ∧ W.cell? ⟨wr.heap.size, 0 + 5, none⟩ = some (.slice aua l.cast.length cua)) ∧ (W.cell? ⟨bxa, oxa + p * 6, none⟩ = some (.int .i64 z.con) ∧ W.cell? ⟨bxa, oxa + p * 6 + 1, none⟩ = some (.int .i64 z.sh) ∧ W.cell? ⟨bxa, oxa + p * 6 + 2, none⟩ = some (.int .i64 z.pr) ∧ W.cell? ⟨bxa, oxa + p * 6 + 3, none⟩ = some (.int .i64 z.lb) ∧ W.cell? ⟨bxa, oxa + p * 6 + 4, none⟩ = some (.int .i64 z.lv) ∧ W.cell? ⟨bxa, oxa + p * 6 + 5, none⟩ = some (.slice auz z.cast.length cuz)) ∧ W.cell? ⟨w.heap.size, 0, none⟩ = some (.slice (some ⟨bxa, oxa, none⟩) n cx)) ((refine sltKeep3 ?_ rA rZ hq1; repeat (first | exact bR _ _ | assumption | refine bD ?_ | refine bA ?_ _ | refine bS ?_ (by assumption)))) (first | (go_at_call 149; refine (compareSlots_any z l _ _ _).mono ?_; rintro e wa ⟨rfl, hb2⟩))
      rename_i hH
      have hB2 := bS hB1 hH.1
      have hq2 := hH.2.2.2
      clear hH
      have HC : Hid (accF xs = 1) := HH.out (p + 1) 1 hlt HS.out (by rw [HX3.out, HAH.out]; rfl) (by omega)
      go_wp2; go_ret; exact ⟨by rw [HC.out]; rfl, hB2⟩
     ·
      have hah' : aheadS z l = true := hah
      have hge : decide (0 ≤ cmpS z l) = false := by unfold aheadS at hah; have h' := of_decide_eq_true hah; exact decide_eq_false (by omega)
      have hg2 : ¬ 0 ≤ cmpS z l := of_decide_eq_false hge
      have HAH : Hid (aheadS z l = true) := hah'
      clear hah'; go_wp2
      go_region_held3 (fun W => Below w1.heap.size w1 W ∧ (W.cell? ⟨wr.heap.size, 0, none⟩ = some (.int .i64 l.con) ∧ W.cell? ⟨wr.heap.size, 0 + 1, none⟩ = some (.int .i64 l.sh) ∧ W.cell? ⟨wr.heap.size, 0 + 2, none⟩ = some (.int .i64 l.pr) ∧ W.cell? ⟨wr.heap.size, 0 + 3, none⟩ = some (.int .i64 l.lb) ∧ W.cell? ⟨wr.heap.size, 0 + 4, none⟩ = some (.int .i64 l.lv) ∧ W.cell? ⟨wr.heap.size, 0 + 5, none⟩ = some (.slice aua l.cast.length cua)) ∧ (W.cell? ⟨bxa, oxa + p * 6, none⟩ = some (.int .i64 z.con) ∧ W.cell? ⟨bxa, oxa + p * 6 + 1, none⟩ = some (.int .i64 z.sh) ∧ W.cell? ⟨bxa, oxa + p * 6 + 2, none⟩ = some (.int .i64 z.pr) ∧ W.cell? ⟨bxa, oxa + p * 6 + 3, none⟩ = some (.int .i64 z.lb) ∧ W.cell? ⟨bxa, oxa + p * 6 + 4, none⟩ = some (.int .i64 z.lv) ∧ W.cell? ⟨bxa, oxa + p * 6 + 5, none⟩ = some (.slice auz z.cast.length cuz)) ∧ W.cell? ⟨w.heap.size, 0, none⟩ = some (.slice (some ⟨bxa, oxa, none⟩) n cx)) ((refine sltKeep3 ?_ rA rZ hq1; repeat (first | exact bR _ _ | assumption | refine bD ?_ | refine bA ?_ _ | refine bS ?_ (by assumption)))) (first | (go_at_call 149; refine (compareSlots_any z l _ _ _).mono ?_; rintro e wa ⟨rfl, hb2⟩))
      rename_i hH
      have hB2 := bS hB1 hH.1
      have hq2 := hH.2.2.2
      clear hH
      have H0 : Hid (accAt xs (p + 1) = 0) := by show _ = _; rw [HX3.out, HAH.out]; rfl
      go_wp2
      exact ⟨⟨p + 1 + 1, by omega, by go_num, scanI_succ HS.out H0.out, hq2, hB2⟩, by simp [intOf]; omega⟩
   ·
    have HC : Hid (accF xs = sltFault l) := HH.out k _ hlt HS.out (by rw [HX.out, if_neg hf]) hf
    clear HX hX; generalize sltFault l = c at *; go_wp2; go_ret
    exact ⟨by rw [HC.out]; rfl, hB1⟩
  ·
   have hkn : k = n := by omega
   subst hkn
   have HC : Hid (accF xs = 0) := HE.out HS.out
   go_wp2; go_ret; exact ⟨by rw [HC.out]; rfl, qBq⟩
end Go.Proofs.YtackhljepbhpgaaGreat


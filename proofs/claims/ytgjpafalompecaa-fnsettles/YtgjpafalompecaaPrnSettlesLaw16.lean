import Derived.Test.YtgjpafalompecaaPrnSettlesLaw8
import Derived.Test.YtgjpafalompecaaPrnSettlesLaw12
import Derived.Test.YtgjpafalompecaaPrnSettlesLaw15
import Derived.Test.YtgjpafalompecaaPrnSettlesLaw11
import Derived.Test.YtgjpafalompecaaPrnSettlesLaw1
import Derived.Deep.RegionHeld3
import Derived.Deep.DrawnRows
import Derived.Test.YtgjpafalompecaaPrnSettlesLaw9
import Derived.Test.YtgjpafalompecaaPrnSettlesLaw3

/-
  ReverseOf on both sides, and its answers compared, marked and read back.
-/
namespace Go.Proofs.Ytgjpafalompecaa
open Go.RowKit
set_option linter.unusedSectionVars false
variable [DecidableEq Leg] [Inhabited Leg]
attribute [local go_sem ↓] Go.wp_at_zero Go.wp_at_succ

def turnL (l : Leg) : Leg := ⟨l.sh, l.ac, l.ast, -l.am⟩
def turn (xs : List Leg) : List Leg := xs.map turnL
theorem turn_len (xs : List Leg) : (turn xs).length = xs.length := by simp [turn]
theorem turn_getD (xs : List Leg) (k : Nat) (h : k < xs.length) : (turn xs).getD k default = turnL (xs.getD k default) := by simp [turn, List.getD, h]
def revOk (id : Int) (xs : List Leg) (nid : Int) : Bool := decide (contractFault id xs = 0) && inB nid 1 1000000000
def revCode (id : Int) (xs : List Leg) (nid : Int) : Int := if contractFault id xs = 0 then (if inB nid 1 1000000000 then 0 else 3) else contractFault id xs
def revId (id : Int) (xs : List Leg) (nid : Int) : Int := if revOk id xs nid then nid else 0
def revLegs (id : Int) (xs : List Leg) (nid : Int) : List Leg := if revOk id xs nid then turn xs else []
set_option maxRecDepth 20000 in
set_option maxHeartbeats 1000000 in
theorem turnedRound_any (x : Value) (xs : List Leg) (w : World) (hx : LegsV w x xs) (hn : xs.length ≤ 1048576) (hs : small xs) :
    Calls Try.prog 32 #[x] w fun e w' => ∃ v, e = .returned v ∧ w'.ownsRow w.heap.size 40 4 v (turn xs).length (legsC (turn xs)) ∧ Below w.heap.size w w' := by
  obtain ⟨ax, cx, rfl, hcx, hmx, hx⟩ := hx
  unfold maxLen at hmx
  obtain ⟨i0, hi, hz0, hz1, hz2⟩ := info_parts infoLeg
  obtain ⟨w1, hmk, hown, hgr⟩ := run_make_full (P := Try.prog) w w.heap.size 27 40 i0 _ 4 Try.underlying27 hi hz0 hz1 .i64 .i64 xs.length (by rw [hz2]; omega) (by unfold maxLen; omega) (Nat.le_refl _)
  have hbl0 : Below w.heap.size w w1 := (Below.refl _ _).grown hgr (Nat.le_refl _) (fun k h => by cases h)
  have hzz : w.heap.size < w1.heap.size := by
    rcases hown.2 with ⟨h, _⟩ | ⟨g, cap, cur, h, _, hg, _⟩
    · simp at h
    · simp at h
      obtain ⟨rfl, _⟩ := h
      exact (Array.getElem?_eq_some_iff.1 hg).1
  have HS : Hid (small xs) := hs
  clear hs
  generalize hn' : xs.length = n at *
  have HN : Hid (xs.length = n) := hn'
  clear hn'
  go_enter Try.func32, Try.ntmps32
  go_wp2
  go_loopw [11] (fun i w' => ∃ (k : Nat) (cs : List Value), k ≤ n ∧ i = .int .i64 k ∧ w'.ownsRow w.heap.size 40 4 (.slice (some ⟨w.heap.size, 0, none⟩) n n) n cs ∧ upto k cs (turn xs) ∧ w.heap.size < w'.heap.size ∧ Below w.heap.size w w') (fun i _ => n - (intOf i).toNat)
  case atStart => exact ⟨0, _, Nat.zero_le _, rfl, hown, fun j h => by omega, hzz, hbl0⟩
  case round =>
    obtain ⟨k, cs, hk, rfl, ho, hup, hz, hbl⟩ := hrel
    have HU : Hid (upto k cs (turn xs)) := hup
    clear hup hown hmk hgr hbl0 hzz
    by_cases hlt : k < n
    · obtain ⟨bx, ox, rfl, h1⟩ := hx k hlt
      obtain ⟨l, hl⟩ : ∃ l, l = xs.getD k default := ⟨_, rfl⟩
      rw [← hl] at h1
      have H1 : Hid (l = xs.getD k default) := hl
      clear hl hx
      obtain ⟨a1, a2, a3, a4⟩ := legCells_below hbl h1
      have sb := HS.out k (by have := HN.out; omega)
      rw [← H1.out] at sb
      obtain ⟨sb1, sb2⟩ := sb
      obtain ⟨u0, g0⟩ := owns_some ho (k * 4) (by omega)
      obtain ⟨u1, g1⟩ := owns_some ho (k * 4 + 1) (by omega)
      obtain ⟨u2, g2⟩ := owns_some ho (k * 4 + 2) (by omega)
      obtain ⟨u3, g3⟩ := owns_some ho (k * 4 + 3) (by omega)
      have hf := fun j => ho.frozenAt j
      go_wp2
      have s0 := ho.stored (k * 4) (.int .i64 l.sh)
      have s1 := s0.1.stored (k * 4 + 1) (.int .i64 l.ac)
      have s2 := s1.1.stored (k * 4 + 2) (.int .i64 l.ast)
      have s3 := s2.1.stored (k * 4 + 3) (.int .i64 (-l.am))
      refine ⟨⟨k + 1, _, by omega, by go_num, s3.1.alloc _, upto_set (l := turnL l) HU.out (by rw [turn_len]; have := HN.out; omega) (by rw [turn_len]; have := HN.out; have := ho.1; omega) ?_, by simp; omega, ?_⟩, by simp [intOf]; omega⟩
      · rw [turn_getD xs k (by have := HN.out; omega), ← H1.out]
      · exact balloc ((((hbl.setCell (Nat.le_refl _) _).setCell (Nat.le_refl _) _).setCell (Nat.le_refl _) _).setCell (Nat.le_refl _) _) _
    · go_wp2
      go_ret
      have hkn : k = n := by omega
      subst hkn
      have e := upto_full HU.out ho.1 (by rw [turn_len]; exact HN.out)
      subst e
      refine ⟨_, rfl, ?_, hbl⟩
      rw [turn_len, HN.out]
      exact ho
set_option maxRecDepth 20000 in
set_option maxHeartbeats 1000000 in
theorem implReverseOf_any (id : Int) (x : Value) (xs : List Leg) (nid : Int) (w : World) (hx : LegsV w x xs) :
    Calls Try.prog 12 #[.agg #[.int .i64 id, x], .int .i64 nid] w fun e w' => ∃ v, e = .returned (.agg #[.int .i64 (revCode id xs nid), .int .i64 (revId id xs nid), v]) ∧ w'.ownsRow w.heap.size 40 4 v (revLegs id xs nid).length (legsC (revLegs id xs nid)) ∧ Below w.heap.size w w' := by
  go_enter Try.func12, Try.ntmps12
  go_wp2_with fail
  refine (implFault_any id x xs _ (LegsV_below hx (balloc (balloc (Below.refl _ _) _) _))).mono ?_
  rintro e w1 ⟨rfl, hb1⟩
  have hB1 : Below w.heap.size w w1 := bstep (balloc (balloc (Below.refl _ _) _) _) hb1
  obtain ⟨hc1, hf1⟩ := bcell hb1
  by_cases hcf : contractFault id xs = 0
  · have HC : Hid (contractFault id xs = 0) := hcf
    rw [hcf]
    clear hcf
    cases ha : inB nid 1 1000000000 with
    | false =>
      have hok : revOk id xs nid = false := by simp [revOk, ha]
      go_wp2_with (go_at_call 31; refine (isId_any _ _).mono ?_; rintro e w' ⟨rfl, rfl⟩)
      refine bodyPost_ret (v := .agg #[.int .i64 3, .int .i64 0, .slice none 0 0]) ?_ rfl ⟨.slice none 0 0, ?_, ?_, bset (bset (bset hB1 (by simp) _) (by simp) _) (by simp) _⟩
      · simp [results, Try.results12, go_sem, hc1]
      · simp [revCode, revId, HC.out, ha, hok]
      · rw [show revLegs id xs nid = [] by simp [revLegs, hok]]; exact World.ownsRow_nil _ _ _ _
    | true =>
      have hok : revOk id xs nid = true := by simp [revOk, ha, HC.out]
      obtain ⟨_, hl2, hl8, hokk, _⟩ := cf_inv HC.out
      have HS : Hid (small xs) := small_of_ok hokk
      clear hokk
      have hcb : w1.cell? ⟨w.heap.size, 1, none⟩ = some x := by rw [hc1 _ _ (by simp; omega)]; simp [go_sem]
      have hr0 : w1.cell? ⟨w.heap.size + 1, 0, none⟩ = some (.int .i64 0) := by rw [hc1 _ _ (by simp)]; simp [go_sem]
      have hr1 : w1.cell? ⟨w.heap.size + 1, 1, none⟩ = some (.int .i64 0) := by rw [hc1 _ _ (by simp)]; simp [go_sem]
      have hr2 : w1.cell? ⟨w.heap.size + 1, 2, none⟩ = some (.slice none 0 0) := by rw [hc1 _ _ (by simp)]; simp [go_sem]
      have hrf : ∀ o, w1.frozen? ⟨w.heap.size + 1, o, none⟩ = false := fun o => by rw [hf1 _ _ (by simp)]; simp [go_sem]
      have hz : w.heap.size + 1 < w1.heap.size := World.block_lt_of_cell? _ _ hr0
      clear hc1 hf1 hb1
      go_wp2_with (go_at_call 31; refine (isId_any _ _).mono ?_; rintro e w' ⟨rfl, rfl⟩)
      go_wp2_with fail
      refine (turnedRound_any x xs _ (LegsV_below hx hB1) (by omega) HS.out).mono ?_
      rintro e w2 ⟨v, rfl, ho, hb2⟩
      obtain ⟨p, q, rfl⟩ := owns_form ho
      have hB2 := bstep hB1 hb2
      have hr0 := cell_keep hb2 hr0
      have hr1 := cell_keep hb2 hr1
      have hr2 := cell_keep hb2 hr2
      have hrf2 : ∀ o, w2.frozen? ⟨w.heap.size + 1, o, none⟩ = false := fun o => by rw [(bcell hb2).2 _ _ hz]; exact hrf o
      clear hb2 hrf
      go_wp2
      have hal : revLegs id xs nid = turn xs := by simp [revLegs, hok]
      refine bodyPost_ret (v := .agg #[.int .i64 0, .int .i64 nid, .slice p (turn xs).length q]) ?_ rfl ⟨.slice p (turn xs).length q, ?_, ?_, bset (bset (bset hB2 (by simp) _) (by simp) _) (by simp) _⟩
      · simp [results, Try.results12, go_sem, hr0, hr1, hr2]
      · simp [revCode, revId, HC.out, ha, hok]
      · rw [hal]
        exact owns_base (owns_setCell (owns_setCell (owns_setCell ho (by simp; omega) _) (by simp; omega) _) (by simp; omega) _) (by omega)
  · have hd : (contractFault id xs == 0) = false := by simpa using hcf
    have hok : revOk id xs nid = false := by simp [revOk, hcf]
    go_wp2
    refine bodyPost_ret (v := .agg #[.int .i64 (contractFault id xs), .int .i64 0, .slice none 0 0]) ?_ rfl ⟨.slice none 0 0, ?_, ?_, bset (bset (bset hB1 (by simp) _) (by simp) _) (by simp) _⟩
    · simp [results, Try.results12, go_sem, hc1]
    · simp [revCode, revId, hcf, hok]
    · rw [show revLegs id xs nid = [] by simp [revLegs, hok]]; exact World.ownsRow_nil _ _ _ _
end Go.Proofs.Ytgjpafalompecaa

/-
  What is settled changes no total, and can be undone: the mathematics.
-/
namespace Go.Proofs.Ytgjpafalompecaa
open Go.RowKit
set_option linter.unusedSectionVars false
variable [DecidableEq Rw] [Inhabited Rw] [DecidableEq Bal] [Inhabited Bal] [DecidableEq Ledg] [Inhabited Ledg] [DecidableEq Leg] [Inhabited Leg] [DecidableEq Cont] [Inhabited Cont] [DecidableEq LedgR] [Inhabited LedgR] [DecidableEq OutcR] [Inhabited OutcR]

def totF (f : Int → Int → Int → Option Int) (t : Int) : Int := sumD (fun s a => (f s a t).getD 0)
theorem addL_getD (f : Int → Int → Int → Option Int) (l : Leg) (s a t : Int) : (addL f l s a t).getD 0 = (f s a t).getD 0 + if s = l.sh ∧ a = l.ac ∧ t = l.ast then l.am else 0 := by
  unfold addL upd3
  by_cases h : s = l.sh ∧ a = l.ac ∧ t = l.ast
  · obtain ⟨rfl, rfl, rfl⟩ := h
    rw [if_pos (show l.sh = l.sh ∧ l.ac = l.ac ∧ l.ast = l.ast from ⟨rfl, rfl, rfl⟩), if_pos (show l.sh = l.sh ∧ l.ac = l.ac ∧ l.ast = l.ast from ⟨rfl, rfl, rfl⟩)]
    split
    · rename_i e; simp [e]
    · simp
  · rw [if_neg h, if_neg h]; simp
theorem tot_addL (f : Int → Int → Int → Option Int) {l : Leg} (h : placeB l = true) (t : Int) : totF (addL f l) t = totF f t + if l.ast = t then l.am else 0 := by
  unfold placeB at h
  simp only [Bool.and_eq_true, inBi] at h
  unfold totF
  rw [sumD_upd (q := fun s a => (f s a t).getD 0) (s := l.sh) (a := l.ac) (by omega) (by omega) (by omega) (by omega) (fun s' a' e => by
    simp only [addL_getD]
    rw [if_neg (fun h => e ⟨h.1, h.2.1⟩), Int.add_zero])]
  simp only [addL_getD, true_and]
  by_cases e : l.ast = t
  · rw [if_pos e, if_pos e.symm]; omega
  · rw [if_neg e, if_neg (fun h => e h.symm)]; omega
theorem tot_addLs (t : Int) : ∀ (ls : List Leg) (f : Int → Int → Int → Option Int), (∀ l ∈ ls, placeB l = true) → totF (addLs f ls) t = totF f t + sumA t ls
  | [], f, _ => by simp [addLs, sumA]
  | l :: ls, f, h => by
    have ih := tot_addLs t ls (addL f l) (fun x hx => h x (List.mem_cons_of_mem _ hx))
    have h1 := tot_addL f (h l (by simp)) t
    unfold addLs at ih ⊢
    rw [List.foldl_cons, ih, h1]
    show _ = totF f t + ((if l.ast = t then l.am else 0) + sumA t ls)
    omega
theorem ok_mem {ls : List Leg} (h : okTo ls ls.length) : ∀ l ∈ ls, legFault l = 0 := fun l hl => by
  obtain ⟨k, hk, rfl⟩ := List.mem_iff_getElem.1 hl
  have := (h k hk).1
  simpa [List.getD, hk] using this
theorem leg_place {l : Leg} (h : legFault l = 0) : placeB l = true ∧ -1000000000000 ≤ l.am ∧ l.am ≤ 1000000000000 := by
  unfold legFault at h
  split at h
  · rename_i e
    simp only [Bool.and_eq_true, inBi] at e
    exact ⟨e.1, e.2⟩
  · cases h
theorem settled_tot {gs : List (List Bal)} {c : Cont} (h : canG ⟨gs⟩ c = 0) (t : Int) (ht : t = 0 ∨ t = 1 ∨ t = 2) : totCode ⟨settleL gs c.legs⟩ t = totCode ⟨gs⟩ t ∧ totVal ⟨settleL gs c.legs⟩ t = totVal ⟨gs⟩ t := by
  obtain ⟨h0, h1, _⟩ := canG_inv h
  obtain ⟨s0, s1⟩ := settled_ok h
  obtain ⟨_, _, _, hok, z0, z1, z2⟩ := cf_inv h1
  have hz : sumA t c.legs = 0 := by rcases ht with rfl | rfl | rfl <;> assumption
  have e := tot_addLs t c.legs (bookF gs) (fun l hl => (leg_place (ok_mem hok l hl)).1)
  have e1 := sumD_book s0 t
  have e2 := sumD_book h0 t
  dsimp only at e1 e2
  rw [s1] at e1
  unfold totF at e
  refine ⟨by unfold totCode; rw [s0, h0], ?_⟩
  unfold totVal
  rw [s0, h0]
  dsimp only
  rw [← e1, ← e2, e, hz, Int.add_zero]
def atL (s a t : Int) : List Leg → Int
  | [] => 0
  | l :: r => (if s = l.sh ∧ a = l.ac ∧ t = l.ast then l.am else 0) + atL s a t r
theorem addLs_getD (s a t : Int) : ∀ (ls : List Leg) (f : Int → Int → Int → Option Int), (addLs f ls s a t).getD 0 = (f s a t).getD 0 + atL s a t ls
  | [], f => by simp [addLs, atL]
  | l :: ls, f => by
    have ih := addLs_getD s a t ls (addL f l)
    rw [addL_getD] at ih
    unfold addLs at ih ⊢
    rw [List.foldl_cons, ih]
    show _ = (f s a t).getD 0 + ((if s = l.sh ∧ a = l.ac ∧ t = l.ast then l.am else 0) + atL s a t ls)
    omega
theorem atL_turn (s a t : Int) : ∀ ls : List Leg, atL s a t (turn ls) = - atL s a t ls
  | [] => rfl
  | l :: ls => by
    have ih := atL_turn s a t ls
    show (if s = l.sh ∧ a = l.ac ∧ t = l.ast then -l.am else 0) + atL s a t (turn ls) = -((if s = l.sh ∧ a = l.ac ∧ t = l.ast then l.am else 0) + atL s a t ls)
    rw [ih]
    split <;> omega
theorem atL_none {s a t : Int} : ∀ {ls : List Leg}, (∀ l ∈ ls, ¬ (s = l.sh ∧ a = l.ac ∧ t = l.ast)) → atL s a t ls = 0
  | [], _ => rfl
  | l :: ls, h => by
    show (if s = l.sh ∧ a = l.ac ∧ t = l.ast then l.am else 0) + atL s a t ls = 0
    rw [if_neg (h l (by simp)), atL_none (fun x hx => h x (List.mem_cons_of_mem _ hx))]
    rfl
theorem atL_mem : ∀ {ls : List Leg}, Apart ls → ∀ l ∈ ls, atL l.sh l.ac l.ast ls = l.am
  | [], _, l, hl => by cases hl
  | x :: ls, h, l, hl => by
    unfold Apart at h
    rw [List.pairwise_cons] at h
    show (if l.sh = x.sh ∧ l.ac = x.ac ∧ l.ast = x.ast then x.am else 0) + atL l.sh l.ac l.ast ls = l.am
    rcases List.mem_cons.1 hl with rfl | hl
    · rw [if_pos ⟨rfl, rfl, rfl⟩, atL_none (fun y hy e => h.1 y hy e)]; omega
    · rw [if_neg (fun e => h.1 l hl ⟨e.1.symm, e.2.1.symm, e.2.2.symm⟩), atL_mem (ls := ls) h.2 l hl]; omega
def NoZ (f : Int → Int → Int → Option Int) : Prop := ∀ s a t, ¬ f s a t = some 0
theorem noz_addL {f : Int → Int → Int → Option Int} (h : NoZ f) (l : Leg) : NoZ (addL f l) := fun s a t e => by
  unfold addL upd3 at e
  split at e
  · split at e
    · cases e
    · rename_i h1; exact h1 (by simpa using e)
  · exact h s a t e
theorem noz_addLs : ∀ (ls : List Leg) {f : Int → Int → Int → Option Int}, NoZ f → NoZ (addLs f ls)
  | [], _, h => h
  | l :: ls, _, h => noz_addLs ls (noz_addL h l)
theorem noz_ext {f g : Int → Int → Int → Option Int} (hf : NoZ f) (hg : NoZ g) (h : ∀ s a t, (f s a t).getD 0 = (g s a t).getD 0) : f = g := by
  funext s a t
  have h1 := h s a t
  have h2 := hf s a t
  have h3 := hg s a t
  cases e1 : f s a t with
  | none =>
    cases e2 : g s a t with
    | none => rfl
    | some y => rw [e1, e2] at h1; simp at h1; subst h1; exact absurd e2 h3
  | some x =>
    cases e2 : g s a t with
    | none => rw [e1, e2] at h1; simp at h1; subst h1; exact absurd e1 h2
    | some y => rw [e1, e2] at h1; simp at h1; rw [h1]
theorem book_noz {g : Ledg} (h : ledFault g = 0) : NoZ (bookF g.shards) := fun s a t e => by
  have := amOk_of h s a t 0 e
  omega
theorem add_turn {f : Int → Int → Int → Option Int} (h : NoZ f) (ls : List Leg) : addLs (addLs f ls) (turn ls) = f :=
  noz_ext (noz_addLs _ (noz_addLs _ h)) h (fun s a t => by rw [addLs_getD, addLs_getD, atL_turn]; omega)
theorem bal_book {g : Ledg} (h : ledFault g = 0) {s a t : Int} (h0 : 0 ≤ s) (h1 : s < g.shards.length) (hk : keyOk a t = true) : balVal g s a t = (bookF g.shards s a t).getD 0 := by
  unfold balVal
  have e : inB s 0 (g.shards.length - 1) = true := inBi.2 ⟨h0, by omega⟩
  rw [if_pos ⟨h, by rw [e, hk]; rfl⟩, hasB_get, bookF, if_pos ⟨h0, h1⟩]
theorem settled_bal {gs : List (List Bal)} {c : Cont} (h : canG ⟨gs⟩ c = 0) {l : Leg} (hl : l ∈ c.legs) :
    balVal ⟨settleL gs c.legs⟩ l.sh l.ac l.ast = balVal ⟨gs⟩ l.sh l.ac l.ast + l.am ∧ -1000000000000 ≤ balVal ⟨gs⟩ l.sh l.ac l.ast ∧ balVal ⟨gs⟩ l.sh l.ac l.ast ≤ 1000000000000 ∧ -1000000000000 ≤ l.am ∧ l.am ≤ 1000000000000 := by
  obtain ⟨h0, h1, _⟩ := canG_inv h
  obtain ⟨s0, s1⟩ := settled_ok h
  obtain ⟨_, _, hk, hs, _⟩ := settle_facts h
  obtain ⟨_, _, _, hok, _⟩ := cf_inv h1
  have hp := leg_place (ok_mem hok l hl)
  have hsl := hs l hl
  dsimp only at hsl
  rw [bal_book s0 hsl.1 (by rw [settleL_len]; exact hsl.2) (hk l hl), bal_book h0 hsl.1 hsl.2 (hk l hl), s1, addLs_getD, atL_mem (apart_of hok) l hl]
  have hb := bookF_bound h0 l.sh l.ac l.ast
  exact ⟨rfl, hb.1, hb.2, hp.2.1, hp.2.2⟩
theorem legFault_turnS (l : Leg) (h : legFault l = 0) : legFault (turnL l) = 0 := by
  have hz := legFault_zero h
  unfold legFault at h ⊢
  have hp : placeB (turnL l) = placeB l := rfl
  rw [hp]
  split at h
  · rename_i h1
    rw [Bool.and_eq_true] at h1
    have h2 : inB (turnL l).am (-1000000000000) 1000000000000 = true := (inB_iff _ _ _).2 (by simp only [turnL]; omega)
    rw [if_pos (by rw [h1.1, h2]; rfl), if_neg (by simp only [turnL]; omega)]
  · omega
theorem hasPlace_turnS (xs : List Leg) (l : Leg) : hasPlace (turn xs) (turnL l) = hasPlace xs l := by
  unfold hasPlace turn
  rw [List.any_map]
  rfl
theorem sumA_turnS (a : Int) : ∀ xs : List Leg, sumA a (turn xs) = - sumA a xs
  | [] => rfl
  | x :: xs => by
    have ih := sumA_turnS a xs
    show sumA a (turnL x :: turn xs) = _
    simp only [sumA, ih, turnL]
    split <;> omega
theorem okTo_turnS {xs : List Leg} (h : okTo xs xs.length) : okTo (turn xs) (turn xs).length := fun j hj => by
  rw [turn_len] at hj
  obtain ⟨h1, h2⟩ := h j hj
  rw [turn_getD xs j hj]
  refine ⟨legFault_turnS _ h1, ?_⟩
  have e : (turn xs).take j = turn (xs.take j) := by unfold turn; rw [List.map_take]
  rw [e, hasPlace_turnS]
  exact h2
theorem turn_faultS {id nid : Int} {xs : List Leg} (h : contractFault id xs = 0) (hn : inB nid 1 1000000000 = true) : contractFault nid (turn xs) = 0 := by
  obtain ⟨_, h2, h8, hok, s0, s1, s2⟩ := cf_inv h
  refine cf_zero hn (by rw [turn_len]; exact h2) (by rw [turn_len]; exact h8) (okTo_turnS hok) ⟨?_, ?_, ?_⟩
  · rw [sumA_turnS, s0]; rfl
  · rw [sumA_turnS, s1]; rfl
  · rw [sumA_turnS, s2]; rfl
theorem settled_back {gs : List (List Bal)} {c : Cont} (h : canG ⟨gs⟩ c = 0) (ht : contractFault 5 (turn c.legs) = 0) : canG ⟨settleL gs c.legs⟩ ⟨5, turn c.legs⟩ = 0 ∧ settleL (settleL gs c.legs) (turn c.legs) = gs := by
  obtain ⟨h0, h1, _⟩ := canG_inv h
  obtain ⟨s0, s1⟩ := settled_ok h
  obtain ⟨_, hr, hk, hs, _⟩ := settle_facts h
  obtain ⟨_, _, _, hok, _⟩ := cf_inv h1
  dsimp only at hr hs
  have hcan : canG ⟨settleL gs c.legs⟩ ⟨5, turn c.legs⟩ = 0 := by
    unfold canG
    rw [if_pos s0]
    unfold canF
    dsimp only
    have hmem : ∀ k, k < (turn c.legs).length → ∃ l ∈ c.legs, (turn c.legs).getD k default = turnL l := fun k hk => by
      rw [turn_len] at hk
      exact ⟨c.legs.getD k default, by simp [List.getD, hk], turn_getD _ _ hk⟩
    rw [if_pos ht, if_pos (scanI_of (fun k hk => ?_)), scanI_of (fun k hk => ?_)]
    · obtain ⟨l, hl, e⟩ := hmem k hk
      rw [e]
      unfold canL turnL
      dsimp only
      rw [s1, addLs_getD, atL_mem (apart_of hok) l hl]
      have hb : 0 ≤ (bookF gs l.sh l.ac l.ast).getD 0 ∧ (bookF gs l.sh l.ac l.ast).getD 0 ≤ 1000000000000 := by
        cases e : bookF gs l.sh l.ac l.ast with
        | none => simp
        | some v => have := amOk_of h0 l.sh l.ac l.ast v e; simp; omega
      unfold canV
      rw [if_neg (by omega), if_neg (by omega)]
    · obtain ⟨l, hl, e⟩ := hmem k hk
      rw [e]
      unfold noneL turnL
      dsimp only
      rw [settleL_len, if_neg (by have := hs l hl; omega)]
  obtain ⟨_, hr2, hk2, _, _⟩ := settle_facts hcan
  dsimp only at hr2 hk2
  refine ⟨hcan, (settle_unique hr2 hk2 (settleL_len gs c.legs).symm (fun i hi => ?_)).symm⟩
  have hi' : i < gs.length := by
    rw [settleL_len] at hi
    exact hi
  refine ⟨hr i hi', fun a t => ?_⟩
  have e := add_turn (book_noz h0) c.legs
  dsimp only at e
  rw [s1, e]
  unfold bookF
  rw [if_pos ⟨by omega, by omega⟩, Int.toNat_natCast]
end Go.Proofs.Ytgjpafalompecaa

/-
  Slices of Mark: the law's own copy, comparison, count, marks. (Written by program after my texts on legs.)
-/
namespace Go.Proofs.Ytgjpafalompecaa
open Go.RowKit
set_option linter.unusedSectionVars false
attribute [local go_sem ↓] Go.wp_at_zero Go.wp_at_succ

structure Mrk where
  con : Int
  val : Int
variable [DecidableEq Mrk] [Inhabited Mrk]

end Go.Proofs.Ytgjpafalompecaa

/-
  Appending legs, marks, numbers, balances that lie anywhere.
-/
set_option linter.unusedSimpArgs false
set_option linter.unusedVariables false
namespace Go.Proofs.Ytgjpafalompecaa
open Go.RowKit
set_option linter.unusedSectionVars false
variable [DecidableEq Leg] [Inhabited Leg] [DecidableEq Mrk] [Inhabited Mrk] [DecidableEq Bal] [Inhabited Bal]
attribute [local go_sem ↓] Go.wp_at_zero Go.wp_at_succ

theorem bals_one10 (xs : List Bal) : ∀ u ∈ balsC xs, u.oneCell' = true := by
  intro u hu
  simp only [balsC, List.mem_flatMap] at hu
  obtain ⟨b, _, hb⟩ := hu
  simp [balC] at hb
  rcases hb with rfl | rfl | rfl <;> rfl
theorem bals_app10 (xs ys : List Bal) : balsC (xs ++ ys) = balsC xs ++ balsC ys := by simp [balsC]
theorem step_app10B (w : World) {ops : Array Oper} {o : Oper} {a : Act} {K : Act → World → Prop} {Q : Exit → Act → World → Prop} {E : Prop} (hgd : o.guard = none) (s x : Operand)
    (ho : o.op = .call { callee := .builtin .append, args := #[s, x], argTypes := #[67, 67] })
    (base : Nat) (v : Value) (xs : List Bal) (hs : a.eval s = v) (u : Value) (ys : List Bal) (hx : a.eval x = u)
    (hown : w.ownsRow base 80 3 v xs.length (balsC xs)) (hsrc : AppAny w u ys.length (balsC ys)) (hlen : xs.length + ys.length ≤ 1073741824) (hbase : base ≤ w.heap.size)
    (h : ∀ v' w', w'.ownsRow base 80 3 v' (xs ++ ys).length (balsC (xs ++ ys)) → w.grownBy w' v.ownBlock → (∀ W : World, Below base W w → Below base W w') → K (a.put o.dst v') w') :
    if Region.wanted o (yielded ops a.tmps) = true then Oper.wp Try.prog o a w K Q else E := by
  obtain ⟨i0, hi, hz0, hz1, hz2⟩ := info_parts infoBal
  refine step_appAny w hgd s x 67 ho base 80 i0 _ 3 24 Try.underlying67 hi hz0 hz1 hz2 rfl (by decide) v xs.length (balsC xs) hs u ys.length (balsC ys) hx hown hsrc (by rw [length_balsC]) (bals_one10 ys) (by unfold maxLen; omega) (by omega) hbase ?_
  intro v' w' h1 h2 h3
  refine h v' w' ?_ h2 h3
  rw [List.length_append, bals_app10]
  exact h1
theorem wpList_app10B (w : World) {ops : Array Oper} {rest : List Oper} {o : Oper} {a : Act} {Q : Exit → Act → World → Prop} (hgd : o.guard = none) (s x : Operand)
    (ho : o.op = .call { callee := .builtin .append, args := #[s, x], argTypes := #[67, 67] })
    (base : Nat) (v : Value) (xs : List Bal) (hs : a.eval s = v) (u : Value) (ys : List Bal) (hx : a.eval x = u)
    (hown : w.ownsRow base 80 3 v xs.length (balsC xs)) (hsrc : AppAny w u ys.length (balsC ys)) (hlen : xs.length + ys.length ≤ 1073741824) (hbase : base ≤ w.heap.size)
    (h : ∀ v' w', w'.ownsRow base 80 3 v' (xs ++ ys).length (balsC (xs ++ ys)) → w.grownBy w' v.ownBlock → (∀ W : World, Below base W w → Below base W w') → wpList Try.prog ops Q rest (a.put o.dst v') w') :
    wpList Try.prog ops Q (o :: rest) a w := by
  obtain ⟨i0, hi, hz0, hz1, hz2⟩ := info_parts infoBal
  refine wpList_appAny w hgd s x 67 ho base 80 i0 _ 3 24 Try.underlying67 hi hz0 hz1 hz2 rfl (by decide) v xs.length (balsC xs) hs u ys.length (balsC ys) hx hown hsrc (by rw [length_balsC]) (bals_one10 ys) (by unfold maxLen; omega) (by omega) hbase ?_
  intro v' w' h1 h2 h3
  refine h v' w' ?_ h2 h3
  rw [List.length_append, bals_app10]
  exact h1
end Go.Proofs.Ytgjpafalompecaa


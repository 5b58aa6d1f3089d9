import Derived.Test.YtndghenlapbaaaaGreatPrnDecideShardLaw17
import Derived.Test.YtndghenlapbaaaaGreatPrnDecideShardLaw10
import Derived.Test.YtndghenlapbaaaaGreatPrnDecideShardLaw18
import Derived.Test.YtndghenlapbaaaaGreatPrnDecideShardLaw13
import Derived.Test.YtndghenlapbaaaaGreatPrnDecideShardLaw8
import Derived.Test.YtndghenlapbaaaaGreatPrnDecideShardLaw11
import Derived.Recover
import Derived.WalkLawsBesides
import Derived.BigQuiet
import Derived.Deep.QuietTactic
import Derived.Deep.RegionHeld3
set_option linter.unusedVariables false
set_option linter.unusedSectionVars false
set_option linter.unusedSimpArgs false

/-
 Where a mark and a contract stand in their lists.
-/
namespace Go.Proofs.YtndghenlapbaaaaGreat
open Go.RowKit
variable [DecidableEq Mrk] [Inhabited Mrk] [DecidableEq Leg] [Inhabited Leg] [DecidableEq Cont] [Inhabited Cont]

def posM (c : Int) : List Mrk → Nat
 | [] => 0
 | m :: r => if m.con < c then posM c r + 1 else 0
theorem posM_eq {c : Int} : ∀ {xs : List Mrk} {i : Nat}, i ≤ xs.length → (∀ k, k < i → (xs.getD k default).con < c) → (i < xs.length → ¬ (xs.getD i default).con < c) → posM c xs = i
 | [], i, hi, _, _ => by simp at hi; simp [posM, hi]
 | x :: xs, 0, _, _, h2 => by
  have := h2 (by simp)
  simp at this
  simp [posM]
  omega
 | x :: xs, i + 1, hi, h1, h2 => by
  have h0 : x.con < c := by simpa using h1 0 (by omega)
  have ih := posM_eq (c := c) (xs := xs) (i := i) (by simpa using hi) (fun k hk => by simpa using h1 (k + 1) (by omega)) (fun h => by simpa using h2 (by simpa using h))
  simp [posM, h0, ih]
theorem posM_le (c : Int) : ∀ xs : List Mrk, posM c xs ≤ xs.length
 | [] => by simp [posM]
 | x :: xs => by
  have := posM_le c xs
  unfold posM
  split <;> simp <;> omega
def putM (xs : List Mrk) (m : Mrk) : List Mrk := xs.take (posM m.con xs) ++ [m] ++ xs.drop (posM m.con xs)
theorem putM_len (xs : List Mrk) (m : Mrk) : (putM xs m).length = xs.length + 1 := by
 have := posM_le m.con xs
 unfold putM
 simp
 omega
end Go.Proofs.YtndghenlapbaaaaGreat

/-
 Votes and decisions of a shard, in mathematics.
-/
namespace Go.Proofs.YtndghenlapbaaaaGreat
open Go.RowKit
variable [DecidableEq Rw] [Inhabited Rw] [DecidableEq Bal] [Inhabited Bal] [DecidableEq Ledg] [Inhabited Ledg] [DecidableEq Leg] [Inhabited Leg] [DecidableEq Cont] [Inhabited Cont] [DecidableEq LedgR] [Inhabited LedgR] [DecidableEq OutcR] [Inhabited OutcR] [DecidableEq Mrk] [Inhabited Mrk] [DecidableEq Shd] [Inhabited Shd] [DecidableEq ShdR] [Inhabited ShdR]

def errH (c : Int) : ShdR := ⟨c, 0, ⟨0, [], [], [], [], []⟩⟩
def leftC (k : Int) (hs : List Cont) : List Cont := hs.filter (fun c => !(c.id == k))
def legsOf (k : Int) : List Cont → List Leg
 | [] => []
 | c :: r => if c.id = k then c.legs else legsOf k r
def decS (s : Shd) (k o : Int) : Shd :=
 if o = 1 then ⟨s.idx, addB s.bals (onSh s.idx (legsOf k s.held)), s.votes, leftC k s.held, putM s.done ⟨k, o⟩, s.appl ++ [k]⟩
 else ⟨s.idx, s.bals, s.votes, leftC k s.held, putM s.done ⟨k, o⟩, s.appl⟩
def toldH (s : Shd) (k o : Int) : ShdR :=
 if findM k s.done = 0 then (if o = 1 ∧ heldIn s.held k = false then errH 1 else if 100 ≤ s.done.length then errH 2 else ⟨0, 0, decS s k o⟩)
 else if findM k s.done = o then ⟨0, 0, s⟩ else errH 7
def decideD (s : Shd) (k o : Int) : ShdR :=
 if shdF s = 0 then (if (inB k 1 1000000000 && inB o 1 2) = true then toldH s k o else errH 3) else errH (shdF s)
end Go.Proofs.YtndghenlapbaaaaGreat

/-
 Contracts that are held, legs that touch, the document's.
-/
namespace Go.Proofs.YtndghenlapbaaaaGreat
open Go.RowKit
variable [DecidableEq Rw] [Inhabited Rw] [DecidableEq Bal] [Inhabited Bal] [DecidableEq Ledg] [Inhabited Ledg] [DecidableEq Leg] [Inhabited Leg] [DecidableEq Cont] [Inhabited Cont] [DecidableEq LedgR] [Inhabited LedgR] [DecidableEq OutcR] [Inhabited OutcR] [DecidableEq Mrk] [Inhabited Mrk] [DecidableEq Shd] [Inhabited Shd] [DecidableEq ShdR] [Inhabited ShdR]
attribute [local go_sem ↓] Go.wp_at_zero Go.wp_at_succ

set_option maxHeartbeats 2000000 in
theorem l10IsHeld_any (x : Value) (d : Shd) (c : Int) (w : World) (hx : shdR.V w x d) :
  Calls Tryz.prog 91 #[x, .int .i64 c] w fun e w' => e = .returned (.bool (heldIn d.held c)) ∧ Below w.heap.size w w' := by
 obtain ⟨u1, u2, u3, u4, u5, rfl, _, _, hx, _, _⟩ := hx
 obtain ⟨ax, cx, rfl, hcx, hmx, hx⟩ := conts_at hx
 unfold maxLen at hmx
 obtain ⟨idx, _, _, xs, _, _⟩ := d
 dsimp only at hcx hx ⊢
 have HS0 : Hid (∀ k, k < xs.length → heldIn (xs.take (k + 1)) c = (heldIn (xs.take k) c || decide ((xs.getD k default).id = c))) := fun k hk => heldIn_take hk
 have HE : Hid (heldIn (xs.take xs.length) c = heldIn xs c) := by show _ = _; rw [List.take_length]
 have HT : Hid (∀ k, k < xs.length → (xs.getD k default).id = c → heldIn xs c = true) := fun k hk h => heldIn_mem.2 ⟨k, hk, h⟩
 generalize hn' : xs.length = n at *
 clear hn'
 go_enter Tryz.func91, Tryz.ntmps91
 go_wp2
 go_loopw [5] (fun i w' => ∃ k : Nat, k ≤ n ∧ i = .int .i64 k ∧ Hid (heldIn (xs.take k) c = false) ∧ w'.cell? ⟨w.heap.size, 3, none⟩ = some (.slice ax n cx) ∧ Below w.heap.size w w') (fun i _ => n - (intOf i).toNat)
 case atStart => exact ⟨0, Nat.zero_le _, rfl, by show heldIn (xs.take 0) c = false; simp [heldIn], by simp [go_sem], qBq⟩
 case round =>
  obtain ⟨k, hk, rfl, HS, hq, hbl⟩ := hrel
  have zq : w.heap.size < wr.heap.size := wL wr _ hq
  by_cases hlt : k < n
  ·
   obtain ⟨bx, ox, pp, qq, rfl, g0, g1, _⟩ := hx k hlt
   have h1 := HS0.out k hlt
   have h2 := HT.out k hlt
   generalize (xs.getD k default).legs.length = ll at *
   generalize (xs.getD k default).id = q at *
   have H1 : Hid (heldIn (xs.take (k + 1)) c = (heldIn (xs.take k) c || decide (q = c))) := h1
   have H2 : Hid (q = c → heldIn xs c = true) := h2
   clear hx h1 h2
   replace g0 := cK hbl g0
   by_cases he : q = c
   ·
    have HC := H2.out he
    have he' : (q == c) = true := by simp [he]
    clear H1 HS H2
    go_wp2
    go_ret
    exact ⟨by rw [HC]; rfl, qBq⟩
   ·
    have HC : Hid (heldIn (xs.take (k + 1)) c = false) := by show _ = _; rw [H1.out, HS.out, decide_eq_false he]; rfl
    have he' : (q == c) = false := by simp [he]
    clear H1 HS H2
    go_wp2
    exact ⟨⟨k + 1, by omega, by go_num, HC, hq, qBq⟩, by simp [intOf]; omega⟩
  ·
   have hkn : k = n := by omega
   subst hkn
   have HC : Hid (heldIn xs c = false) := by show _ = _; rw [← HE.out, HS.out]
   go_wp2
   go_ret
   exact ⟨by rw [HC.out]; rfl, qBq⟩
theorem any_take {α : Type} [Inhabited α] (f : α → Bool) {xs : List α} {k : Nat} (hk : k < xs.length) : (xs.take (k + 1)).any f = ((xs.take k).any f || f (xs.getD k default)) := by
 have e : xs.take (k + 1) = xs.take k ++ [xs.getD k default] := by rw [List.take_add_one]; simp [List.getD, hk]
 rw [e, List.any_append]
 simp
theorem any_at {α : Type} [Inhabited α] {f : α → Bool} {xs : List α} {k : Nat} (hk : k < xs.length) (h : f (xs.getD k default) = true) : xs.any f = true := List.any_eq_true.2 ⟨xs.getD k default, by simp [List.getD, hk], h⟩
set_option maxHeartbeats 4000000 in
theorem l10Touch_any (x y : Value) (xs ys : List Leg) (w : World) (hx : legsR.V w x xs) (hy : legsR.V w y ys) :
  Calls Tryz.prog 102 #[x, y] w fun e w' => e = .returned (.bool (touch xs ys)) ∧ Below w.heap.size w w' := by
 obtain ⟨ax, cx, rfl, hcx, hmx, hx⟩ := hx
 obtain ⟨ay, cy, rfl, hcy, hmy, hy⟩ := hy
 unfold maxLen at hmx hmy
 have HT : Hid (∀ i j, i < xs.length → j < ys.length → sameAA (xs.getD i default) (ys.getD j default) = true → touch xs ys = true) := fun i j hi hj h => any_at hi (any_at hj h)
 have HO : Hid (∀ i, i < xs.length → ((xs.take i).any (fun x => ys.any (fun y => sameAA x y))) = false → ys.any (fun y => sameAA (xs.getD i default) y) = false → ((xs.take (i + 1)).any (fun x => ys.any (fun y => sameAA x y))) = false) := fun i hi h1 h2 => by rw [any_take _ hi, h1, h2]; rfl
 have HI : Hid (∀ i j, j < ys.length → ((ys.take j).any (fun y => sameAA (xs.getD i default) y)) = false → sameAA (xs.getD i default) (ys.getD j default) = false → ((ys.take (j + 1)).any (fun y => sameAA (xs.getD i default) y)) = false) := fun i j hj h1 h2 => by rw [any_take _ hj, h1, h2]; rfl
 have HE1 : Hid (((xs.take xs.length).any (fun x => ys.any (fun y => sameAA x y))) = touch xs ys) := by show _ = _; rw [List.take_length]; rfl
 have HE2 : Hid (∀ i, ((ys.take ys.length).any (fun y => sameAA (xs.getD i default) y)) = ys.any (fun y => sameAA (xs.getD i default) y)) := fun i => by rw [List.take_length]
 generalize hn' : xs.length = n at *
 generalize hm' : ys.length = m at *
 clear hn' hm'
 go_enter Tryz.func102, Tryz.ntmps102
 go_wp2
 go_loopw [5] (fun i w' => ∃ k : Nat, k ≤ n ∧ i = .int .i64 k ∧ Hid (((xs.take k).any (fun x => ys.any (fun y => sameAA x y))) = false) ∧ Below w.heap.size w w') (fun i _ => n - (intOf i).toNat)
 case atStart => exact ⟨0, Nat.zero_le _, rfl, by show ((xs.take 0).any _) = false; simp, Below.refl _ _⟩
 case round =>
  obtain ⟨k, hk, rfl, HS, hbl⟩ := hrel
  by_cases hlt : k < n
  ·
   go_wp2
   go_loopw [6] (fun i w' => ∃ j : Nat, j ≤ m ∧ i = .int .i64 j ∧ Hid (((ys.take j).any (fun y => sameAA (xs.getD k default) y)) = false) ∧ Below w.heap.size w w') (fun i _ => m - (intOf i).toNat)
   case atStart => exact ⟨0, Nat.zero_le _, rfl, by show ((ys.take 0).any _) = false; simp, hbl⟩
   case round =>
    rename_i wq
    obtain ⟨j, hj, rfl, HS2, hbl2⟩ := hrel
    by_cases hlt2 : j < m
    ·
     obtain ⟨bx, ox, rfl, g1⟩ := hx k hlt
     obtain ⟨by_, oy, rfl, g2⟩ := hy j hlt2
     have h1 := HT.out k j hlt hlt2
     have h2 := HI.out k j hlt2 HS2.out
     obtain ⟨l, hl⟩ : ∃ l, l = xs.getD k default := ⟨_, rfl⟩
     rw [← hl] at g1
     obtain ⟨l', hl'⟩ : ∃ l', l' = ys.getD j default := ⟨_, rfl⟩
     rw [← hl'] at g2
     have H1 : Hid (sameAA l l' = true → touch xs ys = true) := by rw [hl, hl']; exact h1
     have H2 : Hid (sameAA l l' = false → ((ys.take (j + 1)).any (fun y => sameAA (xs.getD k default) y)) = false) := by rw [hl, hl']; exact h2
     clear hl hl' h1 h2 hx hy
     have ga := (legKeep hbl2 g1).2
     obtain ⟨a0, a1, a2, a3⟩ := ga
     have gb := (legKeep hbl2 g2).2
     obtain ⟨c0, c1, c2, c3⟩ := gb
     have k1 : (k : Int) < n := by omega
     have k2 : (0 : Int) ≤ k := by omega
     have j1 : (j : Int) < m := by omega
     have j2 : (0 : Int) ≤ j := by omega
     by_cases e1 : l.ac = l'.ac
     ·
      have e1' : (l.ac == l'.ac) = true := by simp [e1]
      by_cases e2 : l.ast = l'.ast
      ·
       have e2' : (l.ast == l'.ast) = true := by simp [e2]
       have HC := H1.out (by unfold sameAA; rw [e1', e2']; rfl)
       clear e1 e2
       go_wp2
       go_quiet (fail)
       go_wp2
       go_ret
       exact ⟨by rw [HC]; rfl, bdrewN hbl2 _⟩
      ·
       have e2' : (l.ast == l'.ast) = false := by simp [e2]
       have HC : Hid (((ys.take (j + 1)).any (fun y => sameAA (xs.getD k default) y)) = false) := H2.out (by unfold sameAA; rw [e1', e2']; rfl)
       clear e1 e2
       go_wp2
       go_quiet (fail)
       go_wp2
       exact ⟨⟨j + 1, by omega, by go_num, HC, bdrewN hbl2 _⟩, by simp [intOf]; omega⟩
     ·
      have e1' : (l.ac == l'.ac) = false := by simp [e1]
      have HC : Hid (((ys.take (j + 1)).any (fun y => sameAA (xs.getD k default) y)) = false) := H2.out (by unfold sameAA; rw [e1']; rfl)
      clear e1
      go_wp2
      go_quiet (fail)
      go_wp2
      exact ⟨⟨j + 1, by omega, by go_num, HC, bdrewN hbl2 _⟩, by simp [intOf]; omega⟩
    ·
     have hjm : j = m := by omega
     subst hjm
     have HC : Hid (((xs.take (k + 1)).any (fun x => ys.any (fun y => sameAA x y))) = false) := HO.out k hlt HS.out (by rw [← HE2.out]; exact HS2.out)
     go_wp2
     exact ⟨⟨k + 1, by omega, by go_num, HC, qBq⟩, by simp [intOf]; omega⟩
  ·
   have hkn : k = n := by omega
   subst hkn
   have HC : Hid (touch xs ys = false) := by show _ = _; rw [← HE1.out, HS.out]
   go_wp2
   go_ret
   exact ⟨by rw [HC.out]; rfl, qBq⟩
end Go.Proofs.YtndghenlapbaaaaGreat

/-
 What cannot be held, the program's.
-/
namespace Go.Proofs.YtndghenlapbaaaaGreat
open Go.RowKit
variable [DecidableEq Rw] [Inhabited Rw] [DecidableEq Bal] [Inhabited Bal] [DecidableEq Ledg] [Inhabited Ledg] [DecidableEq Leg] [Inhabited Leg] [DecidableEq Cont] [Inhabited Cont] [DecidableEq LedgR] [Inhabited LedgR] [DecidableEq OutcR] [Inhabited OutcR] [DecidableEq Mrk] [Inhabited Mrk] [DecidableEq Shd] [Inhabited Shd] [DecidableEq ShdR] [Inhabited ShdR]
attribute [local go_sem ↓] Go.wp_at_zero Go.wp_at_succ

def refV (c : Int) : Value := .iface 71 (.int .i64 c)
def KeepE (c : Int) (w : World) (e : Ending) (w' : World) : Prop := ((c = 0 ∧ e = .returned (.tuple #[])) ∨ (¬ c = 0 ∧ e = .panicked [{ v := refV c, recovered := false }])) ∧ Below w.heap.size w w'
def apartC (idx : Int) (hs : List Cont) (ls : List Leg) : Int := if apartB idx hs ls = true then 7 else 0
set_option maxRecDepth 20000 in
set_option maxHeartbeats 8000000 in
theorem keepApart_any (idx id : Int) (y ul : Value) (hs : List Cont) (ls : List Leg) (w : World) (hy : contsR.V w y hs) (hl : legsR.V w ul ls) (hn : ls.length ≤ 1000) :
  Calls Tryz.prog 79 #[.int .i64 idx, y, .agg #[.int .i64 id, ul]] w (KeepE (apartC idx hs ls) w) := by
 have HLe : Hid (∀ W, Below w.heap.size w W → Calls Tryz.prog 73 #[ul, .int .i64 idx] W fun e w' => ∃ v, e = .returned v ∧ w'.ownsRow W.heap.size 93 4 v (onSh idx ls).length (legsC (onSh idx ls)) ∧ Below W.heap.size W w') := fun W hW => legsOn_any ul ls idx W (legsR.below hl hW) (by omega)
 obtain ⟨al, cl, rfl⟩ := legs_form hl
 obtain ⟨ay, cy, rfl, hcy, hmy, hy⟩ := conts_at hy
 unfold maxLen at hmy
 have HY : Hid (∀ k, k < hs.length → ∃ b o p q, ay = some ⟨b, o, none⟩ ∧ w.cell? ⟨b, o + k * 2, none⟩ = some (.int .i64 (hs.getD k default).id) ∧ w.cell? ⟨b, o + k * 2 + 1, none⟩ = some (.slice p (hs.getD k default).legs.length q) ∧ contR.V w (.agg #[.int .i64 (hs.getD k default).id, .slice p (hs.getD k default).legs.length q]) (hs.getD k default)) := hy
 have HT : Hid (∀ i j, i < (onSh idx ls).length → j < hs.length → hasPlace (hs.getD j default).legs ((onSh idx ls).getD i default) = true → apartC idx hs ls = 7) := fun i j hi hj h => by
  unfold apartC apartB
  rw [if_pos (any_at hi (any_at (f := fun o : Cont => hasPlace o.legs ((onSh idx ls).getD i default)) hj h))]
 have HE : Hid ((onSh idx ls).any (fun l => hs.any (fun o => hasPlace o.legs l)) = false → apartC idx hs ls = 0) := fun h => by unfold apartC apartB; rw [h]; rfl
 have HO : Hid (∀ i, i < (onSh idx ls).length → (((onSh idx ls).take i).any (fun l => hs.any (fun o => hasPlace o.legs l))) = false → hs.any (fun o => hasPlace o.legs ((onSh idx ls).getD i default)) = false → (((onSh idx ls).take (i + 1)).any (fun l => hs.any (fun o => hasPlace o.legs l))) = false) := fun i hi h1 h2 => by rw [any_take _ hi, h1, h2]; rfl
 have HI : Hid (∀ l j, j < hs.length → ((hs.take j).any (fun o => hasPlace o.legs l)) = false → hasPlace (hs.getD j default).legs l = false → ((hs.take (j + 1)).any (fun o => hasPlace o.legs l)) = false) := fun l j hj h1 h2 => by rw [any_take _ hj, h1, h2]; rfl
 have HE1 : Hid (((onSh idx ls).take (onSh idx ls).length) = onSh idx ls) := List.take_length
 have HE2 : Hid (hs.take hs.length = hs) := List.take_length
 clear hy hl
 generalize hcc : apartC idx hs ls = cc at *
 generalize hlg : onSh idx ls = lg at *
 generalize ls.length = ll at *
 clear hcc hlg hn
 generalize hm : hs.length = m at *
 clear hm
 go_enter Tryz.func79, Tryz.ntmps79
 go_wp2_with fail
 refine (HLe.out _ (qBq)).mono ?_
 rintro e w1 ⟨v, rfl, o1, hb1⟩
 have hV := LegsV_of_owns o1
 have hB1 : Below w.heap.size w w1 := bS (qBq) hb1
 obtain ⟨a1, c1, rfl, hc1, hm1, hx1⟩ := hV
 unfold maxLen at hm1
 have HX : Hid (∀ i, i < lg.length → ∃ b o, a1 = some ⟨b, o, none⟩ ∧ legCells w1 b (o + i * 4) (lg.getD i default)) := hx1
 clear o1 hb1 hx1 HLe
 obtain ⟨n, hn⟩ : ∃ n, n = lg.length := ⟨_, rfl⟩
 have HN : Hid (lg.length = n) := hn.symm
 rw [← hn] at HT HO HX hc1 HE1 ⊢
 clear hn
 go_wp2
 go_loopw [15] (fun i w' => ∃ k : Nat, k ≤ n ∧ i = .int .i64 k ∧ Hid (((lg.take k).any (fun l => hs.any (fun o => hasPlace o.legs l))) = false) ∧ Below w1.heap.size w1 w') (fun i _ => n - (intOf i).toNat)
 case atStart => exact ⟨0, Nat.zero_le _, rfl, by show ((lg.take 0).any _) = false; simp, Below.refl _ _⟩
 case round =>
  obtain ⟨k, hk, rfl, HS, hbl⟩ := hrel
  by_cases hlt : k < n
  ·
   obtain ⟨bx, ox, rfl, g1⟩ := HX.out k hlt
   have h1 := HT.out k
   have h2 := HO.out k hlt HS.out
   obtain ⟨l, hl⟩ : ∃ l, l = lg.getD k default := ⟨_, rfl⟩
   rw [← hl] at g1 h1 h2
   have H1 : Hid (∀ j, j < m → hasPlace (hs.getD j default).legs l = true → cc = 7) := fun j hj h => h1 j hlt hj h
   have H2 : Hid (hs.any (fun o => hasPlace o.legs l) = false → (((lg.take (k + 1)).any (fun l => hs.any (fun o => hasPlace o.legs l))) = false)) := h2
   clear hl h1 h2
   obtain ⟨c0, c1', c2, c3⟩ := (legKeep hbl g1).2
   have zb : bx < wr.heap.size := wL wr _ c0
   have hBr : Below w.heap.size w wr := bS hB1 hbl
   go_wp2
   obtain ⟨w2, hw2⟩ : ∃ w2, w2 = wr.alloc (.cells #[.int .i64 l.sh, .int .i64 l.ac, .int .i64 l.ast, .int .i64 l.am] 93) := ⟨_, rfl⟩
   have b0 : w2.cell? ⟨wr.heap.size, 0, none⟩ = some (.int .i64 l.sh) := by rw [hw2]; simp [go_sem]
   have b1 : w2.cell? ⟨wr.heap.size, 1, none⟩ = some (.int .i64 l.ac) := by rw [hw2]; simp [go_sem]
   have b2 : w2.cell? ⟨wr.heap.size, 2, none⟩ = some (.int .i64 l.ast) := by rw [hw2]; simp [go_sem]
   have b3 : w2.cell? ⟨wr.heap.size, 3, none⟩ = some (.int .i64 l.am) := by rw [hw2]; simp [go_sem]
   have hb2 : Below wr.heap.size wr w2 := by rw [hw2]; (repeat (first | exact bR _ _ | assumption | refine bD ?_ | refine bA ?_ _ | refine bset ?_ (by simp; omega) _ | refine bset ?_ (by simp) _ | refine bS ?_ (by assumption)))
   rw [← hw2]
   clear hw2
   have hB2 : Below w.heap.size w w2 := bS hBr hb2
   have hBw2 : Below w1.heap.size w1 w2 := bS hbl hb2
   go_loopw [21] (fun i w' => ∃ j : Nat, j ≤ m ∧ i = .int .i64 j ∧ Hid (((hs.take j).any (fun o => hasPlace o.legs l)) = false) ∧ Below w2.heap.size w2 w') (fun i _ => m - (intOf i).toNat)
   case atStart => exact ⟨0, Nat.zero_le _, rfl, by show ((hs.take 0).any _) = false; simp, Below.refl _ _⟩
   case round =>
    rename_i wq
    obtain ⟨j, hj, rfl, HS2, hbl2⟩ := hrel
    replace b0 := cK hbl2 b0
    replace b1 := cK hbl2 b1
    replace b2 := cK hbl2 b2
    replace b3 := cK hbl2 b3
    have hBq : Below w.heap.size w wr := bS hB2 hbl2
    have hB1q : Below w1.heap.size w1 wr := bS hBw2 hbl2
    by_cases hlt2 : j < m
    ·
     obtain ⟨by_, oy, pp, qq, rfl, g2, g3, hV⟩ := HY.out j hlt2
     obtain ⟨ul, hul, hvl⟩ := hV
     simp only [Value.agg.injEq, Array.mk.injEq, List.cons.injEq, and_true, true_and] at hul
     subst hul
     have HP : Hid (∀ W, Below wr.heap.size wr W → Calls Tryz.prog 105 #[.slice pp (hs.getD j default).legs.length qq, .agg #[.int .i64 l.sh, .int .i64 l.ac, .int .i64 l.ast, .int .i64 l.am]] W fun e w' => e = .returned (.bool (hasPlace (hs.getD j default).legs l)) ∧ Below W.heap.size W w') := fun W hW => hasPlaceOf_any _ _ l W (legsR.below hvl (bS hBq hW))
     have h3 := H1.out j hlt2
     have h4 := HI.out l j hlt2 HS2.out
     replace g2 := cK hBq g2
     replace g3 := cK hBq g3
     generalize hasPlace (hs.getD j default).legs l = bb at *
     have H3 : Hid (bb = true → cc = 7) := h3
     have H4 : Hid (bb = false → ((hs.take (j + 1)).any (fun o => hasPlace o.legs l)) = false) := h4
     clear h3 h4 hvl
     generalize (hs.getD j default).legs.length = lj at *
     generalize (hs.getD j default).id = ij at *
     have zy : by_ < wr.heap.size := wL wr _ g2
     have zl := wL wr _ b0
     dsimp only at zl
     go_wp2_with fail
     refine (HP.out _ (qBq)).mono ?_
     rintro e w4 ⟨rfl, hb4⟩
     have hB4 : Below w.heap.size w w4 := bS hBq (bS (qBq) hb4)
     have hB24 : Below w2.heap.size w2 w4 := bS hbl2 (bS (qBq) hb4)
     clear hb4
     cases hbb : bb
     ·
      have HC : Hid (((hs.take (j + 1)).any (fun o => hasPlace o.legs l)) = false) := H4.out hbb
      go_wp2
      exact ⟨⟨j + 1, by omega, by go_num, HC, hB24⟩, by simp [intOf]; omega⟩
     ·
      have HC := H3.out hbb
      go_wp2
      exact ⟨rfl, .inr ⟨by rw [HC]; omega, by rw [HC]; rfl⟩, hB4⟩
    ·
     have hjm : j = m := by omega
     subst hjm
     have HC : Hid (((lg.take (k + 1)).any (fun l => hs.any (fun o => hasPlace o.legs l))) = false) := H2.out (by have := HS2.out; rw [HE2.out] at this; exact this)
     go_wp2
     exact ⟨⟨k + 1, by omega, by go_num, HC, hB1q⟩, by simp [intOf]; omega⟩
  ·
   have hkn : k = n := by omega
   subst hkn
   have HC := HE.out (by have := HS.out; rw [HE1.out] at this; exact this)
   go_wp2
   go_end0
   exact ⟨.inl ⟨HC, rfl⟩, bS hB1 hbl⟩
end Go.Proofs.YtndghenlapbaaaaGreat


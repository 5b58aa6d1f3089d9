import Derived.Test.YtndghenlapbaaaaGreatPrnVoteShardLaw26
import Derived.Test.YtndghenlapbaaaaGreatPrnVoteShardLaw21
import Derived.BigQuiet
import Derived.Deep.QuietTactic
import Derived.Deep.RegionHeld3
import Derived.Test.YtndghenlapbaaaaGreatPrnVoteShardLaw2
import Derived.Test.YtndghenlapbaaaaGreatPrnVoteShardLaw14
import Derived.Test.YtndghenlapbaaaaGreatPrnVoteShardLaw23
import Derived.Test.YtndghenlapbaaaaGreatPrnVoteShardLaw25
set_option linter.unusedSimpArgs false
set_option linter.unusedVariables false
set_option linter.unusedSectionVars false

/-
 The door of VoteShard.
-/
namespace Go.Proofs.YtndghenlapbaaaaGreat
open Go.RowKit
variable [DecidableEq Rw] [Inhabited Rw] [DecidableEq Bal] [Inhabited Bal] [DecidableEq Ledg] [Inhabited Ledg] [DecidableEq Leg] [Inhabited Leg] [DecidableEq Cont] [Inhabited Cont] [DecidableEq LedgR] [Inhabited LedgR] [DecidableEq OutcR] [Inhabited OutcR] [DecidableEq Mrk] [Inhabited Mrk] [DecidableEq Shd] [Inhabited Shd] [DecidableEq ShdR] [Inhabited ShdR]
attribute [local go_sem ↓] Go.wp_at_zero Go.wp_at_succ

def votV (d : Shd) (k v : Int) : Shd := ⟨d.idx, d.bals, putM d.votes ⟨k, v⟩, d.held, d.done, d.appl⟩
theorem shdRR_form {w : World} {base : Nat} {F : Nat → Prop} {u : Value} {c v : Int} {d : Shd} (h : shdRR.O w base F u ⟨c, v, d⟩) : ∃ p1 p2 p3 p4 p5 m1 m2 m3 m4 m5 q1 q2 q3 q4 q5, u = .agg #[.int .i64 c, .int .i64 v, .int .i64 d.idx, .slice p1 m1 q1, .slice p2 m2 q2, .slice p3 m3 q3, .slice p4 m4 q4, .slice p5 m5 q5] := by
 obtain ⟨a1, a2, a3, a4, a5, c1, c2, c3, c4, c5, e⟩ := shdR_form (shdRR.ofO h)
 exact ⟨a1, a2, a3, a4, a5, _, _, _, _, _, c1, c2, c3, c4, c5, e⟩
def CaughtE (w : World) (bt : Nat) (d : Shd) (c : Cont) (q : Int) (older : List PanicEntry) (e : Ending) (u' : FrameMode) (w' : World) : Prop :=
 e = .returned (.tuple #[]) ∧ u' = .panicking ({ v := refV q, recovered := true } :: older) ∧ ∃ w1 p1 p2 p3 p4 p5 m1 m2 m3 m4 m5 q1 q2 q3 q4 q5 F, Below w.heap.size w w1 ∧ shdRR.O w1 w.heap.size F (.agg #[.int .i64 0, .int .i64 2, .int .i64 d.idx, .slice p1 m1 q1, .slice p2 m2 q2, .slice p3 m3 q3, .slice p4 m4 q4, .slice p5 m5 q5]) ⟨0, 2, votV d c.id 2⟩ ∧ w' = (((((((w1.setCell ⟨bt, 0, none⟩ (.int .i64 0)).setCell ⟨bt, 1, none⟩ (.int .i64 2)).setCell ⟨bt, 2, none⟩ (.int .i64 d.idx)).setCell ⟨bt, 3, none⟩ (.slice p1 m1 q1)).setCell ⟨bt, 4, none⟩ (.slice p2 m2 q2)).setCell ⟨bt, 5, none⟩ (.slice p3 m3 q3)).setCell ⟨bt, 6, none⟩ (.slice p4 m4 q4)).setCell ⟨bt, 7, none⟩ (.slice p5 m5 q5)
structure DoorOk (w : World) (bs bc bt : Nat) (d : Shd) (c : Cont) : Prop where
 sh : ∃ a1 a2 a3 a4 a5 n1 n2 n3 n4 n5 c1 c2 c3 c4 c5, (w.cell? ⟨bs, 0, none⟩ = some (.int .i64 d.idx) ∧ w.cell? ⟨bs, 1, none⟩ = some (.slice a1 n1 c1) ∧ w.cell? ⟨bs, 2, none⟩ = some (.slice a2 n2 c2) ∧ w.cell? ⟨bs, 3, none⟩ = some (.slice a3 n3 c3) ∧ w.cell? ⟨bs, 4, none⟩ = some (.slice a4 n4 c4) ∧ w.cell? ⟨bs, 5, none⟩ = some (.slice a5 n5 c5)) ∧ shdR.V w (.agg #[.int .i64 d.idx, .slice a1 n1 c1, .slice a2 n2 c2, .slice a3 n3 c3, .slice a4 n4 c4, .slice a5 n5 c5]) d
 co : w.cell? ⟨bc, 0, none⟩ = some (.int .i64 c.id)
 ce : w.cell? ⟨bt, 0, none⟩ = some (.int .i64 0) ∧ w.cell? ⟨bt, 1, none⟩ = some (.int .i64 0) ∧ w.cell? ⟨bt, 2, none⟩ = some (.int .i64 0) ∧ w.cell? ⟨bt, 3, none⟩ = some (.slice none 0 0) ∧ w.cell? ⟨bt, 4, none⟩ = some (.slice none 0 0) ∧ w.cell? ⟨bt, 5, none⟩ = some (.slice none 0 0) ∧ w.cell? ⟨bt, 6, none⟩ = some (.slice none 0 0) ∧ w.cell? ⟨bt, 7, none⟩ = some (.slice none 0 0)
 fr : ∀ o, w.frozen? ⟨bt, o, none⟩ = false
theorem DoorOk.keep {w w' : World} {bs bc bt : Nat} {d : Shd} {c : Cont} (h : DoorOk w bs bc bt d c) (hb : Below w.heap.size w w') : DoorOk w' bs bc bt d c := by
 obtain ⟨a1, a2, a3, a4, a5, n1, n2, n3, n4, n5, c1, c2, c3, c4, c5, ⟨y0, y1, y2, y3, y4, y5⟩, hv⟩ := h.sh
 obtain ⟨r0, r1, r2, r3, r4, r5, r6, r7⟩ := h.ce
 refine ⟨⟨a1, a2, a3, a4, a5, n1, n2, n3, n4, n5, c1, c2, c3, c4, c5, ⟨cK hb y0, cK hb y1, cK hb y2, cK hb y3, cK hb y4, cK hb y5⟩, shdR.below hv hb⟩, cK hb h.co, ⟨cK hb r0, cK hb r1, cK hb r2, cK hb r3, cK hb r4, cK hb r5, cK hb r6, cK hb r7⟩, fun o => ?_⟩
 rw [hb.frozen (p := ⟨bt, o, none⟩) (wL w ⟨bt, 0, none⟩ r0)]
 exact h.fr o
set_option maxRecDepth 20000 in
set_option maxHeartbeats 4000000 in
theorem catchVS_panicking (bs bc bt : Nat) (d : Shd) (c : Cont) (q : Int) (older : List PanicEntry) (w : World) (hd : DoorOk w bs bc bt d c) (hok : ShdOk d) :
  CallsD Tryz.prog 37 #[.pointer (some ⟨bs, 0, none⟩), .pointer (some ⟨bc, 0, none⟩), .pointer (some ⟨bt, 0, none⟩)] (.panicking ({ v := refV q, recovered := false } :: older)) w (CaughtE w bt d c q older) := by
 obtain ⟨a1, a2, a3, a4, a5, n1, n2, n3, n4, n5, c1, c2, c3, c4, c5, ⟨y0, y1, y2, y3, y4, y5⟩, hv⟩ := hd.sh
 obtain ⟨r0, r1, r2, r3, r4, r5, r6, r7⟩ := hd.ce
 refine callsD_of_wpS Tryz.func37 rfl fun c₀ cs hu => ?_
 apply wpS_seq
 apply wpS_region
 simp [wpOpsS, go_sem, recoverD, hu, Tryz.ntmps37, Exit.thenS]
 refine (refusalOf_ref q w).mono ?_
 rintro e w1 ⟨rfl, hb⟩
 have hd1 := hd.keep hb
 have x0 := hd1.co
 have rf := hd1.fr
 replace y0 := cK hb y0
 replace y1 := cK hb y1
 replace y2 := cK hb y2
 replace y3 := cK hb y3
 replace y4 := cK hb y4
 replace y5 := cK hb y5
 replace r0 := cK hb r0
 replace r1 := cK hb r1
 replace r2 := cK hb r2
 replace r3 := cK hb r3
 replace r4 := cK hb r4
 replace r5 := cK hb r5
 replace r6 := cK hb r6
 replace r7 := cK hb r7
 replace hv := shdR.below hv hb
 have HCp : Hid (∀ W, Below w1.heap.size w1 W → Calls Tryz.prog 36 #[.agg #[.int .i64 d.idx, .slice a1 n1 c1, .slice a2 n2 c2, .slice a3 n3 c3, .slice a4 n4 c4, .slice a5 n5 c5]] W fun e w' => ∃ v F, e = .returned v ∧ shdR.O w' W.heap.size F v d ∧ Below W.heap.size W w') := fun W hW => copiedShd_u _ d W (shdR.below hv hW) ⟨by have := bals_len (base_idx hok.base).2; omega, by have := hok.ls.nv; omega, by have := hok.ls.nh; omega, by have := hok.ls.nd; omega, by have := hok.ls.na; omega⟩ (fun k hk => by have := hok.held.len hk; omega)
 have HVo : Hid (∀ W F x, shdR.O W w1.heap.size F x d → w1.heap.size ≤ W.heap.size → Calls Tryz.prog 39 #[x, .int .i64 c.id, .int .i64 2] W fun e w' => ∃ u F', e = .returned u ∧ shdRR.O w' w1.heap.size F' u ⟨0, 2, votV d c.id 2⟩ ∧ Below w1.heap.size W w' ∧ ∀ b, F' b → F b ∨ W.heap.size ≤ b) := fun W F x ho hl => voting_u x d c.id 2 w1.heap.size F W ho hl (by have := hok.ls.nv; omega) hok.ls.ov.rise
 clear hd hd1 hv hok
 simp [wpOpsS, go_sem, recoverD, Exit.thenS]
 apply wpS_seq
 apply wpS_region
 simp [wpOpsS, go_sem, recoverD, Exit.thenS]
 refine wpS_cond (t := true) (by simp [Act.eval, Array.replicate]) ?_
 simp only [if_true]
 refine wpS_of_wp ?_
 refine wp_region_noPanic ?_
 refine region_upto (fun W => Below w1.heap.size w1 W ∧ W.cell? ⟨bs, 0, none⟩ = some (.int .i64 d.idx) ∧ W.cell? ⟨bs, 1, none⟩ = some (.slice a1 n1 c1) ∧ W.cell? ⟨bs, 2, none⟩ = some (.slice a2 n2 c2) ∧ W.cell? ⟨bs, 3, none⟩ = some (.slice a3 n3 c3) ∧ W.cell? ⟨bs, 4, none⟩ = some (.slice a4 n4 c4) ∧ W.cell? ⟨bs, 5, none⟩ = some (.slice a5 n5 c5) ∧ W.cell? ⟨bc, 0, none⟩ = some (.int .i64 c.id)) 5 (by kernel_rfl) ⟨qBq, cK (qBq) y0, cK (qBq) y1, cK (qBq) y2, cK (qBq) y3, cK (qBq) y4, cK (qBq) y5, cK (qBq) x0⟩ (fun hS => ?_)
 refine tK (i := 0) (v := ?_) rfl (by kernel_rfl) hS ?_ ?_
 rotate_left
 ·
  intro wS hSw; (try dsimp only at hSw); go_simp; try with_reducible rfl
 try simp only [Act.put, jA, jB, jC, jD, jE, jF]
 refine tK (i := 2) (v := ?_) rfl (by kernel_rfl) hS ?_ ?_
 rotate_left
 ·
  intro wS hSw; (try dsimp only at hSw); go_simp; try with_reducible rfl
 try simp only [Act.put, jA, jB, jC, jD, jE, jF]
 refine tK (i := 3) (v := ?_) rfl (by kernel_rfl) hS ?_ ?_
 rotate_left
 ·
  intro wS hSw; (try dsimp only at hSw); go_simp; try with_reducible rfl
 try simp only [Act.put, jA, jB, jC, jD, jE, jF]
 refine upto_step (i := 1) (by kernel_rfl) rfl ?_
 intro K hK
 go_simp
 refine (HCp.out _ hS.1).mono ?_
 rintro e w2 ⟨v2, F2, rfl, o2, hb2⟩
 have hb2' : Below w1.heap.size w1 w2 := bS hS.1 hb2
 have hS2 := And.intro hb2' (And.intro (cK hb2 hS.2.1) (And.intro (cK hb2 hS.2.2.1) (And.intro (cK hb2 hS.2.2.2.1) (And.intro (cK hb2 hS.2.2.2.2.1) (And.intro (cK hb2 hS.2.2.2.2.2.1) (And.intro (cK hb2 hS.2.2.2.2.2.2.1) (cK hb2 hS.2.2.2.2.2.2.2)))))))
 refine hK _ _ (fun _ => hS2) ?_
 clear hK K hb2
 have HO2 : Hid (shdR.O w2 w1.heap.size F2 v2 d) := shdR.base o2 hS.1.size
 clear o2 hS
 obtain ⟨e1, e2, e3, e4, e5, f1, f2, f3, f4, f5, rfl⟩ := shd_formO HO2.out
 try simp only [Act.put, jA, jB, jC, jD, jE, jF]
 refine upto_step (i := 4) (by kernel_rfl) rfl ?_
 intro K hK
 go_simp
 refine (HVo.out _ _ _ HO2.out hb2'.size).mono ?_
 rintro e w3 ⟨v3, F3, rfl, o3, hb3, hF3⟩
 have hb3' : Below w1.heap.size w1 w3 := Below.trans hb2' hb3
 obtain ⟨p1, p2, p3, p4, p5, m1, m2, m3, m4, m5, q1, q2, q3, q4, q5, rfl⟩ := shdRR_form o3
 refine hK _ _ (fun _ => ⟨hb3', cK hb3' y0, cK hb3' y1, cK hb3' y2, cK hb3' y3, cK hb3' y4, cK hb3' y5, cK hb3' x0⟩) ?_
 clear hK K hS2
 have HO3 : Hid (shdRR.O w3 w.heap.size F3 (.agg #[.int .i64 0, .int .i64 2, .int .i64 d.idx, .slice p1 m1 q1, .slice p2 m2 q2, .slice p3 m3 q3, .slice p4 m4 q4, .slice p5 m5 q5]) ⟨0, 2, votV d c.id 2⟩) := shdRR.base o3 hb.size
 have hB3 : Below w.heap.size w w3 := bS hb hb3'
 have zt := wL w1 _ r0
 replace r0 := cK hb3' r0
 replace r1 := cK hb3' r1
 replace r2 := cK hb3' r2
 replace r3 := cK hb3' r3
 replace r4 := cK hb3' r4
 replace r5 := cK hb3' r5
 replace r6 := cK hb3' r6
 replace r7 := cK hb3' r7
 replace rf : ∀ o, w3.frozen? ⟨bt, o, none⟩ = false := fun o => by rw [hb3'.frozen (p := ⟨bt, o, none⟩) zt]; exact rf o
 clear o3 hF3
 have HEx : Hid (∃ p1 p2 p3 p4 p5 m1 m2 m3 m4 m5 q1 q2 q3 q4 q5 F, True) := ⟨p1, p2, p3, p4, p5, m1, m2, m3, m4, m5, q1, q2, q3, q4, q5, F3, trivial⟩
 try simp only [Act.put, jA, jB, jC, jD, jE, jF]
 refine upto_step (i := 5) (by kernel_rfl) rfl ?_
 intro K hK
 go_simp
 refine hK _ _ (fun h => absurd rfl h) ?_
 clear hK K
 refine upto_done (by kernel_rfl) ?_
 refine NoPanic.normal ?_
 cases c₀
 simp only [bodyPostS, results, Tryz.results37]
 exact ⟨trivial, _, rfl, .tuple #[], by simp, rfl, rfl, w3, p1, p2, p3, p4, p5, m1, m2, m3, m4, m5, q1, q2, q3, q4, q5, F3, hB3, HO3.out, rfl⟩
theorem catchVS_idle (bs bc bt : Nat) (w : World) :
  CallsD Tryz.prog 37 #[.pointer (some ⟨bs, 0, none⟩), .pointer (some ⟨bc, 0, none⟩), .pointer (some ⟨bt, 0, none⟩)] .returning w fun e u' w' => e = .returned (.tuple #[]) ∧ u' = .returning ∧ Below w.heap.size w w' := by
 refine callsD_of_wpS Tryz.func37 rfl fun c₀ cs hu => ?_
 apply wpS_seq
 apply wpS_region
 simp [wpOpsS, go_sem, recoverD, hu, Tryz.ntmps37, Exit.thenS]
 refine (refusalOf_nil w).mono ?_
 rintro e w1 ⟨rfl, hb⟩
 simp [wpOpsS, go_sem, recoverD, Exit.thenS]
 apply wpS_seq
 apply wpS_region
 simp [wpOpsS, go_sem, recoverD, Exit.thenS]
 refine wpS_cond (t := false) (by simp [Act.eval, Array.replicate]) ?_
 simp only [Bool.false_eq_true, if_false]
 refine wpS_of_wp (wp_skip ?_)
 cases c₀
 simp_all [bodyPostS, results, Tryz.results37]
def VoteE (w : World) (Z : ShdR) (e : Ending) (w' : World) : Prop := ∃ v F, e = .returned v ∧ shdRR.O w' w.heap.size F v Z ∧ Below w.heap.size w w'
set_option maxHeartbeats 2000000 in
theorem doorVP (w W : World) (tm : Array Value) (bs bc bt : Nat) (d : Shd) (c : Cont) (Z : ShdR) (q : Int) (hz : Z = ⟨0, 2, votV d c.id 2⟩) (ht : tm[4]? = some (.pointer (some ⟨bt, 0, none⟩))) (hB : w.heap.size ≤ bt) (hd : DoorOk W bs bc bt d c) (hok : ShdOk d) (hb : Below w.heap.size w W) :
  Leaves Tryz.prog Tryz.f10 tm (VoteE w Z) [{ target := .fn (.func 37) #[.pointer (some ⟨bs, 0, none⟩), .pointer (some ⟨bc, 0, none⟩), .pointer (some ⟨bt, 0, none⟩)], args := #[] }] (.panicking [{ v := refV q, recovered := false }]) W := by
 refine leaves_cons (f := 37) (args := #[.pointer (some ⟨bs, 0, none⟩), .pointer (some ⟨bc, 0, none⟩), .pointer (some ⟨bt, 0, none⟩)]) (by simp) (by simp [go_sem]) ?_
 refine (catchVS_panicking bs bc bt d c q [] W hd hok).mono ?_
 rintro e u' w2 ⟨rfl, rfl, w1, p1, p2, p3, p4, p5, m1, m2, m3, m4, m5, q1, q2, q3, q4, q5, F, hb1, ho, rfl⟩
 obtain ⟨r0, r1, r2, r3, r4, r5, r6, r7⟩ := (hd.keep hb1).ce
 have rf := (hd.keep hb1).fr
 have zt := wL W _ hd.ce.1
 have hB1 : Below w.heap.size w w1 := bS hb hb1
 have hn : ¬ F bt := fun h => by have := (shdRR.rng ho bt h).1; dsimp only at zt; omega
 subst hz
 refine ⟨.agg #[.int .i64 0, .int .i64 2, .int .i64 d.idx, .slice p1 m1 q1, .slice p2 m2 q2, .slice p3 m3 q3, .slice p4 m4 q4, .slice p5 m5 q5], ?_, _, F, rfl, ?_, ?_⟩
 ·
  simp [results, Tryz.results10, go_sem, ht, r0, r1, r2, r3, r4, r5, r6, r7, rf]
 ·
  exact setR8 shdRR (shdRR.base ho hb.size) hn _ _ _ _ _ _ _ _
 ·
  exact ((((((((hB1).setCell (p := ⟨bt, 0, none⟩) hB _).setCell (p := ⟨bt, 1, none⟩) hB _).setCell (p := ⟨bt, 2, none⟩) hB _).setCell (p := ⟨bt, 3, none⟩) hB _).setCell (p := ⟨bt, 4, none⟩) hB _).setCell (p := ⟨bt, 5, none⟩) hB _).setCell (p := ⟨bt, 6, none⟩) hB _).setCell (p := ⟨bt, 7, none⟩) hB _
set_option maxHeartbeats 2000000 in
theorem doorVR (w W : World) (tm : Array Value) (bs bc bt : Nat) (Z : ShdR) (u0 u1 u2 u3 u4 u5 u6 u7 : Value) (F : Nat → Prop) (ho : shdRR.O W w.heap.size F (.agg #[u0, u1, u2, u3, u4, u5, u6, u7]) Z) (ht : tm[4]? = some (.pointer (some ⟨bt, 0, none⟩))) (hce : W.cell? ⟨bt, 0, none⟩ = some (u0) ∧ W.cell? ⟨bt, 1, none⟩ = some (u1) ∧ W.cell? ⟨bt, 2, none⟩ = some (u2) ∧ W.cell? ⟨bt, 3, none⟩ = some (u3) ∧ W.cell? ⟨bt, 4, none⟩ = some (u4) ∧ W.cell? ⟨bt, 5, none⟩ = some (u5) ∧ W.cell? ⟨bt, 6, none⟩ = some (u6) ∧ W.cell? ⟨bt, 7, none⟩ = some (u7)) (hb : Below w.heap.size w W) :
  Leaves Tryz.prog Tryz.f10 tm (VoteE w Z) [{ target := .fn (.func 37) #[.pointer (some ⟨bs, 0, none⟩), .pointer (some ⟨bc, 0, none⟩), .pointer (some ⟨bt, 0, none⟩)], args := #[] }] .returning W := by
 refine leaves_cons (f := 37) (args := #[.pointer (some ⟨bs, 0, none⟩), .pointer (some ⟨bc, 0, none⟩), .pointer (some ⟨bt, 0, none⟩)]) (by simp) (by simp [go_sem]) ?_
 refine (catchVS_idle bs bc bt W).mono ?_
 rintro e u' w2 ⟨rfl, rfl, hb1⟩
 obtain ⟨r0, r1, r2, r3, r4, r5, r6, r7⟩ := hce
 replace r0 := cK hb1 r0
 replace r1 := cK hb1 r1
 replace r2 := cK hb1 r2
 replace r3 := cK hb1 r3
 replace r4 := cK hb1 r4
 replace r5 := cK hb1 r5
 replace r6 := cK hb1 r6
 replace r7 := cK hb1 r7
 refine ⟨.agg #[u0, u1, u2, u3, u4, u5, u6, u7], ?_, _, F, rfl, shdRR.keep ho hb1, bS hb hb1⟩
 simp [results, Tryz.results10, go_sem, ht, r0, r1, r2, r3, r4, r5, r6, r7]
end Go.Proofs.YtndghenlapbaaaaGreat

/-
 VoteShard, the program's.
-/
namespace Go.Proofs.YtndghenlapbaaaaGreat
open Go.RowKit
variable [DecidableEq Rw] [Inhabited Rw] [DecidableEq Bal] [Inhabited Bal] [DecidableEq Ledg] [Inhabited Ledg] [DecidableEq Leg] [Inhabited Leg] [DecidableEq Cont] [Inhabited Cont] [DecidableEq LedgR] [Inhabited LedgR] [DecidableEq OutcR] [Inhabited OutcR] [DecidableEq Mrk] [Inhabited Mrk] [DecidableEq Shd] [Inhabited Shd] [DecidableEq ShdR] [Inhabited ShdR]
attribute [local go_sem ↓] Go.wp_at_zero Go.wp_at_succ

theorem errH_O (w : World) (base : Nat) (c : Int) : ∃ F, shdRR.O w base F (.agg #[.int .i64 c, .int .i64 0, .int .i64 0, .slice none 0 0, .slice none 0 0, .slice none 0 0, .slice none 0 0, .slice none 0 0]) (errH c) := by
 obtain ⟨F, h⟩ := shd_nil w base
 exact ⟨F, shdR_of (d := ⟨0, [], [], [], [], []⟩) c 0 h⟩
theorem vote_err {w W : World} {Z : ShdR} {c : Int} (h : Z = errH c) (hb : Below w.heap.size w W) : VoteE w Z (.returned (.agg #[.int .i64 c, .int .i64 0, .int .i64 0, .slice none 0 0, .slice none 0 0, .slice none 0 0, .slice none 0 0, .slice none 0 0])) W := by
 obtain ⟨F, ho⟩ := errH_O W w.heap.size c
 rw [h]
 exact ⟨_, F, rfl, ho, hb⟩
theorem askedC_bad {d : Shd} {c : Cont} (h : ¬ askedC d c = 0) : voteD d c = errH (askedC d c) := by
 unfold askedC at h ⊢
 unfold voteD
 by_cases h0 : shdF d = 0
 ·
  rw [if_pos h0] at h ⊢
  rw [if_pos h0]
  by_cases h1 : contractFault c.id c.legs = 0
  ·
   rw [if_pos h1] at h ⊢
   rw [if_pos h1]
   by_cases h2 : (onSh d.idx c.legs).length = 0
   ·
    rw [if_pos h2, if_pos h2]
   ·
    rw [if_neg h2] at h
    exact absurd rfl h
  ·
   rw [if_neg h1, if_neg h1]
 ·
  rw [if_neg h0, if_neg h0]
theorem askedC_ok {d : Shd} {c : Cont} (h : askedC d c = 0) : shdF d = 0 ∧ contractFault c.id c.legs = 0 ∧ voteD d c = votedD d c := by
 unfold askedC at h
 unfold voteD
 by_cases h0 : shdF d = 0
 ·
  rw [if_pos h0] at h
  rw [if_pos h0]
  by_cases h1 : contractFault c.id c.legs = 0
  ·
   rw [if_pos h1] at h
   rw [if_pos h1]
   by_cases h2 : (onSh d.idx c.legs).length = 0
   ·
    rw [if_pos h2] at h
    omega
   ·
    exact ⟨h0, h1, by rw [if_neg h2]⟩
  ·
   rw [if_neg h1] at h
   exact absurd h h1
 ·
  rw [if_neg h0] at h
  exact absurd h h0
theorem votedD_was {d : Shd} {c : Cont} (h : ¬ findM c.id d.votes = 0) : votedD d c = ⟨0, findM c.id d.votes, d⟩ := by unfold votedD; rw [if_neg h]
theorem votedD_many {d : Shd} {c : Cont} (h : findM c.id d.votes = 0) (h1 : 100 ≤ d.votes.length) : votedD d c = errH 2 := by unfold votedD; rw [if_pos h, if_pos h1]
theorem votedD_yes {d : Shd} {c : Cont} (h : findM c.id d.votes = 0) (h1 : ¬ 100 ≤ d.votes.length) (h2 : readyB d c = true) : votedD d c = ⟨0, 1, votV (heldD d c) c.id 1⟩ := by unfold votedD; rw [if_pos h, if_neg h1, if_pos h2]; rfl
theorem votedD_no {d : Shd} {c : Cont} (h : findM c.id d.votes = 0) (h1 : ¬ 100 ≤ d.votes.length) (h2 : readyB d c = false) : votedD d c = ⟨0, 2, votV d c.id 2⟩ := by unfold votedD; rw [if_pos h, if_neg h1, if_neg (by rw [h2]; exact Bool.false_ne_true)]; rfl
set_option maxRecDepth 20000 in
set_option maxHeartbeats 8000000 in
theorem implVote_u (x y : Value) (d : Shd) (c : Cont) (w : World) (hx : shdR.V w x d) (hy : contR.V w y c) :
  Calls Tryz.prog 10 #[x, y] w (VoteE w (voteD d c)) := by
 have HAs : Hid (∀ W, Below w.heap.size w W → Calls Tryz.prog 34 #[x, y] W fun e w' => e = .returned (.int .i64 (askedC d c)) ∧ Below W.heap.size W w') := fun W hW => asked_any x y d c W (shdR.below hx hW) (contR.below hy hW)
 have HHo : Hid (∀ W, Below w.heap.size w W → ShdOk d → contractFault c.id c.legs = 0 → Calls Tryz.prog 40 #[x, y] W (HoldE d c W)) := fun W hW hok hcf => holding_any x y d c W (shdR.below hx hW) (contR.below hy hW) hok hcf
 have HCp : Hid (∀ W, Below w.heap.size w W → ShdOk d → Calls Tryz.prog 36 #[x] W fun e w' => ∃ v F, e = .returned v ∧ shdR.O w' W.heap.size F v d ∧ Below W.heap.size W w') := fun W hW hok => copiedShd_u x d W (shdR.below hx hW) ⟨by have := bals_len (base_idx hok.base).2; omega, by have := hok.ls.nv; omega, by have := hok.ls.nh; omega, by have := hok.ls.nd; omega, by have := hok.ls.na; omega⟩ (fun k hk => by have := hok.held.len hk; omega)
 have HVo : Hid (∀ W F v e, shdR.O W e F v (heldD d c) → e ≤ W.heap.size → ShdOk d → Calls Tryz.prog 39 #[v, .int .i64 c.id, .int .i64 1] W fun r w' => ∃ u F', r = .returned u ∧ shdRR.O w' e F' u ⟨0, 1, votV (heldD d c) c.id 1⟩ ∧ Below e W w' ∧ ∀ b, F' b → F b ∨ W.heap.size ≤ b) := fun W F v e ho hl hok => voting_u v (heldD d c) c.id 1 e F W ho hl (by have := hok.ls.nv; show d.votes.length ≤ 1000; omega) hok.ls.ov.rise
 have HX : Hid (∀ W, Below w.heap.size w W → shdR.V W x d) := fun W hW => shdR.below hx hW
 obtain ⟨u1, u2, u3, u4, u5, rfl, h1, h2, h3, h4, h5⟩ := hx
 have HVi : Hid (∀ W, Below w.heap.size w W → ShdOk d → Calls Tryz.prog 35 #[u2, .int .i64 c.id] W fun e w' => e = .returned (.int .i64 (findM c.id d.votes)) ∧ Below W.heap.size W w') := fun W hW hok => valueIn_any u2 d.votes c.id W (mrksR.below h2 hW) (by have := hok.ls.nv; omega) hok.ls.ov.rise
 obtain ⟨a1, c1, rfl⟩ := bals_form h1
 obtain ⟨a2, c2, rfl⟩ := mrks_form h2
 obtain ⟨a3, c3, rfl⟩ := conts_form h3
 obtain ⟨a4, c4, rfl⟩ := mrks_form h4
 obtain ⟨a5, c5, rfl⟩ := ints_form h5
 obtain ⟨uy, rfl, hy⟩ := hy
 obtain ⟨ax, cx, rfl⟩ := legs_form hy
 clear h1 h2 h3 h4 h5 hy
 have HE0 : Hid (¬ askedC d c = 0 → voteD d c = errH (askedC d c)) := fun h => askedC_bad h
 have HE1 : Hid (askedC d c = 0 → shdF d = 0 ∧ contractFault c.id c.legs = 0 ∧ voteD d c = votedD d c) := fun h => askedC_ok h
 have HE2 : Hid (¬ findM c.id d.votes = 0 → votedD d c = ⟨0, findM c.id d.votes, d⟩) := fun h => votedD_was h
 have HE3 : Hid (findM c.id d.votes = 0 → 100 ≤ d.votes.length → votedD d c = errH 2) := fun h h1 => votedD_many h h1
 have HE4 : Hid (findM c.id d.votes = 0 → ¬ 100 ≤ d.votes.length → readyB d c = true → votedD d c = ⟨0, 1, votV (heldD d c) c.id 1⟩) := fun h h1 h2 => votedD_yes h h1 h2
 have HE5 : Hid (findM c.id d.votes = 0 → ¬ 100 ≤ d.votes.length → readyB d c = false → votedD d c = ⟨0, 2, votV d c.id 2⟩) := fun h h1 h2 => votedD_no h h1 h2
 have HOk : Hid (shdF d = 0 → ShdOk d ∧ d.votes.length ≤ 100) := fun h => ⟨shdOk_of h, (shdOk_of h).ls.nv⟩
 generalize hn1 : d.bals.length = n1 at *
 generalize hn2 : d.votes.length = n2 at *
 generalize hn3 : d.held.length = n3 at *
 generalize hn4 : d.done.length = n4 at *
 generalize hn5 : d.appl.length = n5 at *
 have HN : Hid (d.bals.length = n1 ∧ d.votes.length = n2 ∧ d.held.length = n3 ∧ d.done.length = n4 ∧ d.appl.length = n5) := ⟨hn1, hn2, hn3, hn4, hn5⟩
 clear hn1 hn2 hn3 hn4 hn5
 generalize c.legs.length = nx at *
 generalize voteD d c = Z at *
 generalize askedC d c = ac at *
 generalize findM c.id d.votes = fv at *
 have hmf : ∀ (fn : Fn) (first cap : Array Value) (w : World), (Instr.makeFunc fn first cap).run Tryz.prog w = .ok (.func fn first cap) w := fun _ _ _ _ => rfl
 go_enter_defers Tryz.func10, Tryz.ntmps10
 go_wp2_with fail
 refine (HAs.out _ (qBq)).mono ?_
 rintro e w1 ⟨rfl, hb1⟩
 have hB1 : Below w.heap.size w w1 := bS (qBq) hb1
 have hz1 := hb1.size
 simp at hz1
 have y0 : w1.cell? ⟨w.heap.size, 0, none⟩ = some (.int .i64 d.idx) := cK hb1 (by simp [go_sem])
 have y1 : w1.cell? ⟨w.heap.size, 1, none⟩ = some (.slice a1 n1 c1) := cK hb1 (by simp [go_sem])
 have y2 : w1.cell? ⟨w.heap.size, 2, none⟩ = some (.slice a2 n2 c2) := cK hb1 (by simp [go_sem])
 have y3 : w1.cell? ⟨w.heap.size, 3, none⟩ = some (.slice a3 n3 c3) := cK hb1 (by simp [go_sem])
 have y4 : w1.cell? ⟨w.heap.size, 4, none⟩ = some (.slice a4 n4 c4) := cK hb1 (by simp [go_sem])
 have y5 : w1.cell? ⟨w.heap.size, 5, none⟩ = some (.slice a5 n5 c5) := cK hb1 (by simp [go_sem])
 have x0 : w1.cell? ⟨w.heap.size + 1, 0, none⟩ = some (.int .i64 c.id) := cK hb1 (by simp [go_sem])
 have x1 : w1.cell? ⟨w.heap.size + 1, 1, none⟩ = some (.slice ax nx cx) := cK hb1 (by simp [go_sem])
 have r0 : w1.cell? ⟨w.heap.size + 2, 0, none⟩ = some (.int .i64 0) := cK hb1 (by simp [go_sem])
 have r1 : w1.cell? ⟨w.heap.size + 2, 1, none⟩ = some (.int .i64 0) := cK hb1 (by simp [go_sem])
 have r2 : w1.cell? ⟨w.heap.size + 2, 2, none⟩ = some (.int .i64 0) := cK hb1 (by simp [go_sem])
 have r3 : w1.cell? ⟨w.heap.size + 2, 3, none⟩ = some (.slice none 0 0) := cK hb1 (by simp [go_sem])
 have r4 : w1.cell? ⟨w.heap.size + 2, 4, none⟩ = some (.slice none 0 0) := cK hb1 (by simp [go_sem])
 have r5 : w1.cell? ⟨w.heap.size + 2, 5, none⟩ = some (.slice none 0 0) := cK hb1 (by simp [go_sem])
 have r6 : w1.cell? ⟨w.heap.size + 2, 6, none⟩ = some (.slice none 0 0) := cK hb1 (by simp [go_sem])
 have r7 : w1.cell? ⟨w.heap.size + 2, 7, none⟩ = some (.slice none 0 0) := cK hb1 (by simp [go_sem])
 have rf : ∀ o, w1.frozen? ⟨w.heap.size + 2, o, none⟩ = false := fun o => by rw [(bcell hb1).2 _ _ (by simp)]; simp [go_sem]
 clear hb1 HAs
 by_cases hac : ac = 0
 rotate_left
 ·
  have HC : Hid (Z = errH ac) := HE0.out hac
  have hac' : (ac != 0) = true := by simp [hac]
  clear HE0 HE1 HE2 HE3 HE4 HE5 HHo HCp HVo HX HVi HOk
  go_wp2
  refine ⟨.agg #[.int .i64 ac, .int .i64 0, .int .i64 0, .slice none 0 0, .slice none 0 0, .slice none 0 0, .slice none 0 0, .slice none 0 0], by simp [results, Tryz.results10, go_sem, r0, r1, r2, r3, r4, r5, r6, r7, rf], vote_err HC.out ?_⟩
  (repeat (first | refine bset ?_ (by simp; omega) _ | refine bset ?_ (by simp) _ | refine bA ?_ _ | assumption))
 obtain ⟨hsf, hcf, hZv⟩ := HE1.out hac
 obtain ⟨hok, hn2⟩ := HOk.out hsf
 have HOK : Hid (ShdOk d) := hok
 have HZV : Hid (Z = votedD d c) := hZv
 have HHo' : Hid (∀ W, Below w.heap.size w W → Calls Tryz.prog 40 #[.agg #[.int .i64 d.idx, .slice a1 n1 c1, .slice a2 n2 c2, .slice a3 n3 c3, .slice a4 n4 c4, .slice a5 n5 c5], .agg #[.int .i64 c.id, .slice ax nx cx]] W (HoldE d c W)) := fun W hW => HHo.out W hW hok hcf
 have HCp' : Hid (∀ W, Below w.heap.size w W → Calls Tryz.prog 36 #[.agg #[.int .i64 d.idx, .slice a1 n1 c1, .slice a2 n2 c2, .slice a3 n3 c3, .slice a4 n4 c4, .slice a5 n5 c5]] W fun e w' => ∃ v F, e = .returned v ∧ shdR.O w' W.heap.size F v d ∧ Below W.heap.size W w') := fun W hW => HCp.out W hW hok
 have HVi' : Hid (∀ W, Below w.heap.size w W → Calls Tryz.prog 35 #[.slice a2 n2 c2, .int .i64 c.id] W fun e w' => e = .returned (.int .i64 fv) ∧ Below W.heap.size W w') := fun W hW => HVi.out W hW hok
 have hac' : (ac != 0) = false := by simp [hac]
 rw [hac]
 clear HE0 HE1 HHo HCp HVi HOk hsf hcf hZv hok hac hac'
 go_wp2_with fail
 refine (HVi'.out _ hB1).mono ?_
 rintro e w2 ⟨rfl, hb2⟩
 have hB2 : Below w.heap.size w w2 := bS hB1 hb2
 replace y0 := cK hb2 y0
 replace y1 := cK hb2 y1
 replace y2 := cK hb2 y2
 replace y3 := cK hb2 y3
 replace y4 := cK hb2 y4
 replace y5 := cK hb2 y5
 replace x0 := cK hb2 x0
 replace x1 := cK hb2 x1
 replace r0 := cK hb2 r0
 replace r1 := cK hb2 r1
 replace r2 := cK hb2 r2
 replace r3 := cK hb2 r3
 replace r4 := cK hb2 r4
 replace r5 := cK hb2 r5
 replace r6 := cK hb2 r6
 replace r7 := cK hb2 r7
 replace rf : ∀ o, w2.frozen? ⟨w.heap.size + 2, o, none⟩ = false := fun o => by rw [(bcell hb2).2 _ _ (by omega)]; exact rf o
 have hz2 : w.heap.size + 2 < w2.heap.size := by have := hb2.size; omega
 clear hb2 HVi' hz1 hB1
 by_cases hfv : fv = 0
 rotate_left
 ·
  have HC : Hid (Z = ⟨0, fv, d⟩) := HZV.out.trans (HE2.out hfv)
  have hfv' : (fv != 0) = true := by simp [hfv]
  clear HE2 HE3 HE4 HE5 HHo' HVo HX
  go_wp2_with fail
  refine (HCp'.out _ hB2).mono ?_
  rintro e w3 ⟨v3, F3, rfl, o3, hb3⟩
  obtain ⟨e1, e2, e3, e4, e5, f1, f2, f3, f4, f5, rfl⟩ := shd_formO o3
  have hB3 : Below w.heap.size w w3 := bS hB2 hb3
  have HO : Hid (shdRR.O w3 w2.heap.size F3 (.agg #[.int .i64 0, .int .i64 fv, .int .i64 d.idx, .slice e1 d.bals.length f1, .slice e2 d.votes.length f2, .slice e3 d.held.length f3, .slice e4 d.done.length f4, .slice e5 d.appl.length f5]) ⟨0, fv, d⟩) := shdR_of 0 fv o3
  replace r0 := cK hb3 r0
  replace r1 := cK hb3 r1
  replace r2 := cK hb3 r2
  replace r3 := cK hb3 r3
  replace r4 := cK hb3 r4
  replace r5 := cK hb3 r5
  replace r6 := cK hb3 r6
  replace r7 := cK hb3 r7
  replace rf : ∀ o, w3.frozen? ⟨w.heap.size + 2, o, none⟩ = false := fun o => by rw [(bcell hb3).2 _ _ (by omega)]; exact rf o
  clear o3 hb3 HCp'
  generalize d.bals.length = n1 at *
  generalize d.votes.length = n2 at *
  generalize d.held.length = n3 at *
  generalize d.done.length = n4 at *
  generalize d.appl.length = n5 at *
  go_wp2
  refine ⟨.agg #[.int .i64 0, .int .i64 fv, .int .i64 d.idx, .slice e1 n1 f1, .slice e2 n2 f2, .slice e3 n3 f3, .slice e4 n4 f4, .slice e5 n5 f5], by simp [results, Tryz.results10, go_sem, r0, r1, r2, r3, r4, r5, r6, r7, rf], ?_⟩
  rw [HC.out]
  refine ⟨_, F3, rfl, shdRR.base (setR8 shdRR HO.out (fun h => by have := (shdRR.rng HO.out _ h).1; omega) _ _ _ _ _ _ _ _) hB2.size, ?_⟩
  (repeat (first | refine bset ?_ (by simp; omega) _ | refine bset ?_ (by simp) _ | refine bA ?_ _ | assumption))
 rw [hfv]
 by_cases hm : 100 ≤ n2
 ·
  have HC : Hid (Z = errH 2) := HZV.out.trans (HE3.out hfv hm)
  have hm1 : ((n2 : Int) == 100) = true := by simp; omega
  have hm2 : (n2 : Int) = 100 := by omega
  clear HE2 HE3 HE4 HE5 HHo' HVo HX HCp'
  go_wp2
  refine ⟨.agg #[.int .i64 2, .int .i64 0, .int .i64 0, .slice none 0 0, .slice none 0 0, .slice none 0 0, .slice none 0 0, .slice none 0 0], by simp [results, Tryz.results10, go_sem, r0, r1, r2, r3, r4, r5, r6, r7, rf], vote_err HC.out ?_⟩
  (repeat (first | refine bset ?_ (by simp; omega) _ | refine bset ?_ (by simp) _ | refine bA ?_ _ | assumption))
 have HY : Hid (readyB d c = true → Z = ⟨0, 1, votV (heldD d c) c.id 1⟩) := fun h => HZV.out.trans (HE4.out hfv hm h)
 have HNo : Hid (readyB d c = false → Z = ⟨0, 2, votV d c.id 2⟩) := fun h => HZV.out.trans (HE5.out hfv hm h)
 have hm1 : ((n2 : Int) == 100) = false := by simp; omega
 have hm2 : ¬ (n2 : Int) = 100 := by omega
 have HDo : Hid (DoorOk w2 w.heap.size (w.heap.size + 1) (w.heap.size + 2) d c) := ⟨⟨a1, a2, a3, a4, a5, n1, n2, n3, n4, n5, c1, c2, c3, c4, c5, ⟨y0, y1, y2, y3, y4, y5⟩, HX.out w2 hB2⟩, x0, ⟨r0, r1, r2, r3, r4, r5, r6, r7⟩, rf⟩
 clear HE2 HE3 HE4 HE5 HCp' HZV hfv hm
 go_wp2
 refine wp_region_panicAs [{ target := .fn (.func 37) #[.pointer (some ⟨w.heap.size, 0, none⟩), .pointer (some ⟨w.heap.size + 1, 0, none⟩), .pointer (some ⟨w.heap.size + 2, 0, none⟩)], args := #[] }] 4 (.pointer (some ⟨w.heap.size + 2, 0, none⟩)) (fun c' W => ∃ q, c' = [{ v := refV q, recovered := false }] ∧ readyB d c = false ∧ Below w2.heap.size w2 W) ?_ ?_
 ·
  rintro c' a W hd ht ⟨q, rfl, hz, hb⟩
  show Leaves Tryz.prog Tryz.f10 a.tmps _ a.defers (.panicking _) W
  rw [hd]
  exact doorVP w W a.tmps _ _ _ d c Z q (HNo.out hz) ht (by omega) (HDo.out.keep hb) HOK.out (bS hB2 hb)
 refine region_upto (fun W => Below w2.heap.size w2 W ∧ W.cell? ⟨w.heap.size, 0, none⟩ = some (.int .i64 d.idx) ∧ W.cell? ⟨w.heap.size, 1, none⟩ = some (.slice a1 n1 c1) ∧ W.cell? ⟨w.heap.size, 2, none⟩ = some (.slice a2 n2 c2) ∧ W.cell? ⟨w.heap.size, 3, none⟩ = some (.slice a3 n3 c3) ∧ W.cell? ⟨w.heap.size, 4, none⟩ = some (.slice a4 n4 c4) ∧ W.cell? ⟨w.heap.size, 5, none⟩ = some (.slice a5 n5 c5) ∧ W.cell? ⟨w.heap.size + 1, 0, none⟩ = some (.int .i64 c.id) ∧ W.cell? ⟨w.heap.size + 1, 1, none⟩ = some (.slice ax nx cx)) 6 (by kernel_rfl) ⟨qBq, cK (qBq) y0, cK (qBq) y1, cK (qBq) y2, cK (qBq) y3, cK (qBq) y4, cK (qBq) y5, cK (qBq) x0, cK (qBq) x1⟩ (fun hS => ?_)
 refine upto_take (i := 0) (v := ?_) rfl (by kernel_rfl) (by kernel_rfl) (by kernel_rfl) (by kernel_rfl) (fun _ _ _ => PanicAs.put (by decide)) (by rfl) hS ?_ ?_
 rotate_left
 ·
  intro wS hSw; (try dsimp only at hSw); go_simp; try with_reducible rfl
 try simp only [Act.put, jA, jB, jC, jD, jE, jF]
 refine upto_take (i := 1) (v := ?_) rfl (by kernel_rfl) (by kernel_rfl) (by kernel_rfl) (by kernel_rfl) (fun _ _ _ => PanicAs.put (by decide)) (by rfl) hS ?_ ?_
 rotate_left
 ·
  intro wS hSw; (try dsimp only at hSw); go_simp; try with_reducible rfl
 try simp only [Act.put, jA, jB, jC, jD, jE, jF]
 refine upto_take (i := 3) (v := ?_) rfl (by kernel_rfl) (by kernel_rfl) (by kernel_rfl) (by kernel_rfl) (fun _ _ _ => PanicAs.put (by decide)) (by rfl) hS ?_ ?_
 rotate_left
 ·
  intro wS hSw; (try dsimp only at hSw); go_simp; try with_reducible rfl
 try simp only [Act.put, jA, jB, jC, jD, jE, jF]
 refine upto_take (i := 4) (v := ?_) rfl (by kernel_rfl) (by kernel_rfl) (by kernel_rfl) (by kernel_rfl) (fun _ _ _ => PanicAs.put (by decide)) (by rfl) hS ?_ ?_
 rotate_left
 ·
  intro wS hSw; (try dsimp only at hSw); go_simp; try with_reducible rfl
 try simp only [Act.put, jA, jB, jC, jD, jE, jF]
 refine upto_step (i := 2) (by kernel_rfl) rfl ?_
 intro K hK
 go_simp
 refine (HHo'.out _ (bS hB2 hS.1)).mono ?_
 rintro e w3 ⟨he, hb3⟩
 have hb3' : Below w2.heap.size w2 w3 := bS hS.1 hb3
 rcases he with ⟨hrd, v3, F3, rfl, o3⟩ | ⟨hrd, q, rfl⟩
 rotate_left
 ·
  first | exact ⟨rfl, rfl, ⟨q, rfl⟩, hrd, hb3'⟩ | exact ⟨rfl, rfl, q, rfl, hrd, hb3'⟩
 have HC : Hid (Z = ⟨0, 1, votV (heldD d c) c.id 1⟩) := HY.out hrd
 have hS3 := And.intro hb3' (And.intro (cK hb3 hS.2.1) (And.intro (cK hb3 hS.2.2.1) (And.intro (cK hb3 hS.2.2.2.1) (And.intro (cK hb3 hS.2.2.2.2.1) (And.intro (cK hb3 hS.2.2.2.2.2.1) (And.intro (cK hb3 hS.2.2.2.2.2.2.1) (And.intro (cK hb3 hS.2.2.2.2.2.2.2.1) (cK hb3 hS.2.2.2.2.2.2.2.2))))))))
 refine hK _ _ (fun _ => hS3) ?_
 clear hK K hb3 hS
 have HO3 : Hid (shdR.O w3 w2.heap.size F3 v3 (heldD d c)) := shdR.base o3 (by simp)
 clear o3
 obtain ⟨e1, e2, e3, e4, e5, f1, f2, f3, f4, f5, rfl⟩ := shd_formO HO3.out
 try simp only [Act.put, jA, jB, jC, jD, jE, jF]
 refine upto_step (i := 5) (by kernel_rfl) rfl ?_
 intro K hK
 go_simp
 refine (HVo.out _ _ _ _ HO3.out hb3'.size HOK.out).mono ?_
 rintro e w4 ⟨v4, F4, rfl, o4, hb4, hF4⟩
 have hb4' : Below w2.heap.size w2 w4 := Below.trans hb3' hb4
 obtain ⟨p1, p2, p3, p4, p5, m1, m2, m3, m4, m5, q1, q2, q3, q4, q5, rfl⟩ := shdRR_form o4
 refine hK _ _ (fun _ => ⟨hb4', cK hb4' y0, cK hb4' y1, cK hb4' y2, cK hb4' y3, cK hb4' y4, cK hb4' y5, cK hb4' x0, cK hb4' x1⟩) ?_
 clear hK K hS3
 have HO4 : Hid (shdRR.O w4 w2.heap.size F4 (.agg #[.int .i64 0, .int .i64 1, .int .i64 d.idx, .slice p1 m1 q1, .slice p2 m2 q2, .slice p3 m3 q3, .slice p4 m4 q4, .slice p5 m5 q5]) ⟨0, 1, votV (heldD d c) c.id 1⟩) := o4
 have hB4 : Below w.heap.size w w4 := bS hB2 hb4'
 replace r0 := cK hb4' r0
 replace r1 := cK hb4' r1
 replace r2 := cK hb4' r2
 replace r3 := cK hb4' r3
 replace r4 := cK hb4' r4
 replace r5 := cK hb4' r5
 replace r6 := cK hb4' r6
 replace r7 := cK hb4' r7
 replace rf : ∀ o, w4.frozen? ⟨w.heap.size + 2, o, none⟩ = false := fun o => by rw [hb4'.frozen (p := ⟨w.heap.size + 2, o, none⟩) hz2]; exact rf o
 clear o4 hF4 HO3 HNo HY hb3'
 have hei : (votV (heldD d c) c.id 1).idx = d.idx := rfl
 try simp only [Act.put, jA, jB, jC, jD, jE, jF]
 refine upto_step (i := 6) (by kernel_rfl) rfl ?_
 intro K hK
 go_simp
 refine hK _ _ (fun h => absurd rfl h) ?_
 clear hK K
 refine upto_done (by kernel_rfl) ?_
 refine PanicAs.normal ?_
 go_wp2
 refine doorVR w _ _ _ _ (w.heap.size + 2) Z (.int .i64 0) (.int .i64 1) (.int .i64 d.idx) (.slice p1 m1 q1) (.slice p2 m2 q2) (.slice p3 m3 q3) (.slice p4 m4 q4) (.slice p5 m5 q5) F4 ?_ rfl ⟨by simp [go_sem, r0, r1, r2, r3, r4, r5, r6, r7, rf], by simp [go_sem, r0, r1, r2, r3, r4, r5, r6, r7, rf], by simp [go_sem, r0, r1, r2, r3, r4, r5, r6, r7, rf], by simp [go_sem, r0, r1, r2, r3, r4, r5, r6, r7, rf], by simp [go_sem, r0, r1, r2, r3, r4, r5, r6, r7, rf], by simp [go_sem, r0, r1, r2, r3, r4, r5, r6, r7, rf], by simp [go_sem, r0, r1, r2, r3, r4, r5, r6, r7, rf], by simp [go_sem, r0, r1, r2, r3, r4, r5, r6, r7, rf]⟩ ?_
 ·
  rw [HC.out]
  exact shdRR.base (setR8 shdRR HO4.out (fun h => by have := (shdRR.rng HO4.out _ h).1; omega) _ _ _ _ _ _ _ _) hB2.size
 ·
  (repeat (first | refine bset ?_ (by simp; omega) _ | refine bset ?_ (by simp) _ | refine bA ?_ _ | assumption))
end Go.Proofs.YtndghenlapbaaaaGreat

/-
 A mark put in its place, the document's.
-/
namespace Go.Proofs.YtndghenlapbaaaaGreat
open Go.RowKit
variable [DecidableEq Mrk] [Inhabited Mrk] [DecidableEq Leg] [Inhabited Leg] [DecidableEq Cont] [Inhabited Cont] [DecidableEq Bal] [Inhabited Bal] [DecidableEq Ledg] [Inhabited Ledg]
attribute [local go_sem ↓] Go.wp_at_zero Go.wp_at_succ

theorem addr_add10 (g o j : Nat) : (Addr.mk g o none).add j = ⟨g, o + j, none⟩ := by
 by_cases h : j = 0
 ·
  subst h; simp [Addr.add]
 ·
  simp [Addr.add, h]
theorem mrks_row {w : World} {base : Nat} {F : Nat → Prop} {x : Value} {xs : List Mrk} (h : mrksR.O w base F x xs) : (x = .slice none 0 0 ∧ xs = []) ∨ ∃ g cap, x = .slice (some ⟨g, 0, none⟩) xs.length cap ∧ xs.length ≤ cap ∧ cap ≤ maxLen ∧ ∀ k, k < xs.length → mrkCells w g (0 + k * 2) (xs.getD k default) := by
 have hv := mrksR.ofO h
 rcases h.1.2 with ⟨rfl, h0⟩ | ⟨g, cap, cur, rfl, hbg, hg, hnc, hcm, _⟩
 ·
  exact .inl ⟨rfl, List.eq_nil_of_length_eq_zero h0⟩
 ·
  refine .inr ⟨g, cap, rfl, hnc, hcm, fun k hk => ?_⟩
  obtain ⟨a, c, e, _, _, hx⟩ := hv
  obtain ⟨b, o, ea, hc⟩ := hx k hk
  simp only [Value.slice.injEq, true_and] at e
  obtain ⟨e1, _⟩ := e
  rw [← e1] at ea
  simp only [Option.some.injEq, Addr.mk.injEq, and_true] at ea
  obtain ⟨rfl, rfl⟩ := ea
  exact hc
theorem mrks_piece {w : World} {base g cap : Nat} {xs : List Mrk} (h : w.ownsRow base 89 2 (.slice (some ⟨g, 0, none⟩) xs.length cap) xs.length (mrksC xs)) (i m c : Nat) (hi : i + m ≤ xs.length) :
  AppAny w (.slice (some ⟨g, i * 2, none⟩) m c) m (mrksC ((xs.drop i).take m)) := by
 refine .inr ⟨_, _, rfl, fun j x hj => ?_⟩
 rw [mrksC_take, mrksC_drop] at hj
 have hcl : (mrksC xs).length = xs.length * 2 := h.1
 rw [List.getElem?_take] at hj
 split at hj
 ·
  rw [List.getElem?_drop] at hj
  have := h.cellAt (i * 2 + j) (by omega)
  rw [hj] at this
  rw [addr_add10]
  exact this
 ·
  cases hj
theorem any_none10 (W : World) (p : Option Addr) (c : Nat) : AppAny W (.slice p 0 c) 0 [] := by
 cases p with
 | none => exact .inl ⟨c, rfl, rfl, rfl⟩
 | some a => exact .inr ⟨a, c, rfl, fun j x hj => by simp at hj⟩
theorem lit12M1 (Y : World) (base : Nat) (m : Mrk) (hb : base ≤ Y.heap.size) : mrksR.O (Y.alloc (.cells #[.int .i64 m.con, .int .i64 m.val] 89)) base (fun b => b = Y.heap.size) (.slice (some ⟨Y.heap.size, 0, none⟩) 1 1) [m] :=
 ⟨World.ownsRow_lit (base := base) (e := 89) (size := 2) Y #[.int .i64 m.con, .int .i64 m.val] 1 hb (by decide) rfl, by funext b; simp [Value.ownBlock, eq_comm]⟩
def mk10C : Nat → List Nat
 | 4 => [0]
 | 9 => [4]
 | 13 => [9]
 | _ => []
def mk10G (base : Nat) (xs : List Mrk) (m : Mrk) (k : Nat) : Nat → (Nat → Value) → (Nat → Prop) → World → Prop
 | 0, y, F, w => mrksR.O w base F (y 23) []
 | 4, y, F, w => mrksR.O w base F (y 27) (xs.take k)
 | 8, y, F, w => mrksR.O w base F (y 31) [m]
 | 9, y, F, w => mrksR.O w base F (y 32) (xs.take k ++ [m])
 | 13, y, F, w => mrksR.O w base F (y 36) (xs.take k ++ [m] ++ xs.drop k)
 | _, _, _, _ => True
set_option maxRecDepth 20000 in
set_option maxHeartbeats 8000000 in
theorem l10Mark_u (x : Value) (xs : List Mrk) (m : Mrk) (base : Nat) (F : Nat → Prop) (w : World) (hx : mrksR.O w base F x xs) (hn : xs.length ≤ 1048576) :
  Calls Tryz.prog 68 #[x, .int .i64 m.con, .int .i64 m.val] w fun e w' => ∃ v F', e = .returned v ∧ mrksR.O w' w.heap.size F' v (putM xs m) ∧ Below w.heap.size w w' := by
 have hown := hx.1
 rcases mrks_row hx with ⟨rfl, h0⟩ | ⟨g, cap, rfl, hnc, hcm, hcl⟩
 ·
  have HNil : Hid (xs = []) := h0
  have HN : Hid (xs.length = 0) := by show _ = _; rw [h0]; rfl
  have HP : Hid (putM xs m = xs.take 0 ++ [m] ++ xs.drop 0) := by show _ = _; rw [h0]; rfl
  clear hown hx h0 hn
  go_enter Tryz.func68, Tryz.ntmps68
  go_wp2
  go_loopw [7] (fun i w' => i = .int .i64 0 ∧ Below w.heap.size w w') (fun i _ => 0)
  case atStart => exact ⟨rfl, Below.refl _ _⟩
  case round =>
   obtain ⟨rfl, hbl⟩ := hrel
   have HS1 : Hid (∀ W, Below wr.heap.size wr W → AppAny W (.slice none 0 0) (xs.take 0).length (mrksC (xs.take 0))) := fun W hW => by
    rw [show xs.take 0 = [] by simp]; exact any_none10 _ _ _
   have HS2 : Hid (∀ W, Below wr.heap.size wr W → AppAny W (.slice none 0 0) (xs.drop 0).length (mrksC (xs.drop 0))) := fun W hW => by
    rw [show xs.drop 0 = [] by rw [HNil.out]; rfl]; exact any_none10 _ _ _
   have HT1 : Hid ((xs.take 0).length ≤ 1048576 ∧ (xs.drop 0).length ≤ 1048576) := ⟨by rw [List.length_take, HN.out]; omega, by rw [List.length_drop, HN.out]; omega⟩
   go_wp2
   refine wp_region_noPanic ?_
   refine region_upto (fun W => Below wr.heap.size wr W) 14 (by kernel_rfl) (qBq) (fun hS => ?_)
   refine tK (i := 1) (v := ?_) rfl (by kernel_rfl) hS ?_ ?_
   rotate_left
   ·
    intro wS hSw; (try dsimp only at hSw); go_simp; try with_reducible rfl
   try simp only [Act.put, jA, jB, jC, jD, jE, jF]
   refine tK (i := 2) (v := ?_) rfl (by kernel_rfl) hS ?_ ?_
   rotate_left
   ·
    intro wS hSw; (try dsimp only at hSw); go_simp; try with_reducible rfl
   try simp only [Act.put, jA, jB, jC, jD, jE, jF]
   refine tK (i := 3) (v := ?_) rfl (by kernel_rfl) hS ?_ ?_
   rotate_left
   ·
    intro wS hSw; (try dsimp only at hSw); go_simp; try with_reducible rfl
   try simp only [Act.put, jA, jB, jC, jD, jE, jF]
   refine tK (i := 5) (v := ?_) rfl (by kernel_rfl) hS ?_ ?_
   rotate_left
   ·
    intro wS hSw; (try dsimp only at hSw); go_simp; try with_reducible rfl
   try simp only [Act.put, jA, jB, jC, jD, jE, jF]
   refine tK (i := 6) (v := ?_) rfl (by kernel_rfl) hS ?_ ?_
   rotate_left
   ·
    intro wS hSw; (try dsimp only at hSw); go_simp; try with_reducible rfl
   try simp only [Act.put, jA, jB, jC, jD, jE, jF]
   refine tK (i := 7) (v := ?_) rfl (by kernel_rfl) hS ?_ ?_
   rotate_left
   ·
    intro wS hSw; (try dsimp only at hSw); go_simp; try with_reducible rfl
   try simp only [Act.put, jA, jB, jC, jD, jE, jF]
   refine tK (i := 10) (v := ?_) rfl (by kernel_rfl) hS ?_ ?_
   rotate_left
   ·
    intro wS hSw; (try dsimp only at hSw); go_simp; try with_reducible rfl
   try simp only [Act.put, jA, jB, jC, jD, jE, jF]
   refine tK (i := 11) (v := ?_) rfl (by kernel_rfl) hS ?_ ?_
   rotate_left
   ·
    intro wS hSw; (try dsimp only at hSw); go_simp; try with_reducible rfl
   try simp only [Act.put, jA, jB, jC, jD, jE, jF]
   refine tK (i := 12) (v := ?_) rfl (by kernel_rfl) hS ?_ ?_
   rotate_left
   ·
    intro wS hSw; (try dsimp only at hSw); go_simp; try with_reducible rfl
   try simp only [Act.put, jA, jB, jC, jD, jE, jF]
   have hb0 : Below wr.heap.size wr wr.drew := Below.drew (Below.refl _ _)
   generalize wr.drew = W0 at *
   refine upto_cons' [(0, 23), (4, 27), (8, 31), (9, 32), (13, 36)] mk10C (mk10G W0.heap.size xs m 0) (by kernel_rfl) hS ?_ ?_ ?_ ?_
   ·
    intro F' W W' h hm hF
    exact hm.below h h.size (fun b hb => by have := hF b hb; have := hb0.size; omega)
   ·
    intro p hp
    simp only [List.mem_cons, List.not_mem_nil, or_false] at hp
    rcases hp with rfl | rfl | rfl | rfl | rfl
    all_goals
     intro y y' F1 F' W W' h hF hm hap hF' e he
     simp only [mk10G] at h ⊢
     rw [e]
     exact mrksR.mod h hm (fun b hb hf => hap b hf hb)
   ·
    intro p hp
    simp only [List.mem_cons, List.not_mem_nil, or_false] at hp
    rcases hp with rfl | rfl | rfl | rfl | rfl
    all_goals
     refine ⟨_, rfl, rfl, ?_⟩
     intro y W Φ hSW hBW hd K hK
    ·
     clear hd
     refine ⟨?_⟩
     simp only [over, Act.put, jA, jB, jC, List.map_cons, List.map_nil, List.foldl_cons, List.foldl_nil, jD, jE, jF] at hK ⊢
     go_simp
     refine hK _ _ (fun b => b = W.heap.size) (Mod.of_below (qBq)) (fun b hb => .inr (by rw [hb]; simp)) ?_
     simp only [mk10G, updV]
     exact lit12M W _ hBW.size
    ·
     have g0 := (hd (0, 23) (by simp) (by kernel_rfl) (.inl (by simp [mk10C]))).2
     clear hd
     simp only [mk10G] at g0
     refine ⟨?_⟩
     simp only [over, Act.put, jA, jB, jC, List.map_cons, List.map_nil, List.foldl_cons, List.foldl_nil, jD, jE, jF] at hK ⊢
     refine ite_wantedG rfl ?_
     refine wp_app12M W ?hg1 (.tmp 23) (.tmp 26) ?ho1 W0.heap.size (y 23) (Φ 0) ([]) ?hs1 (.slice none 0 0) (xs.take 0) ?hx1 g0 (HS1.out W hSW) (by have := HT1.out; simp only [List.length_append, List.length_cons, List.length_nil]; omega) hBW.size ?_
     case hg1 => rfl
     case ho1 => rfl
     case hs1 => rfl
     case hx1 => rfl
     intro v' w' F' hO hm hl
     rw [List.nil_append] at hO
     refine hK _ _ F' (hm.mono (fun b hb => ⟨0, by simp [mk10C], hb⟩)) (fun b hb => (hl b hb).imp (fun h => ⟨0, by simp [mk10C], h⟩) (fun h => h)) ?_
     simp only [mk10G, updV]
     simpa using hO
    ·
     clear hd
     refine ⟨?_⟩
     simp only [over, Act.put, jA, jB, jC, List.map_cons, List.map_nil, List.foldl_cons, List.foldl_nil, jD, jE, jF] at hK ⊢
     go_simp
     refine hK _ _ (fun b => b = W.heap.size) (Mod.of_below (qBq)) (fun b hb => .inr (by rw [hb]; simp)) ?_
     simp only [mk10G, updV]
     exact lit12M1 W _ m hBW.size
    ·
     have g0 := (hd (4, 27) (by simp) (by kernel_rfl) (.inl (by simp [mk10C]))).2
     have g1 := (hd (8, 31) (by simp) (by kernel_rfl) (.inr (by decide))).2
     clear hd
     simp only [mk10G] at g0 g1
     have hsrc := appAny_mrks10 (mrksR.ofO g1)
     refine ⟨?_⟩
     simp only [over, Act.put, jA, jB, jC, List.map_cons, List.map_nil, List.foldl_cons, List.foldl_nil, jD, jE, jF] at hK ⊢
     refine ite_wantedG rfl ?_
     refine wp_app12M W ?hg1 (.tmp 27) (.tmp 31) ?ho1 W0.heap.size (y 27) (Φ 4) (xs.take 0) ?hs1 (y 31) [m] ?hx1 g0 hsrc (by have := HT1.out.1; simp only [List.length_cons, List.length_nil]; omega) hBW.size ?_
     case hg1 => rfl
     case ho1 => rfl
     case hs1 => rfl
     case hx1 => rfl
     intro v' w' F' hO hm hl
     refine hK _ _ F' (hm.mono (fun b hb => ⟨4, by simp [mk10C], hb⟩)) (fun b hb => (hl b hb).imp (fun h => ⟨4, by simp [mk10C], h⟩) (fun h => h)) ?_
     simp only [mk10G, updV]
     simpa using hO
    ·
     have g0 := (hd (9, 32) (by simp) (by kernel_rfl) (.inl (by simp [mk10C]))).2
     clear hd
     simp only [mk10G] at g0
     refine ⟨?_⟩
     simp only [over, Act.put, jA, jB, jC, List.map_cons, List.map_nil, List.foldl_cons, List.foldl_nil, jD, jE, jF] at hK ⊢
     refine ite_wantedG rfl ?_
     refine wp_app12M W ?hg1 (.tmp 32) (.tmp 35) ?ho1 W0.heap.size (y 32) (Φ 9) (xs.take 0 ++ [m]) ?hs1 (.slice none 0 0) (xs.drop 0) ?hx1 g0 (HS2.out W hSW) (by have := HT1.out; simp only [List.length_append, List.length_cons, List.length_nil]; omega) hBW.size ?_
     case hg1 => rfl
     case ho1 => rfl
     case hs1 => rfl
     case hx1 => rfl
     intro v' w' F' hO hm hl
     skip
     refine hK _ _ F' (hm.mono (fun b hb => ⟨9, by simp [mk10C], hb⟩)) (fun b hb => (hl b hb).imp (fun h => ⟨9, by simp [mk10C], h⟩) (fun h => h)) ?_
     simp only [mk10G, updV]
     simpa using hO
   ·
    refine ⟨_, rfl, ?_⟩
    intro y W Φ hSW hBW hd hap K hK
    have g13 := (hd (13, 36) (by simp) (by decide)).2
    clear hd hap
    simp only [mk10G] at g13
    have hz := hBW.size
    have hz0 := hb0.size
    have HOf : Hid (mrksR.O W W0.heap.size (Φ 13) (y 36) (xs.take 0 ++ [m] ++ xs.drop 0)) := g13
    have hz1 := hbl.size
    have hBE : Below w.heap.size w W := bS hbl (bS hb0 hBW)
    refine ⟨?_⟩
    simp only [over, Act.put, jA, jB, jC, List.map_cons, List.map_nil, List.foldl_cons, List.foldl_nil, jD, jE, jF]
    clear g13 hS hSW
    go_simp
    refine hK _ _ ?_
    clear hK K
    refine NoPanic.normal ?_
    go_wp2
    refine bodyPost_ret (v := y 36) (by simp [results, Tryz.results68, go_sem]) rfl ⟨_, Φ 13, rfl, ?_, hBE⟩
    rw [HP.out]
    exact mrksR.base HOf.out (by omega)
 ·
  obtain ⟨n, hn'⟩ : ∃ n, n = xs.length := ⟨_, rfl⟩
  have HN : Hid (xs.length = n) := hn'.symm
  have HO : Hid (w.ownsRow base 89 2 (.slice (some ⟨g, 0, none⟩) xs.length cap) xs.length (mrksC xs)) := hown
  have HC : Hid (∀ k, k < n → mrkCells w g (0 + k * 2) (xs.getD k default)) := fun k hk => hcl k (by omega)
  have HPo : Hid (∀ k, k ≤ n → (∀ j, j < k → (xs.getD j default).con < m.con) → (k < n → ¬ (xs.getD k default).con < m.con) → putM xs m = xs.take k ++ [m] ++ xs.drop k) := fun k hk h1 h2 => by
   unfold putM
   rw [posM_eq (by omega) h1 (fun h => h2 (by omega))]
  unfold maxLen at hcm
  rw [← hn'] at hnc hn ⊢
  clear hn' hown hx hcl
  go_enter Tryz.func68, Tryz.ntmps68
  go_wp2
  go_loopw [7] (fun i w' => ∃ k : Nat, k ≤ n ∧ i = .int .i64 k ∧ Hid (∀ j, j < k → (xs.getD j default).con < m.con) ∧ Below w.heap.size w w') (fun i _ => n - (intOf i).toNat)
  case atStart => exact ⟨0, Nat.zero_le _, rfl, fun j hj => absurd hj (Nat.not_lt_zero _), Below.refl _ _⟩
  case round =>
   obtain ⟨k, hk, rfl, HJ, hbl⟩ := hrel
   by_cases hgo : k < n ∧ (xs.getD k default).con < m.con
   ·
    obtain ⟨hlt, hco⟩ := hgo
    obtain ⟨z0, z1⟩ := HC.out k hlt
    replace z0 := cK hbl z0
    rw [Nat.zero_add] at z0
    have HJ2 : Hid (∀ j, j < k + 1 → (xs.getD j default).con < m.con) := fun j hj => by
     by_cases e : j = k
     ·
      rw [e]; exact hco
     ·
      exact HJ.out j (by omega)
    have k1 : (k : Int) < n := by omega
    have k2 : (0 : Int) ≤ k := by omega
    generalize (xs.getD k default).con = kc at *
    clear z1 HJ
    go_wp2
    exact ⟨⟨k + 1, by omega, by go_num, HJ2, qBq⟩, by simp [intOf]; omega⟩
   ·
    have HP : Hid (putM xs m = xs.take k ++ [m] ++ xs.drop k) := HPo.out k hk HJ.out (fun h1 => by
     by_cases h2 : (xs.getD k default).con < m.con
     ·
      exact absurd ⟨h1, h2⟩ hgo
     ·
      first | exact h2 | omega)
    have HOw : Hid (wr.ownsRow base 89 2 (.slice (some ⟨g, 0, none⟩) xs.length cap) xs.length (mrksC xs)) := owns_below HO.out hbl
    clear HPo HJ
    by_cases hlt : k < n
    ·
     have hco : ¬ (xs.getD k default).con < m.con := fun h => hgo ⟨hlt, h⟩
     obtain ⟨z0, z1⟩ := HC.out k hlt
     replace z0 := cK hbl z0
     rw [Nat.zero_add] at z0
     have k1 : (k : Int) < n := by omega
     have k2 : (0 : Int) ≤ k := by omega
     generalize (xs.getD k default).con = kc at *
     clear z1 hgo
     have c2 : ¬ cap = k := by omega
     have c3 : (k : Int) ≤ cap := by omega
     have c1 : k ≤ cap := by omega
     have c4 : (k : Int) ≤ n := by omega
     have c5 : k ≤ n := by omega
     have HS1 : Hid (∀ W, Below wr.heap.size wr W → AppAny W (.slice (some ⟨g, 0, none⟩) k cap) (xs.take k).length (mrksC (xs.take k))) := fun W hW => by
      have h := mrks_piece (owns_below HOw.out hW) 0 k cap (by rw [HN.out]; omega)
      rw [List.drop_zero] at h
      rw [show (xs.take k).length = k by rw [List.length_take, HN.out]; omega]
      simpa using h
     have HS2 : Hid (∀ W, Below wr.heap.size wr W → AppAny W (.slice (some ⟨g, k * 2, none⟩) (n - k) (cap - k)) (xs.drop k).length (mrksC (xs.drop k))) := fun W hW => by
      have h := mrks_piece (owns_below HOw.out hW) k (n - k) (cap - k) (by rw [HN.out]; omega)
      rw [List.take_of_length_le (by rw [List.length_drop, HN.out]; omega)] at h
      rw [show (xs.drop k).length = n - k by rw [List.length_drop, HN.out] <;> omega]
      exact h
     have HT1 : Hid ((xs.take k).length ≤ 1048576 ∧ (xs.drop k).length ≤ 1048576) := ⟨by rw [List.length_take, HN.out]; omega, by rw [List.length_drop, HN.out]; omega⟩
     go_wp2
     refine wp_region_noPanic ?_
     refine region_upto (fun W => Below wr.heap.size wr W) 14 (by kernel_rfl) (qBq) (fun hS => ?_)
     refine tK (i := 1) (v := ?_) rfl (by kernel_rfl) hS ?_ ?_
     rotate_left
     ·
      intro wS hSw; (try dsimp only at hSw); go_simp; try with_reducible rfl
     try simp only [Act.put, jA, jB, jC, jD, jE, jF]
     refine tK (i := 2) (v := ?_) rfl (by kernel_rfl) hS ?_ ?_
     rotate_left
     ·
      intro wS hSw; (try dsimp only at hSw); go_simp; try with_reducible rfl
     try simp only [Act.put, jA, jB, jC, jD, jE, jF]
     refine tK (i := 3) (v := ?_) rfl (by kernel_rfl) hS ?_ ?_
     rotate_left
     ·
      intro wS hSw; (try dsimp only at hSw); go_simp; try with_reducible rfl
     try simp only [Act.put, jA, jB, jC, jD, jE, jF]
     refine tK (i := 5) (v := ?_) rfl (by kernel_rfl) hS ?_ ?_
     rotate_left
     ·
      intro wS hSw; (try dsimp only at hSw); go_simp; try with_reducible rfl
     try simp only [Act.put, jA, jB, jC, jD, jE, jF]
     refine tK (i := 6) (v := ?_) rfl (by kernel_rfl) hS ?_ ?_
     rotate_left
     ·
      intro wS hSw; (try dsimp only at hSw); go_simp; try with_reducible rfl
     try simp only [Act.put, jA, jB, jC, jD, jE, jF]
     refine tK (i := 7) (v := ?_) rfl (by kernel_rfl) hS ?_ ?_
     rotate_left
     ·
      intro wS hSw; (try dsimp only at hSw); go_simp; try with_reducible rfl
     try simp only [Act.put, jA, jB, jC, jD, jE, jF]
     refine tK (i := 10) (v := ?_) rfl (by kernel_rfl) hS ?_ ?_
     rotate_left
     ·
      intro wS hSw; (try dsimp only at hSw); go_simp; try with_reducible rfl
     try simp only [Act.put, jA, jB, jC, jD, jE, jF]
     refine tK (i := 11) (v := ?_) rfl (by kernel_rfl) hS ?_ ?_
     rotate_left
     ·
      intro wS hSw; (try dsimp only at hSw); go_simp; try with_reducible rfl
     try simp only [Act.put, jA, jB, jC, jD, jE, jF]
     refine tK (i := 12) (v := ?_) rfl (by kernel_rfl) hS ?_ ?_
     rotate_left
     ·
      intro wS hSw; (try dsimp only at hSw); go_simp; try with_reducible rfl
     try simp only [Act.put, jA, jB, jC, jD, jE, jF]
     have hb0 : Below wr.heap.size wr wr.drew := Below.drew (Below.refl _ _)
     generalize wr.drew = W0 at *
     refine upto_cons' [(0, 23), (4, 27), (8, 31), (9, 32), (13, 36)] mk10C (mk10G W0.heap.size xs m k) (by kernel_rfl) hS ?_ ?_ ?_ ?_
     ·
      intro F' W W' h hm hF
      exact hm.below h h.size (fun b hb => by have := hF b hb; have := hb0.size; omega)
     ·
      intro p hp
      simp only [List.mem_cons, List.not_mem_nil, or_false] at hp
      rcases hp with rfl | rfl | rfl | rfl | rfl
      all_goals
       intro y y' F1 F' W W' h hF hm hap hF' e he
       simp only [mk10G] at h ⊢
       rw [e]
       exact mrksR.mod h hm (fun b hb hf => hap b hf hb)
     ·
      intro p hp
      simp only [List.mem_cons, List.not_mem_nil, or_false] at hp
      rcases hp with rfl | rfl | rfl | rfl | rfl
      all_goals
       refine ⟨_, rfl, rfl, ?_⟩
       intro y W Φ hSW hBW hd K hK
      ·
       clear hd
       refine ⟨?_⟩
       simp only [over, Act.put, jA, jB, jC, List.map_cons, List.map_nil, List.foldl_cons, List.foldl_nil, jD, jE, jF] at hK ⊢
       go_simp
       refine hK _ _ (fun b => b = W.heap.size) (Mod.of_below (qBq)) (fun b hb => .inr (by rw [hb]; simp)) ?_
       simp only [mk10G, updV]
       exact lit12M W _ hBW.size
      ·
       have g0 := (hd (0, 23) (by simp) (by kernel_rfl) (.inl (by simp [mk10C]))).2
       clear hd
       simp only [mk10G] at g0
       refine ⟨?_⟩
       simp only [over, Act.put, jA, jB, jC, List.map_cons, List.map_nil, List.foldl_cons, List.foldl_nil, jD, jE, jF] at hK ⊢
       refine ite_wantedG rfl ?_
       refine wp_app12M W ?hg1 (.tmp 23) (.tmp 26) ?ho1 W0.heap.size (y 23) (Φ 0) ([]) ?hs1 (.slice (some ⟨g, 0, none⟩) k cap) (xs.take k) ?hx1 g0 (HS1.out W hSW) (by have := HT1.out; simp only [List.length_append, List.length_cons, List.length_nil]; omega) hBW.size ?_
       case hg1 => rfl
       case ho1 => rfl
       case hs1 => rfl
       case hx1 => rfl
       intro v' w' F' hO hm hl
       rw [List.nil_append] at hO
       refine hK _ _ F' (hm.mono (fun b hb => ⟨0, by simp [mk10C], hb⟩)) (fun b hb => (hl b hb).imp (fun h => ⟨0, by simp [mk10C], h⟩) (fun h => h)) ?_
       simp only [mk10G, updV]
       simpa using hO
      ·
       clear hd
       refine ⟨?_⟩
       simp only [over, Act.put, jA, jB, jC, List.map_cons, List.map_nil, List.foldl_cons, List.foldl_nil, jD, jE, jF] at hK ⊢
       go_simp
       refine hK _ _ (fun b => b = W.heap.size) (Mod.of_below (qBq)) (fun b hb => .inr (by rw [hb]; simp)) ?_
       simp only [mk10G, updV]
       exact lit12M1 W _ m hBW.size
      ·
       have g0 := (hd (4, 27) (by simp) (by kernel_rfl) (.inl (by simp [mk10C]))).2
       have g1 := (hd (8, 31) (by simp) (by kernel_rfl) (.inr (by decide))).2
       clear hd
       simp only [mk10G] at g0 g1
       have hsrc := appAny_mrks10 (mrksR.ofO g1)
       refine ⟨?_⟩
       simp only [over, Act.put, jA, jB, jC, List.map_cons, List.map_nil, List.foldl_cons, List.foldl_nil, jD, jE, jF] at hK ⊢
       refine ite_wantedG rfl ?_
       refine wp_app12M W ?hg1 (.tmp 27) (.tmp 31) ?ho1 W0.heap.size (y 27) (Φ 4) (xs.take k) ?hs1 (y 31) [m] ?hx1 g0 hsrc (by have := HT1.out.1; simp only [List.length_cons, List.length_nil]; omega) hBW.size ?_
       case hg1 => rfl
       case ho1 => rfl
       case hs1 => rfl
       case hx1 => rfl
       intro v' w' F' hO hm hl
       refine hK _ _ F' (hm.mono (fun b hb => ⟨4, by simp [mk10C], hb⟩)) (fun b hb => (hl b hb).imp (fun h => ⟨4, by simp [mk10C], h⟩) (fun h => h)) ?_
       simp only [mk10G, updV]
       simpa using hO
      ·
       have g0 := (hd (9, 32) (by simp) (by kernel_rfl) (.inl (by simp [mk10C]))).2
       clear hd
       simp only [mk10G] at g0
       refine ⟨?_⟩
       simp only [over, Act.put, jA, jB, jC, List.map_cons, List.map_nil, List.foldl_cons, List.foldl_nil, jD, jE, jF] at hK ⊢
       refine ite_wantedG rfl ?_
       refine wp_app12M W ?hg1 (.tmp 32) (.tmp 35) ?ho1 W0.heap.size (y 32) (Φ 9) (xs.take k ++ [m]) ?hs1 (.slice (some ⟨g, k * 2, none⟩) (n - k) (cap - k)) (xs.drop k) ?hx1 g0 (HS2.out W hSW) (by have := HT1.out; simp only [List.length_append, List.length_cons, List.length_nil]; omega) hBW.size ?_
       case hg1 => rfl
       case ho1 => rfl
       case hs1 => rfl
       case hx1 => rfl
       intro v' w' F' hO hm hl
       skip
       refine hK _ _ F' (hm.mono (fun b hb => ⟨9, by simp [mk10C], hb⟩)) (fun b hb => (hl b hb).imp (fun h => ⟨9, by simp [mk10C], h⟩) (fun h => h)) ?_
       simp only [mk10G, updV]
       simpa using hO
     ·
      refine ⟨_, rfl, ?_⟩
      intro y W Φ hSW hBW hd hap K hK
      have g13 := (hd (13, 36) (by simp) (by decide)).2
      clear hd hap
      simp only [mk10G] at g13
      have hz := hBW.size
      have hz0 := hb0.size
      have HOf : Hid (mrksR.O W W0.heap.size (Φ 13) (y 36) (xs.take k ++ [m] ++ xs.drop k)) := g13
      have hz1 := hbl.size
      have hBE : Below w.heap.size w W := bS hbl (bS hb0 hBW)
      refine ⟨?_⟩
      simp only [over, Act.put, jA, jB, jC, List.map_cons, List.map_nil, List.foldl_cons, List.foldl_nil, jD, jE, jF]
      clear g13 hS hSW
      go_simp
      refine hK _ _ ?_
      clear hK K
      refine NoPanic.normal ?_
      go_wp2
      refine bodyPost_ret (v := y 36) (by simp [results, Tryz.results68, go_sem]) rfl ⟨_, Φ 13, rfl, ?_, hBE⟩
      rw [HP.out]
      exact mrksR.base HOf.out (by omega)
    ·
     have hkn : k = n := by omega
     subst hkn
     clear hgo hlt
     by_cases hck : cap = k
     ·
      subst hck
      have c3 : (cap : Int) ≤ cap := by omega
      have HS1 : Hid (∀ W, Below wr.heap.size wr W → AppAny W (.slice (some ⟨g, 0, none⟩) cap cap) (xs.take cap).length (mrksC (xs.take cap))) := fun W hW => by
       have h := mrks_piece (owns_below HOw.out hW) 0 cap cap (by rw [HN.out]; omega)
       rw [List.drop_zero] at h
       rw [show (xs.take cap).length = cap by rw [List.length_take, HN.out]; omega]
       simpa using h
      have HS2 : Hid (∀ W, Below wr.heap.size wr W → AppAny W (.slice (some ⟨g, 0, none⟩) 0 0) (xs.drop cap).length (mrksC (xs.drop cap))) := fun W hW => by
       rw [show xs.drop cap = [] from List.drop_eq_nil_of_le (by rw [HN.out]; exact Nat.le_refl _)]; exact any_none10 _ _ _
      have HT1 : Hid ((xs.take cap).length ≤ 1048576 ∧ (xs.drop cap).length ≤ 1048576) := ⟨by rw [List.length_take, HN.out]; omega, by rw [List.length_drop, HN.out]; omega⟩
      go_wp2
      refine wp_region_noPanic ?_
      refine region_upto (fun W => Below wr.heap.size wr W) 14 (by kernel_rfl) (qBq) (fun hS => ?_)
      refine tK (i := 1) (v := ?_) rfl (by kernel_rfl) hS ?_ ?_
      rotate_left
      ·
       intro wS hSw; (try dsimp only at hSw); go_simp; try with_reducible rfl
      try simp only [Act.put, jA, jB, jC, jD, jE, jF]
      refine tK (i := 2) (v := ?_) rfl (by kernel_rfl) hS ?_ ?_
      rotate_left
      ·
       intro wS hSw; (try dsimp only at hSw); go_simp; try with_reducible rfl
      try simp only [Act.put, jA, jB, jC, jD, jE, jF]
      refine tK (i := 3) (v := ?_) rfl (by kernel_rfl) hS ?_ ?_
      rotate_left
      ·
       intro wS hSw; (try dsimp only at hSw); go_simp; try with_reducible rfl
      try simp only [Act.put, jA, jB, jC, jD, jE, jF]
      refine tK (i := 5) (v := ?_) rfl (by kernel_rfl) hS ?_ ?_
      rotate_left
      ·
       intro wS hSw; (try dsimp only at hSw); go_simp; try with_reducible rfl
      try simp only [Act.put, jA, jB, jC, jD, jE, jF]
      refine tK (i := 6) (v := ?_) rfl (by kernel_rfl) hS ?_ ?_
      rotate_left
      ·
       intro wS hSw; (try dsimp only at hSw); go_simp; try with_reducible rfl
      try simp only [Act.put, jA, jB, jC, jD, jE, jF]
      refine tK (i := 7) (v := ?_) rfl (by kernel_rfl) hS ?_ ?_
      rotate_left
      ·
       intro wS hSw; (try dsimp only at hSw); go_simp; try with_reducible rfl
      try simp only [Act.put, jA, jB, jC, jD, jE, jF]
      refine tK (i := 10) (v := ?_) rfl (by kernel_rfl) hS ?_ ?_
      rotate_left
      ·
       intro wS hSw; (try dsimp only at hSw); go_simp; try with_reducible rfl
      try simp only [Act.put, jA, jB, jC, jD, jE, jF]
      refine tK (i := 11) (v := ?_) rfl (by kernel_rfl) hS ?_ ?_
      rotate_left
      ·
       intro wS hSw; (try dsimp only at hSw); go_simp; try with_reducible rfl
      try simp only [Act.put, jA, jB, jC, jD, jE, jF]
      refine tK (i := 12) (v := ?_) rfl (by kernel_rfl) hS ?_ ?_
      rotate_left
      ·
       intro wS hSw; (try dsimp only at hSw); go_simp; try with_reducible rfl
      try simp only [Act.put, jA, jB, jC, jD, jE, jF]
      have hb0 : Below wr.heap.size wr wr.drew := Below.drew (Below.refl _ _)
      generalize wr.drew = W0 at *
      refine upto_cons' [(0, 23), (4, 27), (8, 31), (9, 32), (13, 36)] mk10C (mk10G W0.heap.size xs m cap) (by kernel_rfl) hS ?_ ?_ ?_ ?_
      ·
       intro F' W W' h hm hF
       exact hm.below h h.size (fun b hb => by have := hF b hb; have := hb0.size; omega)
      ·
       intro p hp
       simp only [List.mem_cons, List.not_mem_nil, or_false] at hp
       rcases hp with rfl | rfl | rfl | rfl | rfl
       all_goals
        intro y y' F1 F' W W' h hF hm hap hF' e he
        simp only [mk10G] at h ⊢
        rw [e]
        exact mrksR.mod h hm (fun b hb hf => hap b hf hb)
      ·
       intro p hp
       simp only [List.mem_cons, List.not_mem_nil, or_false] at hp
       rcases hp with rfl | rfl | rfl | rfl | rfl
       all_goals
        refine ⟨_, rfl, rfl, ?_⟩
        intro y W Φ hSW hBW hd K hK
       ·
        clear hd
        refine ⟨?_⟩
        simp only [over, Act.put, jA, jB, jC, List.map_cons, List.map_nil, List.foldl_cons, List.foldl_nil, jD, jE, jF] at hK ⊢
        go_simp
        refine hK _ _ (fun b => b = W.heap.size) (Mod.of_below (qBq)) (fun b hb => .inr (by rw [hb]; simp)) ?_
        simp only [mk10G, updV]
        exact lit12M W _ hBW.size
       ·
        have g0 := (hd (0, 23) (by simp) (by kernel_rfl) (.inl (by simp [mk10C]))).2
        clear hd
        simp only [mk10G] at g0
        refine ⟨?_⟩
        simp only [over, Act.put, jA, jB, jC, List.map_cons, List.map_nil, List.foldl_cons, List.foldl_nil, jD, jE, jF] at hK ⊢
        refine ite_wantedG rfl ?_
        refine wp_app12M W ?hg1 (.tmp 23) (.tmp 26) ?ho1 W0.heap.size (y 23) (Φ 0) ([]) ?hs1 (.slice (some ⟨g, 0, none⟩) cap cap) (xs.take cap) ?hx1 g0 (HS1.out W hSW) (by have := HT1.out; simp only [List.length_append, List.length_cons, List.length_nil]; omega) hBW.size ?_
        case hg1 => rfl
        case ho1 => rfl
        case hs1 => rfl
        case hx1 => rfl
        intro v' w' F' hO hm hl
        rw [List.nil_append] at hO
        refine hK _ _ F' (hm.mono (fun b hb => ⟨0, by simp [mk10C], hb⟩)) (fun b hb => (hl b hb).imp (fun h => ⟨0, by simp [mk10C], h⟩) (fun h => h)) ?_
        simp only [mk10G, updV]
        simpa using hO
       ·
        clear hd
        refine ⟨?_⟩
        simp only [over, Act.put, jA, jB, jC, List.map_cons, List.map_nil, List.foldl_cons, List.foldl_nil, jD, jE, jF] at hK ⊢
        go_simp
        refine hK _ _ (fun b => b = W.heap.size) (Mod.of_below (qBq)) (fun b hb => .inr (by rw [hb]; simp)) ?_
        simp only [mk10G, updV]
        exact lit12M1 W _ m hBW.size
       ·
        have g0 := (hd (4, 27) (by simp) (by kernel_rfl) (.inl (by simp [mk10C]))).2
        have g1 := (hd (8, 31) (by simp) (by kernel_rfl) (.inr (by decide))).2
        clear hd
        simp only [mk10G] at g0 g1
        have hsrc := appAny_mrks10 (mrksR.ofO g1)
        refine ⟨?_⟩
        simp only [over, Act.put, jA, jB, jC, List.map_cons, List.map_nil, List.foldl_cons, List.foldl_nil, jD, jE, jF] at hK ⊢
        refine ite_wantedG rfl ?_
        refine wp_app12M W ?hg1 (.tmp 27) (.tmp 31) ?ho1 W0.heap.size (y 27) (Φ 4) (xs.take cap) ?hs1 (y 31) [m] ?hx1 g0 hsrc (by have := HT1.out.1; simp only [List.length_cons, List.length_nil]; omega) hBW.size ?_
        case hg1 => rfl
        case ho1 => rfl
        case hs1 => rfl
        case hx1 => rfl
        intro v' w' F' hO hm hl
        refine hK _ _ F' (hm.mono (fun b hb => ⟨4, by simp [mk10C], hb⟩)) (fun b hb => (hl b hb).imp (fun h => ⟨4, by simp [mk10C], h⟩) (fun h => h)) ?_
        simp only [mk10G, updV]
        simpa using hO
       ·
        have g0 := (hd (9, 32) (by simp) (by kernel_rfl) (.inl (by simp [mk10C]))).2
        clear hd
        simp only [mk10G] at g0
        refine ⟨?_⟩
        simp only [over, Act.put, jA, jB, jC, List.map_cons, List.map_nil, List.foldl_cons, List.foldl_nil, jD, jE, jF] at hK ⊢
        refine ite_wantedG rfl ?_
        refine wp_app12M W ?hg1 (.tmp 32) (.tmp 35) ?ho1 W0.heap.size (y 32) (Φ 9) (xs.take cap ++ [m]) ?hs1 (.slice (some ⟨g, 0, none⟩) 0 0) (xs.drop cap) ?hx1 g0 (HS2.out W hSW) (by have := HT1.out; simp only [List.length_append, List.length_cons, List.length_nil]; omega) hBW.size ?_
        case hg1 => rfl
        case ho1 => rfl
        case hs1 => rfl
        case hx1 => rfl
        intro v' w' F' hO hm hl
        skip
        refine hK _ _ F' (hm.mono (fun b hb => ⟨9, by simp [mk10C], hb⟩)) (fun b hb => (hl b hb).imp (fun h => ⟨9, by simp [mk10C], h⟩) (fun h => h)) ?_
        simp only [mk10G, updV]
        simpa using hO
      ·
       refine ⟨_, rfl, ?_⟩
       intro y W Φ hSW hBW hd hap K hK
       have g13 := (hd (13, 36) (by simp) (by decide)).2
       clear hd hap
       simp only [mk10G] at g13
       have hz := hBW.size
       have hz0 := hb0.size
       have HOf : Hid (mrksR.O W W0.heap.size (Φ 13) (y 36) (xs.take cap ++ [m] ++ xs.drop cap)) := g13
       have hz1 := hbl.size
       have hBE : Below w.heap.size w W := bS hbl (bS hb0 hBW)
       refine ⟨?_⟩
       simp only [over, Act.put, jA, jB, jC, List.map_cons, List.map_nil, List.foldl_cons, List.foldl_nil, jD, jE, jF]
       clear g13 hS hSW
       go_simp
       refine hK _ _ ?_
       clear hK K
       refine NoPanic.normal ?_
       go_wp2
       refine bodyPost_ret (v := y 36) (by simp [results, Tryz.results68, go_sem]) rfl ⟨_, Φ 13, rfl, ?_, hBE⟩
       rw [HP.out]
       exact mrksR.base HOf.out (by omega)
     ·
      have hdm : True := trivial
      have c2 : ¬ cap = k := by omega
      have c3 : (k : Int) ≤ cap := by omega
      have c1 : k ≤ cap := by omega
      have c4 : (k : Int) ≤ k := by omega
      have HS1 : Hid (∀ W, Below wr.heap.size wr W → AppAny W (.slice (some ⟨g, 0, none⟩) k cap) (xs.take k).length (mrksC (xs.take k))) := fun W hW => by
       have h := mrks_piece (owns_below HOw.out hW) 0 k cap (by rw [HN.out]; omega)
       rw [List.drop_zero] at h
       rw [show (xs.take k).length = k by rw [List.length_take, HN.out]; omega]
       simpa using h
      have HS2 : Hid (∀ W, Below wr.heap.size wr W → AppAny W (.slice (some ⟨g, k * 2, none⟩) (0) (cap - k)) (xs.drop k).length (mrksC (xs.drop k))) := fun W hW => by
       have h := mrks_piece (owns_below HOw.out hW) k (0) (cap - k) (by rw [HN.out]; omega)
       rw [List.take_of_length_le (by rw [List.length_drop, HN.out]; omega)] at h
       rw [show (xs.drop k).length = 0 by rw [List.length_drop, HN.out] <;> omega]
       exact h
      have HT1 : Hid ((xs.take k).length ≤ 1048576 ∧ (xs.drop k).length ≤ 1048576) := ⟨by rw [List.length_take, HN.out]; omega, by rw [List.length_drop, HN.out]; omega⟩
      go_wp2
      refine wp_region_noPanic ?_
      refine region_upto (fun W => Below wr.heap.size wr W) 14 (by kernel_rfl) (qBq) (fun hS => ?_)
      refine tK (i := 1) (v := ?_) rfl (by kernel_rfl) hS ?_ ?_
      rotate_left
      ·
       intro wS hSw; (try dsimp only at hSw); go_simp; try with_reducible rfl
      try simp only [Act.put, jA, jB, jC, jD, jE, jF]
      refine tK (i := 2) (v := ?_) rfl (by kernel_rfl) hS ?_ ?_
      rotate_left
      ·
       intro wS hSw; (try dsimp only at hSw); go_simp; try with_reducible rfl
      try simp only [Act.put, jA, jB, jC, jD, jE, jF]
      refine tK (i := 3) (v := ?_) rfl (by kernel_rfl) hS ?_ ?_
      rotate_left
      ·
       intro wS hSw; (try dsimp only at hSw); go_simp; try with_reducible rfl
      try simp only [Act.put, jA, jB, jC, jD, jE, jF]
      refine tK (i := 5) (v := ?_) rfl (by kernel_rfl) hS ?_ ?_
      rotate_left
      ·
       intro wS hSw; (try dsimp only at hSw); go_simp; try with_reducible rfl
      try simp only [Act.put, jA, jB, jC, jD, jE, jF]
      refine tK (i := 6) (v := ?_) rfl (by kernel_rfl) hS ?_ ?_
      rotate_left
      ·
       intro wS hSw; (try dsimp only at hSw); go_simp; try with_reducible rfl
      try simp only [Act.put, jA, jB, jC, jD, jE, jF]
      refine tK (i := 7) (v := ?_) rfl (by kernel_rfl) hS ?_ ?_
      rotate_left
      ·
       intro wS hSw; (try dsimp only at hSw); go_simp; try with_reducible rfl
      try simp only [Act.put, jA, jB, jC, jD, jE, jF]
      refine tK (i := 10) (v := ?_) rfl (by kernel_rfl) hS ?_ ?_
      rotate_left
      ·
       intro wS hSw; (try dsimp only at hSw); go_simp; try with_reducible rfl
      try simp only [Act.put, jA, jB, jC, jD, jE, jF]
      refine tK (i := 11) (v := ?_) rfl (by kernel_rfl) hS ?_ ?_
      rotate_left
      ·
       intro wS hSw; (try dsimp only at hSw); go_simp; try with_reducible rfl
      try simp only [Act.put, jA, jB, jC, jD, jE, jF]
      refine tK (i := 12) (v := ?_) rfl (by kernel_rfl) hS ?_ ?_
      rotate_left
      ·
       intro wS hSw; (try dsimp only at hSw); go_simp; try with_reducible rfl
      try simp only [Act.put, jA, jB, jC, jD, jE, jF]
      have hb0 : Below wr.heap.size wr wr.drew := Below.drew (Below.refl _ _)
      generalize wr.drew = W0 at *
      refine upto_cons' [(0, 23), (4, 27), (8, 31), (9, 32), (13, 36)] mk10C (mk10G W0.heap.size xs m k) (by kernel_rfl) hS ?_ ?_ ?_ ?_
      ·
       intro F' W W' h hm hF
       exact hm.below h h.size (fun b hb => by have := hF b hb; have := hb0.size; omega)
      ·
       intro p hp
       simp only [List.mem_cons, List.not_mem_nil, or_false] at hp
       rcases hp with rfl | rfl | rfl | rfl | rfl
       all_goals
        intro y y' F1 F' W W' h hF hm hap hF' e he
        simp only [mk10G] at h ⊢
        rw [e]
        exact mrksR.mod h hm (fun b hb hf => hap b hf hb)
      ·
       intro p hp
       simp only [List.mem_cons, List.not_mem_nil, or_false] at hp
       rcases hp with rfl | rfl | rfl | rfl | rfl
       all_goals
        refine ⟨_, rfl, rfl, ?_⟩
        intro y W Φ hSW hBW hd K hK
       ·
        clear hd
        refine ⟨?_⟩
        simp only [over, Act.put, jA, jB, jC, List.map_cons, List.map_nil, List.foldl_cons, List.foldl_nil, jD, jE, jF] at hK ⊢
        go_simp
        refine hK _ _ (fun b => b = W.heap.size) (Mod.of_below (qBq)) (fun b hb => .inr (by rw [hb]; simp)) ?_
        simp only [mk10G, updV]
        exact lit12M W _ hBW.size
       ·
        have g0 := (hd (0, 23) (by simp) (by kernel_rfl) (.inl (by simp [mk10C]))).2
        clear hd
        simp only [mk10G] at g0
        refine ⟨?_⟩
        simp only [over, Act.put, jA, jB, jC, List.map_cons, List.map_nil, List.foldl_cons, List.foldl_nil, jD, jE, jF] at hK ⊢
        refine ite_wantedG rfl ?_
        refine wp_app12M W ?hg1 (.tmp 23) (.tmp 26) ?ho1 W0.heap.size (y 23) (Φ 0) ([]) ?hs1 (.slice (some ⟨g, 0, none⟩) k cap) (xs.take k) ?hx1 g0 (HS1.out W hSW) (by have := HT1.out; simp only [List.length_append, List.length_cons, List.length_nil]; omega) hBW.size ?_
        case hg1 => rfl
        case ho1 => rfl
        case hs1 => rfl
        case hx1 => rfl
        intro v' w' F' hO hm hl
        rw [List.nil_append] at hO
        refine hK _ _ F' (hm.mono (fun b hb => ⟨0, by simp [mk10C], hb⟩)) (fun b hb => (hl b hb).imp (fun h => ⟨0, by simp [mk10C], h⟩) (fun h => h)) ?_
        simp only [mk10G, updV]
        simpa using hO
       ·
        clear hd
        refine ⟨?_⟩
        simp only [over, Act.put, jA, jB, jC, List.map_cons, List.map_nil, List.foldl_cons, List.foldl_nil, jD, jE, jF] at hK ⊢
        go_simp
        refine hK _ _ (fun b => b = W.heap.size) (Mod.of_below (qBq)) (fun b hb => .inr (by rw [hb]; simp)) ?_
        simp only [mk10G, updV]
        exact lit12M1 W _ m hBW.size
       ·
        have g0 := (hd (4, 27) (by simp) (by kernel_rfl) (.inl (by simp [mk10C]))).2
        have g1 := (hd (8, 31) (by simp) (by kernel_rfl) (.inr (by decide))).2
        clear hd
        simp only [mk10G] at g0 g1
        have hsrc := appAny_mrks10 (mrksR.ofO g1)
        refine ⟨?_⟩
        simp only [over, Act.put, jA, jB, jC, List.map_cons, List.map_nil, List.foldl_cons, List.foldl_nil, jD, jE, jF] at hK ⊢
        refine ite_wantedG rfl ?_
        refine wp_app12M W ?hg1 (.tmp 27) (.tmp 31) ?ho1 W0.heap.size (y 27) (Φ 4) (xs.take k) ?hs1 (y 31) [m] ?hx1 g0 hsrc (by have := HT1.out.1; simp only [List.length_cons, List.length_nil]; omega) hBW.size ?_
        case hg1 => rfl
        case ho1 => rfl
        case hs1 => rfl
        case hx1 => rfl
        intro v' w' F' hO hm hl
        refine hK _ _ F' (hm.mono (fun b hb => ⟨4, by simp [mk10C], hb⟩)) (fun b hb => (hl b hb).imp (fun h => ⟨4, by simp [mk10C], h⟩) (fun h => h)) ?_
        simp only [mk10G, updV]
        simpa using hO
       ·
        have g0 := (hd (9, 32) (by simp) (by kernel_rfl) (.inl (by simp [mk10C]))).2
        clear hd
        simp only [mk10G] at g0
        refine ⟨?_⟩
        simp only [over, Act.put, jA, jB, jC, List.map_cons, List.map_nil, List.foldl_cons, List.foldl_nil, jD, jE, jF] at hK ⊢
        refine ite_wantedG rfl ?_
        refine wp_app12M W ?hg1 (.tmp 32) (.tmp 35) ?ho1 W0.heap.size (y 32) (Φ 9) (xs.take k ++ [m]) ?hs1 (.slice (some ⟨g, k * 2, none⟩) (0) (cap - k)) (xs.drop k) ?hx1 g0 (HS2.out W hSW) (by have := HT1.out; simp only [List.length_append, List.length_cons, List.length_nil]; omega) hBW.size ?_
        case hg1 => rfl
        case ho1 => rfl
        case hs1 => rfl
        case hx1 => rfl
        intro v' w' F' hO hm hl
        skip
        refine hK _ _ F' (hm.mono (fun b hb => ⟨9, by simp [mk10C], hb⟩)) (fun b hb => (hl b hb).imp (fun h => ⟨9, by simp [mk10C], h⟩) (fun h => h)) ?_
        simp only [mk10G, updV]
        simpa using hO
      ·
       refine ⟨_, rfl, ?_⟩
       intro y W Φ hSW hBW hd hap K hK
       have g13 := (hd (13, 36) (by simp) (by decide)).2
       clear hd hap
       simp only [mk10G] at g13
       have hz := hBW.size
       have hz0 := hb0.size
       have HOf : Hid (mrksR.O W W0.heap.size (Φ 13) (y 36) (xs.take k ++ [m] ++ xs.drop k)) := g13
       have hz1 := hbl.size
       have hBE : Below w.heap.size w W := bS hbl (bS hb0 hBW)
       refine ⟨?_⟩
       simp only [over, Act.put, jA, jB, jC, List.map_cons, List.map_nil, List.foldl_cons, List.foldl_nil, jD, jE, jF]
       clear g13 hS hSW
       go_simp
       refine hK _ _ ?_
       clear hK K
       refine NoPanic.normal ?_
       go_wp2
       refine bodyPost_ret (v := y 36) (by simp [results, Tryz.results68, go_sem]) rfl ⟨_, Φ 13, rfl, ?_, hBE⟩
       rw [HP.out]
       exact mrksR.base HOf.out (by omega)
end Go.Proofs.YtndghenlapbaaaaGreat


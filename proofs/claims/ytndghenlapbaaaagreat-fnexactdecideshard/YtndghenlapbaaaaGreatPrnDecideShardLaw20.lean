import Derived.Test.YtndghenlapbaaaaGreatPrnDecideShardLaw19
import Derived.Test.YtndghenlapbaaaaGreatPrnDecideShardLaw2
import Derived.BigQuiet
import Derived.Deep.QuietTactic
import Derived.Deep.RegionHeld3
import Derived.Test.YtndghenlapbaaaaGreatPrnDecideShardLaw1
import Derived.Maps.AppendAt
import Derived.Test.YtndghenlapbaaaaGreatPrnDecideShardLaw16
import Derived.Test.YtndghenlapbaaaaGreatPrnDecideShardLaw9
import Derived.Test.YtndghenlapbaaaaGreatPrnDecideShardLaw17
import Derived.Test.YtndghenlapbaaaaGreatPrnDecideShardLaw3
import Derived.Test.YtndghenlapbaaaaGreatPrnDecideShardLaw12
set_option linter.unusedSimpArgs false
set_option linter.unusedVariables false
set_option linter.unusedSectionVars false

/-
 A shard's book; what is covered, the program's.
-/
namespace Go.Proofs.YtndghenlapbaaaaGreat
open Go.RowKit
variable [DecidableEq Rw] [Inhabited Rw] [DecidableEq Bal] [Inhabited Bal] [DecidableEq Ledg] [Inhabited Ledg] [DecidableEq Leg] [Inhabited Leg] [DecidableEq Cont] [Inhabited Cont] [DecidableEq LedgR] [Inhabited LedgR] [DecidableEq OutcR] [Inhabited OutcR] [DecidableEq Mrk] [Inhabited Mrk] [DecidableEq Shd] [Inhabited Shd] [DecidableEq ShdR] [Inhabited ShdR]
attribute [local go_sem ↓] Go.wp_at_zero Go.wp_at_succ

def hereG (idx : Int) (bs : List Bal) : List (List Bal) := [if idx = 0 then bs else [], if idx = 1 then bs else [], if idx = 2 then bs else []]
theorem hereG_at {idx : Int} {bs : List Bal} (h : 0 ≤ idx ∧ idx ≤ 2) : (hereG idx bs).getD idx.toNat default = bs := by
 rcases (show idx = 0 ∨ idx = 1 ∨ idx = 2 by omega) with rfl | rfl | rfl <;> rfl
theorem hereG_ok {idx : Int} {bs : List Bal} (h : balFault bs = 0) : ledFault ⟨hereG idx bs⟩ = 0 := by
 have h0 : ∀ b : Bool, balFault (if b = true then bs else []) = 0 := fun b => by cases b <;> first | rfl | exact h
 unfold ledFault
 rw [if_neg (by show ¬ ((3 : Nat) < 1 ∨ 3 < 3); omega)]
 refine scanI_of fun k hk => ?_
 have hk3 : k < 3 := hk
 unfold ledAt hereG
 rcases (show k = 0 ∨ k = 1 ∨ k = 2 by omega) with rfl | rfl | rfl
 ·
  show balFault (if idx = 0 then bs else []) = 0; split; exact h; rfl
 ·
  show balFault (if idx = 1 then bs else []) = 0; split; exact h; rfl
 ·
  show balFault (if idx = 2 then bs else []) = 0; split; exact h; rfl
theorem base_idx {idx : Int} {bs : List Bal} (h : baseF idx bs = 0) : (0 ≤ idx ∧ idx ≤ 2) ∧ balFault bs = 0 := by
 unfold baseF at h
 split at h
 ·
  rename_i h1; exact ⟨inBi.1 h1, h⟩
 ·
  omega
theorem balsV_nil (w : World) : balsR.V w (.slice none 0 0) [] := ⟨none, 0, rfl, Nat.le_refl _, by decide, fun i hi => absurd hi (Nat.not_lt_zero _)⟩
theorem hereG_V {W : World} {G : Nat} {u0 u1 u2 : Value} {idx : Int} {bs : List Bal} (c0 : W.cell? ⟨G, 0, none⟩ = some u0) (c1 : W.cell? ⟨G, 1, none⟩ = some u1) (c2 : W.cell? ⟨G, 2, none⟩ = some u2)
  (v0 : balsR.V W u0 (if idx = 0 then bs else [])) (v1 : balsR.V W u1 (if idx = 1 then bs else [])) (v2 : balsR.V W u2 (if idx = 2 then bs else [])) : ledgR.V W (.agg #[.slice (some ⟨G, 0, none⟩) 3 3]) ⟨hereG idx bs⟩ := by
 refine ⟨_, rfl, some ⟨G, 0, none⟩, 3, rfl, Nat.le_refl _, by decide, fun i hi => ?_⟩
 have hi3 : i < 3 := hi
 rcases (show i = 0 ∨ i = 1 ∨ i = 2 by omega) with rfl | rfl | rfl
 ·
  exact ⟨G, 0, u0, rfl, rfl, fun j hj => (by obtain rfl : j = 0 := (by omega); exact c0), v0⟩
 ·
  exact ⟨G, 0, u1, rfl, rfl, fun j hj => (by obtain rfl : j = 0 := (by omega); exact c1), v1⟩
 ·
  exact ⟨G, 0, u2, rfl, rfl, fun j hj => (by obtain rfl : j = 0 := (by omega); exact c2), v2⟩
theorem makeBs3 (w : World) : (Instr.makeSlice 124 (.int .i64 3) (.int .i64 3)).run Tryz.prog w = .ok (.slice (some ⟨w.heap.size, 0, none⟩) 3 3) (w.alloc (.cells #[.slice none 0 0, .slice none 0 0, .slice none 0 0] 33)) := by kernel_rfl
set_option maxRecDepth 20000 in
set_option maxHeartbeats 8000000 in
theorem bookHere_any (x : Value) (d : Shd) (w : World) (hx : shdR.V w x d) (h0 : baseF d.idx d.bals = 0) :
  Calls Tryz.prog 81 #[x] w fun e w' => ∃ b, e = .returned (.agg #[.int .i64 3, .map (some b)]) ∧ w.heap.size ≤ b ∧ Book w' b 54 (bookF (hereG d.idx d.bals)) ∧ Below w.heap.size w w' := by
 obtain ⟨hi, hbf⟩ := base_idx h0
 have HBo : Hid (∀ W y, ledgR.V W y ⟨hereG d.idx d.bals⟩ → Calls Tryz.prog 112 #[y] W fun e w' => ∃ b, e = .returned (.agg #[.int .i64 3, .map (some b)]) ∧ W.heap.size ≤ b ∧ Book w' b 54 (bookF (hereG d.idx d.bals)) ∧ Below W.heap.size W w') := fun W y hy => bookOf_any y ⟨hereG d.idx d.bals⟩ W hy (hereG_ok hbf)
 obtain ⟨u1, u2, u3, u4, u5, rfl, h1, h2, h3, h4, h5⟩ := hx
 have HV : Hid (∀ W, Below w.heap.size w W → balsR.V W u1 d.bals) := fun W hW => balsR.below h1 hW
 obtain ⟨a1, c1, rfl⟩ := bals_form h1
 obtain ⟨a2, c2, rfl⟩ := mrks_form h2
 obtain ⟨a3, c3, rfl⟩ := conts_form h3
 obtain ⟨a4, c4, rfl⟩ := mrks_form h4
 obtain ⟨a5, c5, rfl⟩ := ints_form h5
 clear h1 h2 h3 h4 h5 h0 hbf
 generalize d.bals.length = n1 at *
 generalize d.votes.length = n2 at *
 generalize d.held.length = n3 at *
 generalize d.done.length = n4 at *
 generalize d.appl.length = n5 at *
 have hmk := makeBs3
 obtain ⟨bs, hbs⟩ : ∃ bs, bs = d.bals := ⟨_, rfl⟩
 rw [← hbs] at HBo HV ⊢
 clear hbs
 generalize d.idx = idx at *
 rcases (show idx = 0 ∨ idx = 1 ∨ idx = 2 by omega) with rfl | rfl | rfl
 ·
  clear hi
  go_enter Tryz.func81, Tryz.ntmps81
  go_wp2_with fail
  refine (HBo.out _ _ (hereG_V (G := w.heap.size + 2) (u0 := .slice a1 n1 c1) (u1 := .slice none 0 0) (u2 := .slice none 0 0) (by simp [go_sem]) (by simp [go_sem]) (by simp [go_sem]) ?v0 ?v1 ?v2)).mono ?_
  case v0 => first | exact HV.out _ (qBq) | exact balsV_nil _
  case v1 => first | exact HV.out _ (qBq) | exact balsV_nil _
  case v2 => first | exact HV.out _ (qBq) | exact balsV_nil _
  rintro e w1 ⟨b, rfl, hb, hbk, hb1⟩
  have hB1 : Below w.heap.size w w1 := bS (qBq) hb1
  have hz1 := hb1.size
  simp at hb hz1
  obtain ⟨c1', f1⟩ := bcell hb1
  have r0 : w1.cell? ⟨w.heap.size + 1, 0, none⟩ = some (.int .i64 0) := cK hb1 (by simp [go_sem])
  have r1 : w1.cell? ⟨w.heap.size + 1, 1, none⟩ = some (.map none) := cK hb1 (by simp [go_sem])
  have rf : ∀ o, w1.frozen? ⟨w.heap.size + 1, o, none⟩ = false := fun o => by rw [f1 _ _ (by simp; try omega)]; simp [go_sem]
  have HBk : Hid (Book w1 b 54 (bookF (hereG 0 bs))) := hbk
  clear hb1 c1' f1 hbk
  go_wp2
  refine bodyPost_ret (v := .agg #[.int .i64 3, .map (some b)]) (by simp [results, Tryz.results81, go_sem, r0, r1, rf]) rfl ⟨b, rfl, by omega, ?_, by (repeat (first | refine bset ?_ (by simp; omega) _ | refine bset ?_ (by simp) _ | refine bA ?_ _ | assumption))⟩
  exact (HBk.out.turned (Mod.of_set _ _ _) (by dsimp only; omega)).turned (Mod.of_set _ _ _) (by dsimp only; omega)
 ·
  clear hi
  go_enter Tryz.func81, Tryz.ntmps81
  go_wp2_with fail
  refine (HBo.out _ _ (hereG_V (G := w.heap.size + 2) (u0 := .slice none 0 0) (u1 := .slice a1 n1 c1) (u2 := .slice none 0 0) (by simp [go_sem]) (by simp [go_sem]) (by simp [go_sem]) ?v0 ?v1 ?v2)).mono ?_
  case v0 => first | exact HV.out _ (qBq) | exact balsV_nil _
  case v1 => first | exact HV.out _ (qBq) | exact balsV_nil _
  case v2 => first | exact HV.out _ (qBq) | exact balsV_nil _
  rintro e w1 ⟨b, rfl, hb, hbk, hb1⟩
  have hB1 : Below w.heap.size w w1 := bS (qBq) hb1
  have hz1 := hb1.size
  simp at hb hz1
  obtain ⟨c1', f1⟩ := bcell hb1
  have r0 : w1.cell? ⟨w.heap.size + 1, 0, none⟩ = some (.int .i64 0) := cK hb1 (by simp [go_sem])
  have r1 : w1.cell? ⟨w.heap.size + 1, 1, none⟩ = some (.map none) := cK hb1 (by simp [go_sem])
  have rf : ∀ o, w1.frozen? ⟨w.heap.size + 1, o, none⟩ = false := fun o => by rw [f1 _ _ (by simp; try omega)]; simp [go_sem]
  have HBk : Hid (Book w1 b 54 (bookF (hereG 1 bs))) := hbk
  clear hb1 c1' f1 hbk
  go_wp2
  refine bodyPost_ret (v := .agg #[.int .i64 3, .map (some b)]) (by simp [results, Tryz.results81, go_sem, r0, r1, rf]) rfl ⟨b, rfl, by omega, ?_, by (repeat (first | refine bset ?_ (by simp; omega) _ | refine bset ?_ (by simp) _ | refine bA ?_ _ | assumption))⟩
  exact (HBk.out.turned (Mod.of_set _ _ _) (by dsimp only; omega)).turned (Mod.of_set _ _ _) (by dsimp only; omega)
 ·
  clear hi
  go_enter Tryz.func81, Tryz.ntmps81
  go_wp2_with fail
  refine (HBo.out _ _ (hereG_V (G := w.heap.size + 2) (u0 := .slice none 0 0) (u1 := .slice none 0 0) (u2 := .slice a1 n1 c1) (by simp [go_sem]) (by simp [go_sem]) (by simp [go_sem]) ?v0 ?v1 ?v2)).mono ?_
  case v0 => first | exact HV.out _ (qBq) | exact balsV_nil _
  case v1 => first | exact HV.out _ (qBq) | exact balsV_nil _
  case v2 => first | exact HV.out _ (qBq) | exact balsV_nil _
  rintro e w1 ⟨b, rfl, hb, hbk, hb1⟩
  have hB1 : Below w.heap.size w w1 := bS (qBq) hb1
  have hz1 := hb1.size
  simp at hb hz1
  obtain ⟨c1', f1⟩ := bcell hb1
  have r0 : w1.cell? ⟨w.heap.size + 1, 0, none⟩ = some (.int .i64 0) := cK hb1 (by simp [go_sem])
  have r1 : w1.cell? ⟨w.heap.size + 1, 1, none⟩ = some (.map none) := cK hb1 (by simp [go_sem])
  have rf : ∀ o, w1.frozen? ⟨w.heap.size + 1, o, none⟩ = false := fun o => by rw [f1 _ _ (by simp; try omega)]; simp [go_sem]
  have HBk : Hid (Book w1 b 54 (bookF (hereG 2 bs))) := hbk
  clear hb1 c1' f1 hbk
  go_wp2
  refine bodyPost_ret (v := .agg #[.int .i64 3, .map (some b)]) (by simp [results, Tryz.results81, go_sem, r0, r1, rf]) rfl ⟨b, rfl, by omega, ?_, by (repeat (first | refine bset ?_ (by simp; omega) _ | refine bset ?_ (by simp) _ | refine bA ?_ _ | assumption))⟩
  exact (HBk.out.turned (Mod.of_set _ _ _) (by dsimp only; omega)).turned (Mod.of_set _ _ _) (by dsimp only; omega)
theorem canLs_book {idx : Int} {bs : List Bal} (h : 0 ≤ idx ∧ idx ≤ 2) (ls : List Leg) : scanI (fun k => canL (bookF (hereG idx bs)) ((onSh idx ls).getD k default)) (onSh idx ls).length = canLs bs (onSh idx ls) := by
 have e : ∀ k, k < (onSh idx ls).length → canL (bookF (hereG idx bs)) ((onSh idx ls).getD k default) = canB bs ((onSh idx ls).getD k default) := fun k hk => by
  have hm : (onSh idx ls).getD k default ∈ onSh idx ls := by simp [List.getD, hk]
  have hs := (List.mem_filter.1 hm).2
  simp only [beq_iff_eq] at hs
  have h1 := hasB_book (g := ⟨hereG idx bs⟩) (l := (onSh idx ls).getD k default) (by omega) (by show _ < ((3 : Nat) : Int); omega)
  rw [hs] at h1
  have h2 := hereG_at (bs := bs) h
  dsimp only at h1
  rw [h2] at h1
  exact h1.symm
 unfold canLs
 have hg : ∀ n, n ≤ (onSh idx ls).length → scanI (fun k => canL (bookF (hereG idx bs)) ((onSh idx ls).getD k default)) n = scanI (fun k => canB bs ((onSh idx ls).getD k default)) n := by
  intro n
  induction n with
  | zero => intro _; rfl
  | succ n ih =>
   intro hn
   have h1 := ih (by omega)
   unfold scanI
   rw [h1, e n (by omega)]
 exact hg _ (Nat.le_refl _)
set_option maxRecDepth 20000 in
set_option maxHeartbeats 8000000 in
theorem keepCovered_any (idx id : Int) (b : Nat) (ul : Value) (bs : List Bal) (ls : List Leg) (w : World) (hb : Book w b 54 (bookF (hereG idx bs))) (hl : legsR.V w ul ls) (hn : ls.length ≤ 1000) (hi : 0 ≤ idx ∧ idx ≤ 2) (hbf : balFault bs = 0) (hlf : ∀ l ∈ ls, legFault l = 0) :
  Calls Tryz.prog 80 #[.int .i64 idx, .agg #[.int .i64 3, .map (some b)], .agg #[.int .i64 id, ul]] w (KeepE (canLs bs (onSh idx ls)) w) := by
 have HLe : Hid (∀ W, Below w.heap.size w W → Calls Tryz.prog 73 #[ul, .int .i64 idx] W fun e w' => ∃ v, e = .returned v ∧ w'.ownsRow W.heap.size 93 4 v (onSh idx ls).length (legsC (onSh idx ls)) ∧ Below W.heap.size W w') := fun W hW => legsOn_any ul ls idx W (legsR.below hl hW) (by omega)
 have HAm : Hid (∀ W y, Below w.heap.size w W → legsR.V W y (onSh idx ls) → Calls Tryz.prog 111 #[.agg #[.int .i64 3, .map (some b)], y] W fun e w' => e = .returned (.int .i64 (canLs bs (onSh idx ls))) ∧ Below W.heap.size W w') := fun W y hW hy => by
  have h := amountsFault_any 3 b 54 (bookF (hereG idx bs)) y (onSh idx ls) W (hb.below hW) hy (smallF_of (g := ⟨hereG idx bs⟩) (hereG_ok hbf)) (fun k hk => by
   have hm : (onSh idx ls).getD k default ∈ onSh idx ls := by simp [List.getD, hk]
   exact hlf _ (List.mem_filter.1 hm).1)
  rw [canLs_book hi ls] at h
  exact h
 obtain ⟨al, cl, rfl⟩ := legs_form hl
 clear hl hn hi hbf hlf hb
 generalize ls.length = ll at *
 obtain ⟨cc, hcc⟩ : ∃ cc, cc = canLs bs (onSh idx ls) := ⟨_, rfl⟩
 rw [← hcc] at HAm ⊢
 clear hcc
 go_enter Tryz.func80, Tryz.ntmps80
 go_wp2
 obtain ⟨wr, hwr⟩ : ∃ wr, wr = (w.alloc (.cells #[.int .i64 3, .map (some b)] 115)).alloc (.cells #[.int .i64 id, .slice al ll cl] 44) := ⟨_, rfl⟩
 have p0 : wr.cell? ⟨w.heap.size, 0, none⟩ = some (.int .i64 3) := by rw [hwr]; simp [go_sem]
 have p1 : wr.cell? ⟨w.heap.size, 1, none⟩ = some (.map (some b)) := by rw [hwr]; simp [go_sem]
 have q0 : wr.cell? ⟨w.heap.size + 1, 0, none⟩ = some (.int .i64 id) := by rw [hwr]; simp [go_sem]
 have q1 : wr.cell? ⟨w.heap.size + 1, 1, none⟩ = some (.slice al ll cl) := by rw [hwr]; simp [go_sem]
 have hBr : Below w.heap.size w wr := by rw [hwr]; (repeat (first | exact bR _ _ | assumption | refine bD ?_ | refine bA ?_ _ | refine bset ?_ (by simp; omega) _ | refine bset ?_ (by simp) _ | refine bS ?_ (by assumption)))
 rw [← hwr]
 clear hwr
 refine wp_region_noPanic ?_
 refine region_upto (fun W => Below wr.heap.size wr W ∧ W.cell? ⟨w.heap.size, 0, none⟩ = some (.int .i64 3) ∧ W.cell? ⟨w.heap.size, 1, none⟩ = some (.map (some b)) ∧ W.cell? ⟨w.heap.size + 1, 1, none⟩ = some (.slice al ll cl)) 7 (by kernel_rfl) ⟨qBq, cK (qBq) p0, cK (qBq) p1, cK (qBq) q1⟩ (fun hS => ?_)
 refine tN (i := 0) (v := ?_) rfl (by kernel_rfl) hS ?_ ?_
 rotate_left
 ·
  intro wS hSw; (try dsimp only at hSw); go_simp; try with_reducible rfl
 try simp only [Act.put, jA, jB, jC, jD, jE, jF]
 refine tN (i := 1) (v := ?_) rfl (by kernel_rfl) hS ?_ ?_
 rotate_left
 ·
  intro wS hSw; (try dsimp only at hSw); go_simp; try with_reducible rfl
 try simp only [Act.put, jA, jB, jC, jD, jE, jF]
 refine tN (i := 2) (v := ?_) rfl (by kernel_rfl) hS ?_ ?_
 rotate_left
 ·
  intro wS hSw; (try dsimp only at hSw); go_simp; try with_reducible rfl
 try simp only [Act.put, jA, jB, jC, jD, jE, jF]
 refine tN (i := 3) (v := ?_) rfl (by kernel_rfl) hS ?_ ?_
 rotate_left
 ·
  intro wS hSw; (try dsimp only at hSw); go_simp; try with_reducible rfl
 try simp only [Act.put, jA, jB, jC, jD, jE, jF]
 refine upto_step (i := 4) (by kernel_rfl) rfl ?_
 intro K hK
 go_simp
 refine (HLe.out _ (bS hBr hS.1)).mono ?_
 rintro e wz1 ⟨vl, rfl, ol, hbz1⟩
 obtain ⟨a5, c5, rfl⟩ := owns_form ol
 have V1 := LegsV_of_owns ol
 have hbz1' : Below wr.heap.size wr wz1 := bS hS.1 hbz1
 have hS3 := And.intro hbz1' (And.intro (cK hbz1 hS.2.1) (And.intro (cK hbz1 hS.2.2.1) (cK hbz1 hS.2.2.2)))
 refine hK _ _ (fun _ => hS3) ?_
 clear hK K hS hbz1
 have hS := hS3
 clear hS3
 try simp only [Act.put, jA, jB, jC, jD, jE, jF]
 refine upto_step (i := 5) (by kernel_rfl) rfl ?_
 intro K hK
 go_simp
 refine (HAm.out _ _ (bS hBr hS.1) V1).mono ?_
 rintro e wz ⟨rfl, hbz⟩
 have hbz' : Below wr.heap.size wr wz := bS hS.1 hbz
 have hS3 := And.intro hbz' (And.intro (cK hbz hS.2.1) (And.intro (cK hbz hS.2.2.1) (cK hbz hS.2.2.2)))
 refine hK _ _ (fun _ => hS3) ?_
 clear hK K hS hbz
 have hS := hS3
 clear hS3
 try simp only [Act.put, jA, jB, jC, jD, jE, jF]
 refine tN (i := 6) (v := ?_) rfl (by kernel_rfl) hS ?_ ?_
 rotate_left
 ·
  intro wS hSw; (try dsimp only at hSw); go_simp; try with_reducible rfl
 try simp only [Act.put, jA, jB, jC, jD, jE, jF]
 refine upto_done (by kernel_rfl) ?_
 refine NoPanic.normal ?_
 by_cases hc : cc = 0
 ·
  have hc' : (cc != 0) = false := by simp [hc]
  go_wp2
  go_end0
  exact ⟨.inl ⟨hc, rfl⟩, bS hBr hS.1⟩
 ·
  have hc' : (cc != 0) = true := by simp [hc]
  go_wp2
  exact ⟨rfl, .inr ⟨hc, rfl⟩, bS hBr hS.1⟩
end Go.Proofs.YtndghenlapbaaaaGreat

/-
 Rows of values that hold memory: one put in between or behind them, one put in another's place.
-/
namespace Go.Proofs.YtndghenlapbaaaaGreat
open Go.RowKit

def insF {β : Type} (f : Nat → β) (i : Nat) (x : β) : Nat → β := fun k => if k < i then f k else if k = i then x else f (k - 1)
theorem insF_lt {β : Type} (f : Nat → β) {i k : Nat} (x : β) (h : k < i) : insF f i x k = f k := by simp [insF, h]
theorem insF_at {β : Type} (f : Nat → β) (i : Nat) (x : β) : insF f i x i = x := by simp [insF]
theorem insF_gt {β : Type} (f : Nat → β) {i k : Nat} (x : β) (h : i < k) : insF f i x k = f (k - 1) := by
 unfold insF
 rw [if_neg (by omega), if_neg (by omega)]
theorem getD_ins {α : Type} [Inhabited α] (xs : List α) (x : α) (i k : Nat) (hi : i ≤ xs.length) : (xs.take i ++ [x] ++ xs.drop i).getD k default = insF (fun k => xs.getD k default) i x k := by
 have hl : (xs.take i).length = i := by rw [List.length_take]; omega
 simp only [List.getD_eq_getElem?_getD]
 rw [List.append_assoc]
 rcases Nat.lt_trichotomy k i with h | h | h
 ·
  rw [insF_lt _ _ h, List.getElem?_append_left (by omega), List.getElem?_take, if_pos h]
 ·
  subst h
  rw [insF_at, List.getElem?_append_right (by omega), hl]
  simp
 ·
  rw [insF_gt _ _ h, List.getElem?_append_right (by omega), hl, List.getElem?_append_right (by simp; omega), List.getElem?_drop]
  congr 2
  simp
  omega
theorem PO.ins {α : Type} {R : Rep α} {e size : Nat} {lv : Value → List Value} {W W' : World} {base : Nat} {v v' : Value} {n i : Nat} {d : Nat → α} {cs : List Value} {us : Nat → Value} {fs : Nat → Nat → Prop} {u : Value} {x : α} {Fu : Nat → Prop}
  (h : PO R e size lv W base v n n d cs us fs) (hi : i ≤ n) (hu : R.O W base Fu u x) (hl : (lv u).length = size) (hd : ∀ j, j < n → ∀ b, fs j b → ¬ Fu b) (hvu : ∀ b, Fu b → v.ownBlock ≠ some b)
  (hr : W'.ownsRow base e size v' (n + 1) (cs.take (i * size) ++ lv u ++ cs.drop (i * size))) (hm : Mod (fun b => v.ownBlock = some b) W W') (hv : ∀ b, v'.ownBlock = some b → v.ownBlock = some b ∨ W.heap.size ≤ b) :
  PO R e size lv W' base v' (n + 1) (n + 1) (insF d i x) (cs.take (i * size) ++ lv u ++ cs.drop (i * size)) (insF us i u) (insF fs i Fu) := by
 have hcl : cs.length = n * size := h.row.1
 have him : i * size ≤ n * size := Nat.mul_le_mul_right _ hi
 have hold : ∀ b, b < W.heap.size → v.ownBlock ≠ some b → v'.ownBlock ≠ some b := fun b hb hn e => by
  rcases hv b e with h1 | h1
  ·
   exact hn h1
  ·
   omega
 have hel : ∀ j, j < n → R.O W' base (fs j) (us j) (d j) := fun j hj => R.mod (h.el j hj) hm (fun b hb => h.out j hj b hb)
 refine ⟨hr, fun j hj => ?_, fun j hj => ?_, fun j hj o ho => ?_, fun j hj b hb => ?_, fun j k hj hk hjk b h1 h2 => ?_⟩
 ·
  rcases Nat.lt_trichotomy j i with h1 | h1 | h1
  ·
   rw [insF_lt _ _ h1, insF_lt _ _ h1, insF_lt _ _ h1]; exact hel j (by omega)
  ·
   subst h1; rw [insF_at, insF_at, insF_at]; exact R.mod hu hm (fun b hb => hvu b hb)
  ·
   rw [insF_gt _ _ h1, insF_gt _ _ h1, insF_gt _ _ h1]; exact hel (j - 1) (by omega)
 ·
  rcases Nat.lt_trichotomy j i with h1 | h1 | h1
  ·
   rw [insF_lt _ _ h1]; exact h.ln j (by omega)
  ·
   subst h1; rw [insF_at]; exact hl
  ·
   rw [insF_gt _ _ h1]; exact h.ln (j - 1) (by omega)
 ·
  have ht : (cs.take (i * size)).length = i * size := by rw [List.length_take]; omega
  rw [List.append_assoc]
  rcases Nat.lt_trichotomy j i with h1 | h1 | h1
  ·
   have hlt : j * size + o < i * size := by
    have : (j + 1) * size ≤ i * size := Nat.mul_le_mul_right _ h1
    rw [Nat.succ_mul] at this
    omega
   rw [insF_lt _ _ h1, List.getElem?_append_left (by omega), List.getElem?_take, if_pos hlt]
   exact h.cell j (by omega) o ho
  ·
   subst h1
   rw [insF_at, List.getElem?_append_right (by omega), ht, show j * size + o - j * size = o by omega, List.getElem?_append_left (by omega)]
  ·
   obtain ⟨q, rfl⟩ : ∃ q, j = q + 1 := ⟨j - 1, by omega⟩
   have hge : i * size ≤ q * size := Nat.mul_le_mul_right _ (by omega)
   have e1 : (q + 1) * size = q * size + size := Nat.succ_mul _ _
   rw [insF_gt _ _ h1, Nat.add_sub_cancel, List.getElem?_append_right (by omega), ht, List.getElem?_append_right (by omega), hl, List.getElem?_drop, e1, show i * size + (q * size + size + o - i * size - size) = q * size + o by omega]
   exact h.cell q (by omega) o ho
 ·
  rcases Nat.lt_trichotomy j i with h1 | h1 | h1
  ·
   rw [insF_lt _ _ h1] at hb; exact hold b (R.rng (h.el j (by omega)) b hb).2 (h.out j (by omega) b hb)
  ·
   subst h1; rw [insF_at] at hb; exact hold b (R.rng hu b hb).2 (hvu b hb)
  ·
   rw [insF_gt _ _ h1] at hb; exact hold b (R.rng (h.el (j - 1) (by omega)) b hb).2 (h.out (j - 1) (by omega) b hb)
 ·
  have key : ∀ j, j < n + 1 → insF fs i Fu j b → (j = i ∧ Fu b) ∨ ∃ q, q < n ∧ fs q b ∧ ((j < i ∧ q = j) ∨ (i < j ∧ q + 1 = j)) := fun j hj hb => by
   rcases Nat.lt_trichotomy j i with h1 | h1 | h1
   ·
    rw [insF_lt _ _ h1] at hb; exact .inr ⟨j, by omega, hb, .inl ⟨h1, rfl⟩⟩
   ·
    subst h1; rw [insF_at] at hb; exact .inl ⟨rfl, hb⟩
   ·
    rw [insF_gt _ _ h1] at hb; exact .inr ⟨j - 1, by omega, hb, .inr ⟨h1, by omega⟩⟩
  rcases key j hj h1 with ⟨e1, f1⟩ | ⟨q, hq, f1, g1⟩
  ·
   rcases key k hk h2 with ⟨e2, f2⟩ | ⟨q2, hq2, f2, g2⟩
   ·
    omega
   ·
    exact hd q2 hq2 b f2 f1
  ·
   rcases key k hk h2 with ⟨e2, f2⟩ | ⟨q2, hq2, f2, g2⟩
   ·
    exact hd q hq b f1 f2
   ·
    exact h.sep q q2 hq hq2 (by omega) b f1 f2
theorem NO.ins {α : Type} [Inhabited α] {R : Rep α} {e size : Nat} {lv : Value → List Value} {W W' : World} {base : Nat} {v v' : Value} {i : Nat} {xs : List α} {cs : List Value} {us : Nat → Value} {fs : Nat → Nat → Prop} {u : Value} {x : α} {F Fu : Nat → Prop}
  (h : PO R e size lv W base v xs.length xs.length (fun i => xs.getD i default) cs us fs) (hF : ∀ b, F b ↔ (v.ownBlock = some b ∨ ∃ i, i < xs.length ∧ fs i b)) (hi : i ≤ xs.length) (hu : R.O W base Fu u x) (hl : (lv u).length = size) (hd : ∀ b, F b → ¬ Fu b)
  (hr : W'.ownsRow base e size v' (xs.length + 1) (cs.take (i * size) ++ lv u ++ cs.drop (i * size))) (hm : Mod (fun b => v.ownBlock = some b) W W') (hv : ∀ b, v'.ownBlock = some b → v.ownBlock = some b ∨ W.heap.size ≤ b) :
  ∃ F', NO R e size lv W' base F' v' (xs.take i ++ [x] ++ xs.drop i) ∧ ∀ b, F' b → F b ∨ Fu b ∨ W.heap.size ≤ b := by
 have hp := h.ins hi hu hl (fun j hj b hb => hd b ((hF b).2 (.inr ⟨j, hj, hb⟩))) (fun b hb e => hd b ((hF b).2 (.inl e)) hb) hr hm hv
 have hlen : (xs.take i ++ [x] ++ xs.drop i).length = xs.length + 1 := by simp only [List.length_append, List.length_take, List.length_drop, List.length_cons, List.length_nil]; omega
 refine ⟨fun b => v'.ownBlock = some b ∨ ∃ k, k < xs.length + 1 ∧ insF fs i Fu k b, ⟨cs.take (i * size) ++ lv u ++ cs.drop (i * size), insF us i u, insF fs i Fu, ?_, fun b => by rw [hlen]⟩, fun b hb => ?_⟩
 ·
  rw [hlen]
  exact hp.cast (fun k hk => getD_ins xs x i k hi)
 ·
  rcases hb with hb | ⟨k, hk, hb⟩
  ·
   rcases hv b hb with h1 | h1
   ·
    exact .inl ((hF b).2 (.inl h1))
   ·
    exact .inr (.inr h1)
  ·
   rcases Nat.lt_trichotomy k i with h1 | h1 | h1
   ·
    rw [insF_lt _ _ h1] at hb; exact .inl ((hF b).2 (.inr ⟨k, by omega, hb⟩))
   ·
    subst h1; rw [insF_at] at hb; exact .inr (.inl hb)
   ·
    rw [insF_gt _ _ h1] at hb; exact .inl ((hF b).2 (.inr ⟨k - 1, by omega, hb⟩))
theorem PO.putN {α : Type} {R : Rep α} {e size : Nat} {lv : Value → List Value} {W W' : World} {base : Nat} {v : Value} {n i : Nat} {d : Nat → α} {cs cs' : List Value} {us : Nat → Value} {fs : Nat → Nat → Prop} {u : Value} {x : α} {Fu : Nat → Prop}
  (h : PO R e size lv W base v n n d cs us fs) (hi : i < n) (hu : R.O W base Fu u x) (hl : (lv u).length = size) (hd : ∀ j, j < n → ∀ b, fs j b → ¬ Fu b) (hvu : ∀ b, Fu b → v.ownBlock ≠ some b)
  (hr : W'.ownsRow base e size v n cs') (hm : Mod (fun b => v.ownBlock = some b) W W') (hold : ∀ j, j < n → j ≠ i → ∀ o, o < size → cs'[j * size + o]? = cs[j * size + o]?) (hnew : ∀ o, o < size → cs'[i * size + o]? = (lv u)[o]?) :
  PO R e size lv W' base v n n (upd d i x) cs' (upd us i u) (upd fs i Fu) := by
 refine ⟨hr, fun j hj => ?_, fun j hj => ?_, fun j hj o ho => ?_, fun j hj b hb => ?_, fun j k hj hk hjk b h1 h2 => ?_⟩
 ·
  by_cases e1 : j = i
  ·
   subst e1; rw [upd_at, upd_at, upd_at]; exact R.mod hu hm (fun b hb => hvu b hb)
  ·
   rw [upd_ne _ _ e1, upd_ne _ _ e1, upd_ne _ _ e1]; exact R.mod (h.el j hj) hm (fun b hb => h.out j hj b hb)
 ·
  by_cases e1 : j = i
  ·
   subst e1; rw [upd_at]; exact hl
  ·
   rw [upd_ne _ _ e1]; exact h.ln j hj
 ·
  by_cases e1 : j = i
  ·
   subst e1; rw [upd_at]; exact hnew o ho
  ·
   rw [upd_ne _ _ e1, hold j hj e1 o ho]; exact h.cell j hj o ho
 ·
  by_cases e1 : j = i
  ·
   subst e1; rw [upd_at] at hb; exact hvu b hb
  ·
   rw [upd_ne _ _ e1] at hb; exact h.out j hj b hb
 ·
  by_cases e1 : j = i
  ·
   subst e1
   rw [upd_at] at h1
   rw [upd_ne _ _ (Ne.symm hjk)] at h2
   exact hd k hk b h2 h1
  ·
   rw [upd_ne _ _ e1] at h1
   by_cases e2 : k = i
   ·
    subst e2; rw [upd_at] at h2; exact hd j hj b h1 h2
   ·
    rw [upd_ne _ _ e2] at h2; exact h.sep j k hj hk hjk b h1 h2
theorem getD_set {α : Type} [Inhabited α] (xs : List α) (x : α) (i k : Nat) (hi : i < xs.length) : (xs.set i x).getD k default = upd (fun k => xs.getD k default) i x k := by
 simp only [List.getD_eq_getElem?_getD, List.getElem?_set]
 by_cases e : i = k
 ·
  subst e
  rw [if_pos rfl, if_pos hi, upd_at]
  rfl
 ·
  rw [if_neg e, upd_ne _ _ (Ne.symm e)]
theorem NO.put {α : Type} [Inhabited α] {R : Rep α} {e size : Nat} {lv : Value → List Value} {W W' : World} {base : Nat} {v : Value} {i : Nat} {xs : List α} {cs cs' : List Value} {us : Nat → Value} {fs : Nat → Nat → Prop} {u : Value} {x : α} {F Fu : Nat → Prop}
  (h : PO R e size lv W base v xs.length xs.length (fun i => xs.getD i default) cs us fs) (hF : ∀ b, F b ↔ (v.ownBlock = some b ∨ ∃ i, i < xs.length ∧ fs i b)) (hi : i < xs.length) (hu : R.O W base Fu u x) (hl : (lv u).length = size) (hd : ∀ b, F b → ¬ Fu b)
  (hr : W'.ownsRow base e size v xs.length cs') (hm : Mod (fun b => v.ownBlock = some b) W W') (hold : ∀ j, j < xs.length → j ≠ i → ∀ o, o < size → cs'[j * size + o]? = cs[j * size + o]?) (hnew : ∀ o, o < size → cs'[i * size + o]? = (lv u)[o]?) :
  ∃ F', NO R e size lv W' base F' v (xs.set i x) ∧ ∀ b, F' b → F b ∨ Fu b := by
 have hp := h.putN hi hu hl (fun j hj b hb => hd b ((hF b).2 (.inr ⟨j, hj, hb⟩))) (fun b hb e => hd b ((hF b).2 (.inl e)) hb) hr hm hold hnew
 have hlen : (xs.set i x).length = xs.length := by simp
 refine ⟨fun b => v.ownBlock = some b ∨ ∃ k, k < xs.length ∧ upd fs i Fu k b, ⟨cs', upd us i u, upd fs i Fu, ?_, fun b => by rw [hlen]⟩, fun b hb => ?_⟩
 ·
  rw [hlen]
  exact hp.cast (fun k hk => getD_set xs x i k hi)
 ·
  rcases hb with hb | ⟨k, hk, hb⟩
  ·
   exact .inl ((hF b).2 (.inl hb))
  ·
   by_cases e1 : k = i
   ·
    subst e1; rw [upd_at] at hb; exact .inr hb
   ·
    rw [upd_ne _ _ e1] at hb; exact .inl ((hF b).2 (.inr ⟨k, hk, hb⟩))
theorem run_appN (w : World) {α : Type} [Inhabited α] {R : Rep α} {lv : Value → List Value} (t ty e : TypeId) (i : TypeInfo) (z : Value) (size bytes : Nat) (ht : Tryz.prog.underlying t = some (.slice e)) (hi : Tryz.prog.info? e = some i) (hz : i.zero = some z)
  (hsize : i.size = size) (hby : i.bytes = bytes) (hzs : z.cells.size = size) (hsz : 0 < size) (hb1 : bytes ≤ 1000)
  (base : Nat) {F Fu : Nat → Prop} (v u : Value) (xs : List α) (x : α) (hown : NO R e size lv w base F v xs) (hu : R.O w base Fu u x) (hl : (lv u).length = size) (h1 : ∀ y ∈ lv u, y.oneCell' = true) (hd : ∀ b, F b → ¬ Fu b)
  (ad : Addr) (c : Nat) (hc : ∀ j y, (lv u)[j]? = some y → w.cell? (ad.add j) = some y) (hn : xs.length ≤ 2000000) (hbase : base ≤ w.heap.size) :
  ∃ v' w' F', (Builtin.append_ #[t, t] ty #[v, .slice (some ad) 1 c]).run Tryz.prog w = .ok v' w' ∧ NO R e size lv w' base F' v' (xs ++ [x]) ∧ w.grownBy w' v.ownBlock ∧ (∀ b, F' b → F b ∨ Fu b ∨ w.heap.size ≤ b) := by
 obtain ⟨cs, us, fs, hp, hF⟩ := hown
 obtain ⟨v', w', hr, h2, h3, h4, h5⟩ := run_append_own_at (P := Tryz.prog) w base t ty e i z size bytes ht hi hz hsize hby hzs hsz v xs.length cs hp.row ad 1 c (lv u) (by omega) hc h1 (by unfold maxLen; omega) (Nat.le_trans (Nat.mul_le_mul_left _ hb1) (by omega)) hbase
 have hcl : cs.length = xs.length * size := hp.row.1
 have e1 : cs.take (xs.length * size) ++ lv u ++ cs.drop (xs.length * size) = cs ++ lv u := by
  rw [List.take_of_length_le (by omega), List.drop_of_length_le (by omega), List.append_nil]
 obtain ⟨F', h6, h7⟩ := NO.ins hp hF (Nat.le_refl _) hu hl hd (by rw [e1]; exact h2) (Mod.of_grown h3) (fun b hb => by
  rcases h5 with h5 | h5
  ·
   exact .inl (h5 ▸ hb)
  ·
   rw [h5] at hb
   simp only [Option.some.injEq] at hb
   exact .inr (by omega))
 rw [List.take_of_length_le (Nat.le_refl _), List.drop_of_length_le (Nat.le_refl _), List.append_nil] at h6
 exact ⟨v', w', F', hr, h6, h3, h7⟩
theorem wpl_appR {w : World} {ops : Array Oper} {rest : List Oper} {o : Oper} {a : Act} {Q : Exit → Act → World → Prop} (hgd : o.guard = none) (s x : Operand) (t t' : TypeId)
  (ho : o.op = .call { callee := .builtin .append, args := #[s, x], argTypes := #[t, t'] }) (v u : Value) (hs : a.eval s = v) (hx : a.eval x = u) {v' : Value} {w' : World}
  (hr : (Builtin.append_ #[t, t'] o.type #[v, u]).run Tryz.prog w = .ok v' w') (h : wpList Tryz.prog ops Q rest (a.put o.dst v') w') : wpList Tryz.prog ops Q (o :: rest) a w := by
 refine wpList_plain hgd fun K hK => ?_
 unfold Oper.wp execOp
 simp only [ho, resolve, invoke, builtin, Sem.run_bind, Sem.run_pure, Result.andThen_ok, List.map_toArray, List.map_cons, List.map_nil, hs, hx, hr]
 exact hK _ _ h
theorem step_appR {ops : Array Oper} {o : Oper} {a : Act} {w : World} {K : Act → World → Prop} {Q : Exit → Act → World → Prop} {E : Prop} (hgd : o.guard = none) (s x : Operand) (t t' : TypeId)
  (ho : o.op = .call { callee := .builtin .append, args := #[s, x], argTypes := #[t, t'] }) (v u : Value) (hs : a.eval s = v) (hx : a.eval x = u) {v' : Value} {w' : World}
  (hr : (Builtin.append_ #[t, t'] o.type #[v, u]).run Tryz.prog w = .ok v' w') (hK : K (a.put o.dst v') w') :
  if Region.wanted o (yielded ops a.tmps) = true then Oper.wp Tryz.prog o a w K Q else E := by
 have hw : Region.wanted o (yielded ops a.tmps) = true := by simp [Region.wanted, hgd]
 rw [if_pos hw]
 unfold Oper.wp execOp
 simp only [ho, resolve, invoke, builtin, Sem.run_bind, Sem.run_pure, Result.andThen_ok, List.map_toArray, List.map_cons, List.map_nil, hs, hx, hr]
 exact hK
theorem wpl_appN (w : World) {α : Type} [Inhabited α] {R : Rep α} {lv : Value → List Value} {ops : Array Oper} {rest : List Oper} {o : Oper} {a : Act} {Q : Exit → Act → World → Prop} (hgd : o.guard = none) (s x : Operand) (t : TypeId)
  (ho : o.op = .call { callee := .builtin .append, args := #[s, x], argTypes := #[t, t] }) (e : TypeId) (i : TypeInfo) (z : Value) (size bytes : Nat) (ht : Tryz.prog.underlying t = some (.slice e)) (hi : Tryz.prog.info? e = some i) (hz : i.zero = some z)
  (hsize : i.size = size) (hby : i.bytes = bytes) (hzs : z.cells.size = size) (hsz : 0 < size) (hb1 : bytes ≤ 1000)
  (base : Nat) (F Fu : Nat → Prop) (v u : Value) (xs : List α) (y : α) (ad : Addr) (c : Nat) (hs : a.eval s = v) (hx : a.eval x = .slice (some ad) 1 c) (hown : NO R e size lv w base F v xs) (hu : R.O w base Fu u y) (hl : (lv u).length = size) (h1 : ∀ y ∈ lv u, y.oneCell' = true) (hd : ∀ b, F b → ¬ Fu b)
  (hc : ∀ j y, (lv u)[j]? = some y → w.cell? (ad.add j) = some y) (hn : xs.length ≤ 2000000) (hbase : base ≤ w.heap.size)
  (h : ∀ v' w' F', NO R e size lv w' base F' v' (xs ++ [y]) → Below base w w' → (∀ b, F' b → F b ∨ Fu b ∨ w.heap.size ≤ b) → wpList Tryz.prog ops Q rest (a.put o.dst v') w') : wpList Tryz.prog ops Q (o :: rest) a w := by
 obtain ⟨v', w', F', hr, h2, h3, h4⟩ := run_appN w t o.type e i z size bytes ht hi hz hsize hby hzs hsz hb1 base v u xs y hown hu hl h1 hd ad c hc hn hbase
 obtain ⟨cs, us, fs, hp, hF⟩ := hown
 exact wpl_appR hgd s x t t ho v _ hs hx hr (h v' w' F' h2 ((Below.refl base w).grown h3 hbase (fun b e => (hp.row.lt b e).1)) h4)
theorem step_appN (w : World) {α : Type} [Inhabited α] {R : Rep α} {lv : Value → List Value} {ops : Array Oper} {o : Oper} {a : Act} {K : Act → World → Prop} {Q : Exit → Act → World → Prop} {E : Prop} (hgd : o.guard = none) (s x : Operand) (t : TypeId)
  (ho : o.op = .call { callee := .builtin .append, args := #[s, x], argTypes := #[t, t] }) (e : TypeId) (i : TypeInfo) (z : Value) (size bytes : Nat) (ht : Tryz.prog.underlying t = some (.slice e)) (hi : Tryz.prog.info? e = some i) (hz : i.zero = some z)
  (hsize : i.size = size) (hby : i.bytes = bytes) (hzs : z.cells.size = size) (hsz : 0 < size) (hb1 : bytes ≤ 1000)
  (base : Nat) (F Fu : Nat → Prop) (v u : Value) (xs : List α) (y : α) (ad : Addr) (c : Nat) (hs : a.eval s = v) (hx : a.eval x = .slice (some ad) 1 c) (hown : NO R e size lv w base F v xs) (hu : R.O w base Fu u y) (hl : (lv u).length = size) (h1 : ∀ y ∈ lv u, y.oneCell' = true) (hd : ∀ b, F b → ¬ Fu b)
  (hc : ∀ j y, (lv u)[j]? = some y → w.cell? (ad.add j) = some y) (hn : xs.length ≤ 2000000) (hbase : base ≤ w.heap.size)
  (h : ∀ v' w' F', NO R e size lv w' base F' v' (xs ++ [y]) → Below base w w' → (∀ b, F' b → F b ∨ Fu b ∨ w.heap.size ≤ b) → K (a.put o.dst v') w') :
  if Region.wanted o (yielded ops a.tmps) = true then Oper.wp Tryz.prog o a w K Q else E := by
 obtain ⟨v', w', F', hr, h2, h3, h4⟩ := run_appN w t o.type e i z size bytes ht hi hz hsize hby hzs hsz hb1 base v u xs y hown hu hl h1 hd ad c hc hn hbase
 obtain ⟨cs, us, fs, hp, hF⟩ := hown
 exact step_appR hgd s x t t ho v _ hs hx hr (h v' w' F' h2 ((Below.refl base w).grown h3 hbase (fun b e => (hp.row.lt b e).1)) h4)
end Go.Proofs.YtndghenlapbaaaaGreat

/-
 Decisions, in mathematics.
-/
namespace Go.Proofs.YtndghenlapbaaaaGreat
open Go.RowKit
variable [DecidableEq Rw] [Inhabited Rw] [DecidableEq Bal] [Inhabited Bal] [DecidableEq Ledg] [Inhabited Ledg] [DecidableEq Leg] [Inhabited Leg] [DecidableEq Cont] [Inhabited Cont] [DecidableEq LedgR] [Inhabited LedgR] [DecidableEq OutcR] [Inhabited OutcR] [DecidableEq Mrk] [Inhabited Mrk] [DecidableEq Shd] [Inhabited Shd] [DecidableEq ShdR] [Inhabited ShdR]
attribute [local go_sem ↓] Go.wp_at_zero Go.wp_at_succ

theorem settle_facts2 {g : Ledg} {ls : List Leg} (h0 : ledFault g = 0) (hl : ∀ x ∈ ls, legFault x = 0 ∧ x.sh < (g.shards.length : Int)) (h8 : ls.length ≤ 8) : (1 ≤ g.shards.length ∧ g.shards.length ≤ 3) ∧ (∀ i, i < g.shards.length → RiseB (g.shards.getD i default)) ∧ (∀ l ∈ ls, keyOk l.ac l.ast = true) ∧ (∀ l ∈ ls, 0 ≤ l.sh ∧ l.sh < (g.shards.length : Int)) ∧
  ∀ k, k < ls.length → kwf (ls.getD k default).sh (ls.getD k default).ac (ls.getD k default).ast ∧ -9223372036854775808 ≤ (addLs (bookF g.shards) (ls.take k) (ls.getD k default).sh (ls.getD k default).ac (ls.getD k default).ast).getD 0 + (ls.getD k default).am ∧ (addLs (bookF g.shards) (ls.take k) (ls.getD k default).sh (ls.getD k default).ac (ls.getD k default).ast).getD 0 + (ls.getD k default).am ≤ 9223372036854775807 := by
 obtain ⟨hn0, hn, hbk⟩ := ledOk_of h0
 refine ⟨⟨hn0, hn⟩, fun i hi => rise_of (hbk i hi), fun l h => ?_, fun l h => ?_, fun k hk => ?_⟩
 ·
  have hz := legFault_zero (hl l h).1
  exact keyOk_iff.2 ⟨hz.2.1, hz.2.2.1⟩
 ·
  exact ⟨(legFault_zero (hl l h).1).1.1, (hl l h).2⟩
 ·
  have e : ls.getD k default = ls[k] := by simp [List.getD, hk]
  have hz := legFault_zero (hl _ (List.getElem_mem hk)).1
  rw [e]
  have hb := addLs_bound (bookF_bound h0) (ls.take k) (fun l hm => (legFault_zero (hl l (List.mem_of_mem_take hm)).1).2.2.2.1) ls[k].sh ls[k].ac ls[k].ast
  rw [List.length_take] at hb
  have hs := (hl _ (List.getElem_mem hk)).2
  refine ⟨⟨wf_of (by omega) (by omega), wf_of (by omega) (by omega), wf_of (by omega) (by omega)⟩, ?_, ?_⟩ <;> omega
theorem onSh_twice (s : Int) (ls : List Leg) : onSh s (onSh s ls) = onSh s ls := by
 unfold onSh
 rw [List.filter_filter]
 congr 1
 funext l
 simp
theorem here_settle {idx : Int} {bs : List Bal} {ls : List Leg} (h : 0 ≤ idx ∧ idx ≤ 2) : (settleL (hereG idx bs) (onSh idx ls)).getD idx.toNat default = addB bs (onSh idx ls) := by
 rw [settleL_get _ _ (by show idx.toNat < 3; omega)]
 unfold settleAt
 rw [hereG_at h]
 have e : ((idx.toNat : Nat) : Int) = idx := by omega
 rw [e, onSh_twice]
theorem heldIn_legs {hs : List Cont} {k : Int} {i : Nat} (hi : i < hs.length) (he : (hs.getD i default).id = k) (hb : ∀ j, j < i → (hs.getD j default).id < k) : legsOf k hs = (hs.getD i default).legs := by
 induction hs generalizing i with
 | nil => simp at hi
 | cons x r ih =>
  cases i with
  | zero =>
   simp only [List.getD_cons_zero] at he ⊢
   simp [legsOf, he]
  | succ i =>
   have h0 := hb 0 (by omega)
   simp only [List.getD_cons_zero] at h0
   have hne : ¬ x.id = k := by omega
   simp only [legsOf, if_neg hne]
   simp only [List.getD_cons_succ] at he ⊢
   exact ih (by simpa using hi) he (fun j hj => by have := hb (j + 1) (by omega); simpa using this)
theorem leftC_none {hs : List Cont} {k : Int} (h : heldIn hs k = false) : leftC k hs = hs := by
 unfold leftC
 rw [List.filter_eq_self]
 intro c hc
 unfold heldIn at h
 rw [List.any_eq_false] at h
 have := h c hc
 simpa using this
def keepJ (hs : List Cont) (k : Int) (n : Nat) : List Nat := (List.range n).filter (fun j => !((hs.getD j default).id == k))
theorem keepJ_succ (hs : List Cont) (k : Int) (n : Nat) : keepJ hs k (n + 1) = if (hs.getD n default).id = k then keepJ hs k n else keepJ hs k n ++ [n] := by
 unfold keepJ
 rw [List.range_succ, List.filter_append]
 by_cases h : (hs.getD n default).id = k
 ·
  rw [if_pos h, List.filter_cons_of_neg (by simp only [h]; simp)]
  simp
 ·
  rw [if_neg h, List.filter_cons_of_pos (by simp only [Bool.not_eq_true', beq_eq_false_iff_ne]; exact h)]
  simp
theorem keepJ_lt {hs : List Cont} {k : Int} {n j : Nat} (h : j ∈ keepJ hs k n) : j < n := List.mem_range.1 (List.mem_filter.1 h).1
theorem keepJ_le (hs : List Cont) (k : Int) (n : Nat) : (keepJ hs k n).length ≤ n := by
 have := List.length_filter_le (fun j => !((hs.getD j default).id == k)) (List.range n)
 rw [List.length_range] at this
 exact this
theorem keepJ_left (hs : List Cont) (k : Int) : (keepJ hs k hs.length).map (fun j => hs.getD j default) = leftC k hs := by
 have e : hs = (List.range hs.length).map (fun j => hs.getD j default) := by
  refine List.ext_getElem (by simp) (fun i h1 h2 => ?_)
  simp [List.getD, h1]
 unfold keepJ leftC
 conv => rhs; rw [e]
 rw [List.filter_map]
 rfl
theorem keepJ_nodup (hs : List Cont) (k : Int) (n : Nat) : (keepJ hs k n).Nodup := by
 unfold keepJ List.Nodup
 exact List.Pairwise.filter _ List.nodup_range
theorem flat_get {f : Nat → List Value} {size : Nat} : ∀ (js : List Nat), (∀ j ∈ js, (f j).length = size) → ∀ i, i < js.length → ∀ o, o < size → (js.flatMap f)[i * size + o]? = (f (js.getD i 0))[o]?
 | [], _, i, hi, _, _ => by simp at hi
 | j :: js, h, 0, _, o, ho => by
  have hl := h j (List.mem_cons_self ..)
  rw [List.flatMap_cons, List.getElem?_append_left (by omega)]
  simp
 | j :: js, h, i + 1, hi, o, ho => by
  have hl := h j (List.mem_cons_self ..)
  have ih := flat_get js (fun x hx => h x (List.mem_cons_of_mem _ hx)) i (by simpa using hi) o ho
  have e : (i + 1) * size = i * size + size := Nat.succ_mul _ _
  rw [List.flatMap_cons, List.getElem?_append_right (by omega), hl, e, show i * size + size + o - size = i * size + o by omega, ih]
  simp
theorem NO.pick {α : Type} [Inhabited α] {R : Rep α} {e size : Nat} {lv : Value → List Value} {W : World} {base : Nat} {v' : Value} {xs : List α} {us : Nat → Value} {fs : Nat → Nat → Prop} (js : List Nat)
  (hel : ∀ j, j < xs.length → R.O W base (fs j) (us j) (xs.getD j default)) (hln : ∀ j, j < xs.length → (lv (us j)).length = size) (hsep : ∀ j k, j < xs.length → k < xs.length → j ≠ k → ∀ b, fs j b → ¬ fs k b)
  (hjs : ∀ j ∈ js, j < xs.length) (hnd : js.Nodup) (hr : W.ownsRow base e size v' js.length (js.flatMap (fun j => lv (us j)))) (hv : ∀ b, v'.ownBlock = some b → ∀ j, j < xs.length → ¬ fs j b) :
  ∃ F', NO R e size lv W base F' v' (js.map (fun j => xs.getD j default)) ∧ ∀ b, F' b → v'.ownBlock = some b ∨ ∃ j, j < xs.length ∧ fs j b := by
 have hj : ∀ i, i < js.length → js.getD i 0 < xs.length := fun i hi => hjs _ (by simp [List.getD, hi])
 have hlen : (js.map (fun j => xs.getD j default)).length = js.length := List.length_map ..
 refine ⟨fun b => v'.ownBlock = some b ∨ ∃ i, i < js.length ∧ fs (js.getD i 0) b, ⟨js.flatMap (fun j => lv (us j)), fun i => us (js.getD i 0), fun i => fs (js.getD i 0), ?_, fun b => by rw [hlen]⟩, fun b hb => ?_⟩
 ·
  rw [hlen]
  refine ⟨hr, fun i hi => ?_, fun i hi => hln _ (hj i hi), fun i hi o ho => ?_, fun i hi b hb e => hv b e _ (hj i hi) hb, fun i k hi hk hik b h1 h2 => ?_⟩
  ·
   have h := hel _ (hj i hi)
   have e : (js.map (fun j => xs.getD j default)).getD i default = xs.getD (js.getD i 0) default := by simp [List.getD, hi]
   rw [e]
   exact h
  ·
   exact flat_get js (fun j hj' => hln j (hjs j hj')) i hi o ho
  ·
   refine hsep _ _ (hj i hi) (hj k hk) (fun e => ?_) b h1 h2
   unfold List.Nodup at hnd
   rw [List.pairwise_iff_getElem] at hnd
   have e1 : js.getD i 0 = js[i] := by simp [List.getD, hi]
   have e2 : js.getD k 0 = js[k] := by simp [List.getD, hk]
   rw [e1, e2] at e
   rcases Nat.lt_trichotomy i k with h | h | h
   ·
    exact hnd i k hi hk h e
   ·
    exact hik h
   ·
    exact hnd k i hk hi h e.symm
 ·
  rcases hb with hb | ⟨i, hi, hb⟩
  ·
   exact .inl hb
  ·
   exact .inr ⟨_, hj i hi, hb⟩
end Go.Proofs.YtndghenlapbaaaaGreat

/-
 Appending legs, marks, numbers, balances that lie anywhere.
-/
namespace Go.Proofs.YtndghenlapbaaaaGreat
open Go.RowKit
variable [DecidableEq Leg] [Inhabited Leg] [DecidableEq Mrk] [Inhabited Mrk] [DecidableEq Bal] [Inhabited Bal]
attribute [local go_sem ↓] Go.wp_at_zero Go.wp_at_succ

theorem appAny_legs10 {w : World} {v : Value} {xs : List Leg} (h : legsR.V w v xs) : AppAny w v xs.length (legsC xs) := by
 obtain ⟨a, c, rfl, _, _, hc⟩ := h
 cases a with
 | none =>
  have h0 : xs = [] := by
   cases xs with
   | nil => rfl
   | cons x r => obtain ⟨b, o, e, _⟩ := hc 0 (by simp); cases e
  subst h0
  exact .inl ⟨c, rfl, rfl, rfl⟩
 | some ad =>
  refine .inr ⟨ad, c, rfl, fun j x hj => ?_⟩
  have hjl : j < xs.length * 4 := by
   have := (List.getElem?_eq_some_iff.1 hj).1
   rw [length_legsC] at this
   exact this
  have hi : j / 4 < xs.length := by omega
  obtain ⟨b, o, e, g0, g1, g2, g3⟩ := hc (j / 4) hi
  obtain ⟨q0, q1, q2, q3⟩ := getLegsC xs (j / 4) hi
  simp only [Option.some.injEq] at e
  subst e
  have hadd : (Addr.mk b o none).add j = ⟨b, o + j, none⟩ := by
   by_cases h : j = 0
   ·
    subst h; simp [Addr.add]
   ·
    simp [Addr.add, h]
  rw [hadd]
  have hm : j % 4 = 0 ∨ j % 4 = 1 ∨ j % 4 = 2 ∨ j % 4 = 3 := by omega
  rcases hm with hm | hm | hm | hm
  ·
   have e : j = j / 4 * 4 := by omega
   have e2 : o + j = o + j / 4 * 4 := by omega
   rw [e2, g0]
   rw [e, q0] at hj
   exact hj
  ·
   have e : j = j / 4 * 4 + 1 := by omega
   have e2 : o + j = o + j / 4 * 4 + 1 := by omega
   rw [e2, g1]
   rw [e, q1] at hj
   exact hj
  ·
   have e : j = j / 4 * 4 + 2 := by omega
   have e2 : o + j = o + j / 4 * 4 + 2 := by omega
   rw [e2, g2]
   rw [e, q2] at hj
   exact hj
  ·
   have e : j = j / 4 * 4 + 3 := by omega
   have e2 : o + j = o + j / 4 * 4 + 3 := by omega
   rw [e2, g3]
   rw [e, q3] at hj
   exact hj
theorem appAny_mrks10 {w : World} {v : Value} {xs : List Mrk} (h : mrksR.V w v xs) : AppAny w v xs.length (mrksC xs) := by
 obtain ⟨a, c, rfl, _, _, hc⟩ := h
 cases a with
 | none =>
  have h0 : xs = [] := by
   cases xs with
   | nil => rfl
   | cons x r => obtain ⟨b, o, e, _⟩ := hc 0 (by simp); cases e
  subst h0
  exact .inl ⟨c, rfl, rfl, rfl⟩
 | some ad =>
  refine .inr ⟨ad, c, rfl, fun j x hj => ?_⟩
  have hjl : j < xs.length * 2 := by
   have := (List.getElem?_eq_some_iff.1 hj).1
   rw [length_mrksC] at this
   exact this
  have hi : j / 2 < xs.length := by omega
  obtain ⟨b, o, e, g0, g1⟩ := hc (j / 2) hi
  obtain ⟨q0, q1⟩ := get_mrksC xs (j / 2) hi
  simp only [Option.some.injEq] at e
  subst e
  have hadd : (Addr.mk b o none).add j = ⟨b, o + j, none⟩ := by
   by_cases h : j = 0
   ·
    subst h; simp [Addr.add]
   ·
    simp [Addr.add, h]
  rw [hadd]
  have hm : j % 2 = 0 ∨ j % 2 = 1 := by omega
  rcases hm with hm | hm
  ·
   have e : j = j / 2 * 2 := by omega
   have e2 : o + j = o + j / 2 * 2 := by omega
   rw [e2, g0]
   rw [e, q0] at hj
   exact hj
  ·
   have e : j = j / 2 * 2 + 1 := by omega
   have e2 : o + j = o + j / 2 * 2 + 1 := by omega
   rw [e2, g1]
   rw [e, q1] at hj
   exact hj
theorem length_intsC' (xs : List Int) : (intsC xs).length = xs.length := by simp [intsC]
theorem appAny_ints {w : World} {v : Value} {xs : List Int} (h : IntsV w v xs) : AppAny w v xs.length (intsC xs) := by
 obtain ⟨a, c, rfl, _, _, hc⟩ := h
 cases a with
 | none =>
  have h0 : xs = [] := by
   cases xs with
   | nil => rfl
   | cons x r => obtain ⟨b, o, e, _⟩ := hc 0 (by simp); cases e
  subst h0
  exact .inl ⟨c, rfl, rfl, rfl⟩
 | some ad =>
  refine .inr ⟨ad, c, rfl, fun j x hj => ?_⟩
  have hi : j < xs.length := by
   have := (List.getElem?_eq_some_iff.1 hj).1
   rw [length_intsC'] at this
   exact this
  obtain ⟨b, o, e, g0⟩ := hc j hi
  simp only [Option.some.injEq] at e
  subst e
  have hadd : (Addr.mk b o none).add j = ⟨b, o + j, none⟩ := by
   by_cases h : j = 0
   ·
    subst h; simp [Addr.add]
   ·
    simp [Addr.add, h]
  rw [hadd, g0]
  simp [intsC, hi] at hj
  simp [List.getD, hi, hj]
theorem legs_one10 (xs : List Leg) : ∀ u ∈ legsC xs, u.oneCell' = true := by
 intro u hu
 simp only [legsC, List.mem_flatMap] at hu
 obtain ⟨b, _, hb⟩ := hu
 simp [legC] at hb
 rcases hb with rfl | rfl | rfl | rfl <;> rfl
theorem legs_app10 (xs ys : List Leg) : legsC (xs ++ ys) = legsC xs ++ legsC ys := by simp [legsC]
theorem mrks_one10 (xs : List Mrk) : ∀ u ∈ mrksC xs, u.oneCell' = true := by
 intro u hu
 simp only [mrksC, List.mem_flatMap] at hu
 obtain ⟨b, _, hb⟩ := hu
 simp [mrkC] at hb
 rcases hb with rfl | rfl <;> rfl
theorem mrks_app10 (xs ys : List Mrk) : mrksC (xs ++ ys) = mrksC xs ++ mrksC ys := by simp [mrksC]
theorem bals_one10 (xs : List Bal) : ∀ u ∈ balsC xs, u.oneCell' = true := by
 intro u hu
 simp only [balsC, List.mem_flatMap] at hu
 obtain ⟨b, _, hb⟩ := hu
 simp [balC] at hb
 rcases hb with rfl | rfl | rfl <;> rfl
theorem bals_app10 (xs ys : List Bal) : balsC (xs ++ ys) = balsC xs ++ balsC ys := by simp [balsC]
theorem ints_one10 (xs : List Int) : ∀ u ∈ intsC xs, u.oneCell' = true := by
 intro u hu
 simp only [intsC, List.mem_map] at hu
 obtain ⟨b, _, rfl⟩ := hu
 rfl
theorem ints_app10 (xs ys : List Int) : intsC (xs ++ ys) = intsC xs ++ intsC ys := by simp [intsC]
theorem step_app10L (w : World) {ops : Array Oper} {o : Oper} {a : Act} {K : Act → World → Prop} {Q : Exit → Act → World → Prop} {E : Prop} (hgd : o.guard = none) (s x : Operand)
  (ho : o.op = .call { callee := .builtin .append, args := #[s, x], argTypes := #[42, 42] })
  (base : Nat) (v : Value) (xs : List Leg) (hs : a.eval s = v) (u : Value) (ys : List Leg) (hx : a.eval x = u)
  (hown : w.ownsRow base 93 4 v xs.length (legsC xs)) (hsrc : AppAny w u ys.length (legsC ys)) (hlen : xs.length + ys.length ≤ 1073741824) (hbase : base ≤ w.heap.size)
  (h : ∀ v' w', w'.ownsRow base 93 4 v' (xs ++ ys).length (legsC (xs ++ ys)) → w.grownBy w' v.ownBlock → (∀ W : World, Below base W w → Below base W w') → K (a.put o.dst v') w') :
  if Region.wanted o (yielded ops a.tmps) = true then Oper.wp Tryz.prog o a w K Q else E := by
 obtain ⟨i0, hi, hz0, hz1, hz2⟩ := info_parts infoLeg
 refine step_appAny w hgd s x 42 ho base 93 i0 _ 4 32 Tryz.underlying42 hi hz0 hz1 hz2 rfl (by decide) v xs.length (legsC xs) hs u ys.length (legsC ys) hx hown hsrc (by rw [length_legsC]) (legs_one10 ys) (by unfold maxLen; omega) (by omega) hbase ?_
 intro v' w' h1 h2 h3
 refine h v' w' ?_ h2 h3
 rw [List.length_append, legs_app10]
 exact h1
theorem wpList_app10L (w : World) {ops : Array Oper} {rest : List Oper} {o : Oper} {a : Act} {Q : Exit → Act → World → Prop} (hgd : o.guard = none) (s x : Operand)
  (ho : o.op = .call { callee := .builtin .append, args := #[s, x], argTypes := #[42, 42] })
  (base : Nat) (v : Value) (xs : List Leg) (hs : a.eval s = v) (u : Value) (ys : List Leg) (hx : a.eval x = u)
  (hown : w.ownsRow base 93 4 v xs.length (legsC xs)) (hsrc : AppAny w u ys.length (legsC ys)) (hlen : xs.length + ys.length ≤ 1073741824) (hbase : base ≤ w.heap.size)
  (h : ∀ v' w', w'.ownsRow base 93 4 v' (xs ++ ys).length (legsC (xs ++ ys)) → w.grownBy w' v.ownBlock → (∀ W : World, Below base W w → Below base W w') → wpList Tryz.prog ops Q rest (a.put o.dst v') w') :
  wpList Tryz.prog ops Q (o :: rest) a w := by
 obtain ⟨i0, hi, hz0, hz1, hz2⟩ := info_parts infoLeg
 refine wpList_appAny w hgd s x 42 ho base 93 i0 _ 4 32 Tryz.underlying42 hi hz0 hz1 hz2 rfl (by decide) v xs.length (legsC xs) hs u ys.length (legsC ys) hx hown hsrc (by rw [length_legsC]) (legs_one10 ys) (by unfold maxLen; omega) (by omega) hbase ?_
 intro v' w' h1 h2 h3
 refine h v' w' ?_ h2 h3
 rw [List.length_append, legs_app10]
 exact h1
theorem step_app10M (w : World) {ops : Array Oper} {o : Oper} {a : Act} {K : Act → World → Prop} {Q : Exit → Act → World → Prop} {E : Prop} (hgd : o.guard = none) (s x : Operand)
  (ho : o.op = .call { callee := .builtin .append, args := #[s, x], argTypes := #[34, 34] })
  (base : Nat) (v : Value) (xs : List Mrk) (hs : a.eval s = v) (u : Value) (ys : List Mrk) (hx : a.eval x = u)
  (hown : w.ownsRow base 89 2 v xs.length (mrksC xs)) (hsrc : AppAny w u ys.length (mrksC ys)) (hlen : xs.length + ys.length ≤ 1073741824) (hbase : base ≤ w.heap.size)
  (h : ∀ v' w', w'.ownsRow base 89 2 v' (xs ++ ys).length (mrksC (xs ++ ys)) → w.grownBy w' v.ownBlock → (∀ W : World, Below base W w → Below base W w') → K (a.put o.dst v') w') :
  if Region.wanted o (yielded ops a.tmps) = true then Oper.wp Tryz.prog o a w K Q else E := by
 obtain ⟨i0, hi, hz0, hz1, hz2⟩ := info_parts infoMrk
 refine step_appAny w hgd s x 34 ho base 89 i0 _ 2 16 Tryz.underlying34 hi hz0 hz1 hz2 rfl (by decide) v xs.length (mrksC xs) hs u ys.length (mrksC ys) hx hown hsrc (by rw [length_mrksC]) (mrks_one10 ys) (by unfold maxLen; omega) (by omega) hbase ?_
 intro v' w' h1 h2 h3
 refine h v' w' ?_ h2 h3
 rw [List.length_append, mrks_app10]
 exact h1
theorem step_app10B (w : World) {ops : Array Oper} {o : Oper} {a : Act} {K : Act → World → Prop} {Q : Exit → Act → World → Prop} {E : Prop} (hgd : o.guard = none) (s x : Operand)
  (ho : o.op = .call { callee := .builtin .append, args := #[s, x], argTypes := #[33, 33] })
  (base : Nat) (v : Value) (xs : List Bal) (hs : a.eval s = v) (u : Value) (ys : List Bal) (hx : a.eval x = u)
  (hown : w.ownsRow base 99 3 v xs.length (balsC xs)) (hsrc : AppAny w u ys.length (balsC ys)) (hlen : xs.length + ys.length ≤ 1073741824) (hbase : base ≤ w.heap.size)
  (h : ∀ v' w', w'.ownsRow base 99 3 v' (xs ++ ys).length (balsC (xs ++ ys)) → w.grownBy w' v.ownBlock → (∀ W : World, Below base W w → Below base W w') → K (a.put o.dst v') w') :
  if Region.wanted o (yielded ops a.tmps) = true then Oper.wp Tryz.prog o a w K Q else E := by
 obtain ⟨i0, hi, hz0, hz1, hz2⟩ := info_parts infoBal
 refine step_appAny w hgd s x 33 ho base 99 i0 _ 3 24 Tryz.underlying33 hi hz0 hz1 hz2 rfl (by decide) v xs.length (balsC xs) hs u ys.length (balsC ys) hx hown hsrc (by rw [length_balsC]) (bals_one10 ys) (by unfold maxLen; omega) (by omega) hbase ?_
 intro v' w' h1 h2 h3
 refine h v' w' ?_ h2 h3
 rw [List.length_append, bals_app10]
 exact h1
theorem step_app10I (w : World) {ops : Array Oper} {o : Oper} {a : Act} {K : Act → World → Prop} {Q : Exit → Act → World → Prop} {E : Prop} (hgd : o.guard = none) (s x : Operand)
  (ho : o.op = .call { callee := .builtin .append, args := #[s, x], argTypes := #[25, 25] })
  (base : Nat) (v : Value) (xs : List Int) (hs : a.eval s = v) (u : Value) (ys : List Int) (hx : a.eval x = u)
  (hown : w.ownsRow base 2 1 v xs.length (intsC xs)) (hsrc : AppAny w u ys.length (intsC ys)) (hlen : xs.length + ys.length ≤ 1073741824) (hbase : base ≤ w.heap.size)
  (h : ∀ v' w', w'.ownsRow base 2 1 v' (xs ++ ys).length (intsC (xs ++ ys)) → w.grownBy w' v.ownBlock → (∀ W : World, Below base W w → Below base W w') → K (a.put o.dst v') w') :
  if Region.wanted o (yielded ops a.tmps) = true then Oper.wp Tryz.prog o a w K Q else E := by
 obtain ⟨i0, hi, hz0, hz1, hz2⟩ := info_parts infoInt
 refine step_appAny w hgd s x 25 ho base 2 i0 _ 1 8 Tryz.underlying25 hi hz0 hz1 hz2 rfl (by decide) v xs.length (intsC xs) hs u ys.length (intsC ys) hx hown hsrc (by rw [length_intsC', Nat.mul_one]) (ints_one10 ys) (by unfold maxLen; omega) (by omega) hbase ?_
 intro v' w' h1 h2 h3
 refine h v' w' ?_ h2 h3
 rw [List.length_append, ints_app10]
 exact h1
end Go.Proofs.YtndghenlapbaaaaGreat


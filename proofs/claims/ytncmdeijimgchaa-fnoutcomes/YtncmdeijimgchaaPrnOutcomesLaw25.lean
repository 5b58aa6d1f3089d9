import Derived.Test.YtncmdeijimgchaaPrnOutcomesLaw23
import Derived.Test.YtncmdeijimgchaaPrnOutcomesLaw24
import Derived.Test.YtncmdeijimgchaaPrnOutcomesLaw4
import Derived.BigQuiet
import Derived.Deep.QuietTactic
import Derived.Deep.RegionHeld3
import Derived.Test.YtncmdeijimgchaaPrnOutcomesLaw19
import Derived.Test.YtncmdeijimgchaaPrnOutcomesLaw1
import Derived.Test.YtncmdeijimgchaaPrnOutcomesLaw13
import Derived.Test.YtncmdeijimgchaaPrnOutcomesLaw5
import Derived.Deep.AppendLies

/-
  RunBallot, the program's.
-/
set_option linter.unusedSimpArgs false
set_option linter.unusedVariables false
namespace Go.Proofs.Ytncmdeijimgchaa
open Go.RowKit
set_option linter.unusedSectionVars false
variable [DecidableEq Vot] [Inhabited Vot] [DecidableEq Slt] [Inhabited Slt] [DecidableEq SltR] [Inhabited SltR] [DecidableEq Bal] [Inhabited Bal] [DecidableEq Ledg] [Inhabited Ledg] [DecidableEq Leg] [Inhabited Leg] [DecidableEq Acc] [Inhabited Acc] [DecidableEq AccR] [Inhabited AccR] [DecidableEq AccsR] [Inhabited AccsR] [DecidableEq SltsR] [Inhabited SltsR]
attribute [local go_sem ↓] Go.wp_at_zero Go.wp_at_succ

def RunE (r : AccsR) (w : World) (e : Ending) (w' : World) : Prop := ∃ v F, e = .returned v ∧ accsRR.O w' w.heap.size F v r ∧ Below w.heap.size w w'
theorem runE_err {r : AccsR} {c : Int} {w w' : World} (h : r = ⟨c, 0, []⟩) (hb : Below w.heap.size w w') : RunE r w (.returned (.agg #[.int .i64 c, .int .i64 0, .slice none 0 0])) w' :=
  ⟨_, _, rfl, by rw [h]; exact ⟨_, _, rfl, accs_nil w' w.heap.size, fun _ => Iff.rfl⟩, hb⟩
theorem runE_ok {r : AccsR} {c v : Int} {l : List Acc} {u : Value} {F : Nat → Prop} {w w' : World} (h : r = ⟨c, v, l⟩) (ho : accsR.O w' w.heap.size F u l) (hb : Below w.heap.size w w') : RunE r w (.returned (.agg #[.int .i64 c, .int .i64 v, u])) w' :=
  ⟨_, F, rfl, by rw [h]; exact ⟨_, F, rfl, ho, fun _ => Iff.rfl⟩, hb⟩
set_option maxRecDepth 20000 in
set_option maxHeartbeats 8000000 in
theorem implRun_u (x xr : Value) (l : List Acc) (R : List Int) (c s b own : Int) (w : World) (hx : accsR.V w x l) (hr : IntsV w xr R) :
    Calls Try.prog 11 #[x, xr, .int .i64 c, .int .i64 s, .int .i64 b, .int .i64 own] w (RunE (runD l R c s b own) w) := by
  have HFr : Hid (∀ W, Below w.heap.size w W → Calls Try.prog 45 #[x, .int .i64 c, .int .i64 s] W (FreE l c s W)) := fun W hW => freshFor_u x l c s W (accsR.below hx hW)
  have HBf : Hid (∀ W, Below w.heap.size w W → ListOk l → Calls Try.prog 46 #[xr, .int .i64 l.length, .agg #[.int .i64 b, .int .i64 own]] W fun e w' => e = .returned (.int .i64 (balF R l.length b own)) ∧ Below W.heap.size W w') := fun W hW hl => implBalF_any xr R l.length b own W (IntsV_below hr hW) (by have := hl.hi; omega)
  have HCp : Hid (∀ W, Below w.heap.size w W → ListOk l → Calls Try.prog 47 #[x, .func (.func 48) #[] #[]] W fun e w' => ∃ v F, e = .returned v ∧ accsR.O w' W.heap.size F v l ∧ Below W.heap.size W w') := fun W hW hl => copiedAccs_u x l W (accsR.below hx hW) hl
  have HPs : Hid (∀ W x' base F, Below w.heap.size w W → w.heap.size ≤ base → base ≤ W.heap.size → ListOk l → BalOk R l.length b own → accsR.O W base F x' l → Calls Try.prog 49 #[x', xr, .int .i64 c, .int .i64 s, .int .i64 b] W (PsE x' (prN l R c s b R.length) base F W)) := fun W x' base F hW h1 h2 hl hb ho => promises_any x' xr l R c s b base F w W ho hW h1 h2 hr hb.inn hl.lo (by have := hb.len; have := hl.hi; omega)
  obtain ⟨a, cx, rfl⟩ := accs_form hx
  obtain ⟨ar, cr, rfl, _, _, _⟩ := hr
  clear hx
  have hD0 : Hid (¬ freC l c s = 0 → runD l R c s b own = ⟨freC l c s, 0, []⟩) := fun h => by unfold runD; rw [if_neg h]
  have hD1 : Hid (freC l c s = 0 → ¬ balF R l.length b own = 0 → runD l R c s b own = ⟨balF R l.length b own, 0, []⟩) := fun h h1 => by unfold runD; rw [if_pos h, if_neg h1]
  have hD2 : Hid (freC l c s = 0 → balF R l.length b own = 0 → ((prN l R c s b R.length).did.length : Int) < quoV l.length → runD l R c s b own = ⟨4, 0, (prN l R c s b R.length).accs⟩) := fun h h1 h2 => by unfold runD; rw [if_pos h, if_pos h1, if_pos h2]
  have hD3 : Hid (freC l c s = 0 → balF R l.length b own = 0 → quoV l.length ≤ ((prN l R c s b R.length).did.length : Int) → runD l R c s b own = ⟨0, (best own (prN l R c s b R.length).old (prN l R c s b R.length).old.length).val, acN (prN l R c s b R.length).accs (prN l R c s b R.length).did c s b (best own (prN l R c s b R.length).old (prN l R c s b R.length).old.length).val (prN l R c s b R.length).did.length⟩) := fun h h1 h2 => by unfold runD; rw [if_pos h, if_pos h1, if_neg (by omega)]
  have HLen : Hid (∀ k, (prN l R c s b k).accs.length = l.length) := fun k => prN_len l R c s b k
  have HDid : Hid (∀ k, (prN l R c s b k).did.length ≤ k ∧ (prN l R c s b k).old.length = (prN l R c s b k).did.length) := fun k => prN_did l R c s b k
  have HOld : Hid (∀ k, ∀ v ∈ (prN l R c s b k).old, isNo v = true ∨ votB v = true) := fun k => prN_old l R c s b k
  have HPin : Hid (BalOk R l.length b own → ∀ a ∈ (prN l R c s b R.length).did, 0 ≤ a ∧ a < l.length) := fun h => prN_in l R c s b h.inn R.length (Nat.le_refl _)
  obtain ⟨n, hn'⟩ : ∃ n, n = l.length := ⟨_, rfl⟩
  have HN : Hid (l.length = n) := hn'.symm
  rw [← hn'] at HBf HPs hD1 hD2 hD3 HLen HPin HFr HCp ⊢
  clear hn'
  obtain ⟨m, hm'⟩ : ∃ m, m = R.length := ⟨_, rfl⟩
  have HMr : Hid (R.length = m) := hm'.symm
  rw [← hm'] at HBf HPs hD2 hD3 HPin ⊢
  clear hm'
  obtain ⟨Z, hZ⟩ : ∃ Z, Z = runD l R c s b own := ⟨_, rfl⟩
  rw [← hZ] at hD0 hD1 hD2 hD3 ⊢
  clear hZ
  go_enter Try.func11, Try.ntmps11
  go_wp2_with fail
  refine (HFr.out _ (by (repeat (first | exact Below.refl _ _ | assumption | refine Below.drew ?_ | refine balloc ?_ _ | refine bset ?_ (by simp; omega) _ | refine bset ?_ (by simp) _ | refine bstep ?_ (by assumption))))).mono ?_
  rintro e w1 ⟨hE0, hE1⟩
  by_cases hf : freC l c s = 0
  rotate_left
  · obtain ⟨rfl, hb1⟩ := hE1 hf
    have HC : Hid (Z = ⟨freC l c s, 0, []⟩) := hD0.out hf
    have hB1 : Below w.heap.size w w1 := by (repeat (first | exact Below.refl _ _ | assumption | refine Below.drew ?_ | refine balloc ?_ _ | refine bset ?_ (by simp; omega) _ | refine bset ?_ (by simp) _ | refine bstep ?_ (by assumption)))
    have hz1 := hb1.size
    simp at hz1
    obtain ⟨c1, f1⟩ := bcell hb1
    have r0 : w1.cell? ⟨w.heap.size, 0, none⟩ = some (.int .i64 0) := cell_keep hb1 (by simp [go_sem])
    have r1 : w1.cell? ⟨w.heap.size, 1, none⟩ = some (.int .i64 0) := cell_keep hb1 (by simp [go_sem])
    have r2 : w1.cell? ⟨w.heap.size, 2, none⟩ = some (.slice none 0 0) := cell_keep hb1 (by simp [go_sem])
    have rf : ∀ o, w1.frozen? ⟨w.heap.size, o, none⟩ = false := fun o => by rw [f1 _ _ (by simp; try omega)]; simp [go_sem]
    clear hb1 c1 f1 hE0 hE1 HFr HBf HCp HPs hD0 hD1 hD2 hD3
    have zr : w.heap.size < w1.heap.size := World.block_lt_of_cell? w1 _ r0
    generalize freC l c s = g at *
    have hg' : (g != 0) = true := by simp [hf]
    go_wp2
    exact bodyPost_ret (v := .agg #[.int .i64 g, .int .i64 0, .slice none 0 0]) (by simp [results, Try.results11, go_sem, r0, r1, r2, rf, zr, Nat.ne_of_lt zr]) rfl (runE_err HC.out (by (repeat (first | refine bset ?_ (by simp; omega) _ | refine bset ?_ (by simp) _ | refine balloc ?_ _ | assumption))))
  obtain ⟨p2, q2, F2, rfl, o2, hb1⟩ := hE0 hf
  have HLk : Hid (ListOk l) := listOk_of (freC_ok hf).1
  have hB1 : Below w.heap.size w w1 := by (repeat (first | exact Below.refl _ _ | assumption | refine Below.drew ?_ | refine balloc ?_ _ | refine bset ?_ (by simp; omega) _ | refine bset ?_ (by simp) _ | refine bstep ?_ (by assumption)))
  have hz1 := hb1.size
  simp at hz1
  obtain ⟨c1, f1⟩ := bcell hb1
  have r0 : w1.cell? ⟨w.heap.size, 0, none⟩ = some (.int .i64 0) := cell_keep hb1 (by simp [go_sem])
  have r1 : w1.cell? ⟨w.heap.size, 1, none⟩ = some (.int .i64 0) := cell_keep hb1 (by simp [go_sem])
  have r2 : w1.cell? ⟨w.heap.size, 2, none⟩ = some (.slice none 0 0) := cell_keep hb1 (by simp [go_sem])
  have rf : ∀ o, w1.frozen? ⟨w.heap.size, o, none⟩ = false := fun o => by rw [f1 _ _ (by simp; try omega)]; simp [go_sem]
  clear hb1 c1 f1 hE0 hE1 HFr o2 hD0
  have zr : w.heap.size < w1.heap.size := World.block_lt_of_cell? w1 _ r0
  have hn1 : 1 ≤ n ∧ n ≤ 5 := by have h1 := HLk.out.lo; have h2 := HLk.out.hi; rw [HN.out] at h1 h2; exact ⟨h1, h2⟩
  go_wp2_with fail
  refine (HBf.out _ (by (repeat (first | exact Below.refl _ _ | assumption | refine Below.drew ?_ | refine balloc ?_ _ | refine bset ?_ (by simp; omega) _ | refine bset ?_ (by simp) _ | refine bstep ?_ (by assumption)))) HLk.out).mono ?_
  rintro e w2 ⟨rfl, hb2⟩
  have hB12 : Below w1.heap.size w1 w2 := by (repeat (first | exact Below.refl _ _ | assumption | refine Below.drew ?_ | refine balloc ?_ _ | refine bset ?_ (by simp; omega) _ | refine bset ?_ (by simp) _ | refine bstep ?_ (by assumption)))
  have hB2 : Below w.heap.size w w2 := bstep hB1 hB12
  have hz2 := hB12.size
  replace r0 := cell_keep hB12 r0
  replace r1 := cell_keep hB12 r1
  replace r2 := cell_keep hB12 r2
  replace rf : ∀ o, w2.frozen? ⟨w.heap.size, o, none⟩ = false := fun o => by rw [(bcell hB12).2 _ _ (by omega)]; exact rf o
  clear hb2 hB12 HBf
  by_cases hbf : balF R n b own = 0
  rotate_left
  · have HC : Hid (Z = ⟨balF R n b own, 0, []⟩) := hD1.out hf hbf
    clear HCp HPs hD1 hD2 hD3
    generalize balF R n b own = g at *
    have hg' : (g != 0) = true := by simp [hbf]
    go_wp2
    exact bodyPost_ret (v := .agg #[.int .i64 g, .int .i64 0, .slice none 0 0]) (by simp [results, Try.results11, go_sem, r0, r1, r2, rf]) rfl (runE_err HC.out (by (repeat (first | refine bset ?_ (by simp; omega) _ | refine bset ?_ (by simp) _ | refine balloc ?_ _ | assumption))))
  rw [hbf]
  have HBk : Hid (BalOk R n b own) := balOk_of hbf
  have hD2' : Hid (((prN l R c s b m).did.length : Int) < quoV n → Z = ⟨4, 0, (prN l R c s b m).accs⟩) := hD2.out hf hbf
  have hD3' : Hid (quoV n ≤ ((prN l R c s b m).did.length : Int) → Z = ⟨0, (best own (prN l R c s b m).old (prN l R c s b m).old.length).val, acN (prN l R c s b m).accs (prN l R c s b m).did c s b (best own (prN l R c s b m).old (prN l R c s b m).old.length).val (prN l R c s b m).did.length⟩) := hD3.out hf hbf
  clear hf hbf hD1 hD2 hD3
  go_wp2_with fail
  refine (HCp.out _ hB2 HLk.out).mono ?_
  rintro e w3 ⟨v3, F3, rfl, o3, hb3⟩
  obtain ⟨a3, c3, rfl⟩ := accs_form (accsR.ofO o3)
  have hB3 : Below w.heap.size w w3 := bstep hB2 hb3
  have hz3 := hb3.size
  have HO3 : Hid (accsR.O w3 w2.heap.size F3 (.slice a3 n c3) l) := by show accsR.O _ _ _ _ _; rw [← HN.out]; exact o3
  replace r0 := cell_keep hb3 r0
  replace r1 := cell_keep hb3 r1
  replace r2 := cell_keep hb3 r2
  replace rf : ∀ o, w3.frozen? ⟨w.heap.size, o, none⟩ = false := fun o => by rw [(bcell hb3).2 _ _ (by omega)]; exact rf o
  have HPs3 : Hid (Calls Try.prog 49 #[.slice a3 n c3, .slice ar m cr, .int .i64 c, .int .i64 s, .int .i64 b] w3 (PsE (.slice a3 n c3) (prN l R c s b m) w2.heap.size F3 w3)) := HPs.out w3 _ w2.heap.size F3 hB3 (by omega) (by omega) HLk.out HBk.out HO3.out
  have HF3 : Hid (∀ b', F3 b' → w2.heap.size ≤ b' ∧ b' < w3.heap.size) := fun b' h => accsR.rng HO3.out b' h
  have HPi : Hid (∀ a ∈ (prN l R c s b m).did, 0 ≤ a ∧ a < n) := HPin.out HBk.out
  have HOl : Hid (∀ v ∈ (prN l R c s b m).old, isNo v = true ∨ votB v = true) := HOld.out m
  have hdl := HDid.out m
  have hal := HLen.out m
  have hm5 : m ≤ n := by have := HBk.out.len; rw [HMr.out] at this; exact this
  have hvote := HBk.out.vote
  clear hb3 o3 HCp HPs HO3 HPin HOld HDid HLen
  obtain ⟨P, hP⟩ : ∃ P, P = prN l R c s b m := ⟨_, rfl⟩
  rw [← hP] at hD2' hD3' HPs3 HPi HOl hdl hal
  clear hP
  rw [HN.out]
  go_wp2_with fail
  refine HPs3.out.mono ?_
  rintro e w4 ⟨vd, vo, F4, rfl, o4, hF4, od, ov, hdF, hmod⟩
  have HO4 : Hid (accsR.O w4 w2.heap.size F4 (.slice a3 n c3) P.accs) := o4
  have HF4 : Hid (∀ b', F4 b' → w2.heap.size ≤ b') := fun b' h => (accsR.rng HO4.out b' h).1
  have hne : ¬ F3 w.heap.size := fun h => by have := HF3.out _ h; omega
  replace r0 := hmod.cell r0 hne
  replace r1 := hmod.cell r1 hne
  replace r2 := hmod.cell r2 hne
  replace rf : ∀ o, w4.frozen? ⟨w.heap.size, o, none⟩ = false := fun o => (World.frozen?_of_block (hmod.block w.heap.size (by omega) hne)).trans (rf o)
  have hz4 := hmod.size
  have hB4 : Below w.heap.size w w4 := hmod.below hB3 hB3.size (fun b' h => by have := HF3.out b' h; omega)
  obtain ⟨ad, cd, rfl, hdc, hdm, hdi⟩ := IntsV_of_owns od
  have HDi : Hid (∀ i, i < P.did.length → ∃ bb o, ad = some ⟨bb, o, none⟩ ∧ w4.cell? ⟨bb, o + i, none⟩ = some (.int .i64 (P.did.getD i 0)) ∧ ¬ F4 bb) := fun i hi => by
    obtain ⟨bb, o, e, hc⟩ := hdi i hi
    refine ⟨bb, o, e, hc, fun h => ?_⟩
    rcases od.2 with ⟨h1, h2⟩ | ⟨gg, cap, cur, h1, _⟩
    · omega
    · simp only [Value.slice.injEq] at h1
      rw [e] at h1
      simp only [Option.some.injEq, Addr.mk.injEq, and_true] at h1
      obtain ⟨⟨rfl, rfl⟩, _, rfl⟩ := h1
      exact hdF _ (by rw [e]; rfl) h
  have HVo : Hid (votsR.V w4 vo P.old) := VotsV_of_owns ov
  obtain ⟨ao, co, rfl⟩ := owns_form ov
  unfold maxLen at hdm
  have HPk : Hid (∀ W, Below w4.heap.size w4 W → Calls Try.prog 18 #[.slice ao P.old.length co, .int .i64 own] W fun e w' => e = .returned (.agg #[.int .i64 (pickC P.old own), .int .i64 (pickV P.old own)]) ∧ Below W.heap.size W w') := fun W hW => implPick_any _ P.old own W (votsR.below HVo.out hW)
  have hpk := pick_ok (xs := P.old) (own := own) (by omega) HOl.out (by have := hvote; unfold votB at this; simp only [Bool.and_eq_true] at this; exact this.2)
  rw [hpk.1, hpk.2] at HPk
  clear o4 hF4 od ov hdF hdi HPs3 hpk hmod HVo HOl
  have hqr : quoR (n : Int) = quoV n := by unfold quoR; rw [if_pos (inBi.2 (by omega))]
  have hcon := implQuorum_any (n : Int)
  rw [hqr] at hcon
  have HQ : Hid (∀ W, Calls Try.prog 50 #[.int .i64 n] W fun e w' => e = .returned (.agg #[.int .i64 (quoC n), .int .i64 (quoV n)]) ∧ Below W.heap.size W w') := hcon
  clear hcon hqr
  generalize quoC (n : Int) = qc at *
  generalize quoV (n : Int) = Q at *
  have hfl : ∀ u v w, (Instr.field 39 (.agg #[.int .i64 u, .int .i64 v]) 1).run Try.prog w = .ok (.int .i64 v) w := fun _ _ _ => by kernel_rfl
  obtain ⟨dn, hdn⟩ : ∃ dn, dn = P.did.length := ⟨_, rfl⟩
  have HDn : Hid (P.did.length = dn) := hdn.symm
  rw [hdl.2] at HPk hD3' ⊢
  rw [← hdn] at hdl hD2' hD3' HDi HPk hdc ⊢
  clear hdn
  go_wp2_with fail
  refine (HQ.out _).mono ?_
  rintro e w5 ⟨rfl, hb5⟩
  have hB5 : Below w.heap.size w w5 := bstep hB4 hb5
  have hz5 := hb5.size
  replace r0 := cell_keep hb5 r0
  replace r1 := cell_keep hb5 r1
  replace r2 := cell_keep hb5 r2
  replace rf : ∀ o, w5.frozen? ⟨w.heap.size, o, none⟩ = false := fun o => by rw [(bcell hb5).2 _ _ (by omega)]; exact rf o
  have HO5 : Hid (accsR.O w5 w2.heap.size F4 (.slice a3 n c3) P.accs) := accsR.keep HO4.out hb5
  have HDi5 : Hid (∀ i, i < dn → ∃ bb o, ad = some ⟨bb, o, none⟩ ∧ w5.cell? ⟨bb, o + i, none⟩ = some (.int .i64 (P.did.getD i 0)) ∧ ¬ F4 bb) := fun i hi => by
    obtain ⟨bb, o, e, hc, h⟩ := HDi.out i hi
    exact ⟨bb, o, e, cell_keep hb5 hc, h⟩
  have HPk5 : Hid (Calls Try.prog 18 #[.slice ao dn co, .int .i64 own] w5 fun e w' => e = .returned (.agg #[.int .i64 0, .int .i64 (best own P.old dn).val]) ∧ Below w5.heap.size w5 w') := HPk.out w5 hb5
  clear hb5 HO4 HDi HPk HQ
  by_cases hq : (dn : Int) < Q
  · have HC : Hid (Z = ⟨4, 0, P.accs⟩) := hD2'.out hq
    clear hD2' hD3' HPk5 HDi5
    go_wp2
    refine bodyPost_ret (v := .agg #[.int .i64 4, .int .i64 0, .slice a3 n c3]) (by simp [results, Try.results11, go_sem, r0, r1, r2, rf]) rfl (runE_ok HC.out (F := F4) ?_ (by (repeat (first | refine bset ?_ (by simp; omega) _ | refine bset ?_ (by simp) _ | refine balloc ?_ _ | assumption))))
    have h := accsR.base (base' := w.heap.size) HO5.out (by omega)
    have hk : ∀ (W : World) (u : Value) (j : Nat), accsR.O W w.heap.size F4 (.slice a3 n c3) P.accs → accsR.O (W.setCell ⟨w.heap.size, j, none⟩ u) w.heap.size F4 (.slice a3 n c3) P.accs := fun W u j h => Rep.setN _ h u (fun hb => by have := HF4.out _ hb; dsimp only at this; omega)
    exact hk _ _ _ (hk _ _ _ (hk _ _ _ h))
  have HC : Hid (Z = ⟨0, (best own P.old dn).val, acN P.accs P.did c s b (best own P.old dn).val dn⟩) := hD3'.out (by omega)
  clear hD2' hD3'
  go_wp2_with fail
  refine HPk5.out.mono ?_
  rintro e w6 ⟨rfl, hb6⟩
  have hB6 : Below w.heap.size w w6 := bstep hB5 hb6
  have hz6 := hb6.size
  replace r0 := cell_keep hb6 r0
  replace r1 := cell_keep hb6 r1
  replace r2 := cell_keep hb6 r2
  replace rf : ∀ o, w6.frozen? ⟨w.heap.size, o, none⟩ = false := fun o => by rw [(bcell hb6).2 _ _ (by omega)]; exact rf o
  have HO6 : Hid (accsR.O w6 w2.heap.size F4 (.slice a3 n c3) P.accs) := accsR.keep HO5.out hb6
  have HDi6 : Hid (∀ i, i < dn → ∃ bb o, ad = some ⟨bb, o, none⟩ ∧ w6.cell? ⟨bb, o + i, none⟩ = some (.int .i64 (P.did.getD i 0)) ∧ ¬ F4 bb) := fun i hi => by
    obtain ⟨bb, o, e, hc, h⟩ := HDi5.out i hi
    exact ⟨bb, o, e, cell_keep hb6 hc, h⟩
  clear hb6 HO5 HDi5 HPk5
  generalize (best own P.old dn).val = V at *
  have HAl : Hid (∀ k, (acN P.accs P.did c s b V k).length = n) := fun k => by rw [acN_len, hal]
  go_wp2
  go_loopw [69] (fun i w' => ∃ (k : Nat) (F' : Nat → Prop), k ≤ dn ∧ i = .int .i64 k ∧ Hid (accsR.O w' w2.heap.size F' (.slice a3 n c3) (acN P.accs P.did c s b V k)) ∧ Hid (∀ b', F' b' → F4 b' ∨ w6.heap.size ≤ b') ∧ Mod F4 w6 w') (fun i _ => dn - (intOf i).toNat)
  case atStart => exact ⟨0, F4, Nat.zero_le _, rfl, HO6, fun b' h => .inl h, Mod.refl _ _⟩
  case round =>
    obtain ⟨k, F', hk, rfl, HO, HF', hmod⟩ := hrel
    have hzr := hmod.size
    have hBr : Below w.heap.size w wr := hmod.below hB6 hB6.size (fun b' h => by have := HF4.out b' h; omega)
    have hne4 : ¬ F4 w.heap.size := fun h => by have := HF4.out _ h; omega
    by_cases hlt : k < dn
    · obtain ⟨bb, o, rfl, hc, hnb⟩ := HDi6.out k hlt
      replace hc := hmod.cell hc hnb
      have hin := HPi.out (P.did.getD k 0) (by simp [List.getD, HDn.out, hlt])
      obtain ⟨i, hi⟩ : ∃ i : Nat, P.did.getD k 0 = (i : Int) := ⟨(P.did.getD k 0).toNat, by omega⟩
      have HS : Hid (acN P.accs P.did c s b V (k + 1) = acS c s b V (acN P.accs P.did c s b V k) (i : Int)) := by show _ = _; rw [← hi]; rfl
      rw [hi] at hc hin
      clear hi
      have hlen := HAl.out k
      obtain ⟨st, hst⟩ : ∃ st, st = acN P.accs P.did c s b V k := ⟨_, rfl⟩
      rw [← hst] at HS hlen HO
      clear hst
      obtain ⟨g, cap, p, q, hsl, _, hcm, hFg, gf, hcell, hVa⟩ := accs_read HO.out (show i < st.length by omega)
      unfold maxLen at hcm
      rw [hlen] at hsl
      simp only [Value.slice.injEq, true_and] at hsl
      obtain ⟨rfl, rfl⟩ := hsl
      obtain ⟨r, hr⟩ : ∃ r, r = accAtD (st.getD i default).slots c s b V := ⟨_, rfl⟩
      have HP : Hid (∀ W, Below wr.heap.size wr W → Calls Try.prog 31 #[.agg #[.slice p (st.getD i default).slots.length q], .int .i64 c, .int .i64 s, .int .i64 b, .int .i64 V] W (AskE r W)) := fun W hW => by rw [hr]; exact implAccAt_u _ _ c s b V W (accR.below hVa hW)
      have HS2 : Hid (acN P.accs P.did c s b V (k + 1) = if r.code = 0 then st.set i r.acc else st) := by
        show _ = _
        rw [HS.out, hr]
        rfl
      clear hr hVa HS
      have hgz : g < wr.heap.size := (accsR.rng HO.out g hFg).2
      have hbz : bb < wr.heap.size := World.block_lt_of_cell? wr _ hc
      generalize (st.getD i default).slots.length = mm at *
      have i1 : (i : Int) < n := by omega
      have i2 : (0 : Int) ≤ i := by omega
      go_wp2_with fail
      refine (HP.out _ (by (repeat (first | exact Below.refl _ _ | assumption | refine Below.drew ?_ | refine balloc ?_ _ | refine bset ?_ (by simp; omega) _ | refine bset ?_ (by simp) _ | refine bstep ?_ (by assumption))))).mono ?_
      rintro e w7 ⟨v7, F7, rfl, o7, hb7⟩
      obtain ⟨av, cv, rfl, o8⟩ := accR_cells o7
      have hz7 := hb7.size
      have hcell7 := cell_keep hb7 hcell
      have hc7 := cell_keep hb7 hc
      have gf7 : ∀ o, w7.frozen? ⟨g, o, none⟩ = false := fun o => by rw [(bcell hb7).2 _ _ hgz]; exact gf o
      have HO7 : Hid (accsR.O w7 w2.heap.size F' (.slice (some ⟨g, 0, none⟩) n c3) st) := accsR.keep HO.out hb7
      have HA7 : Hid (accR.O w7 w2.heap.size F7 (.agg #[.slice av r.acc.slots.length cv]) r.acc) := accR.base o8 (by omega)
      have HFl : Hid (∀ bb, F' bb → bb < wr.heap.size) := fun bb h => (accsR.rng HO.out bb h).2
      have HF7 : Hid (∀ bb, F7 bb → wr.heap.size ≤ bb ∧ bb < w7.heap.size) := fun bb h => accR.rng o8 bb h
      have HGF : Hid (F4 g ∨ w6.heap.size ≤ g) := HF'.out g hFg
      have hmod7 : Mod F4 w6 w7 := hmod.trans (Mod.of_below hb7)
      clear o7 o8 hb7 HP HO hc hcell gf hmod
      by_cases hcode : r.code = 0
      · have HS3 : Hid (acN P.accs P.did c s b V (k + 1) = st.set i r.acc) := by show _ = _; rw [HS2.out, if_pos hcode]
        rw [hcode]
        clear hcode HS2
        have hgz7 : g < w7.heap.size := by omega
        have hbz7 : bb < w7.heap.size := by omega
        have hne : ¬ g = w7.heap.size := by omega
        have hstore := accs_store (i := i) (by rw [hlen]; exact HO7.out) (by omega) HA7.out (fun b' h1 h2 => by have := HFl.out b' h1; have := (HF7.out b' h2).1; omega)
        rw [hlen] at hstore
        obtain ⟨F9, o9, hm9, hF9⟩ := hstore
        have HO9 : Hid (accsR.O ((w7.setCell ⟨g, i, none⟩ (.slice av r.acc.slots.length cv)).alloc (.cells #[.int .i64 0, .int .i64 r.ob, .int .i64 r.ov, .slice av r.acc.slots.length cv] 59)) w2.heap.size F9 (.slice (some ⟨g, 0, none⟩) n c3) (acN P.accs P.did c s b V (k + 1))) := by
          show accsR.O _ _ _ _ _
          rw [HS3.out]
          exact accsR.alloc o9 _
        have HF9 : Hid (∀ b', F9 b' → F4 b' ∨ w6.heap.size ≤ b') := fun b' h => by
          rcases hF9 b' h with h | h
          · exact HF'.out b' h
          · have := (HF7.out b' h).1; exact .inr (by omega)
        have hmod9 : Mod F4 w6 ((w7.setCell ⟨g, i, none⟩ (.slice av r.acc.slots.length cv)).alloc (.cells #[.int .i64 0, .int .i64 r.ob, .int .i64 r.ov, .slice av r.acc.slots.length cv] 59)) := by
          refine Mod.alloc ⟨hm9.os.trans hmod7.os, hm9.tape.trans hmod7.tape, hm9.output.trans hmod7.output, Nat.le_trans hmod7.size hm9.size, fun j hj hn => (hm9.block j (Nat.lt_of_lt_of_le hj hmod7.size) (fun e => ?_)).trans (hmod7.block j hj hn)⟩ _
          rcases HGF.out with h | h
          · exact hn (e ▸ h)
          · omega
        clear o9 hm9 hF9 hmod7 HO7 HA7
        go_wp2
        exact ⟨⟨k + 1, F9, by omega, by go_num, HO9, HF9, hmod9⟩, by simp [intOf]; omega⟩
      · have HS3 : Hid (acN P.accs P.did c s b V (k + 1) = st) := by show _ = _; rw [HS2.out, if_neg hcode]
        have hcode' : (r.code == 0) = false := by simp [hcode]
        clear HS2
        have HO9 : Hid (accsR.O (w7.alloc (.cells #[.int .i64 r.code, .int .i64 r.ob, .int .i64 r.ov, .slice av r.acc.slots.length cv] 59)) w2.heap.size F' (.slice (some ⟨g, 0, none⟩) n c3) (acN P.accs P.did c s b V (k + 1))) := by
          show accsR.O _ _ _ _ _
          rw [HS3.out]
          exact accsR.alloc HO7.out _
        have hmod9 : Mod F4 w6 (w7.alloc (.cells #[.int .i64 r.code, .int .i64 r.ob, .int .i64 r.ov, .slice av r.acc.slots.length cv] 59)) := hmod7.alloc _
        clear hmod7 HO7 HA7
        go_wp2
        exact ⟨⟨k + 1, F', by omega, by go_num, HO9, HF', hmod9⟩, by simp [intOf]; omega⟩
    · have hkm : k = dn := by omega
      subst hkm
      replace r0 := hmod.cell r0 hne4
      replace r1 := hmod.cell r1 hne4
      replace r2 := hmod.cell r2 hne4
      replace rf : ∀ o, wr.frozen? ⟨w.heap.size, o, none⟩ = false := fun o => (World.frozen?_of_block (hmod.block w.heap.size (by omega) hne4)).trans (rf o)
      have HFr2 : Hid (∀ b', F' b' → w2.heap.size ≤ b') := fun b' h => (accsR.rng HO.out b' h).1
      go_wp2
      refine bodyPost_ret (v := .agg #[.int .i64 0, .int .i64 V, .slice a3 n c3]) (by simp [results, Try.results11, go_sem, r0, r1, r2, rf]) rfl (runE_ok HC.out (F := F') ?_ (by (repeat (first | refine bset ?_ (by simp; omega) _ | refine bset ?_ (by simp) _ | refine balloc ?_ _ | assumption))))
      have h := accsR.base (base' := w.heap.size) HO.out (by omega)
      have hk : ∀ (W : World) (u : Value) (j : Nat), accsR.O W w.heap.size F' (.slice a3 n c3) (acN P.accs P.did c s b V k) → accsR.O (W.setCell ⟨w.heap.size, j, none⟩ u) w.heap.size F' (.slice a3 n c3) (acN P.accs P.did c s b V k) := fun W u j h => Rep.setN _ h u (fun hb => by have := HFr2.out _ hb; dsimp only at this; omega)
      exact hk _ _ _ (hk _ _ _ (hk _ _ _ h))
end Go.Proofs.Ytncmdeijimgchaa

/-
  As RegS, where an operation may also write into what another one made, and takes it over (an append to what was just made).
-/
namespace Go.Proofs.Ytncmdeijimgchaa
open Go.RowKit

section
variable {P : Program} {ops : Array Oper} {Q : Exit → Act → World → Prop} {md : Region.Mode} {S : World → Prop} {t : Nat}

def Alive (L : List (Nat × Nat)) (cons : Nat → List Nat) (listed : Array Bool) (j : Nat) : Prop := listed.getD j true = true ∧ ∀ p ∈ L, listed.getD p.1 true = true → j ∉ cons p.1
def Taken (cons : Nat → List Nat) (Φ : Nat → Nat → Prop) (i b : Nat) : Prop := ∃ j ∈ cons i, Φ j b
def FIn (w0 w : World) (F : Nat → Prop) : Prop := ∀ b, F b → w0.heap.size ≤ b ∧ b < w.heap.size
def FApart (F F' : Nat → Prop) : Prop := ∀ b, F b → ¬ F' b
def StepC (P : Program) (md : Region.Mode) (ops : Array Oper) (Q : Exit → Act → World → Prop) (S : World → Prop) (L : List (Nat × Nat)) (cons : Nat → List Nat) (G : Nat → (Nat → Value) → (Nat → Prop) → World → Prop) (a0 : Act) (w0 : World) (p : Nat × Nat) : Prop :=
  ∃ o, ops[p.1]? = some o ∧ o.dst = some p.2 ∧ ∀ (y : Nat → Value) (w : World) (Φ : Nat → Nat → Prop), S w → Below w0.heap.size w0 w →
    (∀ q ∈ L, waitsFor md ops p.1 q.1 = true → (q.1 ∈ cons p.1 ∨ ∀ r ∈ L, q.1 ∉ cons r.1) → FIn w0 w (Φ q.1) ∧ G q.1 y (Φ q.1) w) →
    ∀ K : Act → World → Prop, (∀ v w' F', Mod (Taken cons Φ p.1) w w' → (∀ b, F' b → Taken cons Φ p.1 b ∨ (w.heap.size ≤ b ∧ b < w'.heap.size)) → G p.1 (updV y p.2 v) F' w' → K ((over a0 (L.map Prod.snd) y).put (some p.2) v) w') →
      Shut (if Region.wanted o (yielded ops (over a0 (L.map Prod.snd) y).tmps) = true then Oper.wp P o (over a0 (L.map Prod.snd) y) w K Q else K ((over a0 (L.map Prod.snd) y).put o.dst undef) w)
theorem upto_cons (L : List (Nat × Nat)) (cons : Nat → List Nat) (G : Nat → (Nat → Value) → (Nat → Prop) → World → Prop) {f : Nat} {listed : Array Bool} {a0 : Act} {w0 : World}
    (hrise : risesB md ops = true) (hsz : listed.size = ops.size) (hot : ∃ ot, ops[t]? = some ot)
    (hall : ∀ i, i < ops.size → listed.getD i true = false → i = t ∨ ∃ p ∈ L, p.1 = i)
    (hun : listed.getD t true = false ∧ ∀ p ∈ L, listed.getD p.1 true = false)
    (hno : (L.map Prod.fst).Nodup) (hnd : (L.map Prod.snd).Nodup) (htl : ∀ p ∈ L, p.1 ≠ t ∧ waitsFor md ops t p.1 = true) (hf : f = L.length + 1)
    (hcons : ∀ p ∈ L, ∀ j ∈ cons p.1, waitsFor md ops p.1 j = true ∧ ∃ q ∈ L, q.1 = j) (huniq : ∀ p ∈ L, ∀ r ∈ L, p.1 ≠ r.1 → ∀ j ∈ cons p.1, j ∉ cons r.1)
    (hS : S w0) (hSst : ∀ (F : Nat → Prop) (w w' : World), S w → Mod F w w' → (∀ b, F b → w0.heap.size ≤ b) → S w')
    (hG : ∀ p ∈ L, ∀ (y y' : Nat → Value) (F F' : Nat → Prop) (w w' : World), G p.1 y F w → FIn w0 w F → Mod F' w w' → FApart F' F → (∀ b, F' b → w0.heap.size ≤ b) → y' p.2 = y p.2 → (∀ q ∈ L, waitsFor md ops p.1 q.1 = true → y' q.2 = y q.2) → G p.1 y' F w')
    (hstep : ∀ p ∈ L, StepC P md ops Q S L cons G a0 w0 p)
    (hlast : ∃ o, ops[t]? = some o ∧ ∀ (y : Nat → Value) (w : World) (Φ : Nat → Nat → Prop), S w → Below w0.heap.size w0 w → (∀ q ∈ L, (∀ r ∈ L, q.1 ∉ cons r.1) → FIn w0 w (Φ q.1) ∧ G q.1 y (Φ q.1) w) → (∀ q ∈ L, ∀ r ∈ L, q.1 ≠ r.1 → (∀ p ∈ L, q.1 ∉ cons p.1) → (∀ p ∈ L, r.1 ∉ cons p.1) → FApart (Φ q.1) (Φ r.1)) →
      ∀ K : Act → World → Prop, (∀ a' w', Q .normal a' w' → K a' w') → Shut (if Region.wanted o (yielded ops (over a0 (L.map Prod.snd) y).tmps) = true then Oper.wp P o (over a0 (L.map Prod.snd) y) w K Q else K ((over a0 (L.map Prod.snd) y).put o.dst undef) w)) :
    wpUpto P md ops Q S t f listed a0 w0 := by
  have H : ∀ (n f : Nat) (listed : Array Bool) (y : Nat → Value) (w : World) (Φ : Nat → Nat → Prop),
      f = (L.filter fun p => !listed.getD p.1 true).length + 1 → listed.size = ops.size → listed.getD t true = false →
      (∀ i, i < ops.size → listed.getD i true = false → i = t ∨ ∃ p ∈ L, p.1 = i) →
      (∀ p ∈ L, listed.getD p.1 true = true → ∀ q ∈ L, waitsFor md ops p.1 q.1 = true → listed.getD q.1 true = true) →
      S w → Below w0.heap.size w0 w → (∀ q ∈ L, Alive L cons listed q.1 → FIn w0 w (Φ q.1) ∧ G q.1 y (Φ q.1) w) →
      (∀ q ∈ L, ∀ r ∈ L, q.1 ≠ r.1 → Alive L cons listed q.1 → Alive L cons listed r.1 → FApart (Φ q.1) (Φ r.1)) →
      f ≤ n → wpUpto P md ops Q S t f listed (over a0 (L.map Prod.snd) y) w := by
    intro n
    induction n with
    | zero => intro f listed y w Φ hf _ _ _ _ _ _ _ _ hn; omega
    | succ n ih =>
      intro f listed y w Φ hf hsz htun hall hdown hS hB hGs hAp hn
      obtain ⟨ot, hot⟩ := hot
      have htlt : t < ops.size := by
        rcases Nat.lt_or_ge t ops.size with h | h
        · exact h
        · rw [Array.getElem?_eq_none h] at hot; cases hot
      obtain ⟨g, rfl⟩ : ∃ g, f = g + 1 := ⟨_, hf⟩
      have hg : g = (L.filter fun p => !listed.getD p.1 true).length := by omega
      refine ⟨fun h => ?_, fun i hi' => ?_⟩
      · obtain ⟨j, hj⟩ := ready_some hrise hsz (t + 1) t (by omega) htlt htun
        rw [h] at hj
        cases hj
      obtain ⟨hiun, o, hio, hdeps⟩ := mem_ready.1 hi'
      have hilt : i < ops.size := by
        rcases Nat.lt_or_ge i ops.size with h | h
        · exact h
        · rw [Array.getElem?_eq_none h] at hio; cases hio
      have hdep : ∀ k, k < ops.size → waitsFor md ops i k = true → listed.getD k true = true := by
        intro k hk hw
        unfold waitsFor at hw
        rw [hio] at hw
        obtain ⟨e, he, hb⟩ := Array.any_eq_true'.1 hw
        simp only [Bool.and_eq_true, beq_iff_eq] at hb
        have h1 := hdeps e he hb.1
        rw [hb.2] at h1
        have hk' : k < listed.size := by omega
        simp [hk'] at h1 ⊢
        exact h1
      have hLlt : ∀ p ∈ L, p.1 < ops.size := by
        intro p hp
        obtain ⟨o', ho', _⟩ := hstep p hp
        rcases Nat.lt_or_ge p.1 ops.size with h | h
        · exact h
        · rw [Array.getElem?_eq_none h] at ho'; cases ho'
      have key : ∀ K : Act → World → Prop, (if Region.wanted o (yielded ops (over a0 (L.map Prod.snd) y).tmps) = true then Oper.wp P o (over a0 (L.map Prod.snd) y) w K Q else K ((over a0 (L.map Prod.snd) y).put o.dst undef) w) → wpOp P ops Q i K (over a0 (L.map Prod.snd) y) w := by
        intro K h1
        unfold wpOp
        simp only [hio]
        split
        · rename_i hw
          rw [if_pos hw] at h1
          exact .inl h1
        · rename_i hw
          rw [if_neg hw] at h1
          exact h1
      refine key _ ?_
      by_cases hit : i = t
      · subst hit
        have hl : ∀ p ∈ L, listed.getD p.1 true = true := fun p hp => hdep p.1 (hLlt p hp) (htl p hp).2
        obtain ⟨o2, ho2, hlst⟩ := hlast
        rw [hio] at ho2
        cases ho2
        refine (hlst y w Φ hS hB (fun q hq hc => hGs q hq ⟨hl q hq, fun p hp _ => hc p hp⟩) (fun q hq r hr hne h1 h2 => hAp q hq r hr hne ⟨hl q hq, fun p hp _ => h1 p hp⟩ ⟨hl r hr, fun p hp _ => h2 p hp⟩) _ (fun a' w' hq => ⟨fun h => absurd rfl h, upto_done ?_ hq⟩)).out
        rw [List.eq_nil_iff_forall_not_mem]
        intro j hj
        obtain ⟨hjun, oj, hjo, _⟩ := mem_ready.1 hj
        have hjl : j < ops.size := by
          rcases Nat.lt_or_ge j ops.size with h | h
          · exact h
          · rw [Array.getElem?_eq_none h] at hjo; cases hjo
        by_cases hji : i = j
        · subst hji
          have hk' : i < listed.size := by omega
          simp [hk'] at hjun
        · rw [getD_set_ne true hji] at hjun
          rcases hall j hjl hjun with h | ⟨p, hp, h⟩
          · exact hji h.symm
          · rw [← h, hl p hp] at hjun; cases hjun
      · obtain ⟨p, hp, hpi⟩ := (hall i hilt hiun).resolve_left hit
        subst hpi
        obtain ⟨o', ho', hdst, hst⟩ := hstep p hp
        rw [hio] at ho'
        cases ho'
        -- what p takes over is there
        have hcal : ∀ q ∈ L, q.1 ∈ cons p.1 → Alive L cons listed q.1 := fun q hq hc => ⟨hdep q.1 (hLlt q hq) (hcons p hp _ hc).1, fun r hr hrl hcr => by
          by_cases e : r.1 = p.1
          · rw [e, hiun] at hrl; cases hrl
          · exact huniq p hp r hr (Ne.symm e) q.1 hc hcr⟩
        refine (hst y w Φ hS hB (fun q hq hw hc => ?_) _ (fun v w' F' hm hF' hGp => ⟨fun _ => hSst _ _ _ hS hm ?_, ?_⟩)).out
        · rcases hc with hc | hc
          · exact hGs q hq (hcal q hq hc)
          · exact hGs q hq ⟨hdep q.1 (hLlt q hq) hw, fun r hr _ => hc r hr⟩
        · rintro b ⟨j, hj, hb⟩
          obtain ⟨_, q, hq, rfl⟩ := hcons p hp j hj
          exact ((hGs q hq (hcal q hq hj)).1 b hb).1
        have hTk : ∀ b, Taken cons Φ p.1 b → w0.heap.size ≤ b ∧ b < w.heap.size := by
          rintro b ⟨j, hj, hb⟩
          obtain ⟨_, q, hq, rfl⟩ := hcons p hp j hj
          exact (hGs q hq (hcal q hq hj)).1 b hb
        rw [over_put (List.mem_map_of_mem hp) hnd]
        have hlt : p.1 < listed.size := by omega
        have hself' : (listed.setIfInBounds p.1 true).getD p.1 true = true := by simp [hlt]
        have hoth : ∀ j, p.1 ≠ j → (listed.setIfInBounds p.1 true).getD j true = listed.getD j true := fun j h => getD_set_ne true h
        have hinj : ∀ q ∈ L, q.1 = p.1 → q = p := fun q hq h => inj_fst L hno q hq p hp h
        have hinj2 : ∀ q ∈ L, q.2 = p.2 → q = p := fun q hq h => inj_snd L hnd q hq p hp h
        -- who is alive behind p, and is not p, was alive ahead of it, and is not taken over
        have hback : ∀ q ∈ L, q.1 ≠ p.1 → Alive L cons (listed.setIfInBounds p.1 true) q.1 → Alive L cons listed q.1 ∧ q.1 ∉ cons p.1 := fun q hq e ha => by
          refine ⟨⟨by rw [← hoth _ (Ne.symm e)]; exact ha.1, fun r hr hrl => ?_⟩, ha.2 p hp hself'⟩
          by_cases e2 : r.1 = p.1
          · rw [e2, hiun] at hrl; cases hrl
          · exact ha.2 r hr (by rw [hoth _ (Ne.symm e2)]; exact hrl)
        have hTq : ∀ q ∈ L, Alive L cons listed q.1 → q.1 ∉ cons p.1 → FApart (Taken cons Φ p.1) (Φ q.1) := by
          rintro q hq ha hn b ⟨j, hj, hb⟩
          obtain ⟨_, r, hr, rfl⟩ := hcons p hp j hj
          exact hAp r hr q hq (fun e => hn (e ▸ hj)) (hcal r hr hj) ha b hb
        refine ih g (listed.setIfInBounds p.1 true) (updV y p.2 v) w' (fun j => if j = p.1 then F' else Φ j) ?_ (by simpa using hsz) ?_ ?_ ?_ (hSst _ _ _ hS hm (fun b hb => (hTk b hb).1)) (hm.below hB hB.size (fun b hb => (hTk b hb).1)) ?_ ?_ (by omega)
        · rw [hg]
          refine filter_less hno hp (by rw [hiun]; rfl) (by rw [hself']; rfl) (fun q hq hne => ?_)
          rw [hoth _ (fun c => hne (hinj q hq c.symm))]
        · rw [hoth _ (fun h => hit h)]; exact htun
        · intro j hj hju
          by_cases e : p.1 = j
          · subst e; rw [hself'] at hju; cases hju
          · rw [hoth _ e] at hju; exact hall j hj hju
        · intro q hq hql r hr hw
          by_cases e : p.1 = r.1
          · rw [← e]; exact hself'
          · rw [hoth _ e]
            by_cases e2 : p.1 = q.1
            · rw [← e2] at hw; exact hdep r.1 (hLlt r hr) hw
            · rw [hoth _ e2] at hql; exact hdown q hq hql r hr hw
        · intro q hq ha
          by_cases e : q.1 = p.1
          · have e2 := hinj q hq e
            subst e2
            simp only [if_true]
            refine ⟨fun b hb => ?_, hGp⟩
            rcases hF' b hb with h | h
            · have := hTk b h; have := hm.size; omega
            · have := hB.size; omega
          · obtain ⟨h1, h2⟩ := hback q hq e ha
            simp only [if_neg e]
            obtain ⟨g1, g2⟩ := hGs q hq h1
            refine ⟨fun b hb => ⟨(g1 b hb).1, Nat.lt_of_lt_of_le (g1 b hb).2 hm.size⟩, hG q hq y (updV y p.2 v) _ _ w w' g2 g1 hm (hTq q hq h1 h2) (fun b hb => (hTk b hb).1) ?_ ?_⟩
            · exact if_neg (fun c => e (by rw [hinj2 q hq c]))
            · intro r hr hw
              refine if_neg (fun c => ?_)
              have e3 := hinj2 r hr c
              subst e3
              rw [hdown q hq h1.1 _ hr hw] at hiun
              cases hiun
        · intro q hq r hr hne hqa hra
          by_cases e : q.1 = p.1
          · have e' : r.1 ≠ p.1 := fun c => hne (e.trans c.symm)
            obtain ⟨h1, h2⟩ := hback r hr e' hra
            simp only [if_pos e, if_neg e']
            intro b hb hb2
            rcases hF' b hb with h | h
            · exact hTq r hr h1 h2 b h hb2
            · have := ((hGs r hr h1).1 b hb2).2; omega
          · obtain ⟨h1, h2⟩ := hback q hq e hqa
            by_cases e' : r.1 = p.1
            · simp only [if_neg e, if_pos e']
              intro b hb hb2
              rcases hF' b hb2 with h | h
              · exact hTq q hq h1 h2 b h hb
              · have := ((hGs q hq h1).1 b hb).2; omega
            · obtain ⟨h3, _⟩ := hback r hr e' hra
              simp only [if_neg e, if_neg e']
              exact hAp q hq r hr hne h1 h3
  have h0 := H f f listed (fun s => a0.tmps.getD s undef) w0 (fun _ _ => False) (by
    rw [hf, List.filter_eq_self.2 (fun p hp => by rw [hun.2 p hp]; rfl)]) hsz hun.1 hall (fun p hp h => by rw [hun.2 p hp] at h; cases h) hS (Below.refl _ _) (fun q hq h => by have h := h.1; rw [hun.2 q hq] at h; cases h) (fun q hq r hr hne h => by have h := h.1; rw [hun.2 q hq] at h; cases h) (Nat.le_refl _)
  rw [over_self] at h0
  exact h0
def checkC (md : Region.Mode) (ops : Array Oper) (listed : Array Bool) (t f : Nat) (L : List (Nat × Nat)) (cons : Nat → List Nat) : Bool :=
  checkS md ops listed t f L && (L.all fun p => (cons p.1).all fun j => waitsFor md ops p.1 j && L.any fun q => decide (q.1 = j)) && (L.all fun p => L.all fun r => decide (p.1 = r.1) || (cons p.1).all fun j => decide (j ∉ cons r.1))
theorem upto_cons' (L : List (Nat × Nat)) (cons : Nat → List Nat) (G : Nat → (Nat → Value) → (Nat → Prop) → World → Prop) {f : Nat} {listed : Array Bool} {a0 : Act} {w0 : World} (hc : checkC md ops listed t f L cons = true)
    (hS : S w0) (hSst : ∀ (F : Nat → Prop) (w w' : World), S w → Mod F w w' → (∀ b, F b → w0.heap.size ≤ b) → S w')
    (hG : ∀ p ∈ L, ∀ (y y' : Nat → Value) (F F' : Nat → Prop) (w w' : World), G p.1 y F w → FIn w0 w F → Mod F' w w' → FApart F' F → (∀ b, F' b → w0.heap.size ≤ b) → y' p.2 = y p.2 → (∀ q ∈ L, waitsFor md ops p.1 q.1 = true → y' q.2 = y q.2) → G p.1 y' F w')
    (hstep : ∀ p ∈ L, StepC P md ops Q S L cons G a0 w0 p)
    (hlast : ∃ o, ops[t]? = some o ∧ ∀ (y : Nat → Value) (w : World) (Φ : Nat → Nat → Prop), S w → Below w0.heap.size w0 w → (∀ q ∈ L, (∀ r ∈ L, q.1 ∉ cons r.1) → FIn w0 w (Φ q.1) ∧ G q.1 y (Φ q.1) w) → (∀ q ∈ L, ∀ r ∈ L, q.1 ≠ r.1 → (∀ p ∈ L, q.1 ∉ cons p.1) → (∀ p ∈ L, r.1 ∉ cons p.1) → FApart (Φ q.1) (Φ r.1)) →
      ∀ K : Act → World → Prop, (∀ a' w', Q .normal a' w' → K a' w') → Shut (if Region.wanted o (yielded ops (over a0 (L.map Prod.snd) y).tmps) = true then Oper.wp P o (over a0 (L.map Prod.snd) y) w K Q else K ((over a0 (L.map Prod.snd) y).put o.dst undef) w)) :
    wpUpto P md ops Q S t f listed a0 w0 := by
  unfold checkC checkS at hc
  simp only [Bool.and_eq_true, decide_eq_true_eq, List.all_eq_true, List.any_eq_true, Bool.or_eq_true, Bool.not_eq_true', List.mem_range] at hc
  obtain ⟨⟨⟨⟨⟨⟨⟨⟨⟨⟨⟨h1, h2⟩, h3⟩, h4⟩, h5⟩, h6⟩, h7⟩, h8⟩, h9⟩, h10⟩, h11⟩, h13⟩ := hc
  refine upto_cons L cons G h1 h2 (Option.isSome_iff_exists.1 h3) (fun i hi hu => ?_) ⟨h5, h6⟩ h7 h8 h9 h10 h11 (fun p hp r hr hne => (h13 p hp r hr).resolve_left hne) hS hSst hG hstep hlast
  rcases h4 i hi with (h | h) | h
  · rw [hu] at h; cases h
  · exact .inl h
  · exact .inr h
end

end Go.Proofs.Ytncmdeijimgchaa

/-
  Votes counted in a map: mathematics.
-/
set_option linter.unusedVariables false
set_option linter.unusedSimpArgs false
namespace Go.Proofs.Ytncmdeijimgchaa
open Go.RowKit Go.Maps
set_option linter.unusedSectionVars false
variable [DecidableEq Vot] [Inhabited Vot] [DecidableEq Slt] [Inhabited Slt] [DecidableEq SltR] [Inhabited SltR] [DecidableEq Bal] [Inhabited Bal] [DecidableEq Ledg] [Inhabited Ledg] [DecidableEq Leg] [Inhabited Leg]

def hasL (xs : List Vot) (v : Vot) : Bool := xs.any (fun u => decide (u.bal = v.bal) && decide (u.val = v.val))
theorem hasL_iff {xs : List Vot} {v : Vot} : hasL xs v = true ↔ v ∈ xs := by
  unfold hasL
  rw [List.any_eq_true]
  constructor
  · rintro ⟨u, hu, e⟩
    rw [vot_eq] at e
    exact e ▸ hu
  · intro h
    exact ⟨v, h, vot_eq.2 rfl⟩
def cF (D : List Slt) (i k : Nat) (v : Vot) : Nat := cntP (fun t => hasV (D.getD t default) v) i + if hasL ((D.getD i default).cast.take k) v then 1 else 0
def cB (D : List Slt) (i k : Nat) : Vot → Option Int := fun v => if cF D i k v = 0 then none else some (cF D i k v : Int)
theorem cB_get (D : List Slt) (i k : Nat) (v : Vot) : (cB D i k v).getD 0 = (cF D i k v : Int) := by
  unfold cB
  split
  · rename_i h
    rw [h]
    rfl
  · rfl
theorem cB_some (D : List Slt) (i k : Nat) (v : Vot) : (cB D i k v).isSome = true ↔ ¬ cF D i k v = 0 := by
  unfold cB
  split <;> simp_all
theorem cF_zero (D : List Slt) (i : Nat) (v : Vot) : cF D i 0 v = cntP (fun t => hasV (D.getD t default) v) i := by
  unfold cF
  simp [hasL]
theorem cB_start (D : List Slt) : cB D 0 0 = fun _ => none := by
  funext v
  unfold cB
  rw [cF_zero]
  rfl
theorem cF_le (D : List Slt) (i k : Nat) (v : Vot) : cF D i k v ≤ i + 1 := by
  have := cntP_le (fun t => hasV (D.getD t default) v) i
  unfold cF
  split <;> omega
theorem cB_row (D : List Slt) (i : Nat) : cB D i (D.getD i default).cast.length = cB D (i + 1) 0 := by
  funext v
  have e : cF D i (D.getD i default).cast.length v = cF D (i + 1) 0 v := by
    rw [cF_zero]
    unfold cF
    rw [List.take_length]
    rfl
  unfold cB
  rw [e]
theorem take_snocV (xs : List Vot) (k : Nat) (h : k < xs.length) : xs.take (k + 1) = xs.take k ++ [xs.getD k default] := by
  rw [List.take_succ_eq_append_getElem h]
  simp [List.getD, h]
theorem cB_new (D : List Slt) (i k : Nat) (u : Vot) (hk : k < (D.getD i default).cast.length) (hu : (D.getD i default).cast.getD k default = u) (hn : ¬ u ∈ (D.getD i default).cast.take k) : cB D i (k + 1) = updV1 (cB D i k) u (some ((cB D i k u).getD 0 + 1)) := by
  have e : ∀ v, cF D i (k + 1) v = cF D i k v + if v = u then 1 else 0 := by
    intro v
    unfold cF
    rw [take_snocV _ k hk, hu]
    by_cases hv : v = u
    · subst hv
      have h1 : hasL ((D.getD i default).cast.take k ++ [v]) v = true := hasL_iff.2 (by simp)
      have h2 : hasL ((D.getD i default).cast.take k) v = false := by
        cases e : hasL ((D.getD i default).cast.take k) v with
        | false => rfl
        | true => exact absurd (hasL_iff.1 e) hn
      rw [h1, h2]
      simp
    · have h1 : hasL ((D.getD i default).cast.take k ++ [u]) v = hasL ((D.getD i default).cast.take k) v := by
        rw [Bool.eq_iff_iff, hasL_iff, hasL_iff]
        simp [hv]
      rw [h1, if_neg hv]
      omega
  funext v
  by_cases hv : v = u
  · subst hv
    rw [updV1_at, cB_get]
    unfold cB
    rw [e, if_pos rfl, if_neg (by omega)]
    simp
  · rw [updV1_ne _ _ hv]
    unfold cB
    rw [e, if_neg hv, Nat.add_zero]
theorem cB_old (D : List Slt) (i k : Nat) (u : Vot) (hk : k < (D.getD i default).cast.length) (hu : (D.getD i default).cast.getD k default = u) (hn : u ∈ (D.getD i default).cast.take k) : cB D i (k + 1) = cB D i k := by
  funext v
  have e : cF D i (k + 1) v = cF D i k v := by
    unfold cF
    rw [take_snocV _ k hk, hu]
    have h1 : hasL ((D.getD i default).cast.take k ++ [u]) v = hasL ((D.getD i default).cast.take k) v := by
      rw [Bool.eq_iff_iff, hasL_iff, hasL_iff]
      simp only [List.mem_append, List.mem_singleton]
      constructor
      · rintro (h | h)
        · exact h
        · exact h ▸ hn
      · exact fun h => .inl h
    rw [h1]
  unfold cB
  rw [e]
theorem in_take {s : Slt} (h : SltOk s) {p : Nat} (hp : p + 1 < s.cast.length) : s.cast.getD (p + 1) default ∈ s.cast.take (p + 1) ↔ s.cast.getD (p + 1) default = s.cast.getD p default := by
  constructor
  · intro hm
    obtain ⟨j, hj, e⟩ := getD_of_mem hm
    rw [List.length_take] at hj
    have e2 : (s.cast.take (p + 1)).getD j default = s.cast.getD j default := by simp [List.getD, List.getElem?_take, show j < p + 1 by omega]
    rw [e2] at e
    have h1 := slt_order h j (p - j) (by omega)
    have h2 := slt_order h p 1 (by omega)
    rw [show j + (p - j) = p by omega] at h1
    have hb : (s.cast.getD p default).bal = (s.cast.getD (p + 1) default).bal := by rw [e] at h1; omega
    have hv := h2.2 hb
    exact vot_eq.1 (by rw [hb, hv]; simp)
  · intro e
    rw [e, take_snocV _ p (by omega)]
    simp
theorem cB_end (D : List Slt) (v : Vot) : cF D D.length 0 v = cntV D v := cF_zero D D.length v
def leftV (ko : Value → Option Lit) (left : Lit → Bool) (x : Vot) : Bool := match ko (vv x) with | some kl => left kl | none => false
theorem leftV_some {left : Lit → Bool} {x : Vot} {kl : Lit} (h : keyOf Try.prog 54 (vv x) = some kl) : leftV (keyOf Try.prog 54) left x = left kl := by unfold leftV; rw [h]
theorem leftV_strike {left : Lit → Bool} {x y : Vot} {kl : Lit} (hk : keyOf Try.prog 54 (vv x) = some kl) :
    leftV (keyOf Try.prog 54) (fun z => left z && !z.sameKey kl) y = (leftV (keyOf Try.prog 54) left y && !(decide (y.bal = x.bal) && decide (y.val = x.val))) := by
  unfold leftV
  split
  · rename_i kl' hk'
    by_cases e : kl' = kl
    · subst e
      have e' := vv_inj (votLaw.inj hk' hk)
      subst e'
      simp [WideAt.sameKey_self (votLaw.key hk)]
    · have hne : (decide (y.bal = x.bal) && decide (y.val = x.val)) = false := by
        cases h : (decide (y.bal = x.bal) && decide (y.val = x.val)) with
        | false => rfl
        | true =>
          have := vot_eq.1 h
          subst this
          rw [hk] at hk'
          exact absurd (by simpa using hk'.symm) e
      show (left kl' && !kl'.sameKey kl) = _
      simp [Maps.sameKey_ne e, hne]
  · rfl
structure Came (f : Vot → Option Int) (q : Int) (left : Lit → Bool) (xs : List Vot) : Prop where
  nodup : xs.Nodup
  mem : ∀ v, v ∈ xs ↔ (f v).isSome = true ∧ leftV (keyOf Try.prog 54) left v = false ∧ q ≤ (f v).getD 0
theorem came_v0 {f : Vot → Option Int} {q : Int} {D : DataW Unit} (hf : ∀ v, (f v).isSome = true → vwf v) (h : ∀ x kl, keyOf Try.prog 54 (vv x) = some kl → Maps.has D kl = (f x).isSome ∧ D.atKey kl (.lit (.int .i64 0)) = .lit (.int .i64 ((f x).getD 0))) : Came f q (Maps.has D) [] := by
  refine ⟨List.nodup_nil, fun v => ⟨fun h => by simp at h, fun ⟨h1, h2, _⟩ => ?_⟩⟩
  obtain ⟨kl, hk⟩ := keyOf_vv (hf v h1)
  rw [leftV_some hk, (h v kl hk).1, h1] at h2
  cases h2
theorem came_add {f : Vot → Option Int} {q : Int} {left : Lit → Bool} {xs : List Vot} (h : Came f q left xs) {x : Vot} {kl : Lit} (hk : keyOf Try.prog 54 (vv x) = some kl) (hl : left kl = true) (hs : (f x).isSome = true) (hq : q ≤ (f x).getD 0) : Came f q (fun z => left z && !z.sameKey kl) (xs ++ [x]) := by
  have hlx : leftV (keyOf Try.prog 54) left x = true := by rw [leftV_some hk, hl]
  have hx : ¬ x ∈ xs := fun hx => by have := ((h.mem x).1 hx).2.1; rw [hlx] at this; cases this
  refine ⟨?_, fun v => ?_⟩
  · rw [List.nodup_append]
    exact ⟨h.nodup, by simp, fun a ha b hb => by simp at hb; subst hb; rintro rfl; exact hx ha⟩
  · rw [leftV_strike hk, List.mem_append, List.mem_singleton, h.mem]
    by_cases e : v = x
    · subst e
      have : (decide (v.bal = v.bal) && decide (v.val = v.val)) = true := vot_eq.2 rfl
      rw [this]
      simp [hs, hq]
    · have : (decide (v.bal = x.bal) && decide (v.val = x.val)) = false := by
        cases h : (decide (v.bal = x.bal) && decide (v.val = x.val)) with
        | false => rfl
        | true => exact absurd (vot_eq.1 h) e
      rw [this]
      simp [e]
theorem came_pass {f : Vot → Option Int} {q : Int} {left : Lit → Bool} {xs : List Vot} (h : Came f q left xs) {x : Vot} {kl : Lit} (hk : keyOf Try.prog 54 (vv x) = some kl) (hq : ¬ q ≤ (f x).getD 0) : Came f q (fun z => left z && !z.sameKey kl) xs := by
  refine ⟨h.nodup, fun v => ?_⟩
  rw [leftV_strike hk, h.mem]
  by_cases e : v = x
  · subst e
    simp [hq]
  · have : (decide (v.bal = x.bal) && decide (v.val = x.val)) = false := by
      cases h : (decide (v.bal = x.bal) && decide (v.val = x.val)) with
      | false => rfl
      | true => exact absurd (vot_eq.1 h) e
    rw [this]
    simp
theorem came_end8 {f : Vot → Option Int} {q : Int} {left : Lit → Bool} {xs : List Vot} (h : Came f q left xs) (h0 : ∀ kl, left kl = false) (v : Vot) : v ∈ xs ↔ (f v).isSome = true ∧ q ≤ (f v).getD 0 := by
  rw [h.mem]
  have : leftV (keyOf Try.prog 54) left v = false := by
    unfold leftV
    split
    · exact h0 _
    · rfl
  simp [this]
theorem chs_sorted {D : List Slt} (hok : AllOk D) {xs ys : List Vot} (hn : xs.Nodup) (hm : ∀ v, v ∈ xs ↔ isCh D v) (hp : ys.Perm xs) (hs : ys.Pairwise (fun p q => ¬ q.bal < p.bal)) : Chs D ys := by
  have hm' : ∀ v, v ∈ ys ↔ isCh D v := fun v => by rw [hp.mem_iff]; exact hm v
  refine ⟨?_, hm'⟩
  have hnd : ys.Nodup := hp.nodup_iff.2 hn
  unfold Rise
  rw [List.pairwise_iff_getElem] at hs ⊢
  intro i j hi hj hij
  have h1 := hs i j hi hj hij
  have h2 : ¬ ys[i].bal = ys[j].bal := fun e => by
    have := ch_one hok ((hm' _).1 (List.getElem_mem hi)) ((hm' _).1 (List.getElem_mem hj)) e
    exact (List.pairwise_iff_getElem.1 hnd i j hi hj hij) this
  omega
end Go.Proofs.Ytncmdeijimgchaa

/-
  What is chosen: what both sides leave.
-/
namespace Go.Proofs.Ytncmdeijimgchaa
open Go.RowKit
set_option linter.unusedSectionVars false
variable [DecidableEq Vot] [Inhabited Vot] [DecidableEq Slt] [Inhabited Slt] [DecidableEq SltR] [Inhabited SltR] [DecidableEq Bal] [Inhabited Bal] [DecidableEq Ledg] [Inhabited Ledg] [DecidableEq Leg] [Inhabited Leg]

def ChE (D : List Slt) (w : World) (e : Ending) (w' : World) : Prop := ∃ v ys, e = .returned v ∧ votsR.V w' v ys ∧ Chs D ys ∧ Below w.heap.size w w'
end Go.Proofs.Ytncmdeijimgchaa


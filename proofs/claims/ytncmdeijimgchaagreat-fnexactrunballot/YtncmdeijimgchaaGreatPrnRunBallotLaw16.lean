import Derived.Test.YtncmdeijimgchaaGreatPrnRunBallotLaw15
import Derived.Deep.AppendLies
import Derived.Test.YtncmdeijimgchaaGreatPrnRunBallotLaw12
import Derived.Test.YtncmdeijimgchaaGreatPrnRunBallotLaw13
import Derived.BigQuiet
import Derived.Deep.QuietTactic
import Derived.Deep.RegionHeld3
import Derived.Test.YtncmdeijimgchaaGreatPrnRunBallotLaw4
import Derived.Test.YtncmdeijimgchaaGreatPrnRunBallotLaw11
import Derived.Shelf.Abstract

/-
  A number put into a rising list (the specification's own helper).
-/
namespace Go.Proofs.YtncmdeijimgchaaGreat
open Go.RowKit
set_option linter.unusedSectionVars false
variable [DecidableEq Leg] [Inhabited Leg]
attribute [local go_sem ↓] Go.wp_at_zero Go.wp_at_succ

def ahead (ys : List Int) (v : Int) : Nat := (ys.takeWhile (· < v)).length
section
variable {P : Program} (w : World)
end

end Go.Proofs.YtncmdeijimgchaaGreat

/-
  promisesOf, the program's.
-/
set_option linter.unusedSimpArgs false
set_option linter.unusedVariables false
namespace Go.Proofs.YtncmdeijimgchaaGreat
open Go.RowKit
set_option linter.unusedSectionVars false
variable [DecidableEq Vot] [Inhabited Vot] [DecidableEq Slt] [Inhabited Slt] [DecidableEq SltR] [Inhabited SltR] [DecidableEq Bal] [Inhabited Bal] [DecidableEq Ledg] [Inhabited Ledg] [DecidableEq Leg] [Inhabited Leg] [DecidableEq Acc] [Inhabited Acc] [DecidableEq AccR] [Inhabited AccR] [DecidableEq AccsR] [Inhabited AccsR] [DecidableEq SltsR] [Inhabited SltsR]
attribute [local go_sem ↓] Go.wp_at_zero Go.wp_at_succ

def PsE (x : Value) (P : Pst) (base : Nat) (F : Nat → Prop) (w : World) (e : Ending) (w' : World) : Prop :=
  ∃ vd vo F', e = .returned (.tuple #[vd, vo]) ∧ accsR.O w' base F' x P.accs ∧ (∀ b, F' b → F b ∨ w.heap.size ≤ b) ∧ w'.ownsRow w.heap.size 2 1 vd P.did.length (intsC P.did) ∧ w'.ownsRow w.heap.size 65 2 vo P.old.length (votsC P.old) ∧ (∀ b, vd.ownBlock = some b → ¬ F' b) ∧ Mod F w w'
set_option maxRecDepth 20000 in
set_option maxHeartbeats 8000000 in
theorem promises_any (x xr : Value) (l : List Acc) (R : List Int) (c s b : Int) (base : Nat) (F : Nat → Prop) (w0 w : World) (ho : accsR.O w base F x l) (hb0 : Below w0.heap.size w0 w) (hbs : w0.heap.size ≤ base) (hbw : base ≤ w.heap.size) (hr : IntsV w0 xr R)
    (hin : ∀ k, k < R.length → 0 ≤ R.getD k 0 ∧ R.getD k 0 < l.length) (hl1 : 1 ≤ l.length) (hR5 : R.length ≤ 1000) :
    Calls Tryz.prog 38 #[x, xr, .int .i64 c, .int .i64 s, .int .i64 b] w (PsE x (prN l R c s b R.length) base F w) := by
  obtain ⟨g, cap, _, _, rfl, hnc, hcm, hFg, _, _, _⟩ := accs_read ho (show 0 < l.length by omega)
  unfold maxLen at hcm
  obtain ⟨a, cx, rfl, hcx, hmx, hx⟩ := hr
  unfold maxLen at hmx
  have HX : Hid (∀ i, i < R.length → ∃ bb o, a = some ⟨bb, o, none⟩ ∧ w0.cell? ⟨bb, o + i, none⟩ = some (.int .i64 (R.getD i 0))) := hx
  have HIn : Hid (∀ k, k < R.length → 0 ≤ R.getD k 0 ∧ R.getD k 0 < l.length) := hin
  have HLen : Hid (∀ k, (prN l R c s b k).accs.length = l.length) := fun k => prN_len l R c s b k
  have HDid : Hid (∀ k, (prN l R c s b k).did.length ≤ k ∧ (prN l R c s b k).old.length = (prN l R c s b k).did.length) := fun k => prN_did l R c s b k
  have HFb : Hid (∀ bb, F bb → base ≤ bb ∧ bb < w.heap.size) := fun bb h => accsR.rng ho bb h
  have hgb := HFb.out g hFg
  have HO0 : Hid (accsR.O w base F (.slice (some ⟨g, 0, none⟩) l.length cap) (prN l R c s b 0).accs) := ho
  clear ho hx hin
  obtain ⟨n, hn'⟩ : ∃ n, n = l.length := ⟨_, rfl⟩
  rw [← hn'] at HO0 HLen HIn hnc hl1 ⊢
  clear hn'
  obtain ⟨m, hm'⟩ : ∃ m, m = R.length := ⟨_, rfl⟩
  rw [← hm'] at HX HIn hcx hR5 ⊢
  clear hm'
  obtain ⟨i0, hi0, hz0, hz1, hz2⟩ := info_parts infoInt
  have HI0 : Hid (Tryz.prog.info? 2 = some i0 ∧ i0.zero = some (.int .i64 0) ∧ i0.size = 1 ∧ i0.bytes = 8) := ⟨hi0, hz0, hz1, hz2⟩
  clear hi0 hz0 hz1 hz2
  obtain ⟨j0, hj0, hy0, hy1, hy2⟩ := info_parts infoVot
  have HJ0 : Hid (Tryz.prog.info? 65 = some j0 ∧ j0.zero = some (.agg #[.int .i64 0, .int .i64 0]) ∧ j0.size = 2 ∧ j0.bytes = 16) := ⟨hj0, hy0, hy1, hy2⟩
  clear hj0 hy0 hy1 hy2
  go_enter Tryz.func38, Tryz.ntmps38
  go_wp2
  go_loopw [12, 13, 19] (fun vd vo i w' => ∃ (k : Nat) (F' : Nat → Prop) (pd po : Option Addr) (qd qo dn : Nat), k ≤ m ∧ i = .int .i64 k ∧ vd = .slice pd dn qd ∧ vo = .slice po dn qo ∧ Hid ((prN l R c s b k).did.length = dn) ∧ Hid (accsR.O w' base F' (.slice (some ⟨g, 0, none⟩) n cap) (prN l R c s b k).accs) ∧ Hid (∀ bb, F' bb → F bb ∨ w.heap.size ≤ bb) ∧ Hid (w'.ownsRow w.heap.size 2 1 (.slice pd dn qd) dn (intsC (prN l R c s b k).did)) ∧ Hid (w'.ownsRow w.heap.size 65 2 (.slice po dn qo) dn (votsC (prN l R c s b k).old)) ∧ Hid (∀ bb, (Value.slice pd dn qd).ownBlock = some bb → ¬ F' bb) ∧ Hid (∀ bb, (Value.slice po dn qo).ownBlock = some bb → ¬ F' bb) ∧ Hid (∀ bb, (Value.slice pd dn qd).ownBlock = some bb → ¬ (Value.slice po dn qo).ownBlock = some bb) ∧ Mod F w w') (fun vd vo i _ => m - (intOf i).toNat)
  case atStart => exact ⟨0, F, none, none, 0, 0, 0, Nat.zero_le _, rfl, rfl, rfl, rfl, HO0, fun bb h => .inl h, World.ownsRow_nil _ _ _ _, World.ownsRow_nil _ _ _ _, fun bb h => by simp [Value.ownBlock] at h, fun bb h => by simp [Value.ownBlock] at h, fun bb h => by simp [Value.ownBlock] at h, Mod.refl _ _⟩
  case round =>
    clear HO0
    obtain ⟨k, F', pd, po, qd, qo, dn, hk, rfl, rfl, rfl, HDn, HO, HF', HD, HV, HDF, HVF, HDV, hmod⟩ := hrel
    have hb0r : Below w0.heap.size w0 wr := hmod.below hb0 hb0.size (fun bb hb => by have := HFb.out bb hb; omega)
    have hzr := hmod.size
    by_cases hlt : k < m
    · obtain ⟨bb, o, rfl, hc⟩ := HX.out k hlt
      have hin := HIn.out k hlt
      obtain ⟨i, hi⟩ : ∃ i : Nat, R.getD k 0 = (i : Int) := ⟨(R.getD k 0).toNat, by omega⟩
      have HS : Hid (prN l R c s b (k + 1) = prS c s b (prN l R c s b k) (i : Int)) := by show _ = _; rw [← hi]; rfl
      rw [hi] at hc hin
      have hin2 : i < n := by omega
      have hlen := HLen.out k
      have hdn := HDid.out k
      obtain ⟨st, hst⟩ : ∃ st, st = prN l R c s b k := ⟨_, rfl⟩
      rw [← hst] at HS hlen HO HD HV HDn hdn
      clear hst
      obtain ⟨g', cap', p, q, hsl, _, _, hFg', gf, hcell, hVa⟩ := accs_read HO.out (show i < st.accs.length by omega)
      rw [hlen] at hsl
      simp only [Value.slice.injEq, Option.some.injEq, Addr.mk.injEq, and_true, true_and] at hsl
      obtain ⟨rfl, rfl⟩ := hsl
      obtain ⟨r, hr⟩ : ∃ r, r = promAtD (st.accs.getD i default).slots c s b := ⟨_, rfl⟩
      have HP : Hid (∀ W, Below wr.heap.size wr W → Calls Tryz.prog 72 #[.agg #[.slice p (st.accs.getD i default).slots.length q], .int .i64 c, .int .i64 s, .int .i64 b] W (AskE r W)) := fun W hW => by rw [hr]; exact implPromAt_u _ _ c s b W (accR.below hVa hW)
      have HS2 : Hid (prN l R c s b (k + 1) = if r.code = 0 then ⟨st.accs.set i r.acc, st.did ++ [(i : Int)], st.old ++ [⟨r.ob, r.ov⟩]⟩ else st) := by
        show _ = _
        rw [HS.out, hr]
        rfl
      clear hr hVa HS hi
      replace hc := cell_keep hb0r hc
      have hgz : g < wr.heap.size := by omega
      have hbz : bb < wr.heap.size := World.block_lt_of_cell? wr _ hc
      generalize (st.accs.getD i default).slots.length = mm at *
      have i1 : (i : Int) < n := by omega
      have i2 : (0 : Int) ≤ i := by omega
      go_wp2_with fail
      refine (HP.out _ (by (repeat (first | exact Below.refl _ _ | assumption | refine Below.drew ?_ | refine balloc ?_ _ | refine bset ?_ (by simp; omega) _ | refine bset ?_ (by simp) _ | refine bstep ?_ (by assumption))))).mono ?_
      rintro e w2 ⟨v2, F2, rfl, o2, hb2⟩
      obtain ⟨av, cv, rfl, o3⟩ := accR_cells o2
      have hz2 := hb2.size
      have hc2 := cell_keep hb2 hc
      have hcell2 := cell_keep hb2 hcell
      have gf2 : ∀ o, w2.frozen? ⟨g, o, none⟩ = false := fun o => by rw [(bcell hb2).2 _ _ hgz]; exact gf o
      have HO2 : Hid (accsR.O w2 base F' (.slice (some ⟨g, 0, none⟩) n cap) st.accs) := accsR.keep HO.out hb2
      have HA2 : Hid (accR.O w2 base F2 (.agg #[.slice av r.acc.slots.length cv]) r.acc) := accR.base o3 (by omega)
      have HFl : Hid (∀ bb, F' bb → bb < wr.heap.size) := fun bb h => (accsR.rng HO.out bb h).2
      have HF2 : Hid (∀ bb, F2 bb → wr.heap.size ≤ bb ∧ bb < w2.heap.size) := fun bb h => accR.rng o3 bb h
      have HD2 : Hid (w2.ownsRow w.heap.size 2 1 (.slice pd dn qd) dn (intsC st.did)) := owns_below HD.out hb2
      have HV2 : Hid (w2.ownsRow w.heap.size 65 2 (.slice po dn qo) dn (votsC st.old)) := owns_below HV.out hb2
      have HDl : Hid (∀ bb, (Value.slice pd dn qd).ownBlock = some bb → w.heap.size ≤ bb ∧ bb < wr.heap.size) := fun bb h => HD.out.lt bb h
      have HVl : Hid (∀ bb, (Value.slice po dn qo).ownBlock = some bb → w.heap.size ≤ bb ∧ bb < wr.heap.size) := fun bb h => HV.out.lt bb h
      have hmod2 : Mod F w w2 := hmod.trans (Mod.of_below hb2)
      clear o2 o3 hb2 HP HO HD HV hc hcell gf hmod
      by_cases hcode : r.code = 0
      · have HS3 : Hid (prN l R c s b (k + 1) = ⟨st.accs.set i r.acc, st.did ++ [(i : Int)], st.old ++ [⟨r.ob, r.ov⟩]⟩) := by show _ = _; rw [HS2.out, if_pos hcode]
        rw [hcode]
        clear hcode HS2
        have hgz2 : g < w2.heap.size := by omega
        have hbz2 : bb < w2.heap.size := by omega
        have hne : ¬ g = w2.heap.size := by omega
        have hstore := accs_store (i := i) (by rw [hlen]; exact HO2.out) (by omega) HA2.out (fun b' h1 h2 => by have := HFl.out b' h1; have := (HF2.out b' h2).1; omega)
        rw [hlen] at hstore
        obtain ⟨F3, o4, hm4, hF3⟩ := hstore
        have HO4 : Hid (accsR.O ((w2.setCell ⟨g, i, none⟩ (.slice av r.acc.slots.length cv)).alloc (.cells #[.int .i64 0, .int .i64 r.ob, .int .i64 r.ov, .slice av r.acc.slots.length cv] 69)) base F3 (.slice (some ⟨g, 0, none⟩) n cap) (st.accs.set i r.acc)) := accsR.alloc o4 _
        have HF3 : Hid (∀ b', F3 b' → F' b' ∨ F2 b') := hF3
        have HD4 : Hid (((w2.setCell ⟨g, i, none⟩ (.slice av r.acc.slots.length cv)).alloc (.cells #[.int .i64 0, .int .i64 r.ob, .int .i64 r.ov, .slice av r.acc.slots.length cv] 69)).ownsRow w.heap.size 2 1 (.slice pd dn qd) dn (intsC st.did)) := owns_below (hm4.owns HD2.out (fun b' h1 h2 => by have := HDl.out b' h1; omega)) (balloc (Below.refl _ _) _)
        have HV4 : Hid (((w2.setCell ⟨g, i, none⟩ (.slice av r.acc.slots.length cv)).alloc (.cells #[.int .i64 0, .int .i64 r.ob, .int .i64 r.ov, .slice av r.acc.slots.length cv] 69)).ownsRow w.heap.size 65 2 (.slice po dn qo) dn (votsC st.old)) := owns_below (hm4.owns HV2.out (fun b' h1 h2 => by have := HVl.out b' h1; omega)) (balloc (Below.refl _ _) _)
        have HMod4 : Hid (Mod F w ((w2.setCell ⟨g, i, none⟩ (.slice av r.acc.slots.length cv)).alloc (.cells #[.int .i64 0, .int .i64 r.ob, .int .i64 r.ov, .slice av r.acc.slots.length cv] 69))) := (hmod2.trans (hm4.mono (fun b' h => by rw [h]; exact hFg))).alloc _
        have hdlen : dn ≤ 1000 := by have := HDn.out; omega
        have t0 : ((w2.setCell ⟨g, i, none⟩ (.slice av r.acc.slots.length cv)).alloc (.cells #[.int .i64 0, .int .i64 r.ob, .int .i64 r.ov, .slice av r.acc.slots.length cv] 69)).cell? ⟨w2.heap.size, 1, none⟩ = some (.int .i64 r.ob) := by simp [go_sem]
        have t1 : ((w2.setCell ⟨g, i, none⟩ (.slice av r.acc.slots.length cv)).alloc (.cells #[.int .i64 0, .int .i64 r.ob, .int .i64 r.ov, .slice av r.acc.slots.length cv] 69)).cell? ⟨w2.heap.size, 2, none⟩ = some (.int .i64 r.ov) := by simp [go_sem]
        have HT : Hid (((w2.setCell ⟨g, i, none⟩ (.slice av r.acc.slots.length cv)).alloc (.cells #[.int .i64 0, .int .i64 r.ob, .int .i64 r.ov, .slice av r.acc.slots.length cv] 69)).cell? ⟨w2.heap.size, 1, none⟩ = some (.int .i64 r.ob) ∧ ((w2.setCell ⟨g, i, none⟩ (.slice av r.acc.slots.length cv)).alloc (.cells #[.int .i64 0, .int .i64 r.ob, .int .i64 r.ov, .slice av r.acc.slots.length cv] 69)).cell? ⟨w2.heap.size, 2, none⟩ = some (.int .i64 r.ov)) := ⟨t0, t1⟩
        clear o4 hF3 hm4 hmod2 HD2 HV2 HO2 HA2 t0 t1
        go_wp2_with (at_builtin; refine wpList_append_own_at _ rfl _ _ 23 rfl w.heap.size 2 i0 _ 1 8 Tryz.underlying23 HI0.out.1 HI0.out.2.1 HI0.out.2.2.1 HI0.out.2.2.2 rfl (by decide) _ dn (intsC st.did) rfl (owns_below HD4.out (balloc (Below.refl _ _) _)) ⟨w2.heap.size + 1, 0, none⟩ 1 1 [.int .i64 i] rfl rfl ?c1 ?c2 ?c3 ?c4 ?c5 ?_)
        case c1 =>
          intro j u hj
          match j, hj with
          | 0, hj => simp at hj; subst hj; simp [Addr.add, go_sem]
          | j + 1, hj => simp at hj
        case c2 =>
          intro u hu
          rw [List.mem_singleton] at hu
          rw [hu]
          rfl
        case c3 => unfold maxLen; omega
        case c4 => omega
        case c5 => simp; omega
        intro vd5 w5 od5 gd5 _ ld5
        have hgs5 := gd5.size
        simp at hgs5
        have hk5 : ∀ b', b' < w2.heap.size + 2 → ¬ (Value.slice pd dn qd).ownBlock = some b' → ∀ o v, (((w2.setCell ⟨g, i, none⟩ (.slice av r.acc.slots.length cv)).alloc (.cells #[.int .i64 0, .int .i64 r.ob, .int .i64 r.ov, .slice av r.acc.slots.length cv] 69)).alloc (.cells #[.int .i64 i] 2)).cell? ⟨b', o, none⟩ = some v → w5.cell? ⟨b', o, none⟩ = some v := fun b' h1 h2 o v hv => (Mod.of_grown gd5).cell hv h2
        have T5 : w5.cell? ⟨w2.heap.size, 1, none⟩ = some (.int .i64 r.ob) ∧ w5.cell? ⟨w2.heap.size, 2, none⟩ = some (.int .i64 r.ov) := ⟨hk5 _ (by omega) (fun e => by have := HDl.out _ e; omega) _ _ (cell_keep (balloc (Below.refl _ _) _) HT.out.1), hk5 _ (by omega) (fun e => by have := HDl.out _ e; omega) _ _ (cell_keep (balloc (Below.refl _ _) _) HT.out.2)⟩
        obtain ⟨t0, t1⟩ := T5
        have HO5 : Hid (accsR.O w5 base F3 (.slice (some ⟨g, 0, none⟩) n cap) (st.accs.set i r.acc)) := accsR.mod (accsR.alloc HO4.out _) (Mod.of_grown gd5) (fun b' h1 h2 => by
          rcases HF3.out b' h1 with h | h
          · exact HDF.out b' h2 h
          · have := HDl.out b' h2; have := (HF2.out b' h).1; omega)
        have HV5 : Hid (w5.ownsRow w.heap.size 65 2 (.slice po dn qo) dn (votsC st.old)) := (Mod.of_grown gd5).owns (owns_below HV4.out (balloc (Below.refl _ _) _)) (fun b' h1 h2 => HDV.out b' h2 h1)
        have HMod5 : Hid (Mod F w w5) := (HMod4.out.alloc _).grow gd5 (fun b' h => (HDl.out b' h).1)
        have hzz : w.heap.size ≤ w2.heap.size := by omega
        obtain ⟨ad5, cd5, rfl⟩ := owns_form od5
        have HD5 : Hid (w5.ownsRow w.heap.size 2 1 (.slice ad5 (dn + 1) cd5) (dn + 1) (intsC st.did ++ [.int .i64 i])) := od5
        have HL5 : Hid (∀ b', (Value.slice ad5 (dn + 1) cd5).ownBlock = some b' → (Value.slice pd dn qd).ownBlock = some b' ∨ b' = w2.heap.size + 2) := fun b' h => by
          rcases ld5 with h1 | h1
          · exact .inl (h1 ▸ h)
          · rw [h1] at h
            simp at h
            exact .inr (by omega)
        have hz5 : w2.heap.size + 2 ≤ w5.heap.size := by omega
        clear od5 gd5 ld5 hk5 HO4 HV4 HD4 HMod4 HT
        go_wp2_with (at_builtin; refine wpList_append_own_at _ rfl _ _ 63 rfl w.heap.size 65 j0 _ 2 16 Tryz.underlying63 HJ0.out.1 HJ0.out.2.1 HJ0.out.2.2.1 HJ0.out.2.2.2 rfl (by decide) _ dn (votsC st.old) rfl (owns_below HV5.out (balloc (Below.refl _ _) _)) ⟨w5.heap.size, 0, none⟩ 1 1 [.int .i64 r.ob, .int .i64 r.ov] rfl rfl ?c1 ?c2 ?c3 ?c4 ?c5 ?_)
        case c1 =>
          intro j u hj
          match j, hj with
          | 0, hj => simp at hj; subst hj; simp [Addr.add, go_sem]
          | 1, hj => simp at hj; subst hj; simp [Addr.add, go_sem]
          | j + 2, hj => simp at hj
        case c2 =>
          intro u hu
          simp only [List.mem_cons, List.not_mem_nil, or_false] at hu
          rcases hu with rfl | rfl <;> rfl
        case c3 => unfold maxLen; omega
        case c4 => omega
        case c5 => simp; omega
        intro vo6 w6 ov6 gv6 _ lv6
        obtain ⟨ao6, co6, rfl⟩ := owns_form ov6
        have hgs6 := gv6.size
        simp at hgs6
        have HO6 : Hid (accsR.O w6 base F3 (.slice (some ⟨g, 0, none⟩) n cap) (prN l R c s b (k + 1)).accs) := by
          show accsR.O _ _ _ _ _
          rw [HS3.out]
          exact accsR.mod (accsR.alloc HO5.out _) (Mod.of_grown gv6) (fun b' h1 h2 => by
            rcases HF3.out b' h1 with h | h
            · exact HVF.out b' h2 h
            · have := HVl.out b' h2; have := (HF2.out b' h).1; omega)
        have HD6 : Hid (w6.ownsRow w.heap.size 2 1 (.slice ad5 (dn + 1) cd5) (dn + 1) (intsC (prN l R c s b (k + 1)).did)) := by
          show World.ownsRow _ _ _ _ _ _ _
          rw [HS3.out]
          have e : intsC (st.did ++ [(i : Int)]) = intsC st.did ++ [.int .i64 i] := by simp [intsC]
          rw [e]
          exact (Mod.of_grown gv6).owns (owns_below HD5.out (balloc (Below.refl _ _) _)) (fun b' h1 h2 => by
            rcases HL5.out b' h1 with h | h
            · exact HDV.out b' h h2
            · have := HVl.out b' h2; omega)
        have HV6 : Hid (w6.ownsRow w.heap.size 65 2 (.slice ao6 (dn + 1) co6) (dn + 1) (votsC (prN l R c s b (k + 1)).old)) := by
          show World.ownsRow _ _ _ _ _ _ _
          rw [HS3.out]
          have e : votsC (st.old ++ [⟨r.ob, r.ov⟩]) = votsC st.old ++ [.int .i64 r.ob, .int .i64 r.ov] := by simp [votsC, votC]
          rw [e]
          exact ov6
        have HDn6 : Hid ((prN l R c s b (k + 1)).did.length = dn + 1) := by show _ = _; rw [HS3.out]; simp [HDn.out]
        have HF6 : Hid (∀ b', F3 b' → F b' ∨ w.heap.size ≤ b') := fun b' h => by
          rcases HF3.out b' h with h | h
          · exact HF'.out b' h
          · have := (HF2.out b' h).1; exact .inr (by omega)
        have HDF6 : Hid (∀ b', (Value.slice ad5 (dn + 1) cd5).ownBlock = some b' → ¬ F3 b') := fun b' h1 h2 => by
          rcases HF3.out b' h2 with h | h
          · rcases HL5.out b' h1 with h3 | h3
            · exact HDF.out b' h3 h
            · have := HFl.out b' h; omega
          · rcases HL5.out b' h1 with h3 | h3
            · have := HDl.out b' h3; have := (HF2.out b' h).1; omega
            · have := (HF2.out b' h).2; omega
        have HLv : Hid (∀ b', (Value.slice ao6 (dn + 1) co6).ownBlock = some b' → (Value.slice po dn qo).ownBlock = some b' ∨ w5.heap.size + 1 ≤ b') := fun b' h => by
          rcases lv6 with h1 | h1
          · exact .inl (h1 ▸ h)
          · rw [h1] at h
            simp at h
            exact .inr (by omega)
        have HVF6 : Hid (∀ b', (Value.slice ao6 (dn + 1) co6).ownBlock = some b' → ¬ F3 b') := fun b' h1 h2 => by
          rcases HF3.out b' h2 with h | h
          · rcases HLv.out b' h1 with h3 | h3
            · exact HVF.out b' h3 h
            · have := HFl.out b' h; omega
          · rcases HLv.out b' h1 with h3 | h3
            · have := HVl.out b' h3; have := (HF2.out b' h).1; omega
            · have := (HF2.out b' h).2; omega
        have HDV6 : Hid (∀ b', (Value.slice ad5 (dn + 1) cd5).ownBlock = some b' → ¬ (Value.slice ao6 (dn + 1) co6).ownBlock = some b') := fun b' h1 h2 => by
          rcases HLv.out b' h2 with h3 | h3
          · rcases HL5.out b' h1 with h4 | h4
            · exact HDV.out b' h4 h3
            · have := HVl.out b' h3; omega
          · rcases HL5.out b' h1 with h4 | h4
            · have := HDl.out b' h4; omega
            · omega
        have hmod6 : Mod F w w6 := (HMod5.out.alloc _).grow gv6 (fun b' h => (HVl.out b' h).1)
        clear ov6 gv6 lv6 t0 t1 HO5 HV5 HD5 HMod5
        go_wp2
        exact ⟨⟨k + 1, F3, ad5, ao6, cd5, co6, dn + 1, by omega, by go_num, rfl, rfl, HDn6, HO6, HF6, HD6, HV6, HDF6, HVF6, HDV6, hmod6⟩, by simp [intOf]; omega⟩
      · have HS3 : Hid (prN l R c s b (k + 1) = st) := by show _ = _; rw [HS2.out, if_neg hcode]
        have hcode' : (r.code == 0) = false := by simp [hcode]
        clear HS2
        have hbA : Below w2.heap.size w2 (w2.alloc (.cells #[.int .i64 r.code, .int .i64 r.ob, .int .i64 r.ov, .slice av r.acc.slots.length cv] 69)) := balloc (Below.refl _ _) _
        have HO4 : Hid (accsR.O (w2.alloc (.cells #[.int .i64 r.code, .int .i64 r.ob, .int .i64 r.ov, .slice av r.acc.slots.length cv] 69)) base F' (.slice (some ⟨g, 0, none⟩) n cap) (prN l R c s b (k + 1)).accs) := by show accsR.O _ _ _ _ _; rw [HS3.out]; exact accsR.keep HO2.out hbA
        have HD4 : Hid ((w2.alloc (.cells #[.int .i64 r.code, .int .i64 r.ob, .int .i64 r.ov, .slice av r.acc.slots.length cv] 69)).ownsRow w.heap.size 2 1 (.slice pd dn qd) dn (intsC (prN l R c s b (k + 1)).did)) := by show World.ownsRow _ _ _ _ _ _ _; rw [HS3.out]; exact owns_below HD2.out hbA
        have HV4 : Hid ((w2.alloc (.cells #[.int .i64 r.code, .int .i64 r.ob, .int .i64 r.ov, .slice av r.acc.slots.length cv] 69)).ownsRow w.heap.size 65 2 (.slice po dn qo) dn (votsC (prN l R c s b (k + 1)).old)) := by show World.ownsRow _ _ _ _ _ _ _; rw [HS3.out]; exact owns_below HV2.out hbA
        have HDn4 : Hid ((prN l R c s b (k + 1)).did.length = dn) := by show _ = _; rw [HS3.out]; exact HDn.out
        have hmod4 : Mod F w (w2.alloc (.cells #[.int .i64 r.code, .int .i64 r.ob, .int .i64 r.ov, .slice av r.acc.slots.length cv] 69)) := hmod2.alloc _
        clear hbA hmod2
        go_wp2
        exact ⟨⟨k + 1, F', pd, po, qd, qo, dn, by omega, by go_num, rfl, rfl, HDn4, HO4, HF', HD4, HV4, HDF, HVF, HDV, hmod4⟩, by simp [intOf]; omega⟩
    · have hkm : k = m := by omega
      subst hkm
      go_wp2
      refine bodyPost_ret (v := .tuple #[.slice pd dn qd, .slice po dn qo]) (by simp [results, Tryz.results38, go_sem]) rfl ?_
      refine ⟨_, _, F', rfl, HO.out, HF'.out, ?_, ?_, HDF.out, hmod⟩
      · rw [HDn.out]; exact HD.out
      · rw [(HDid.out k).2, HDn.out]; exact HV.out
end Go.Proofs.YtncmdeijimgchaaGreat

/-
  ballotFault, the program's.
-/
set_option linter.unusedSimpArgs false
set_option linter.unusedVariables false
namespace Go.Proofs.YtncmdeijimgchaaGreat
open Go.RowKit
set_option linter.unusedSectionVars false
variable [DecidableEq Vot] [Inhabited Vot] [DecidableEq Slt] [Inhabited Slt] [DecidableEq SltR] [Inhabited SltR] [DecidableEq Bal] [Inhabited Bal] [DecidableEq Ledg] [Inhabited Ledg] [DecidableEq Leg] [Inhabited Leg] [DecidableEq Acc] [Inhabited Acc] [DecidableEq AccR] [Inhabited AccR] [DecidableEq AccsR] [Inhabited AccsR] [DecidableEq SltsR] [Inhabited SltsR]
attribute [local go_sem ↓] Go.wp_at_zero Go.wp_at_succ

set_option maxRecDepth 20000 in
set_option maxHeartbeats 4000000 in
theorem implBalF_any (x : Value) (R : List Int) (n : Nat) (b own : Int) (w : World) (hx : IntsV w x R) (hn : n ≤ 1000) :
    Calls Tryz.prog 35 #[x, .int .i64 n, .agg #[.int .i64 b, .int .i64 own]] w fun e w' => e = .returned (.int .i64 (balF R n b own)) ∧ Below w.heap.size w w' := by
  obtain ⟨a, cx, rfl, hcx, hmx, hx⟩ := hx
  unfold maxLen at hmx
  have HX : Hid (∀ i, i < R.length → ∃ bb o, a = some ⟨bb, o, none⟩ ∧ w.cell? ⟨bb, o + i, none⟩ = some (.int .i64 (R.getD i 0))) := hx
  clear hx
  have HV : Hid (∀ W, Calls Tryz.prog 68 #[.agg #[.int .i64 b, .int .i64 own]] W fun e w' => e = .returned (.bool (votB ⟨b, own⟩)) ∧ Below W.heap.size W w') := fun W => isVote_any ⟨b, own⟩ W
  have H1 : Hid (votB ⟨b, own⟩ = false → balF R n b own = 3) := fun h => balF_vote h
  have H2 : Hid (∀ k, votB ⟨b, own⟩ = true → k < R.length → scanI (badAt R n) k = 0 → inB (R.getD k 0) 0 ((n : Int) - 1) = false → balF R n b own = 3) := fun k h hk hs hb => balF_bad h hk hs hb
  have H3 : Hid (∀ k, votB ⟨b, own⟩ = true → scanI (badAt R n) R.length = 0 → k + 1 < R.length → scanI (riseAt R) (k + 1) = 0 → R.getD (k + 1) 0 ≤ R.getD k 0 → balF R n b own = 7) := fun k h h0 hk hs hb => balF_rise h h0 hk hs (by omega)
  have H4 : Hid (votB ⟨b, own⟩ = true → scanI (badAt R n) R.length = 0 → scanI (riseAt R) R.length = 0 → balF R n b own = 0) := fun h h0 hs => balF_ok h h0 hs
  generalize balF R n b own = Z at *
  obtain ⟨m, hm'⟩ : ∃ m, m = R.length := ⟨_, rfl⟩
  rw [← hm'] at hcx HX H2 H3 H4 ⊢
  clear hm'
  cases hv : votB ⟨b, own⟩
  · have HC : Hid (Z = 3) := H1.out hv
    rw [hv] at HV
    clear H1 H2 H3 H4 HX
    go_enter Tryz.func35, Tryz.ntmps35
    go_wp2_with fail
    refine (HV.out _).mono ?_
    rintro e w1 ⟨rfl, hb1⟩
    have hB1 : Below w.heap.size w w1 := by (repeat (first | exact Below.refl _ _ | assumption | refine Below.drew ?_ | refine balloc ?_ _ | refine bset ?_ (by simp; omega) _ | refine bset ?_ (by simp) _ | refine bstep ?_ (by assumption)))
    go_wp2
    go_ret
    exact ⟨by rw [HC.out]; rfl, hB1⟩
  have HVt : Hid (votB ⟨b, own⟩ = true) := hv
  rw [hv] at HV
  clear hv H1
  go_enter Tryz.func35, Tryz.ntmps35
  go_wp2_with fail
  refine (HV.out _).mono ?_
  rintro e w1 ⟨rfl, hb1⟩
  have hB1 : Below w.heap.size w w1 := by (repeat (first | exact Below.refl _ _ | assumption | refine Below.drew ?_ | refine balloc ?_ _ | refine bset ?_ (by simp; omega) _ | refine bset ?_ (by simp) _ | refine bstep ?_ (by assumption)))
  clear hb1 HV
  go_wp2
  go_loopw [16] (fun i w' => ∃ k : Nat, k ≤ m ∧ i = .int .i64 k ∧ Hid (scanI (badAt R n) k = 0) ∧ Below w.heap.size w w') (fun i _ => m - (intOf i).toNat)
  case atStart => exact ⟨0, Nat.zero_le _, rfl, rfl, hB1⟩
  case round =>
    clear hB1
    obtain ⟨k, hk, rfl, HS, hB1⟩ := hrel
    by_cases hlt : k < m
    · obtain ⟨bb, o, rfl, hc⟩ := HX.out k hlt
      replace hc := cell_keep hB1 hc
      have hw1 : IntKind.i64.wrap ((n : Int) - 1) = (n : Int) - 1 := by rw [IntKind.wrap_i64]; omega
      have HH : Hid (inB (R.getD k 0) 0 ((n : Int) - 1) = false → Z = 3) := fun h => H2.out k HVt.out hlt HS.out h
      have HZ : Hid (inB (R.getD k 0) 0 ((n : Int) - 1) = true → scanI (badAt R n) (k + 1) = 0) := fun h => scanI_succ HS.out (badAt_ok h)
      generalize R.getD k 0 = y at *
      cases hy : inB y 0 ((n : Int) - 1)
      · have HC : Hid (Z = 3) := HH.out hy
        clear HH HZ
        go_wp2_with (go_at_call 69; refine (within_any _ _ _ _).mono ?_; rintro e w' ⟨rfl, hw'⟩; obtain rfl := hw'.symm; rw [hy])
        go_ret
        exact ⟨by rw [HC.out]; rfl, hB1⟩
      · have HC : Hid (scanI (badAt R n) (k + 1) = 0) := HZ.out hy
        clear HH HZ
        go_wp2_with (go_at_call 69; refine (within_any _ _ _ _).mono ?_; rintro e w' ⟨rfl, hw'⟩; obtain rfl := hw'.symm; rw [hy])
        exact ⟨⟨k + 1, by omega, by go_num, HC, hB1⟩, by simp [intOf]; omega⟩
    · have hkm : k = m := by omega
      subst hkm
      clear H2
      go_wp2
      go_loopw [28] (fun i w' => ∃ j : Nat, j ≤ k ∧ i = .int .i64 j ∧ Hid (scanI (riseAt R) j = 0) ∧ Below w.heap.size w w') (fun i _ => k - (intOf i).toNat)
      case atStart => exact ⟨0, Nat.zero_le _, rfl, rfl, hB1⟩
      case round =>
        clear hB1
        obtain ⟨j, hj, rfl, HS2, hB1⟩ := hrel
        by_cases hlt2 : j < k
        · obtain ⟨bb, o, rfl, hc⟩ := HX.out j hlt2
          replace hc := cell_keep hB1 hc
          cases j with
          | zero =>
            have HC : Hid (scanI (riseAt R) 1 = 0) := scanI_succ HS2.out (riseAt_zero R)
            simp only [Nat.add_zero] at hc
            generalize R.getD 0 0 = y at *
            go_wp2
            exact ⟨⟨1, by omega, by go_num, HC, hB1⟩, by simp [intOf]; omega⟩
          | succ p =>
            obtain ⟨bb', o', he, hc'⟩ := HX.out p (by omega)
            simp only [Option.some.injEq, Addr.mk.injEq, and_true] at he
            obtain ⟨rfl, rfl⟩ := he
            replace hc' := cell_keep hB1 hc'
            have i1 : (p : Int) < (k : Int) := by omega
            have i3 : (0 : Int) < ((p + 1 : Nat) : Int) := by omega
            have i5 : IntKind.i64.wrap (((p + 1 : Nat) : Int) - 1) = (p : Int) := by rw [IntKind.wrap_i64]; omega
            have i6 : (0 : Int) ≤ (p : Int) := by omega
            have i7 : IntKind.i64.wrap (p : Int) = p := wrapId (by omega) (by omega)
            have HH : Hid (R.getD (p + 1) 0 ≤ R.getD p 0 → Z = 7) := fun h => H3.out p HVt.out HS.out hlt2 HS2.out h
            have HZ : Hid (R.getD p 0 < R.getD (p + 1) 0 → scanI (riseAt R) (p + 1 + 1) = 0) := fun h => scanI_succ HS2.out (riseAt_ok h)
            generalize R.getD p 0 = y at *
            generalize R.getD (p + 1) 0 = z at *
            by_cases hyz : y < z
            · have HC : Hid (scanI (riseAt R) (p + 1 + 1) = 0) := HZ.out hyz
              have hle : ¬ z ≤ y := by omega
              go_wp2
              exact ⟨⟨p + 1 + 1, by omega, by go_num, HC, hB1⟩, by simp [intOf]; omega⟩
            · have HC : Hid (Z = 7) := HH.out (by omega)
              have hle : z ≤ y := by omega
              go_wp2
              go_ret
              exact ⟨by rw [HC.out]; rfl, hB1⟩
        · have hjk : j = k := by omega
          subst hjk
          have HC : Hid (Z = 0) := H4.out HVt.out HS.out HS2.out
          go_wp2
          go_ret
          exact ⟨by rw [HC.out]; rfl, hB1⟩
end Go.Proofs.YtncmdeijimgchaaGreat

/-
  copiedAcceptors, the program's.
-/
set_option linter.unusedSimpArgs false
set_option linter.unusedVariables false
namespace Go.Proofs.YtncmdeijimgchaaGreat
open Go.RowKit
set_option linter.unusedSectionVars false
variable [DecidableEq Vot] [Inhabited Vot] [DecidableEq Slt] [Inhabited Slt] [DecidableEq SltR] [Inhabited SltR] [DecidableEq Bal] [Inhabited Bal] [DecidableEq Ledg] [Inhabited Ledg] [DecidableEq Leg] [Inhabited Leg] [DecidableEq Acc] [Inhabited Acc] [DecidableEq AccR] [Inhabited AccR] [DecidableEq AccsR] [Inhabited AccsR] [DecidableEq SltsR] [Inhabited SltsR]
attribute [local go_sem ↓] Go.wp_at_zero Go.wp_at_succ

set_option maxRecDepth 20000 in
set_option maxHeartbeats 4000000 in
theorem copiedAccs_u (x : Value) (l : List Acc) (w : World) (hx : accsR.V w x l) (hl : ListOk l) :
    Calls Tryz.prog 36 #[x, .func (.func 37) #[] #[]] w fun e w' => ∃ v F, e = .returned v ∧ accsR.O w' w.heap.size F v l ∧ Below w.heap.size w w' := by
  obtain ⟨a, cx, rfl, hcx, hmx, hx⟩ := accs_at hx
  unfold maxLen at hmx
  have hXs : Hid (∀ k, k < l.length → ∃ b o p q, a = some ⟨b, o, none⟩ ∧ w.cell? ⟨b, o + k, none⟩ = some (.slice p (l.getD k default).slots.length q) ∧ accR.V w (.agg #[.slice p (l.getD k default).slots.length q]) (l.getD k default)) := hx
  have HOk : Hid (∀ k, k < l.length → AccOk (l.getD k default).slots) := fun k hk => accOk_of (hl.ok k hk)
  have hn5 := hl.hi
  clear hx hl
  obtain ⟨n, hn'⟩ : ∃ n, n = l.length := ⟨_, rfl⟩
  have HN : Hid (l.length = n) := hn'.symm
  rw [← hn'] at hcx hXs HOk hn5 ⊢
  clear hn'
  have hs0 : ∃ a c' F, (Value.slice none 0 0) = .slice a 0 c' ∧ accsR.O w w.heap.size F (.slice a 0 c') (l.take 0) := ⟨none, 0, _, rfl, accs_nil w _⟩
  have eg := enters_of Tryz.func37 (by kernel_rfl) rfl
  go_enter Tryz.func36, Tryz.ntmps36
  go_wp2
  go_loopw [5, 10] (fun t i w' => ∃ k : Nat, k ≤ n ∧ i = .int .i64 k ∧ (∃ a c' F, t = .slice a k c' ∧ accsR.O w' w.heap.size F (.slice a k c') (l.take k)) ∧ Below w.heap.size w w') (fun t i _ => n - (intOf i).toNat)
  case atStart => exact ⟨0, Nat.zero_le _, rfl, hs0, by (repeat (first | exact Below.refl _ _ | assumption | refine Below.drew ?_ | refine balloc ?_ _ | refine bset ?_ (by simp; omega) _ | refine bset ?_ (by simp) _ | refine bstep ?_ (by assumption)))⟩
  case round =>
    clear hs0
    obtain ⟨k, hk, rfl, ⟨as_, cs_, F, rfl, ho⟩, hbl⟩ := hrel
    have HO : Hid (accsR.O wr w.heap.size F (.slice as_ k cs_) (l.take k)) := ho
    clear ho
    have hwz := hbl.size
    by_cases hlt : k < n
    · obtain ⟨b, o, p, q, rfl, hc, hV⟩ := hXs.out k hlt
      have hok := HOk.out k hlt
      have HL : Hid (l.take (k + 1) = l.take k ++ [l.getD k default]) := take_accs l (by rw [HN.out]; exact hlt)
      replace hc := cell_keep hbl hc
      have zb : b < wr.heap.size := World.block_lt_of_cell? wr _ hc
      have HCp : Hid (∀ W, Below w.heap.size w W → Calls Tryz.prog 37 #[.agg #[.slice p (l.getD k default).slots.length q]] W fun e w' => ∃ v F, e = .returned v ∧ accR.O w' W.heap.size F v (l.getD k default) ∧ Below W.heap.size W w') := fun W hW => copiedAcc_u _ (l.getD k default) W (accR.below hV hW) (Nat.le_trans hok.len (by omega)) (fun j hj => Nat.le_trans (sltOk_of (hok.ok j hj)).len (by omega))
      clear hV hok
      generalize l.getD k default = y at *
      go_wp2_with fail
      refine (HCp.out _ (by (repeat (first | exact Below.refl _ _ | assumption | refine Below.drew ?_ | refine balloc ?_ _ | refine bset ?_ (by simp; omega) _ | refine bset ?_ (by simp) _ | refine bstep ?_ (by assumption))))).mono ?_
      rintro e w2 ⟨v2, F2, rfl, o2, hb2⟩
      obtain ⟨a2, c2, rfl, _⟩ := acc_cells o2
      have hB2 : Below wr.heap.size wr w2 := by (repeat (first | exact Below.refl _ _ | assumption | refine Below.drew ?_ | refine balloc ?_ _ | refine bset ?_ (by simp; omega) _ | refine bset ?_ (by simp) _ | refine bstep ?_ (by assumption)))
      have hBw : Below w.heap.size w w2 := bstep hbl hB2
      have hz2 := hB2.size
      have HO2 : Hid (accsR.O w2 w.heap.size F (.slice as_ k cs_) (l.take k)) := accsR.keep HO.out hB2
      have HFl : Hid (∀ b, F b → b < wr.heap.size) := fun b hb => (accsR.rng HO.out b hb).2
      have HF2 : Hid (∀ b, F2 b → wr.heap.size ≤ b) := fun b hb => by have := (accR.rng o2 b hb).1; first | exact this | (simp at this; omega)
      have HU : Hid (accR.O w2 w.heap.size F2 (.agg #[.slice a2 y.slots.length c2]) y) := accR.base o2 (by first | exact hwz | (simp; omega))
      clear hb2 o2 HCp HO hc
      go_wp2_with (at_builtin; refine wpl_appA _ rfl _ _ rfl w.heap.size F F2 _ (l.take k) y w2.heap.size a2 c2 rfl rfl ?a1 ?a2 ?a3 ?a4 ?a5 ?a6 ?_)
      case a1 => exact accsR.alloc HO2.out _
      case a2 => exact accR.alloc HU.out _
      case a3 => exact fun b h1 h2 => by have := HFl.out b h1; have := HF2.out b h2; omega
      case a4 => simp [go_sem]
      case a5 => rw [List.length_take, HN.out]; omega
      case a6 => simp; omega
      intro v3 w3 F3 o3 hb3 _
      rw [← HL.out] at o3
      obtain ⟨a3, c3, e3⟩ := accs_form (accsR.ofO o3)
      rw [show (l.take (k + 1)).length = k + 1 by rw [List.length_take, HN.out]; omega] at e3
      subst e3
      have o3' : ∃ a c' F, (Value.slice a3 (k + 1) c3) = .slice a (k + 1) c' ∧ accsR.O w3 w.heap.size F (.slice a (k + 1) c') (l.take (k + 1)) := ⟨_, _, F3, rfl, o3⟩
      have hB4 : Below w.heap.size w w3 := Below.trans (balloc hBw _) hb3
      clear o3 hb3
      go_wp2
      exact ⟨⟨k + 1, by omega, by go_num, o3', hB4⟩, by simp [intOf]; omega⟩
    · have hkn : k = n := by omega
      subst hkn
      have ho := HO.out
      rw [List.take_of_length_le (by rw [HN.out]; exact Nat.le_refl _)] at ho
      have HO2 : Hid (accsR.O wr w.heap.size F (.slice as_ k cs_) l) := ho
      clear ho HO
      go_wp2
      refine bodyPost_ret (v := .slice as_ k cs_) (by simp [results, Tryz.results36, go_sem]) rfl ⟨_, F, rfl, HO2.out, hbl⟩
end Go.Proofs.YtncmdeijimgchaaGreat


import Derived.Test.YteppnppknfldbaaPrnAgreesLaw12
import Derived.Test.YteppnppknfldbaaPrnAgreesLaw17
import Derived.Test.YteppnppknfldbaaPrnAgreesLaw19
import Derived.Test.YteppnppknfldbaaPrnAgreesLaw13
import Derived.Deep.AppendLies
import Derived.BigQuiet
import Derived.Deep.QuietTactic
import Derived.Deep.RegionHeld3
import Derived.Test.YteppnppknfldbaaPrnAgreesLaw14
import Derived.Test.YteppnppknfldbaaPrnAgreesLaw9
import Derived.Test.YteppnppknfldbaaPrnAgreesLaw4

/-
  promisesOf, the program's.
-/
set_option linter.unusedSimpArgs false
set_option linter.unusedVariables false
namespace Go.Proofs.Yteppnppknfldbaa
open Go.RowKit
set_option linter.unusedSectionVars false
variable [DecidableEq Vot] [Inhabited Vot] [DecidableEq Slt] [Inhabited Slt] [DecidableEq SltR] [Inhabited SltR] [DecidableEq Bal] [Inhabited Bal] [DecidableEq Ledg] [Inhabited Ledg] [DecidableEq Leg] [Inhabited Leg] [DecidableEq Acc] [Inhabited Acc] [DecidableEq AccR] [Inhabited AccR] [DecidableEq AccsR] [Inhabited AccsR] [DecidableEq SltsR] [Inhabited SltsR]
attribute [local go_sem ↓] Go.wp_at_zero Go.wp_at_succ

def PsE (x : Value) (P : Pst) (base : Nat) (F : Nat → Prop) (w : World) (e : Ending) (w' : World) : Prop :=
  ∃ vd vo F', e = .returned (.tuple #[vd, vo]) ∧ accsR.O w' base F' x P.accs ∧ (∀ b, F' b → F b ∨ w.heap.size ≤ b) ∧ w'.ownsRow w.heap.size 2 1 vd P.did.length (intsC P.did) ∧ w'.ownsRow w.heap.size 40 2 vo P.old.length (votsC P.old) ∧ (∀ b, vd.ownBlock = some b → ¬ F' b) ∧ Mod F w w'
set_option maxRecDepth 20000 in
set_option maxHeartbeats 8000000 in
theorem promises_any (x xr : Value) (l : List Acc) (R : List Int) (c s b : Int) (base : Nat) (F : Nat → Prop) (w0 w : World) (ho : accsR.O w base F x l) (hb0 : Below w0.heap.size w0 w) (hbs : w0.heap.size ≤ base) (hbw : base ≤ w.heap.size) (hr : IntsV w0 xr R)
    (hin : ∀ k, k < R.length → 0 ≤ R.getD k 0 ∧ R.getD k 0 < l.length) (hl1 : 1 ≤ l.length) (hR5 : R.length ≤ 1000) :
    Calls Try.prog 15 #[x, xr, .int .i64 c, .int .i64 s, .int .i64 b] w (PsE x (prN l R c s b R.length) base F w) := by
  obtain ⟨g, cap, _, _, rfl, hnc, hcm, hFg, _, _, _⟩ := accs_read ho (show 0 < l.length by omega)
  unfold maxLen at hcm
  obtain ⟨a, cx, rfl, hcx, hmx, hx⟩ := hr
  unfold maxLen at hmx
  have HX : Hid (∀ i, i < R.length → ∃ bb o, a = some ⟨bb, o, none⟩ ∧ w0.cell? ⟨bb, o + i, none⟩ = some (.int .i64 (R.getD i 0))) := hx
  have HIn : Hid (∀ k, k < R.length → 0 ≤ R.getD k 0 ∧ R.getD k 0 < l.length) := hin
  have HLen : Hid (∀ k, (prN l R c s b k).accs.length = l.length) := fun k => prN_len l R c s b k
  have HDid : Hid (∀ k, (prN l R c s b k).did.length ≤ k ∧ (prN l R c s b k).old.length = (prN l R c s b k).did.length) := fun k => prN_did l R c s b k
  have HFb : Hid (∀ bb, F bb → base ≤ bb ∧ bb < w.heap.size) := fun bb h => accsR.rng ho bb h
  have hgb := HFb.out g hFg
  have HO0 : Hid (accsR.O w base F (.slice (some ⟨g, 0, none⟩) l.length cap) (prN l R c s b 0).accs) := ho
  clear ho hx hin
  obtain ⟨n, hn'⟩ : ∃ n, n = l.length := ⟨_, rfl⟩
  rw [← hn'] at HO0 HLen HIn hnc hl1 ⊢
  clear hn'
  obtain ⟨m, hm'⟩ : ∃ m, m = R.length := ⟨_, rfl⟩
  rw [← hm'] at HX HIn hcx hR5 ⊢
  clear hm'
  obtain ⟨i0, hi0, hz0, hz1, hz2⟩ := info_parts infoInt
  have HI0 : Hid (Try.prog.info? 2 = some i0 ∧ i0.zero = some (.int .i64 0) ∧ i0.size = 1 ∧ i0.bytes = 8) := ⟨hi0, hz0, hz1, hz2⟩
  clear hi0 hz0 hz1 hz2
  obtain ⟨j0, hj0, hy0, hy1, hy2⟩ := info_parts infoVot
  have HJ0 : Hid (Try.prog.info? 40 = some j0 ∧ j0.zero = some (.agg #[.int .i64 0, .int .i64 0]) ∧ j0.size = 2 ∧ j0.bytes = 16) := ⟨hj0, hy0, hy1, hy2⟩
  clear hj0 hy0 hy1 hy2
  go_enter Try.func15, Try.ntmps15
  go_wp2
  go_loopw [12, 13, 19] (fun vd vo i w' => ∃ (k : Nat) (F' : Nat → Prop) (pd po : Option Addr) (qd qo dn : Nat), k ≤ m ∧ i = .int .i64 k ∧ vd = .slice pd dn qd ∧ vo = .slice po dn qo ∧ Hid ((prN l R c s b k).did.length = dn) ∧ Hid (accsR.O w' base F' (.slice (some ⟨g, 0, none⟩) n cap) (prN l R c s b k).accs) ∧ Hid (∀ bb, F' bb → F bb ∨ w.heap.size ≤ bb) ∧ Hid (w'.ownsRow w.heap.size 2 1 (.slice pd dn qd) dn (intsC (prN l R c s b k).did)) ∧ Hid (w'.ownsRow w.heap.size 40 2 (.slice po dn qo) dn (votsC (prN l R c s b k).old)) ∧ Hid (∀ bb, (Value.slice pd dn qd).ownBlock = some bb → ¬ F' bb) ∧ Hid (∀ bb, (Value.slice po dn qo).ownBlock = some bb → ¬ F' bb) ∧ Hid (∀ bb, (Value.slice pd dn qd).ownBlock = some bb → ¬ (Value.slice po dn qo).ownBlock = some bb) ∧ Mod F w w') (fun vd vo i _ => m - (intOf i).toNat)
  case atStart => exact ⟨0, F, none, none, 0, 0, 0, Nat.zero_le _, rfl, rfl, rfl, rfl, HO0, fun bb h => .inl h, World.ownsRow_nil _ _ _ _, World.ownsRow_nil _ _ _ _, fun bb h => by simp [Value.ownBlock] at h, fun bb h => by simp [Value.ownBlock] at h, fun bb h => by simp [Value.ownBlock] at h, Mod.refl _ _⟩
  case round =>
    clear HO0
    obtain ⟨k, F', pd, po, qd, qo, dn, hk, rfl, rfl, rfl, HDn, HO, HF', HD, HV, HDF, HVF, HDV, hmod⟩ := hrel
    have hb0r : Below w0.heap.size w0 wr := hmod.below hb0 hb0.size (fun bb hb => by have := HFb.out bb hb; omega)
    have hzr := hmod.size
    by_cases hlt : k < m
    · obtain ⟨bb, o, rfl, hc⟩ := HX.out k hlt
      have hin := HIn.out k hlt
      obtain ⟨i, hi⟩ : ∃ i : Nat, R.getD k 0 = (i : Int) := ⟨(R.getD k 0).toNat, by omega⟩
      have HS : Hid (prN l R c s b (k + 1) = prS c s b (prN l R c s b k) (i : Int)) := by show _ = _; rw [← hi]; rfl
      rw [hi] at hc hin
      have hin2 : i < n := by omega
      have hlen := HLen.out k
      have hdn := HDid.out k
      obtain ⟨st, hst⟩ : ∃ st, st = prN l R c s b k := ⟨_, rfl⟩
      rw [← hst] at HS hlen HO HD HV HDn hdn
      clear hst
      obtain ⟨g', cap', p, q, hsl, _, _, hFg', gf, hcell, hVa⟩ := accs_read HO.out (show i < st.accs.length by omega)
      rw [hlen] at hsl
      simp only [Value.slice.injEq, Option.some.injEq, Addr.mk.injEq, and_true, true_and] at hsl
      obtain ⟨rfl, rfl⟩ := hsl
      obtain ⟨r, hr⟩ : ∃ r, r = promAtD (st.accs.getD i default).slots c s b := ⟨_, rfl⟩
      have HP : Hid (∀ W, Below wr.heap.size wr W → Calls Try.prog 31 #[.agg #[.slice p (st.accs.getD i default).slots.length q], .int .i64 c, .int .i64 s, .int .i64 b] W (AskE r W)) := fun W hW => by rw [hr]; exact implPromAt_u _ _ c s b W (accR.below hVa hW)
      have HS2 : Hid (prN l R c s b (k + 1) = if r.code = 0 then ⟨st.accs.set i r.acc, st.did ++ [(i : Int)], st.old ++ [⟨r.ob, r.ov⟩]⟩ else st) := by
        show _ = _
        rw [HS.out, hr]
        rfl
      clear hr hVa HS hi
      replace hc := cell_keep hb0r hc
      have hgz : g < wr.heap.size := by omega
      have hbz : bb < wr.heap.size := World.block_lt_of_cell? wr _ hc
      generalize (st.accs.getD i default).slots.length = mm at *
      have i1 : (i : Int) < n := by omega
      have i2 : (0 : Int) ≤ i := by omega
      go_wp2_with fail
      refine (HP.out _ (by (repeat (first | exact Below.refl _ _ | assumption | refine Below.drew ?_ | refine balloc ?_ _ | refine bset ?_ (by simp; omega) _ | refine bset ?_ (by simp) _ | refine bstep ?_ (by assumption))))).mono ?_
      rintro e w2 ⟨v2, F2, rfl, o2, hb2⟩
      obtain ⟨av, cv, rfl, o3⟩ := accR_cells o2
      have hz2 := hb2.size
      have hc2 := cell_keep hb2 hc
      have hcell2 := cell_keep hb2 hcell
      have gf2 : ∀ o, w2.frozen? ⟨g, o, none⟩ = false := fun o => by rw [(bcell hb2).2 _ _ hgz]; exact gf o
      have HO2 : Hid (accsR.O w2 base F' (.slice (some ⟨g, 0, none⟩) n cap) st.accs) := accsR.keep HO.out hb2
      have HA2 : Hid (accR.O w2 base F2 (.agg #[.slice av r.acc.slots.length cv]) r.acc) := accR.base o3 (by omega)
      have HFl : Hid (∀ bb, F' bb → bb < wr.heap.size) := fun bb h => (accsR.rng HO.out bb h).2
      have HF2 : Hid (∀ bb, F2 bb → wr.heap.size ≤ bb ∧ bb < w2.heap.size) := fun bb h => accR.rng o3 bb h
      have HD2 : Hid (w2.ownsRow w.heap.size 2 1 (.slice pd dn qd) dn (intsC st.did)) := owns_below HD.out hb2
      have HV2 : Hid (w2.ownsRow w.heap.size 40 2 (.slice po dn qo) dn (votsC st.old)) := owns_below HV.out hb2
      have HDl : Hid (∀ bb, (Value.slice pd dn qd).ownBlock = some bb → w.heap.size ≤ bb ∧ bb < wr.heap.size) := fun bb h => HD.out.lt bb h
      have HVl : Hid (∀ bb, (Value.slice po dn qo).ownBlock = some bb → w.heap.size ≤ bb ∧ bb < wr.heap.size) := fun bb h => HV.out.lt bb h
      have hmod2 : Mod F w w2 := hmod.trans (Mod.of_below hb2)
      clear o2 o3 hb2 HP HO HD HV hc hcell gf hmod
      by_cases hcode : r.code = 0
      · have HS3 : Hid (prN l R c s b (k + 1) = ⟨st.accs.set i r.acc, st.did ++ [(i : Int)], st.old ++ [⟨r.ob, r.ov⟩]⟩) := by show _ = _; rw [HS2.out, if_pos hcode]
        rw [hcode]
        clear hcode HS2
        have hgz2 : g < w2.heap.size := by omega
        have hbz2 : bb < w2.heap.size := by omega
        have hne : ¬ g = w2.heap.size := by omega
        have hstore := accs_store (i := i) (by rw [hlen]; exact HO2.out) (by omega) HA2.out (fun b' h1 h2 => by have := HFl.out b' h1; have := (HF2.out b' h2).1; omega)
        rw [hlen] at hstore
        obtain ⟨F3, o4, hm4, hF3⟩ := hstore
        have HO4 : Hid (accsR.O ((w2.setCell ⟨g, i, none⟩ (.slice av r.acc.slots.length cv)).alloc (.cells #[.int .i64 0, .int .i64 r.ob, .int .i64 r.ov, .slice av r.acc.slots.length cv] 57)) base F3 (.slice (some ⟨g, 0, none⟩) n cap) (st.accs.set i r.acc)) := accsR.alloc o4 _
        have HF3 : Hid (∀ b', F3 b' → F' b' ∨ F2 b') := hF3
        have HD4 : Hid (((w2.setCell ⟨g, i, none⟩ (.slice av r.acc.slots.length cv)).alloc (.cells #[.int .i64 0, .int .i64 r.ob, .int .i64 r.ov, .slice av r.acc.slots.length cv] 57)).ownsRow w.heap.size 2 1 (.slice pd dn qd) dn (intsC st.did)) := owns_below (hm4.owns HD2.out (fun b' h1 h2 => by have := HDl.out b' h1; omega)) (balloc (Below.refl _ _) _)
        have HV4 : Hid (((w2.setCell ⟨g, i, none⟩ (.slice av r.acc.slots.length cv)).alloc (.cells #[.int .i64 0, .int .i64 r.ob, .int .i64 r.ov, .slice av r.acc.slots.length cv] 57)).ownsRow w.heap.size 40 2 (.slice po dn qo) dn (votsC st.old)) := owns_below (hm4.owns HV2.out (fun b' h1 h2 => by have := HVl.out b' h1; omega)) (balloc (Below.refl _ _) _)
        have HMod4 : Hid (Mod F w ((w2.setCell ⟨g, i, none⟩ (.slice av r.acc.slots.length cv)).alloc (.cells #[.int .i64 0, .int .i64 r.ob, .int .i64 r.ov, .slice av r.acc.slots.length cv] 57))) := (hmod2.trans (hm4.mono (fun b' h => by rw [h]; exact hFg))).alloc _
        have hdlen : dn ≤ 1000 := by have := HDn.out; omega
        have t0 : ((w2.setCell ⟨g, i, none⟩ (.slice av r.acc.slots.length cv)).alloc (.cells #[.int .i64 0, .int .i64 r.ob, .int .i64 r.ov, .slice av r.acc.slots.length cv] 57)).cell? ⟨w2.heap.size, 1, none⟩ = some (.int .i64 r.ob) := by simp [go_sem]
        have t1 : ((w2.setCell ⟨g, i, none⟩ (.slice av r.acc.slots.length cv)).alloc (.cells #[.int .i64 0, .int .i64 r.ob, .int .i64 r.ov, .slice av r.acc.slots.length cv] 57)).cell? ⟨w2.heap.size, 2, none⟩ = some (.int .i64 r.ov) := by simp [go_sem]
        have HT : Hid (((w2.setCell ⟨g, i, none⟩ (.slice av r.acc.slots.length cv)).alloc (.cells #[.int .i64 0, .int .i64 r.ob, .int .i64 r.ov, .slice av r.acc.slots.length cv] 57)).cell? ⟨w2.heap.size, 1, none⟩ = some (.int .i64 r.ob) ∧ ((w2.setCell ⟨g, i, none⟩ (.slice av r.acc.slots.length cv)).alloc (.cells #[.int .i64 0, .int .i64 r.ob, .int .i64 r.ov, .slice av r.acc.slots.length cv] 57)).cell? ⟨w2.heap.size, 2, none⟩ = some (.int .i64 r.ov)) := ⟨t0, t1⟩
        clear o4 hF3 hm4 hmod2 HD2 HV2 HO2 HA2 t0 t1
        go_wp2_with (at_builtin; refine wpList_append_own_at _ rfl _ _ 29 rfl w.heap.size 2 i0 _ 1 8 Try.underlying29 HI0.out.1 HI0.out.2.1 HI0.out.2.2.1 HI0.out.2.2.2 rfl (by decide) _ dn (intsC st.did) rfl (owns_below HD4.out (balloc (Below.refl _ _) _)) ⟨w2.heap.size + 1, 0, none⟩ 1 1 [.int .i64 i] rfl rfl ?c1 ?c2 ?c3 ?c4 ?c5 ?_)
        case c1 =>
          intro j u hj
          match j, hj with
          | 0, hj => simp at hj; subst hj; simp [Addr.add, go_sem]
          | j + 1, hj => simp at hj
        case c2 =>
          intro u hu
          rw [List.mem_singleton] at hu
          rw [hu]
          rfl
        case c3 => unfold maxLen; omega
        case c4 => omega
        case c5 => simp; omega
        intro vd5 w5 od5 gd5 _ ld5
        have hgs5 := gd5.size
        simp at hgs5
        have hk5 : ∀ b', b' < w2.heap.size + 2 → ¬ (Value.slice pd dn qd).ownBlock = some b' → ∀ o v, (((w2.setCell ⟨g, i, none⟩ (.slice av r.acc.slots.length cv)).alloc (.cells #[.int .i64 0, .int .i64 r.ob, .int .i64 r.ov, .slice av r.acc.slots.length cv] 57)).alloc (.cells #[.int .i64 i] 2)).cell? ⟨b', o, none⟩ = some v → w5.cell? ⟨b', o, none⟩ = some v := fun b' h1 h2 o v hv => (Mod.of_grown gd5).cell hv h2
        have T5 : w5.cell? ⟨w2.heap.size, 1, none⟩ = some (.int .i64 r.ob) ∧ w5.cell? ⟨w2.heap.size, 2, none⟩ = some (.int .i64 r.ov) := ⟨hk5 _ (by omega) (fun e => by have := HDl.out _ e; omega) _ _ (cell_keep (balloc (Below.refl _ _) _) HT.out.1), hk5 _ (by omega) (fun e => by have := HDl.out _ e; omega) _ _ (cell_keep (balloc (Below.refl _ _) _) HT.out.2)⟩
        obtain ⟨t0, t1⟩ := T5
        have HO5 : Hid (accsR.O w5 base F3 (.slice (some ⟨g, 0, none⟩) n cap) (st.accs.set i r.acc)) := accsR.mod (accsR.alloc HO4.out _) (Mod.of_grown gd5) (fun b' h1 h2 => by
          rcases HF3.out b' h1 with h | h
          · exact HDF.out b' h2 h
          · have := HDl.out b' h2; have := (HF2.out b' h).1; omega)
        have HV5 : Hid (w5.ownsRow w.heap.size 40 2 (.slice po dn qo) dn (votsC st.old)) := (Mod.of_grown gd5).owns (owns_below HV4.out (balloc (Below.refl _ _) _)) (fun b' h1 h2 => HDV.out b' h2 h1)
        have HMod5 : Hid (Mod F w w5) := (HMod4.out.alloc _).grow gd5 (fun b' h => (HDl.out b' h).1)
        have hzz : w.heap.size ≤ w2.heap.size := by omega
        obtain ⟨ad5, cd5, rfl⟩ := owns_form od5
        have HD5 : Hid (w5.ownsRow w.heap.size 2 1 (.slice ad5 (dn + 1) cd5) (dn + 1) (intsC st.did ++ [.int .i64 i])) := od5
        have HL5 : Hid (∀ b', (Value.slice ad5 (dn + 1) cd5).ownBlock = some b' → (Value.slice pd dn qd).ownBlock = some b' ∨ b' = w2.heap.size + 2) := fun b' h => by
          rcases ld5 with h1 | h1
          · exact .inl (h1 ▸ h)
          · rw [h1] at h
            simp at h
            exact .inr (by omega)
        have hz5 : w2.heap.size + 2 ≤ w5.heap.size := by omega
        clear od5 gd5 ld5 hk5 HO4 HV4 HD4 HMod4 HT
        go_wp2_with (at_builtin; refine wpList_append_own_at _ rfl _ _ 41 rfl w.heap.size 40 j0 _ 2 16 Try.underlying41 HJ0.out.1 HJ0.out.2.1 HJ0.out.2.2.1 HJ0.out.2.2.2 rfl (by decide) _ dn (votsC st.old) rfl (owns_below HV5.out (balloc (Below.refl _ _) _)) ⟨w5.heap.size, 0, none⟩ 1 1 [.int .i64 r.ob, .int .i64 r.ov] rfl rfl ?c1 ?c2 ?c3 ?c4 ?c5 ?_)
        case c1 =>
          intro j u hj
          match j, hj with
          | 0, hj => simp at hj; subst hj; simp [Addr.add, go_sem]
          | 1, hj => simp at hj; subst hj; simp [Addr.add, go_sem]
          | j + 2, hj => simp at hj
        case c2 =>
          intro u hu
          simp only [List.mem_cons, List.not_mem_nil, or_false] at hu
          rcases hu with rfl | rfl <;> rfl
        case c3 => unfold maxLen; omega
        case c4 => omega
        case c5 => simp; omega
        intro vo6 w6 ov6 gv6 _ lv6
        obtain ⟨ao6, co6, rfl⟩ := owns_form ov6
        have hgs6 := gv6.size
        simp at hgs6
        have HO6 : Hid (accsR.O w6 base F3 (.slice (some ⟨g, 0, none⟩) n cap) (prN l R c s b (k + 1)).accs) := by
          show accsR.O _ _ _ _ _
          rw [HS3.out]
          exact accsR.mod (accsR.alloc HO5.out _) (Mod.of_grown gv6) (fun b' h1 h2 => by
            rcases HF3.out b' h1 with h | h
            · exact HVF.out b' h2 h
            · have := HVl.out b' h2; have := (HF2.out b' h).1; omega)
        have HD6 : Hid (w6.ownsRow w.heap.size 2 1 (.slice ad5 (dn + 1) cd5) (dn + 1) (intsC (prN l R c s b (k + 1)).did)) := by
          show World.ownsRow _ _ _ _ _ _ _
          rw [HS3.out]
          have e : intsC (st.did ++ [(i : Int)]) = intsC st.did ++ [.int .i64 i] := by simp [intsC]
          rw [e]
          exact (Mod.of_grown gv6).owns (owns_below HD5.out (balloc (Below.refl _ _) _)) (fun b' h1 h2 => by
            rcases HL5.out b' h1 with h | h
            · exact HDV.out b' h h2
            · have := HVl.out b' h2; omega)
        have HV6 : Hid (w6.ownsRow w.heap.size 40 2 (.slice ao6 (dn + 1) co6) (dn + 1) (votsC (prN l R c s b (k + 1)).old)) := by
          show World.ownsRow _ _ _ _ _ _ _
          rw [HS3.out]
          have e : votsC (st.old ++ [⟨r.ob, r.ov⟩]) = votsC st.old ++ [.int .i64 r.ob, .int .i64 r.ov] := by simp [votsC, votC]
          rw [e]
          exact ov6
        have HDn6 : Hid ((prN l R c s b (k + 1)).did.length = dn + 1) := by show _ = _; rw [HS3.out]; simp [HDn.out]
        have HF6 : Hid (∀ b', F3 b' → F b' ∨ w.heap.size ≤ b') := fun b' h => by
          rcases HF3.out b' h with h | h
          · exact HF'.out b' h
          · have := (HF2.out b' h).1; exact .inr (by omega)
        have HDF6 : Hid (∀ b', (Value.slice ad5 (dn + 1) cd5).ownBlock = some b' → ¬ F3 b') := fun b' h1 h2 => by
          rcases HF3.out b' h2 with h | h
          · rcases HL5.out b' h1 with h3 | h3
            · exact HDF.out b' h3 h
            · have := HFl.out b' h; omega
          · rcases HL5.out b' h1 with h3 | h3
            · have := HDl.out b' h3; have := (HF2.out b' h).1; omega
            · have := (HF2.out b' h).2; omega
        have HLv : Hid (∀ b', (Value.slice ao6 (dn + 1) co6).ownBlock = some b' → (Value.slice po dn qo).ownBlock = some b' ∨ w5.heap.size + 1 ≤ b') := fun b' h => by
          rcases lv6 with h1 | h1
          · exact .inl (h1 ▸ h)
          · rw [h1] at h
            simp at h
            exact .inr (by omega)
        have HVF6 : Hid (∀ b', (Value.slice ao6 (dn + 1) co6).ownBlock = some b' → ¬ F3 b') := fun b' h1 h2 => by
          rcases HF3.out b' h2 with h | h
          · rcases HLv.out b' h1 with h3 | h3
            · exact HVF.out b' h3 h
            · have := HFl.out b' h; omega
          · rcases HLv.out b' h1 with h3 | h3
            · have := HVl.out b' h3; have := (HF2.out b' h).1; omega
            · have := (HF2.out b' h).2; omega
        have HDV6 : Hid (∀ b', (Value.slice ad5 (dn + 1) cd5).ownBlock = some b' → ¬ (Value.slice ao6 (dn + 1) co6).ownBlock = some b') := fun b' h1 h2 => by
          rcases HLv.out b' h2 with h3 | h3
          · rcases HL5.out b' h1 with h4 | h4
            · exact HDV.out b' h4 h3
            · have := HVl.out b' h3; omega
          · rcases HL5.out b' h1 with h4 | h4
            · have := HDl.out b' h4; omega
            · omega
        have hmod6 : Mod F w w6 := (HMod5.out.alloc _).grow gv6 (fun b' h => (HVl.out b' h).1)
        clear ov6 gv6 lv6 t0 t1 HO5 HV5 HD5 HMod5
        go_wp2
        exact ⟨⟨k + 1, F3, ad5, ao6, cd5, co6, dn + 1, by omega, by go_num, rfl, rfl, HDn6, HO6, HF6, HD6, HV6, HDF6, HVF6, HDV6, hmod6⟩, by simp [intOf]; omega⟩
      · have HS3 : Hid (prN l R c s b (k + 1) = st) := by show _ = _; rw [HS2.out, if_neg hcode]
        have hcode' : (r.code == 0) = false := by simp [hcode]
        clear HS2
        have hbA : Below w2.heap.size w2 (w2.alloc (.cells #[.int .i64 r.code, .int .i64 r.ob, .int .i64 r.ov, .slice av r.acc.slots.length cv] 57)) := balloc (Below.refl _ _) _
        have HO4 : Hid (accsR.O (w2.alloc (.cells #[.int .i64 r.code, .int .i64 r.ob, .int .i64 r.ov, .slice av r.acc.slots.length cv] 57)) base F' (.slice (some ⟨g, 0, none⟩) n cap) (prN l R c s b (k + 1)).accs) := by show accsR.O _ _ _ _ _; rw [HS3.out]; exact accsR.keep HO2.out hbA
        have HD4 : Hid ((w2.alloc (.cells #[.int .i64 r.code, .int .i64 r.ob, .int .i64 r.ov, .slice av r.acc.slots.length cv] 57)).ownsRow w.heap.size 2 1 (.slice pd dn qd) dn (intsC (prN l R c s b (k + 1)).did)) := by show World.ownsRow _ _ _ _ _ _ _; rw [HS3.out]; exact owns_below HD2.out hbA
        have HV4 : Hid ((w2.alloc (.cells #[.int .i64 r.code, .int .i64 r.ob, .int .i64 r.ov, .slice av r.acc.slots.length cv] 57)).ownsRow w.heap.size 40 2 (.slice po dn qo) dn (votsC (prN l R c s b (k + 1)).old)) := by show World.ownsRow _ _ _ _ _ _ _; rw [HS3.out]; exact owns_below HV2.out hbA
        have HDn4 : Hid ((prN l R c s b (k + 1)).did.length = dn) := by show _ = _; rw [HS3.out]; exact HDn.out
        have hmod4 : Mod F w (w2.alloc (.cells #[.int .i64 r.code, .int .i64 r.ob, .int .i64 r.ov, .slice av r.acc.slots.length cv] 57)) := hmod2.alloc _
        clear hbA hmod2
        go_wp2
        exact ⟨⟨k + 1, F', pd, po, qd, qo, dn, by omega, by go_num, rfl, rfl, HDn4, HO4, HF', HD4, HV4, HDF, HVF, HDV, hmod4⟩, by simp [intOf]; omega⟩
    · have hkm : k = m := by omega
      subst hkm
      go_wp2
      refine bodyPost_ret (v := .tuple #[.slice pd dn qd, .slice po dn qo]) (by simp [results, Try.results15, go_sem]) rfl ?_
      refine ⟨_, _, F', rfl, HO.out, HF'.out, ?_, ?_, HDF.out, hmod⟩
      · rw [HDn.out]; exact HD.out
      · rw [(HDid.out k).2, HDn.out]; exact HV.out
end Go.Proofs.Yteppnppknfldbaa

/-
  Those that are reached.
-/
namespace Go.Proofs.Yteppnppknfldbaa
open Go.RowKit
set_option linter.unusedSectionVars false
variable [DecidableEq Logg] [Inhabited Logg] [DecidableEq LoggR] [Inhabited LoggR] [DecidableEq BytesR] [Inhabited BytesR] [DecidableEq RecsR] [Inhabited RecsR] [DecidableEq Leg] [Inhabited Leg] [DecidableEq Vot] [Inhabited Vot] [DecidableEq Slt] [Inhabited Slt] [DecidableEq SltR] [Inhabited SltR] [DecidableEq Bal] [Inhabited Bal] [DecidableEq Ledg] [Inhabited Ledg] [DecidableEq Acc] [Inhabited Acc] [DecidableEq AccR] [Inhabited AccR] [DecidableEq AccsR] [Inhabited AccsR] [DecidableEq SltsR] [Inhabited SltsR]
set_option linter.unusedSimpArgs false
set_option linter.unusedVariables false
attribute [local go_sem ↓] Go.wp_at_zero Go.wp_at_succ

structure Rch (R : List Int) (k : Nat) : Prop where
  len : R.length ≤ k
  inn : ∀ j, j < R.length → 0 ≤ R.getD j 0 ∧ R.getD j 0 < k
  rise : ∀ j, j + 1 < R.length → R.getD j 0 < R.getD (j + 1) 0
theorem rch_nil : Rch [] 0 := ⟨Nat.le_refl _, fun j hj => by simp at hj, fun j hj => by simp at hj⟩
theorem Rch.skip {R : List Int} {k : Nat} (h : Rch R k) : Rch R (k + 1) := ⟨by have := h.len; omega, fun j hj => by have := h.inn j hj; omega, h.rise⟩
theorem Rch.snoc {R : List Int} {k : Nat} (h : Rch R k) : Rch (R ++ [(k : Int)]) (k + 1) := by
  have h1 : ∀ j, j < R.length → (R ++ [(k : Int)]).getD j 0 = R.getD j 0 := fun j hj => by
    simp only [List.getD_eq_getElem?_getD]; rw [List.getElem?_append_left hj]
  have h2 : (R ++ [(k : Int)]).getD R.length 0 = k := by simp
  refine ⟨by have := h.len; simp; omega, fun j hj => ?_, fun j hj => ?_⟩
  · rw [List.length_append, List.length_singleton] at hj
    by_cases e : j < R.length
    · rw [h1 j e]; have := h.inn j e; omega
    · obtain rfl : j = R.length := by omega
      rw [h2]; omega
  · rw [List.length_append, List.length_singleton] at hj
    by_cases e : j + 1 < R.length
    · rw [h1 j (by omega), h1 (j + 1) e]; exact h.rise j e
    · obtain e2 : j + 1 = R.length := by omega
      rw [h1 j (by omega), e2, h2]; have := h.inn j (by omega); omega
set_option maxRecDepth 20000 in
set_option maxHeartbeats 2000000 in
theorem reached_any (x : Value) (xs : List Byte) (K n : Nat) (w : World) (hx : BytesV w x xs) (hxn : xs.length ≤ 1048576) (hK : K ≤ 100) (hn : n ≤ 5) :
    Calls Try.prog 7 #[x, .int .i64 K, .int .i64 n] w fun e w' => ∃ R v, e = .returned v ∧ w'.ownsRow w.heap.size 2 1 v R.length (intsC R) ∧ Rch R n ∧ Below w.heap.size w w' := by
  have HA : Hid (∀ (W : World) (k : Nat), k ≤ 1000 → Below w.heap.size w W → Calls Try.prog 5 #[x, .int .i64 k, .int .i64 3] W fun e w' => ∃ r : Nat, e = .returned (.int .i64 r) ∧ (r : Int) < 3 ∧ Below W.heap.size W w') := fun W k hk hW => lwAtK_any x xs W k 3 (BytesV_below hx hW) hxn hk (by omega) (by omega)
  obtain ⟨a, cap, rfl, _, _, _⟩ := hx
  generalize xs.length = xn at *
  obtain ⟨i0, hi0, hz0, hz1, hz2⟩ := info_parts infoInt
  have HI0 : Hid (Try.prog.info? 2 = some i0 ∧ i0.zero = some (.int .i64 0) ∧ i0.size = 1 ∧ i0.bytes = 8) := ⟨hi0, hz0, hz1, hz2⟩
  clear hi0 hz0 hz1 hz2
  go_enter Try.func7, Try.ntmps7
  go_wp2
  go_loopw [7, 8] (fun vd i w' => ∃ (k : Nat) (R : List Int) (pd : Option Addr) (qd dn : Nat), k ≤ n ∧ i = .int .i64 k ∧ vd = .slice pd dn qd ∧ Hid (R.length = dn) ∧ Hid (Rch R k) ∧ Hid (w'.ownsRow w.heap.size 2 1 (.slice pd dn qd) dn (intsC R)) ∧ Below w.heap.size w w') (fun vd i _ => n - (intOf i).toNat)
  case atStart =>
    refine ⟨0, [], _, _, 0, Nat.zero_le _, rfl, rfl, rfl, rch_nil, ?_, balloc (Below.refl _ _) _⟩
    have := World.ownsRow_lit (base := w.heap.size) (e := 2) (size := 1) w #[] 0 (by simp) (by unfold maxLen; omega) rfl
    show World.ownsRow _ _ _ _ _ _ _
    simpa [intsC] using this
  case round =>
    obtain ⟨k, R, pd, qd, dn, hk, rfl, rfl, HDn, HR, HD, hbl⟩ := hrel
    by_cases hlt : k < n
    · have e1 : IntKind.i64.wrap ((K : Int) * 7) = (K : Int) * 7 := by rw [IntKind.wrap_i64]; omega
      have e2 : IntKind.i64.wrap ((K : Int) * 7 + (k : Int)) = (K : Int) * 7 + (k : Int) := by rw [IntKind.wrap_i64]; omega
      have hA := HA.out wr (K * 7 + k) (by omega) hbl
      have e3 : ((K * 7 + k : Nat) : Int) = (K : Int) * 7 + (k : Int) := by omega
      rw [e3] at hA
      clear e3
      have HA' : Hid (Calls Try.prog 5 #[.slice a xn cap, .int .i64 ((K : Int) * 7 + (k : Int)), .int .i64 3] wr fun e w' => ∃ r : Nat, e = .returned (.int .i64 r) ∧ (r : Int) < 3 ∧ Below wr.heap.size wr w') := hA
      clear hA
      have hdlen : dn ≤ 1000 := by have := HDn.out; have := HR.out.len; omega
      go_wp2_with fail
      refine HA'.out.mono ?_
      rintro e w1 ⟨r, rfl, hr, hb1⟩
      have hb : Below w.heap.size w w1 := bstep hbl hb1
      have HD1 : Hid (w1.ownsRow w.heap.size 2 1 (.slice pd dn qd) dn (intsC R)) := owns_below HD.out hb1
      clear HD HA' hbl hb1
      have hz1 := hb.size
      by_cases hr0 : 0 < r
      · have hr0' : (0 : Int) < (r : Int) := by omega
        go_wp2_with (at_builtin; refine wpList_append_own_at _ rfl _ _ 29 rfl w.heap.size 2 i0 _ 1 8 Try.underlying29 HI0.out.1 HI0.out.2.1 HI0.out.2.2.1 HI0.out.2.2.2 rfl (by decide) _ dn (intsC R) rfl (owns_below HD1.out (balloc (Below.refl _ _) _)) ⟨w1.heap.size, 0, none⟩ 1 1 [.int .i64 k] rfl rfl ?c1 ?c2 ?c3 ?c4 ?c5 ?_)
        case c1 =>
          intro j u hj
          match j, hj with
          | 0, hj => simp at hj; subst hj; simp [Addr.add, go_sem]
          | j + 1, hj => simp at hj
        case c2 =>
          intro u hu
          rw [List.mem_singleton] at hu
          rw [hu]
          rfl
        case c3 => unfold maxLen; omega
        case c4 => omega
        case c5 => simp; omega
        intro vd5 w5 od5 gd5 _ ld5
        have HDl : Hid (∀ b', (Value.slice pd dn qd).ownBlock = some b' → w.heap.size ≤ b' ∧ b' < w1.heap.size) := fun b' h => HD1.out.lt b' h
        have hm5 : Below w.heap.size w w5 := ((Mod.of_below (F := fun _ => False) hb).alloc _ |>.grow gd5 (fun b' h => (HDl.out b' h).1)).below (Below.refl _ _) (Nat.le_refl _) (fun b' h => h.elim)
        obtain ⟨ad5, cd5, rfl⟩ := owns_form od5
        have HD5 : Hid (w5.ownsRow w.heap.size 2 1 (.slice ad5 (dn + 1) cd5) (dn + 1) (intsC (R ++ [(k : Int)]))) := by
          show World.ownsRow _ _ _ _ _ _ _
          have e : intsC (R ++ [(k : Int)]) = intsC R ++ [.int .i64 k] := by simp [intsC]
          rw [e]; exact od5
        have HR5 : Hid (Rch (R ++ [(k : Int)]) (k + 1)) := HR.out.snoc
        have HN5 : Hid ((R ++ [(k : Int)]).length = dn + 1) := by show _ = _; rw [List.length_append, List.length_singleton, HDn.out]
        clear od5 gd5 ld5 HD1 HDl HR HDn
        go_wp2
        exact ⟨⟨k + 1, _, ad5, cd5, dn + 1, by omega, by go_num, rfl, HN5, HR5, HD5, hm5⟩, by simp [intOf]; omega⟩
      · have hr0' : ¬ (0 : Int) < (r : Int) := by omega
        have HR5 : Hid (Rch R (k + 1)) := HR.out.skip
        go_wp2
        exact ⟨⟨k + 1, R, pd, qd, dn, by omega, by go_num, rfl, HDn, HR5, HD1, hb⟩, by simp [intOf]; omega⟩
    · go_wp2
      go_ret
      obtain rfl : k = n := by omega
      exact ⟨R, _, rfl, by rw [HDn.out]; exact HD.out, HR.out, hbl⟩
end Go.Proofs.Yteppnppknfldbaa

/-
  New acceptors, and all of them reached.
-/
set_option linter.unusedVariables false
set_option linter.unusedSimpArgs false
namespace Go.Proofs.Yteppnppknfldbaa
open Go.RowKit
set_option linter.unusedSectionVars false
variable [DecidableEq Vot] [Inhabited Vot] [DecidableEq Slt] [Inhabited Slt] [DecidableEq SltR] [Inhabited SltR] [DecidableEq Bal] [Inhabited Bal] [DecidableEq Ledg] [Inhabited Ledg] [DecidableEq Leg] [Inhabited Leg] [DecidableEq Acc] [Inhabited Acc] [DecidableEq AccR] [Inhabited AccR] [DecidableEq AccsR] [Inhabited AccsR] [DecidableEq SltsR] [Inhabited SltsR] [DecidableEq Cont] [Inhabited Cont] [DecidableEq Logg] [Inhabited Logg] [DecidableEq LoggR] [Inhabited LoggR] [DecidableEq BytesR] [Inhabited BytesR] [DecidableEq RecsR] [Inhabited RecsR]
attribute [local go_sem ↓] Go.wp_at_zero Go.wp_at_succ

def accA : Acc := ⟨[]⟩
theorem accA_O (w : World) (base : Nat) : accR.O w base (fun _ => False) (.agg #[.slice none 0 0]) accA :=
  ⟨_, (fun _ => False), rfl, ⟨[], fun _ => default, fun _ _ => False, ⟨World.ownsRow_nil _ _ _ _, fun i hi => absurd hi (Nat.not_lt_zero _), fun i hi => absurd hi (Nat.not_lt_zero _), fun i hi => absurd hi (Nat.not_lt_zero _), fun i hi => absurd hi (Nat.not_lt_zero _), fun i j hi => absurd hi (Nat.not_lt_zero _)⟩, fun b => ⟨fun h => h.elim, fun h => h.elim (fun h => by simp [Value.ownBlock] at h) (fun ⟨i, hi, _⟩ => absurd hi (Nat.not_lt_zero _))⟩⟩, fun _ => Iff.rfl⟩
theorem made_repA {α : Type} [Inhabited α] {R : Rep α} {e size : Nat} {lv : Value → List Value} {z u : Value} {x : α} (hz : z.cells.toList = lv u) (hl : (lv u).length = size) (hs : 0 < size) (hO : ∀ w base, R.O w base (fun _ => False) u x) {w : World} {base : Nat} {v : Value} {n : Nat}
    (hr : w.ownsRow base e size v n (madeCells z.cells (n * size)).toList) : NO R e size lv w base (fun b => v.ownBlock = some b) v (List.replicate n x) := by
  have hzl : z.cells.size = size := by rw [← Array.length_toList, hz, hl]
  refine ⟨(madeCells z.cells (n * size)).toList, fun _ => u, fun _ _ => False, ⟨by rw [List.length_replicate]; exact hr, fun i hi => ?_, fun i _ => hl, fun i hi j hj => ?_, fun i _ b h => h.elim, fun i j _ _ _ b h => h.elim⟩, fun b => ⟨fun h => .inl h, fun h => h.elim id (fun ⟨_, _, h⟩ => h.elim)⟩⟩
  · rw [List.length_replicate] at hi
    have e : (List.replicate n x).getD i default = x := by simp [List.getD, hi]
    rw [e]
    exact hO w base
  · rw [List.length_replicate] at hi
    have h1 : i * size + j < n * size := by
      have : (i + 1) * size ≤ n * size := Nat.mul_le_mul_right _ hi
      rw [Nat.succ_mul] at this
      omega
    have hm : (i * size + j) % size = j := by rw [Nat.mul_comm, Nat.mul_add_mod]; exact Nat.mod_eq_of_lt hj
    have hj' : j < z.cells.size := by omega
    rw [← hz]
    simp only [madeCells, Array.toList_map, Array.toList_range, List.getElem?_map]
    rw [List.getElem?_range h1, hzl]
    simp only [Option.map_some, hm]
    rw [getElem!_pos z.cells j hj']
    simp [hj']
theorem newA_at {n k : Nat} (hk : k < n) : ((List.replicate n accA).getD k default).slots = [] := by simp [List.getD, hk, accA]
theorem ag_new {n : Nat} (h1 : 1 ≤ n) (h5 : n ≤ 5) (c s : Int) : Ag (List.replicate n accA) c s 0 8 0 := by
  have hl : (List.replicate n accA).length = n := List.length_replicate
  have hz : ∀ k, k < (List.replicate n accA).length → slotO ((List.replicate n accA).getD k default).slots (freS c s) = freS c s := fun k hk => by
    rw [newA_at (by rw [hl] at hk; exact hk)]
    rfl
  have hf : accF [] = 0 := accF_ok ⟨by simp, fun k hk => absurd hk (Nat.not_lt_zero _), fun i j _ hj => absurd hj (Nat.not_lt_zero _)⟩
  refine ⟨⟨by rw [hl]; exact h1, by rw [hl]; exact h5, fun k hk => ?_⟩, fun k hk => ?_, fun k hk => ?_, fun k hk => ?_, fun k hk u hu => ?_, fun ⟨k, hk, hne⟩ => ?_⟩
  · rw [newA_at (by rw [hl] at hk; exact hk)]; exact hf
  · rw [newA_at (by rw [hl] at hk; exact hk)]
    exact ⟨hf, by simp, fun x hx => by cases hx⟩
  · rw [hz k hk]; exact Nat.le_refl _
  · rw [hz k hk]; show (-1 : Int) ≤ 8; omega
  · rw [hz k hk] at hu; simp [freS] at hu
  · rw [hz k hk] at hne; exact absurd rfl hne
theorem bal_rchA {R : List Int} {n : Nat} {b v : Int} (h : Rch R n) (hv : votB ⟨b, v⟩ = true) : balF R n b v = 0 := by
  refine balF_ok hv (scanI_of fun k hk => badAt_ok (inBi.2 ?_)) (scanI_of fun k hk => ?_)
  · have := h.inn k hk; omega
  · cases k with
    | zero => exact riseAt_zero R
    | succ k => exact riseAt_ok (h.rise k hk)
def allR (n : Nat) : List Int := ([0, 1, 2, 3, 4] : List Int).take n
theorem allR_rch {n : Nat} (h : n = 1 ∨ n = 3 ∨ n = 5) : Rch (allR n) n ∧ (allR n).length = n := by
  rcases h with rfl | rfl | rfl
  · refine ⟨⟨by decide, fun j hj => ?_, fun j hj => ?_⟩, rfl⟩
    · have : j < 1 := hj
      obtain rfl : j = 0 := by omega
      decide
    · have : j + 1 < 1 := hj
      omega
  · refine ⟨⟨by decide, fun j hj => ?_, fun j hj => ?_⟩, rfl⟩
    · have : j < 3 := hj
      rcases (show j = 0 ∨ j = 1 ∨ j = 2 by omega) with rfl | rfl | rfl <;> decide
    · have : j + 1 < 3 := hj
      rcases (show j = 0 ∨ j = 1 by omega) with rfl | rfl <;> decide
  · refine ⟨⟨by decide, fun j hj => ?_, fun j hj => ?_⟩, rfl⟩
    · have : j < 5 := hj
      rcases (show j = 0 ∨ j = 1 ∨ j = 2 ∨ j = 3 ∨ j = 4 by omega) with rfl | rfl | rfl | rfl | rfl <;> decide
    · have : j + 1 < 5 := hj
      rcases (show j = 0 ∨ j = 1 ∨ j = 2 ∨ j = 3 by omega) with rfl | rfl | rfl | rfl <;> decide
theorem run_last {l : List Acc} {v : Int} {n : Nat} (h : Ag l 7 1 12 8 v) (hl : l.length = n) (hn : n = 1 ∨ n = 3 ∨ n = 5) :
    ∃ v', (runD l (allR n) 7 1 500 2).code = 0 ∧ (runD l (allR n) 7 1 500 2).value = v' ∧ (runD l (allR n) 7 1 500 2).accs.length = n ∧ Ag (runD l (allR n) 7 1 500 2).accs 7 1 13 500 v' ∧ (∃ u, isCh (slotsL (runD l (allR n) 7 1 500 2).accs 7 1) u) ∧ (∀ u, isCh (slotsL l 7 1) u → u.val = v') := by
  obtain ⟨hr, hlen⟩ := allR_rch hn
  have hid : idOk 7 1 = true := rfl
  have hbal : balF (allR n) l.length 500 2 = 0 := by rw [hl]; exact bal_rchA hr rfl
  obtain ⟨h1, _, v', hag, hc0, hst, hq⟩ := run_ag (h.wide (B' := 500) (by omega)) hid (by omega) (Int.le_refl _) (by omega) hbal
  have bok := balOk_of hbal
  have hd := prN_all bok.inn (fun i j hij hj => rise_all bok.rise j i hij hj) (fun k hk => by
    have hin := bok.inn k hk
    have hp := h.pr ((allR n).getD k 0).toNat (by omega)
    exact prom_zero (b := 500) (h.one _ (by omega)) hid rfl (by omega)) (allR n).length (Nat.le_refl _)
  have hcode := hq (by rw [hd, hlen, hl]; unfold quoV; rcases hn with rfl | rfl | rfl <;> decide)
  obtain ⟨e, u, hu⟩ := hc0 hcode
  exact ⟨v', hcode, e, by rw [h1, hl], hag, ⟨u, hu⟩, fun z hz => hag.ch_val (hst z hz)⟩
end Go.Proofs.Yteppnppknfldbaa

/-
  ballotFault, the program's.
-/
set_option linter.unusedSimpArgs false
set_option linter.unusedVariables false
namespace Go.Proofs.Yteppnppknfldbaa
open Go.RowKit
set_option linter.unusedSectionVars false
variable [DecidableEq Vot] [Inhabited Vot] [DecidableEq Slt] [Inhabited Slt] [DecidableEq SltR] [Inhabited SltR] [DecidableEq Bal] [Inhabited Bal] [DecidableEq Ledg] [Inhabited Ledg] [DecidableEq Leg] [Inhabited Leg] [DecidableEq Acc] [Inhabited Acc] [DecidableEq AccR] [Inhabited AccR] [DecidableEq AccsR] [Inhabited AccsR] [DecidableEq SltsR] [Inhabited SltsR]
attribute [local go_sem ↓] Go.wp_at_zero Go.wp_at_succ

set_option maxRecDepth 20000 in
set_option maxHeartbeats 4000000 in
theorem implBalF_any (x : Value) (R : List Int) (n : Nat) (b own : Int) (w : World) (hx : IntsV w x R) (hn : n ≤ 1000) :
    Calls Try.prog 12 #[x, .int .i64 n, .agg #[.int .i64 b, .int .i64 own]] w fun e w' => e = .returned (.int .i64 (balF R n b own)) ∧ Below w.heap.size w w' := by
  obtain ⟨a, cx, rfl, hcx, hmx, hx⟩ := hx
  unfold maxLen at hmx
  have HX : Hid (∀ i, i < R.length → ∃ bb o, a = some ⟨bb, o, none⟩ ∧ w.cell? ⟨bb, o + i, none⟩ = some (.int .i64 (R.getD i 0))) := hx
  clear hx
  have HV : Hid (∀ W, Calls Try.prog 28 #[.agg #[.int .i64 b, .int .i64 own]] W fun e w' => e = .returned (.bool (votB ⟨b, own⟩)) ∧ Below W.heap.size W w') := fun W => isVote_any ⟨b, own⟩ W
  have H1 : Hid (votB ⟨b, own⟩ = false → balF R n b own = 3) := fun h => balF_vote h
  have H2 : Hid (∀ k, votB ⟨b, own⟩ = true → k < R.length → scanI (badAt R n) k = 0 → inB (R.getD k 0) 0 ((n : Int) - 1) = false → balF R n b own = 3) := fun k h hk hs hb => balF_bad h hk hs hb
  have H3 : Hid (∀ k, votB ⟨b, own⟩ = true → scanI (badAt R n) R.length = 0 → k + 1 < R.length → scanI (riseAt R) (k + 1) = 0 → R.getD (k + 1) 0 ≤ R.getD k 0 → balF R n b own = 7) := fun k h h0 hk hs hb => balF_rise h h0 hk hs (by omega)
  have H4 : Hid (votB ⟨b, own⟩ = true → scanI (badAt R n) R.length = 0 → scanI (riseAt R) R.length = 0 → balF R n b own = 0) := fun h h0 hs => balF_ok h h0 hs
  generalize balF R n b own = Z at *
  obtain ⟨m, hm'⟩ : ∃ m, m = R.length := ⟨_, rfl⟩
  rw [← hm'] at hcx HX H2 H3 H4 ⊢
  clear hm'
  cases hv : votB ⟨b, own⟩
  · have HC : Hid (Z = 3) := H1.out hv
    rw [hv] at HV
    clear H1 H2 H3 H4 HX
    go_enter Try.func12, Try.ntmps12
    go_wp2_with fail
    refine (HV.out _).mono ?_
    rintro e w1 ⟨rfl, hb1⟩
    have hB1 : Below w.heap.size w w1 := by (repeat (first | exact Below.refl _ _ | assumption | refine Below.drew ?_ | refine balloc ?_ _ | refine bset ?_ (by simp; omega) _ | refine bset ?_ (by simp) _ | refine bstep ?_ (by assumption)))
    go_wp2
    go_ret
    exact ⟨by rw [HC.out]; rfl, hB1⟩
  have HVt : Hid (votB ⟨b, own⟩ = true) := hv
  rw [hv] at HV
  clear hv H1
  go_enter Try.func12, Try.ntmps12
  go_wp2_with fail
  refine (HV.out _).mono ?_
  rintro e w1 ⟨rfl, hb1⟩
  have hB1 : Below w.heap.size w w1 := by (repeat (first | exact Below.refl _ _ | assumption | refine Below.drew ?_ | refine balloc ?_ _ | refine bset ?_ (by simp; omega) _ | refine bset ?_ (by simp) _ | refine bstep ?_ (by assumption)))
  clear hb1 HV
  go_wp2
  go_loopw [16] (fun i w' => ∃ k : Nat, k ≤ m ∧ i = .int .i64 k ∧ Hid (scanI (badAt R n) k = 0) ∧ Below w.heap.size w w') (fun i _ => m - (intOf i).toNat)
  case atStart => exact ⟨0, Nat.zero_le _, rfl, rfl, hB1⟩
  case round =>
    clear hB1
    obtain ⟨k, hk, rfl, HS, hB1⟩ := hrel
    by_cases hlt : k < m
    · obtain ⟨bb, o, rfl, hc⟩ := HX.out k hlt
      replace hc := cell_keep hB1 hc
      have hw1 : IntKind.i64.wrap ((n : Int) - 1) = (n : Int) - 1 := by rw [IntKind.wrap_i64]; omega
      have HH : Hid (inB (R.getD k 0) 0 ((n : Int) - 1) = false → Z = 3) := fun h => H2.out k HVt.out hlt HS.out h
      have HZ : Hid (inB (R.getD k 0) 0 ((n : Int) - 1) = true → scanI (badAt R n) (k + 1) = 0) := fun h => scanI_succ HS.out (badAt_ok h)
      generalize R.getD k 0 = y at *
      cases hy : inB y 0 ((n : Int) - 1)
      · have HC : Hid (Z = 3) := HH.out hy
        clear HH HZ
        go_wp2_with (go_at_call 29; refine (within_any _ _ _ _).mono ?_; rintro e w' ⟨rfl, hw'⟩; obtain rfl := hw'.symm; rw [hy])
        go_ret
        exact ⟨by rw [HC.out]; rfl, hB1⟩
      · have HC : Hid (scanI (badAt R n) (k + 1) = 0) := HZ.out hy
        clear HH HZ
        go_wp2_with (go_at_call 29; refine (within_any _ _ _ _).mono ?_; rintro e w' ⟨rfl, hw'⟩; obtain rfl := hw'.symm; rw [hy])
        exact ⟨⟨k + 1, by omega, by go_num, HC, hB1⟩, by simp [intOf]; omega⟩
    · have hkm : k = m := by omega
      subst hkm
      clear H2
      go_wp2
      go_loopw [28] (fun i w' => ∃ j : Nat, j ≤ k ∧ i = .int .i64 j ∧ Hid (scanI (riseAt R) j = 0) ∧ Below w.heap.size w w') (fun i _ => k - (intOf i).toNat)
      case atStart => exact ⟨0, Nat.zero_le _, rfl, rfl, hB1⟩
      case round =>
        clear hB1
        obtain ⟨j, hj, rfl, HS2, hB1⟩ := hrel
        by_cases hlt2 : j < k
        · obtain ⟨bb, o, rfl, hc⟩ := HX.out j hlt2
          replace hc := cell_keep hB1 hc
          cases j with
          | zero =>
            have HC : Hid (scanI (riseAt R) 1 = 0) := scanI_succ HS2.out (riseAt_zero R)
            simp only [Nat.add_zero] at hc
            generalize R.getD 0 0 = y at *
            go_wp2
            exact ⟨⟨1, by omega, by go_num, HC, hB1⟩, by simp [intOf]; omega⟩
          | succ p =>
            obtain ⟨bb', o', he, hc'⟩ := HX.out p (by omega)
            simp only [Option.some.injEq, Addr.mk.injEq, and_true] at he
            obtain ⟨rfl, rfl⟩ := he
            replace hc' := cell_keep hB1 hc'
            have i1 : (p : Int) < (k : Int) := by omega
            have i3 : (0 : Int) < ((p + 1 : Nat) : Int) := by omega
            have i5 : IntKind.i64.wrap (((p + 1 : Nat) : Int) - 1) = (p : Int) := by rw [IntKind.wrap_i64]; omega
            have i6 : (0 : Int) ≤ (p : Int) := by omega
            have i7 : IntKind.i64.wrap (p : Int) = p := wrapId (by omega) (by omega)
            have HH : Hid (R.getD (p + 1) 0 ≤ R.getD p 0 → Z = 7) := fun h => H3.out p HVt.out HS.out hlt2 HS2.out h
            have HZ : Hid (R.getD p 0 < R.getD (p + 1) 0 → scanI (riseAt R) (p + 1 + 1) = 0) := fun h => scanI_succ HS2.out (riseAt_ok h)
            generalize R.getD p 0 = y at *
            generalize R.getD (p + 1) 0 = z at *
            by_cases hyz : y < z
            · have HC : Hid (scanI (riseAt R) (p + 1 + 1) = 0) := HZ.out hyz
              have hle : ¬ z ≤ y := by omega
              go_wp2
              exact ⟨⟨p + 1 + 1, by omega, by go_num, HC, hB1⟩, by simp [intOf]; omega⟩
            · have HC : Hid (Z = 7) := HH.out (by omega)
              have hle : z ≤ y := by omega
              go_wp2
              go_ret
              exact ⟨by rw [HC.out]; rfl, hB1⟩
        · have hjk : j = k := by omega
          subst hjk
          have HC : Hid (Z = 0) := H4.out HVt.out HS.out HS2.out
          go_wp2
          go_ret
          exact ⟨by rw [HC.out]; rfl, hB1⟩
end Go.Proofs.Yteppnppknfldbaa


import Derived.Test.YtojjdkggomlegaaGreatPrnShardFaultLaw5
import Derived.Test.YtojjdkggomlegaaGreatPrnShardFaultLaw11
import Derived.Test.YtojjdkggomlegaaGreatPrnShardFaultLaw13
import Derived.WalkKit
import Derived.OwnWalkIn
import Derived.TacticsInMore
import Derived.LoopNIn
import Derived.LoopIn
import Derived.Maps.OwnIn
import Derived.Maps.AppendAt
import Derived.BigQuiet
import Derived.Deep.QuietTactic
import Derived.Deep.RegionHeld3
import Derived.Shelf.SortM.Plain
import Derived.Shelf.SortM.SortNone
import Derived.Ground.SlgmProg
import Derived.Test.YtojjdkggomlegaaGreatProg

/-
  Numbers of a slice, gathered and put in order, the program's.
-/
namespace Go.Proofs.YtojjdkggomlegaaGreat
open Go.RowKit Go.Shelf
set_option linter.unusedSectionVars false
variable [DecidableEq Leg] [Inhabited Leg] [DecidableEq Rw] [Inhabited Rw] [DecidableEq Bal] [Inhabited Bal] [DecidableEq Ledg] [Inhabited Ledg] [DecidableEq Cont] [Inhabited Cont] [DecidableEq LedgR] [Inhabited LedgR] [DecidableEq OutcR] [Inhabited OutcR] [DecidableEq Mrk] [Inhabited Mrk] [DecidableEq Shd] [Inhabited Shd] [DecidableEq ShdR] [Inhabited ShdR]
set_option linter.unusedVariables false
set_option linter.unusedSimpArgs false
attribute [local go_sem] Oper.semAt_some

def QclC (C : List Value) (k T L0 : Nat) (w W : World) (Y : Nat → Prop) (v : Value) : Prop :=
  W.cell? ⟨T, 0, none⟩ = some v ∧ W.ownsRow L0 2 1 v k C ∧ (∀ b, v.ownBlock = some b → ¬ Y b) ∧ (∀ b, b ≤ T → ¬ Y b) ∧ L0 ≤ W.heap.size ∧ W.frozen? ⟨T, 0, none⟩ = false ∧ Below T w W
theorem QclC_mod {C : List Value} {k T L0 : Nat} {w W W' : World} {Y Y' F : Nat → Prop} {v : Value} (hTL : T < L0) (h : QclC C k T L0 w W Y v) (hm : Mod F W W') (hF : ∀ b, b ≤ T → ¬ F b) (hFv : ∀ b, v.ownBlock = some b → ¬ F b)
    (hY : ∀ b, b ≤ T → ¬ Y' b) (hYv : ∀ b, v.ownBlock = some b → ¬ Y' b) : QclC C k T L0 w W' Y' v := by
  obtain ⟨h1, h2, h3, h4, h5, h9, h10⟩ := h
  have hs := hm.size
  refine ⟨hm.cell h1 (hF _ (Nat.le_refl _)), hm.owns h2 hFv, hYv, hY, by omega, (hm.frz (a := ⟨T, 0, none⟩) (by dsimp only; omega) (hF _ (by dsimp only; omega))).trans h9, ?_⟩
  exact ⟨hm.os.trans h10.os, hm.tape.trans h10.tape, hm.output.trans h10.output, Nat.le_trans h10.size hs, fun b hb => (hm.block b (by omega) (hF b (by omega))).trans (h10.block b hb)⟩
def QclI (T L0 : Nat) (w : World) (pre : List Int) (W : World) (Y : Nat → Prop) : Prop := ∃ v, QclC (intsC pre) pre.length T L0 w W Y v
theorem QclI_stb {T L0 : Nat} {w : World} (hTL : T < L0) : Stb (QclI T L0 w) := by
  rintro pre W W' Y Y' ⟨v, h⟩ hm hYY hYn
  have h' := h
  obtain ⟨h1, h2, h3, h4, h5, h9, h10⟩ := h'
  refine ⟨v, QclC_mod hTL h hm h4 h3 (fun b hb h2 => ?_) (fun b hb hy => ?_)⟩
  · rcases (hYn b h2).1 with h3 | h3
    · exact h4 b hb h3
    · omega
  · rcases (hYn b hy).1 with h | h
    · exact h3 b hb h
    · have := (h2.lt b hb).2
      omega
theorem QclC_mid {C : List Value} {k T L0 : Nat} {w W w5 : World} {Y : Nat → Prop} {v : Value} {o : Obj} (hTL : T < L0) (h : QclC C k T L0 w W Y v) (hg : (W.alloc o).grownBy w5 v.ownBlock) :
    w5.cell? ⟨T, 0, none⟩ = some v ∧ w5.frozen? ⟨T, 0, none⟩ = false ∧ Mod (fun b => v.ownBlock = some b) W w5 := by
  obtain ⟨h1, h2, h3, h4, h5, h9, h10⟩ := h
  have hm : Mod (fun b => v.ownBlock = some b) W w5 := (mod_alloc _ W o).trans (Mod.of_grown hg)
  have hn : ¬ v.ownBlock = some T := fun e => by have := (h2.lt T e).1; omega
  exact ⟨hm.cell h1 hn, (hm.frz (a := ⟨T, 0, none⟩) (by dsimp only; omega) hn).trans h9, hm⟩
theorem QclC_app {C news : List Value} {k m T L0 : Nat} {w W w5 : World} {Y : Nat → Prop} {v v' : Value} {o : Obj} (hTL : T < L0) (h : QclC C k T L0 w W Y v) (hg : (W.alloc o).grownBy w5 v.ownBlock)
    (ho : w5.ownsRow L0 2 1 v' (k + m) (C ++ news)) (hv : v'.ownBlock = v.ownBlock ∨ v'.ownBlock = some (W.alloc o).heap.size) (hYa : ∀ b, Y b → b < W.heap.size) :
    QclC (C ++ news) (k + m) T L0 w (w5.setCell ⟨T, 0, none⟩ v') Y v' ∧ Mod (fun b => b = T ∨ v.ownBlock = some b) W (w5.setCell ⟨T, 0, none⟩ v') := by
  obtain ⟨c1, c2, hm⟩ := QclC_mid hTL h hg
  obtain ⟨h1, h2, h3, h4, h5, h9, h10⟩ := h
  have hset : Mod (fun b => b = T) w5 (w5.setCell ⟨T, 0, none⟩ v') := Mod.of_set w5 ⟨T, 0, none⟩ v'
  have hM : Mod (fun b => b = T ∨ v.ownBlock = some b) W (w5.setCell ⟨T, 0, none⟩ v') := (hm.mono (fun b h => .inr h)).trans (hset.mono (fun b h => .inl h))
  have hlow : ∀ b, b < T → ¬ (b = T ∨ v.ownBlock = some b) := by
    rintro b hb (h | h)
    · omega
    · have := (h2.lt b h).1
      omega
  have hs := hM.size
  refine ⟨⟨set_same c1, owns_setCell ho (by dsimp only; exact hTL) _, fun b hb hy => ?_, h4, by omega, by rw [World.frozen?_setCell]; exact c2,
    ⟨hM.os.trans h10.os, hM.tape.trans h10.tape, hM.output.trans h10.output, Nat.le_trans h10.size hs, fun b hb => (hM.block b (by omega) (hlow b (by omega))).trans (h10.block b hb)⟩⟩, hM⟩
  rcases hv with hv | hv
  · rw [hv] at hb
    exact h3 b hb hy
  · rw [hv] at hb
    cases hb
    have := hYa _ hy
    simp at this
    omega
def NoQ (c : Code) (pre : List Int) (W : World) (Y : Nat → Prop) : Prop := False
theorem NoQ_stb (c : Code) : Stb (NoQ c) := fun _ _ _ _ _ h _ _ _ => h
set_option maxRecDepth 100000 in
set_option maxHeartbeats 4000000 in
theorem appendSeqQ_any (gf : Nat) (lb : Array Value) (Ok Dn : List Int → Prop) (R : Nat → Prop) (w : World) (eg : ∀ args w, (callFunc gf args).run Tryz.prog w = .ok (.enter gf args) w) (hseq : Seqy Tryz.prog gf lb (Value.int .i64) Ok Dn R w) (hR : ∀ b, R b → b < w.heap.size) (hlen : ∀ ys, Ok ys → ys.length ≤ 200) :
    Calls Tryz.prog 162 #[.slice none 0 0, .func (.func gf) #[] lb] w fun e w' => ∃ v xs, e = .returned v ∧ Dn xs ∧ w'.ownsRow w.heap.size 2 1 v xs.length (intsC xs) ∧ Below w.heap.size w w' := by
  obtain ⟨i0, hi, hz0, hz1, hz2⟩ := info_parts infoInt
  refine (callsIn_wide (n := 0)).1 ?_
  refine callsIn_of_wp_marks Tryz.func162 rfl trivial ?_ rfl
  simp only [Tryz.ntmps162, List.size_toArray, List.length_cons, List.length_nil, Nat.reduceAdd, Nat.reduceSub, Array.replicate_succ, Array.replicate_zero, List.push_toArray, List.append_toArray, List.nil_append, List.cons_append]
  gi_wp2
  have acc : QclC (intsC []) 0 w.heap.size (w.heap.size + 1) w (w.alloc (.cells #[.slice none 0 0] 25)) (fun _ => False) (.slice none 0 0) :=
    ⟨by simp [go_sem], World.ownsRow_nil _ _ _ _, fun _ _ h => h, fun _ _ h => h, by simp, by simp [go_sem], by (repeat (first | exact Below.refl _ _ | assumption | refine Below.drew ?_ | refine balloc ?_ _ | refine bset ?_ (by simp; omega) _ | refine bset ?_ (by simp) _ | refine bstep ?_ (by assumption)))⟩
  have hseq2 := seqy_mod hseq (mod_alloc (fun k => ¬ R k) w (.cells #[.slice none 0 0] 25))
  have hRa : ∀ b, R b → b < (w.alloc (.cells #[.slice none 0 0] 25)).heap.size := fun b h => by have := hR b h; simp; omega
  have HR : Hid (∀ b, R b → b < w.heap.size) := hR
  have HLE : Hid (∀ ys, Ok ys → ys.length ≤ 200) := hlen
  have hsz : (w.alloc (.cells #[.slice none 0 0] 25)).heap.size = w.heap.size + 1 := by simp
  have HSZ : Hid ((w.alloc (.cells #[.slice none 0 0] 25)).heap.size = w.heap.size + 1) := hsz
  clear hsz hR hseq
  generalize w.alloc (.cells #[.slice none 0 0] 25) = W0 at *
  obtain ⟨T, hTT⟩ : ∃ T, w.heap.size = T := ⟨_, rfl⟩
  have HTT : Hid (w.heap.size = T) := hTT
  rw [hTT] at acc HR HSZ ⊢
  clear hTT
  obtain ⟨L0, hL0⟩ : ∃ L, T + 1 = L := ⟨_, rfl⟩
  rw [hL0] at acc HSZ
  have hTL : T < L0 := by omega
  refine wp_rangeY (gf := gf) rfl eg hseq2 hRa (QclI T L0 w) NoQ (QclI_stb hTL) NoQ_stb (fun _ => False) (fun _ h => h.elim) ⟨_, acc⟩
    (fun x a' _ _ => a' = { tmps := #[.slice none 0 0, .func (.func gf) #[] lb, .pointer (some ⟨T, 0, none⟩), undef, .slice none 0 0, .int .i64 x, .func (.func gf) #[] lb, .int .i64 x, undef, undef, undef, undef, undef], defers := [] })
    (fun x a' _ _ _ _ _ h _ _ _ => h) ?assign ?body ?done ?stop
  case assign =>
    intro l2 pre x W3 Y K hI hYl hYa hK
    gi_wp2
    exact hK _ _ (Mod.refl _ _) rfl
  case body =>
    rintro l2 pre x a' W3 Y hYl hYa ⟨vv, ha⟩ rfl hpre
    have hle : pre.length ≤ 200 := by have := HLE.out _ hpre; rw [List.length_append] at this; omega
    have HP : Hid ((pre ++ [x]).length = pre.length + 1 ∧ intsC (pre ++ [x]) = intsC pre ++ [.int .i64 x]) := ⟨by simp, by simp [intsC]⟩
    have ha' := ha
    obtain ⟨a1, a2, a3, a4, a5, a9, a10⟩ := ha
    obtain ⟨ys, hys⟩ : ∃ ys, intsC pre = ys := ⟨_, rfl⟩
    obtain ⟨m, hm⟩ : ∃ m, pre.length = m := ⟨_, rfl⟩
    rw [hys, hm] at a2 HP ha'
    rw [hm] at hle
    clear hys hm
    obtain ⟨av, cv, rfl⟩ := owns_form a2
    have hzT := World.block_lt_of_cell? _ _ a1
    dsimp only at hzT
    gi_wp2_with (gi_at_builtin; refine wpListIn_append_own_at _ rfl _ _ 25 rfl L0 2 i0 _ 1 8 Tryz.underlying25 hi hz0 hz1 hz2 rfl (by decide) _ _ _ rfl (a2.alloc _) ⟨W3.heap.size, 0, none⟩ 1 1 [.int .i64 x] rfl rfl ?c1 ?c2 ?c3 ?c4 ?c5 ?_)
    case c1 =>
      intro j u hj
      match j, hj with
      | 0, hj => simp at hj; subst hj; simp [Addr.add, go_sem]
      | j + 1, hj => simp at hj
    case c2 =>
      intro u hu
      rw [List.mem_singleton] at hu
      rw [hu]
      rfl
    case c3 => unfold maxLen; omega
    case c4 => omega
    case c5 => simp; omega
    intro v' w5 hown' hgrow _ hown
    obtain ⟨g', cap', rfl⟩ := ownsRow_succ hown'
    obtain ⟨b1, b9, _⟩ := QclC_mid hTL ha' hgrow
    obtain ⟨hnew, hM⟩ := QclC_app hTL ha' hgrow hown' (by rw [World.size_alloc]; exact hown) hYa
    gi_wp2
    refine ⟨hM.mono (fun b h => ?_), .slice (some ⟨g', 0, none⟩) (m + 1) cap', ?_⟩
    · rcases h with rfl | h
      · rintro (h2 | h2)
        · have := HR.out _ h2
          omega
        · exact a4 _ (Nat.le_refl _) h2
      · have := (a2.lt b h).1
        rintro (h2 | h2)
        · have := HR.out _ h2
          omega
        · exact a3 b h h2
    · rw [HP.out.1, HP.out.2]
      exact hnew
  case done =>
    rintro D W3 Y hD hYD xs hDn ⟨vv, ha⟩ hdef
    obtain ⟨a1, a2, a3, a4, a5, a9, a10⟩ := ha
    obtain ⟨av, cv, rfl⟩ := owns_form a2
    have hsD := HSZ.out
    gi_wp2
    refine ⟨by simp, .inl ⟨_, _, rfl, run_takeDeferred hdef, ?_⟩⟩
    refine ⟨.slice av xs.length cv, by simp [results, Tryz.results162, go_sem], ?_⟩
    have mp : Mod (fun b => b = D) W3 (W3.putObj D (.deferred none)) := mod_put _ _ _
    have hTT := HTT.out
    rw [hTT]
    refine ⟨_, xs, rfl, hDn, owns_base (mp.owns a2 (fun b hb e => a3 b hb (by rw [e]; exact hYD))) (by omega), ?_⟩
    exact ⟨mp.os.trans a10.os, mp.tape.trans a10.tape, mp.output.trans a10.output, Nat.le_trans a10.size mp.size, fun b hb => (mp.block b (by have := a10.size; omega) (by omega)).trans (a10.block b hb)⟩
  case stop =>
    rintro D c pre W3 Y hD hYD hpre h hdef
    exact h.elim
set_option maxHeartbeats 1000000 in
theorem collectQ_any (gf : Nat) (lb : Array Value) (Ok Dn : List Int → Prop) (R : Nat → Prop) (w : World) (eg : ∀ args w, (callFunc gf args).run Tryz.prog w = .ok (.enter gf args) w) (hseq : Seqy Tryz.prog gf lb (Value.int .i64) Ok Dn R w) (hR : ∀ b, R b → b < w.heap.size) (hlen : ∀ ys, Ok ys → ys.length ≤ 200) :
    Calls Tryz.prog 140 #[.func (.func gf) #[] lb] w fun e w' => ∃ v xs, e = .returned v ∧ Dn xs ∧ w'.ownsRow w.heap.size 2 1 v xs.length (intsC xs) ∧ Below w.heap.size w w' := by
  have hc := appendSeqQ_any gf lb Ok Dn R w eg hseq hR hlen
  clear eg hseq
  go_enter Tryz.func140, Tryz.ntmps140
  go_wp2_with fail
  refine hc.mono ?_
  rintro e w1 ⟨v, xs, rfl, hDn, ho, hb⟩
  obtain ⟨av, cv, rfl⟩ := owns_form ho
  clear hc
  go_wp2
  go_ret
  exact ⟨_, xs, rfl, hDn, ho, hb⟩
set_option maxRecDepth 100000 in
set_option maxHeartbeats 2000000 in
theorem valuesQ_seq (Bs : Nat) (v : Value) (xs : List Int) (w : World) (hB : w.cell? ⟨Bs, 0, none⟩ = some v) (hT : IntsV w v xs) :
    Seqy Tryz.prog 142 #[.pointer (some ⟨Bs, 0, none⟩)] (Value.int .i64) (fun ys => ys <+: xs) (fun ys => ys = xs) (fun b => b < w.heap.size) w := by
  intro l J Jx W X hm hXa hJ hJx hY h0
  have hBl : Bs < w.heap.size := World.block_lt_of_cell? w _ hB
  have hBW := hm.cell hB (fun h => h hBl)
  obtain ⟨a, cap, rfl, hc1, hc2, hrow0⟩ := hT
  have hrow : ∀ i, i < xs.length → ∃ b o, a = some ⟨b, o, none⟩ ∧ b < w.heap.size ∧ W.cell? ⟨b, o + i, none⟩ = some (.int .i64 (xs.getD i 0)) := fun i hi => by
    obtain ⟨b, o, e, hc⟩ := hrow0 i hi
    have hl : b < w.heap.size := World.block_lt_of_cell? w _ hc
    exact ⟨b, o, e, hl, hm.cell hc (fun h => h hl)⟩
  clear hB hrow0
  unfold maxLen at hc2
  have HP : Hid (∀ k, k < xs.length → xs.take k ++ [xs.getD k 0] = xs.take (k + 1)) := fun k hk => by rw [List.take_add_one, List.getElem?_eq_getElem hk]; simp [List.getD, hk]
  have HA : Hid (∀ k, xs.take k <+: xs) := fun k => List.take_prefix _ _
  have HE : Hid (xs.take xs.length = xs) := List.take_length
  generalize hN : xs.length = n at *
  have HN : Hid (xs.length = n) := hN
  clear hN
  refine callsIn_of_wp Tryz.func142 rfl trivial ?_ rfl
  simp only [Tryz.ntmps142, List.size_toArray, List.length_cons, List.length_nil, Nat.reduceAdd, Nat.reduceSub, Array.replicate_succ, Array.replicate_zero, List.push_toArray, List.append_toArray, List.nil_append, List.cons_append]
  gi_wp2
  gi_loopw [7] (fun i wr => ∃ k : Nat, k ≤ n ∧ i = .int .i64 k ∧ Hid (J (xs.take k) wr X) ∧ Hid (∀ b, X b → b < wr.heap.size) ∧ Mod (fun b => ¬ b < w.heap.size) W wr) (fun i _ => n - (intOf i).toNat)
  case atStart => exact ⟨0, Nat.zero_le _, rfl, (show J [] W X from h0), hXa, Mod.refl _ _⟩
  case round =>
    obtain ⟨k, hk, rfl, HJ, HXa, hmr⟩ := hrel
    by_cases hlt : k < n
    · obtain ⟨b, o, rfl, hRb, hc⟩ := hrow k hlt
      obtain ⟨q, hq⟩ : ∃ q, q = xs.getD k 0 := ⟨_, rfl⟩
      have hP := HP.out k hlt
      rw [← hq] at hc hP
      have HPk : Hid (xs.take k ++ [q] = xs.take (k + 1)) := hP
      replace hc := hmr.cell hc (fun h => h hRb)
      obtain ⟨fn, tmps, assign, body, hy, hR2⟩ := hY _ q _ X HJ.out (fun _ h => h) HXa.out (by rw [hP]; exact HA.out _)
      clear hP hq hrow
      gi_wp2
      refine ⟨rfl, hR2.mono ?_⟩
      rintro e W3 (⟨rfl, hJ3, hk3⟩ | ⟨rfl, hJx3, hk3⟩)
      · gi_wp2
        go_roundw
        case rel =>
          have hs := hk3.size
          refine ⟨k + 1, by omega, by simp, ?_, fun b h => ?_, hmr.trans (hk3.mono (fun b h hr => h (.inl hr)))⟩
          · rw [Hid, ← HPk.out]
            exact hJ3
          · have := HXa.out b h
            omega
        case measure => simp [intOf]; omega
      · gi_wp2
        refine bodyPost_ret (results_none rfl _ _ _) rfl ?_
        exact ⟨⟨_, rfl⟩, X, fun _ h => h, .inr ⟨_, by rw [HPk.out]; exact HA.out _, hJx3⟩⟩
    · obtain rfl : k = n := by omega
      gi_wp2
      go_end0
      refine ⟨⟨_, rfl⟩, X, fun _ h => h, .inl ⟨_, rfl, ?_⟩⟩
      have hj := HJ.out
      rw [HE.out] at hj
      exact hj
set_option maxHeartbeats 1000000 in
theorem valuesQ_any (a : Option Addr) (n c : Nat) (w : World) : Calls Tryz.prog 103 #[.slice a n c] w fun e w' => e = .returned (.func (.func 142) #[] #[.pointer (some ⟨w.heap.size, 0, none⟩)]) ∧ w' = w.alloc (.cells #[.slice a n c] 25) := by
  have hmf : ∀ (fn : Fn) (first cap : Array Value) (w : World), (Instr.makeFunc fn first cap).run Tryz.prog w = .ok (.func fn first cap) w := fun _ _ _ _ => rfl
  go_enter Tryz.func103, Tryz.ntmps103
  go_wp2
  go_ret
  exact ⟨rfl, rfl⟩
end Go.Proofs.YtojjdkggomlegaaGreat

/-
  Numbers compared; contracts that are done, the program's.
-/
set_option linter.unusedSimpArgs false
set_option linter.unusedVariables false
namespace Go.Proofs.YtojjdkggomlegaaGreat
open Go.RowKit
set_option linter.unusedSectionVars false
variable [DecidableEq Rw] [Inhabited Rw] [DecidableEq Bal] [Inhabited Bal] [DecidableEq Ledg] [Inhabited Ledg] [DecidableEq Leg] [Inhabited Leg] [DecidableEq Cont] [Inhabited Cont] [DecidableEq LedgR] [Inhabited LedgR] [DecidableEq OutcR] [Inhabited OutcR] [DecidableEq Mrk] [Inhabited Mrk] [DecidableEq Shd] [Inhabited Shd] [DecidableEq ShdR] [Inhabited ShdR]
attribute [local go_sem ↓] Go.wp_at_zero Go.wp_at_succ

set_option maxHeartbeats 2000000 in
theorem equalI_any (x y : Value) (xs ys : List Int) (w : World) (hx : IntsV w x xs) (hy : IntsV w y ys) :
    Calls Tryz.prog 101 #[x, y] w fun e w' => e = .returned (.bool (decide (xs = ys))) ∧ Below w.heap.size w w' := by
  obtain ⟨ax, cx, rfl, hcx, hmx, hx⟩ := hx
  obtain ⟨ay, cy, rfl, hcy, hmy, hy⟩ := hy
  unfold maxLen at hmx hmy
  by_cases hl : xs.length = ys.length
  rotate_left
  · have e : decide (xs = ys) = false := decide_eq_false (fun h => hl (by rw [h]))
    rw [e]
    have hl' : ((xs.length : Int) != (ys.length : Int)) = true := by simp; omega
    clear hx hy
    go_enter Tryz.func101, Tryz.ntmps101
    go_wp2
    go_ret
    exact ⟨rfl, by (repeat (first | exact Below.refl _ _ | assumption | refine Below.drew ?_ | refine balloc ?_ _ | refine bset ?_ (by simp; omega) _ | refine bset ?_ (by simp) _ | refine bstep ?_ (by assumption)))⟩
  have HN : Hid (∀ k, k < xs.length → ¬ xs.getD k 0 = ys.getD k 0 → decide (xs = ys) = false) := fun k hk h => decide_eq_false (fun e => h (by rw [e]))
  have HE : Hid ((∀ k, k < xs.length → xs.getD k 0 = ys.getD k 0) → decide (xs = ys) = true) := fun h => decide_eq_true (ints_eq_of hl.symm h)
  rw [← hl] at hcy hy ⊢
  clear hl
  generalize hn' : xs.length = n at *
  clear hn'
  go_enter Tryz.func101, Tryz.ntmps101
  go_wp2
  go_loopw [13] (fun i w' => ∃ k : Nat, k ≤ n ∧ i = .int .i64 k ∧ Hid (∀ j, j < k → xs.getD j 0 = ys.getD j 0) ∧ Below w.heap.size w w') (fun i _ => n - (intOf i).toNat)
  case atStart => exact ⟨0, Nat.zero_le _, rfl, fun j hj => absurd hj (Nat.not_lt_zero _), Below.refl _ _⟩
  case round =>
    obtain ⟨k, hk, rfl, HS, hbl⟩ := hrel
    by_cases hlt : k < n
    · obtain ⟨bx, ox, rfl, g1⟩ := hx k hlt
      obtain ⟨by_, oy, rfl, g2⟩ := hy k hlt
      replace g1 := cell_keep hbl g1
      replace g2 := cell_keep hbl g2
      have h1 := HN.out k hlt
      have H2 : Hid (xs.getD k 0 = ys.getD k 0 → ∀ j, j < k + 1 → xs.getD j 0 = ys.getD j 0) := fun h j hj => by
        by_cases e : j = k
        · rw [e]; exact h
        · exact HS.out j (by omega)
      generalize xs.getD k 0 = q at *
      generalize ys.getD k 0 = q' at *
      have H1 : Hid (¬ q = q' → decide (xs = ys) = false) := h1
      clear h1 hx hy
      have k1 : (k : Int) < n := by omega
      have k2 : (0 : Int) ≤ k := by omega
      by_cases he : q = q'
      · have HC := H2.out he
        have HC' : Hid (∀ j, j < k + 1 → xs.getD j 0 = ys.getD j 0) := HC
        have he' : (q != q') = false := by simp [he]
        clear HC H1 H2 he
        go_wp2
        go_quiet (fail)
        go_wp2
        exact ⟨⟨k + 1, by omega, by go_num, HC', bdrewN hbl _⟩, by simp [intOf]; omega⟩
      · have HC := H1.out he
        have he' : (q != q') = true := by simp [he]
        clear H1 H2 he
        go_wp2
        go_quiet (fail)
        go_wp2
        go_ret
        exact ⟨by rw [HC]; rfl, bdrewN hbl _⟩
    · have hkn : k = n := by omega
      subst hkn
      have HC := HE.out HS.out
      go_wp2
      go_ret
      exact ⟨by rw [HC]; rfl, by (repeat (first | exact Below.refl _ _ | assumption | refine Below.drew ?_ | refine balloc ?_ _ | refine bset ?_ (by simp; omega) _ | refine bset ?_ (by simp) _ | refine bstep ?_ (by assumption)))⟩
set_option maxRecDepth 20000 in
set_option maxHeartbeats 4000000 in
theorem contractsDone_any (x : Value) (d : Shd) (w : World) (hx : shdR.V w x d) (hn : d.done.length ≤ 1000) :
    Calls Tryz.prog 104 #[x] w fun e w' => ∃ v, e = .returned v ∧ w'.ownsRow w.heap.size 2 1 v (doneL d.done).length (intsC (doneL d.done)) ∧ Below w.heap.size w w' := by
  obtain ⟨u1, u2, u3, u4, u5, rfl, h1, h2, h3, h4, h5⟩ := hx
  obtain ⟨a1, c1, rfl⟩ := bals_form h1
  obtain ⟨a2, c2, rfl⟩ := mrks_form h2
  obtain ⟨a3, c3, rfl⟩ := conts_form h3
  obtain ⟨a4, c4, rfl, hc4, hm4, hx4⟩ := h4
  obtain ⟨a5, c5, rfl⟩ := ints_form h5
  unfold maxLen at hm4
  have HX : Hid (∀ i, i < d.done.length → ∃ b o, a4 = some ⟨b, o, none⟩ ∧ mrkCells w b (o + i * 2) (d.done.getD i default)) := hx4
  have HDs : Hid (∀ k, k < d.done.length → doneL (d.done.take (k + 1)) = if (d.done.getD k default).val = 1 then doneL (d.done.take k) ++ [(d.done.getD k default).con] else doneL (d.done.take k)) := fun k hk => doneL_snoc hk
  have HDe : Hid (doneL (d.done.take d.done.length) = doneL d.done) := by show _ = _; rw [List.take_length]
  have HDl : Hid (∀ k, (doneL (d.done.take k)).length ≤ k) := fun k => Nat.le_trans (doneL_le _) (by rw [List.length_take]; omega)
  clear h1 h2 h3 h5 hx4
  generalize d.bals.length = n1 at *
  generalize d.votes.length = n2 at *
  generalize d.held.length = n3 at *
  generalize d.done.length = n4 at *
  generalize d.appl.length = n5 at *
  obtain ⟨i0, hi0, hz0, hzz1, hzz2⟩ := info_parts infoInt
  have HI0 : Hid (Tryz.prog.info? 2 = some i0 ∧ i0.zero = some (.int .i64 0) ∧ i0.size = 1 ∧ i0.bytes = 8) := ⟨hi0, hz0, hzz1, hzz2⟩
  clear hi0 hz0 hzz1 hzz2
  go_enter Tryz.func104, Tryz.ntmps104
  go_wp2
  go_loopw [3, 9] (fun s i w' => ∃ (k m : Nat) (p : Option Addr) (q : Nat), k ≤ n4 ∧ s = .slice p m q ∧ i = .int .i64 k ∧ Hid ((doneL (d.done.take k)).length = m) ∧ Hid (w'.ownsRow w.heap.size 2 1 (.slice p m q) m (intsC (doneL (d.done.take k)))) ∧ Below w.heap.size w w') (fun s i _ => n4 - (intOf i).toNat)
  case atStart => exact ⟨0, 0, none, 0, Nat.zero_le _, rfl, rfl, by show (doneL (d.done.take 0)).length = 0; simp [doneL], by show World.ownsRow _ _ _ _ _ _ _; exact World.ownsRow_nil _ _ _ _, by (repeat (first | exact Below.refl _ _ | assumption | refine Below.drew ?_ | refine balloc ?_ _ | refine bset ?_ (by simp; omega) _ | refine bset ?_ (by simp) _ | refine bstep ?_ (by assumption)))⟩
  case round =>
    obtain ⟨k, m, p, q, hk, rfl, rfl, HM, HO, hbl⟩ := hrel
    by_cases hlt : k < n4
    · obtain ⟨bx, ox, rfl, g1⟩ := HX.out k hlt
      have h1 := HDs.out k hlt
      have hl := HDl.out k
      obtain ⟨l, hl'⟩ : ∃ l, l = d.done.getD k default := ⟨_, rfl⟩
      rw [← hl'] at g1 h1
      have H1 : Hid (doneL (d.done.take (k + 1)) = if l.val = 1 then doneL (d.done.take k) ++ [l.con] else doneL (d.done.take k)) := h1
      clear hl' h1
      obtain ⟨g2, g3⟩ := mrkCells_below hbl g1
      have zb : bx < wr.heap.size := World.block_lt_of_cell? wr _ g2
      have hmk : m ≤ k := by rw [← HM.out]; exact hl
      clear hl g1
      by_cases he : l.val = 1
      · have he' : (l.val == 1) = true := by simp [he]
        have HD : Hid (doneL (d.done.take (k + 1)) = doneL (d.done.take k) ++ [l.con]) := by show _ = _; rw [H1.out, if_pos he]
        clear H1
        rw [he] at g3
        have hobl : ∀ b', (Value.slice p m q).ownBlock = some b' → w.heap.size ≤ b' ∧ b' < wr.heap.size := fun b' h => HO.out.lt b' h
        have HOl : Hid (∀ b', (Value.slice p m q).ownBlock = some b' → w.heap.size ≤ b' ∧ b' < wr.heap.size) := hobl
        clear hobl
        go_wp2_with (at_builtin; refine wpList_append_own_at _ rfl _ _ 25 rfl w.heap.size 2 i0 _ 1 8 Tryz.underlying25 HI0.out.1 HI0.out.2.1 HI0.out.2.2.1 HI0.out.2.2.2 rfl (by decide) _ m (intsC (doneL (d.done.take k))) rfl (owns_below HO.out (balloc (balloc (Below.refl _ _) _) _)) ⟨wr.heap.size + 1, 0, none⟩ 1 1 [.int .i64 l.con] rfl rfl ?c1 ?c2 ?c3 ?c4 ?c5 ?_)
        case c1 =>
          intro j u hj
          match j, hj with
          | 0, hj => simp at hj; subst hj; simp [Addr.add, go_sem]
          | j + 1, hj => simp at hj
        case c2 =>
          intro u hu
          rw [List.mem_singleton] at hu
          rw [hu]
          rfl
        case c3 => unfold maxLen; omega
        case c4 => omega
        case c5 => have := hbl.size; simp; omega
        intro v6 w6 o6 g6 _ l6
        obtain ⟨a6, c6, rfl⟩ := owns_form o6
        have hB6 : Below w.heap.size w w6 := ((balloc (balloc hbl _) _)).grown g6 (by have := hbl.size; simp; omega) (fun b' h => (HOl.out b' h).1)
        have HO6 : Hid (w6.ownsRow w.heap.size 2 1 (.slice a6 (m + 1) c6) (m + 1) (intsC (doneL (d.done.take (k + 1))))) := by
          show World.ownsRow _ _ _ _ _ _ _
          rw [HD.out]
          have e : intsC (doneL (d.done.take k) ++ [l.con]) = intsC (doneL (d.done.take k)) ++ [.int .i64 l.con] := by simp [intsC]
          rw [e]
          exact o6
        have HM6 : Hid ((doneL (d.done.take (k + 1))).length = m + 1) := by show _ = _; rw [HD.out, List.length_append, HM.out]; rfl
        clear o6 g6 l6
        go_wp2
        exact ⟨⟨k + 1, m + 1, a6, c6, by omega, rfl, by go_num, HM6, HO6, hB6⟩, by simp [intOf]; omega⟩
      · have he' : (l.val == 1) = false := by simp [he]
        have HD : Hid (doneL (d.done.take (k + 1)) = doneL (d.done.take k)) := by show _ = _; rw [H1.out, if_neg he]
        have HM6 : Hid ((doneL (d.done.take (k + 1))).length = m) := by show _ = _; rw [HD.out, HM.out]
        clear H1
        go_wp2
        refine ⟨⟨k + 1, m, p, q, by omega, rfl, by go_num, HM6, ?_, by (repeat (first | exact Below.refl _ _ | assumption | refine Below.drew ?_ | refine balloc ?_ _ | refine bset ?_ (by simp; omega) _ | refine bset ?_ (by simp) _ | refine bstep ?_ (by assumption)))⟩, by simp [intOf]; omega⟩
        show World.ownsRow _ _ _ _ _ _ _
        rw [HD.out]
        exact owns_below HO.out (by (repeat (first | exact Below.refl _ _ | assumption | refine Below.drew ?_ | refine balloc ?_ _ | refine bset ?_ (by simp; omega) _ | refine bset ?_ (by simp) _ | refine bstep ?_ (by assumption))))
    · have hkn : k = n4 := by omega
      subst hkn
      have ho := HO.out
      have hm := HM.out
      rw [HDe.out] at ho hm
      have HOe : Hid (wr.ownsRow w.heap.size 2 1 (.slice p m q) m (intsC (doneL d.done))) := ho
      have HMe : Hid ((doneL d.done).length = m) := hm
      clear ho hm HO HM
      go_wp2
      go_ret
      exact ⟨_, rfl, by rw [HMe.out]; exact HOe.out, by (repeat (first | exact Below.refl _ _ | assumption | refine Below.drew ?_ | refine balloc ?_ _ | refine bset ?_ (by simp; omega) _ | refine bset ?_ (by simp) _ | refine bstep ?_ (by assumption)))⟩
end Go.Proofs.YtojjdkggomlegaaGreat

/-
  slices.Sort at numbers: the library's contract, laid at this program.
-/
namespace Go.Proofs.YtojjdkggomlegaaGreat
open Go.Shelf
def Tryz.sortI_ren : Go.Shelf.Ren := ⟨fun | 5 => 141 | 8 => 164 | 7 => 163 | 19 => 184 | 20 => 185 | 10 => 175 | 11 => 176 | 12 => 177 | 13 => 178 | 14 => 179 | 15 => 180 | 16 => 181 | 17 => 182 | 18 => 183 | 30 => 190 | 31 => 191 | 32 => 192 | 33 => 193 | 34 => 194 | 35 => 167 | 40 => 204 | n => n, fun | 23 => 25 | 25 => 2 | 3 => 3 | 32 => 182 | 22 => 25 | 0 => 0 | 44 => 199 | 46 => 201 | 4 => 4 | 36 => 193 | 35 => 192 | 41 => 147 | 5 => 5 | 9 => 9 | 53 => 205 | 57 => 209 | 63 => 217 | 64 => 218 | n => n, fun | n => n⟩
theorem Tryz.sortI : Go.Proofs.SlLaysM.n5 Tryz.prog Tryz.sortI_ren := {
  mixed := by kernel_rfl
  f5 := ⟨Tryz.f141.name, by decide, Tryz.func141.trans (congrArg some (by kernel_rfl))⟩
  f7 := ⟨Tryz.f163.name, by decide, Tryz.func163.trans (congrArg some (by kernel_rfl))⟩
  f8 := Tryz.func164.trans (congrArg some (by kernel_rfl))
  f10 := ⟨Tryz.f175.name, by decide, Tryz.func175.trans (congrArg some (by kernel_rfl))⟩
  f11 := ⟨Tryz.f176.name, by decide, Tryz.func176.trans (congrArg some (by kernel_rfl))⟩
  f12 := ⟨Tryz.f177.name, by decide, Tryz.func177.trans (congrArg some (by kernel_rfl))⟩
  f13 := ⟨Tryz.f178.name, by decide, Tryz.func178.trans (congrArg some (by kernel_rfl))⟩
  f14 := ⟨Tryz.f179.name, by decide, Tryz.func179.trans (congrArg some (by kernel_rfl))⟩
  f15 := ⟨Tryz.f180.name, by decide, Tryz.func180.trans (congrArg some (by kernel_rfl))⟩
  f16 := ⟨Tryz.f181.name, by decide, Tryz.func181.trans (congrArg some (by kernel_rfl))⟩
  f17 := ⟨Tryz.f182.name, by decide, Tryz.func182.trans (congrArg some (by kernel_rfl))⟩
  f18 := ⟨Tryz.f183.name, by decide, Tryz.func183.trans (congrArg some (by kernel_rfl))⟩
  f19 := Tryz.func184.trans (congrArg some (by kernel_rfl))
  f20 := Tryz.func185.trans (congrArg some (by kernel_rfl))
  f30 := ⟨Tryz.f190.name, by decide, Tryz.func190.trans (congrArg some (by kernel_rfl))⟩
  f31 := Tryz.func191.trans (congrArg some (by kernel_rfl))
  f32 := Tryz.func192.trans (congrArg some (by kernel_rfl))
  f33 := ⟨Tryz.f193.name, by decide, Tryz.func193.trans (congrArg some (by kernel_rfl))⟩
  f34 := ⟨Tryz.f194.name, by decide, Tryz.func194.trans (congrArg some (by kernel_rfl))⟩
  f35 := ⟨Tryz.f167.name, by decide, Tryz.func167.trans (congrArg some (by kernel_rfl))⟩
  f40 := ⟨Tryz.f204.name, by decide, Tryz.func204.trans (congrArg some (by kernel_rfl))⟩
  t0 := Tryz.underlying0
  a0 := Tryz.isAgg0
  z0 := Tryz.sizeOf0
  v0 := Tryz.zeroValue0
  t3 := Tryz.underlying3
  a3 := Tryz.isAgg3
  z3 := Tryz.sizeOf3
  v3 := Tryz.zeroValue3
  t4 := Tryz.underlying4
  a4 := Tryz.isAgg4
  z4 := Tryz.sizeOf4
  v4 := Tryz.zeroValue4
  t5 := Tryz.underlying5
  a5 := Tryz.isAgg5
  z5 := Tryz.sizeOf5
  v5 := Tryz.zeroValue5
  t9 := Tryz.underlying9
  a9 := Tryz.isAgg9
  z9 := Tryz.sizeOf9
  v9 := Tryz.zeroValue9
  t22 := Tryz.underlying25
  a22 := Tryz.isAgg25
  z22 := Tryz.sizeOf25
  v22 := Tryz.zeroValue25
  t23 := Tryz.underlying25
  a23 := Tryz.isAgg25
  z23 := Tryz.sizeOf25
  v23 := Tryz.zeroValue25
  t25 := Tryz.underlying2
  a25 := Tryz.isAgg2
  z25 := Tryz.sizeOf2
  v25 := Tryz.zeroValue2
  t32 := Tryz.underlying182
  a32 := Tryz.isAgg182
  z32 := Tryz.sizeOf182
  v32 := Tryz.zeroValue182
  t35 := Tryz.underlying192
  a35 := Tryz.isAgg192
  z35 := Tryz.sizeOf192
  v35 := Tryz.zeroValue192
  t36 := Tryz.underlying193
  a36 := Tryz.isAgg193
  z36 := Tryz.sizeOf193
  v36 := Tryz.zeroValue193
  t41 := Tryz.underlying147
  a41 := Tryz.isAgg147
  z41 := Tryz.sizeOf147
  v41 := Tryz.zeroValue147
  t44 := Tryz.underlying199
  a44 := Tryz.isAgg199
  z44 := Tryz.sizeOf199
  v44 := Tryz.zeroValue199
  t46 := Tryz.underlying201
  a46 := Tryz.isAgg201
  z46 := Tryz.sizeOf201
  v46 := Tryz.zeroValue201
  t53 := Tryz.underlying205
  a53 := Tryz.isAgg205
  z53 := Tryz.sizeOf205
  v53 := Tryz.zeroValue205
  t57 := Tryz.underlying209
  a57 := Tryz.isAgg209
  z57 := Tryz.sizeOf209
  v57 := Tryz.zeroValue209
  t63 := Tryz.underlying217
  a63 := Tryz.isAgg217
  z63 := Tryz.sizeOf217
  v63 := Tryz.zeroValue217
  t64 := Tryz.underlying218
  a64 := Tryz.isAgg218
  z64 := Tryz.sizeOf218
  v64 := Tryz.zeroValue218 }
end Go.Proofs.YtojjdkggomlegaaGreat

/-
  Numbers put in order, the program's.
-/
namespace Go.Proofs.YtojjdkggomlegaaGreat
open Go.RowKit Go.Sort Go.Shelf
set_option linter.unusedSectionVars false
variable [DecidableEq Leg] [Inhabited Leg] [DecidableEq Rw] [Inhabited Rw] [DecidableEq Bal] [Inhabited Bal] [DecidableEq Ledg] [Inhabited Ledg] [DecidableEq Cont] [Inhabited Cont] [DecidableEq LedgR] [Inhabited LedgR] [DecidableEq OutcR] [Inhabited OutcR] [DecidableEq Mrk] [Inhabited Mrk] [DecidableEq Shd] [Inhabited Shd] [DecidableEq ShdR] [Inhabited ShdR]
set_option linter.unusedVariables false
set_option linter.unusedSimpArgs false
attribute [local go_sem ↓] Go.wp_at_zero Go.wp_at_succ

theorem holdsQ {w : World} {g : Nat} {cur : Array Value} {e : TypeId} {ss : List Int} (hb : w.heap[g]? = some (.cells cur e (0, 0))) (ht : cur.toList.take ss.length = ss.map (Value.int .i64)) : Go.Sort.Holds (Value.int .i64) w g 0 ss.toArray := by
  intro j hj
  have hj' : j < ss.length := by simpa using hj
  refine ⟨?_, by simp [World.frozen?, hb]⟩
  have h1 : (cur.toList.take ss.length)[j]? = (ss.map (Value.int .i64))[j]? := by rw [ht]
  rw [List.getElem?_take_of_lt hj'] at h1
  simp only [World.cell?, hb, Nat.zero_add]
  rw [← Array.getElem?_toList, h1]
  simp [hj']
theorem heapQ {w : World} {g n : Nat} {os : Array Obj} {cur : Array Value} {e : TypeId} {fr : Nat × Nat} (d : Array Int) (hb : w.heap[g]? = some (.cells cur e fr)) :
    (grow (putRow (Value.int .i64) (Sort.ahead w n) g 0 d) os).heap[g]? = some (.cells (putCells (Value.int .i64) 0 d cur) e fr) := by
  have hg : g < w.heap.size := (Array.getElem?_eq_some_iff.1 hb).1
  rw [heap_grow_old _ _ (by simpa using hg)]
  simp [putRow, mapBlock, Sort.ahead, Array.getElem?_modify, hb, onCells]
theorem grownQ {w : World} {g n : Nat} {os : Array Obj} (d : Array Int) : w.grownBy (grow (putRow (Value.int .i64) (Sort.ahead w n) g 0 d) os) (some g) := by
  refine ⟨rfl, rfl, rfl, by simp, fun k hk hne => ?_⟩
  rw [heap_grow_old _ _ (by simpa using hk)]
  have : g ≠ k := fun e => hne (by rw [e])
  simp [putRow, mapBlock, Sort.ahead, Array.getElem?_modify, this]
theorem takeQ (cur : Array Value) (ts : List Int) (h : ts.length ≤ cur.size) : (putCells (Value.int .i64) 0 ts.toArray cur).toList.take ts.length = ts.map (Value.int .i64) := by
  apply List.ext_getElem?
  intro j
  by_cases hj : j < ts.length
  · rw [List.getElem?_take_of_lt hj, Array.getElem?_toList]
    simp [putCells, hj, show j < cur.size by omega]
  · rw [List.getElem?_take_eq_none (by omega), List.getElem?_eq_none (by simp; omega)]
theorem ownsQ {w : World} {base g cap n : Nat} {e : TypeId} {os : Array Obj} {cur : Array Value} {ss ts : List Int} (hl : ts.length = ss.length) (hbase : base ≤ g) (hb : w.heap[g]? = some (.cells cur e (0, 0)))
    (h1 : ss.length ≤ cap) (h2 : cap ≤ maxLen) (h3 : cur.size = cap * 1) :
    (grow (putRow (Value.int .i64) (Sort.ahead w n) g 0 ts.toArray) os).ownsRow base e 1 (.slice (some ⟨g, 0, none⟩) ss.length cap) ss.length (ts.map (Value.int .i64)) :=
  ⟨by simp [hl], .inr ⟨g, cap, _, rfl, hbase, heapQ _ hb, h1, h2, by simp [putCells, h3], by rw [Nat.mul_one, ← hl]; exact takeQ cur ts (by omega)⟩⟩
def sortI (xs : List Int) : List Int := xs.mergeSort (fun x y => decide (x ≤ y))
set_option maxRecDepth 20000 in
set_option maxHeartbeats 2000000 in
theorem sortedQ_any (a : Option Addr) (n c : Nat) (xs : List Int) (w : World) (hx : IntsV w (.slice a n c) xs) (Bs : Nat) (hB : w.cell? ⟨Bs, 0, none⟩ = some (.slice a n c)) (hl : xs.length ≤ 100) :
    Calls Tryz.prog 102 #[.func (.func 142) #[] #[.pointer (some ⟨Bs, 0, none⟩)]] w fun e w' => ∃ v, e = .returned v ∧ w'.ownsRow w.heap.size 2 1 v (sortI xs).length (intsC (sortI xs)) ∧ Go.RowKit.Below w.heap.size w w' := by
  have eg := enters_of Tryz.func142 (by kernel_rfl) rfl
  have hc := collectQ_any 142 #[.pointer (some ⟨Bs, 0, none⟩)] _ _ _ w eg (valuesQ_seq Bs _ xs w hB hx) (fun b h => h) (fun ys h => by have := h.length_le; omega)
  clear eg hx hB
  go_enter Tryz.func102, Tryz.ntmps102
  go_wp2_with fail
  refine hc.mono ?_
  rintro e w1 ⟨v, ys, rfl, rfl, ho, hb⟩
  clear hc
  have hlen : (sortI ys).length = ys.length := by unfold sortI; exact (List.mergeSort_perm _ _).length_eq
  rcases ho.2 with ⟨rfl, hn⟩ | ⟨g, cap, cur, rfl, hbg, hg, hnc, hcm, hcs, htake⟩
  · have hx : ys = [] := List.eq_nil_of_length_eq_zero hn
    subst hx
    go_wp2_with fail
    refine (AnyM.slices_Sort_int_none Tryz.sortI none 0 w1).mono ?_
    rintro e w2 ⟨rfl, hw2⟩
    obtain rfl := hw2.symm
    have e0 : sortI [] = [] := by unfold sortI; simp
    go_wp2
    go_ret
    exact ⟨_, rfl, by rw [e0]; exact ho, hb⟩
  · have hgl : g < w1.heap.size := (Array.getElem?_eq_some_iff.1 hg).1
    have hcon := AnyM.slices_Sort_int Tryz.sortI g 0 cap ys w1 (holdsQ hg (by rw [Nat.mul_one] at htake; exact htake)) hgl (by omega)
    have HOw : Hid (∀ k os, (grow (putRow (Value.int .i64) (Sort.ahead w1 k) g 0 (ys.mergeSort fun x y => decide (x ≤ y)).toArray) os).ownsRow w.heap.size 2 1 (.slice (some ⟨g, 0, none⟩) ys.length cap) (sortI ys).length (intsC (sortI ys))) := fun k os => by
      have h := ownsQ (w := w1) (base := w.heap.size) (g := g) (cap := cap) (n := k) (os := os) (ss := ys) (ts := sortI ys) hlen hbg hg hnc hcm hcs
      rw [hlen]
      exact h
    have HBl : Hid (∀ k os, Go.RowKit.Below w.heap.size w (grow (putRow (Value.int .i64) (Sort.ahead w1 k) g 0 (ys.mergeSort fun x y => decide (x ≤ y)).toArray) os)) := fun k os => hb.grown (grownQ _) hb.size (fun b e => by cases e; exact hbg)
    change Calls Tryz.prog 141 _ _ _ at hcon
    obtain ⟨m, hm⟩ : ∃ m, m = ys.length := ⟨_, rfl⟩
    rw [← hm] at hcon HOw ⊢
    clear hm ho hlen htake hnc
    go_wp2_with fail
    refine hcon.mono ?_
    rintro e w2 ⟨rfl, k, os, hw2⟩
    have o2 := HOw.out k os
    have b2 := HBl.out k os
    rw [← hw2] at o2 b2
    have HO2 : Hid (w2.ownsRow w.heap.size 2 1 (.slice (some ⟨g, 0, none⟩) m cap) (sortI ys).length (intsC (sortI ys))) := o2
    clear hcon hw2 o2 HOw HBl
    go_wp2
    go_ret
    exact ⟨_, rfl, HO2.out, b2⟩
end Go.Proofs.YtojjdkggomlegaaGreat


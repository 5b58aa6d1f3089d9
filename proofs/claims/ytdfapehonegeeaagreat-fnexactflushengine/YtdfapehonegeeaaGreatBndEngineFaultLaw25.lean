import Derived.Test.YtdfapehonegeeaaGreatBndEngineFaultLaw9
import Derived.Test.YtdfapehonegeeaaGreatBndEngineFaultLaw24
import Derived.Test.YtdfapehonegeeaaGreatBndEngineFaultLaw10
import Derived.Test.YtdfapehonegeeaaGreatBndEngineFaultLaw12
import Derived.Maps.OwnIn
import Derived.Maps.AppendAt
import Derived.Test.YtdfapehonegeeaaGreatBndEngineFaultLaw6

/-
  Writes as rows of one version: the program's iterator rowsAt.
-/
namespace Go.Proofs.YtdfapehonegeeaaGreat
open Go.RowKit Go.Shelf
set_option linter.unusedSectionVars false
variable [DecidableEq Wri] [Inhabited Wri] [DecidableEq BytesR] [Inhabited BytesR] [DecidableEq Rw] [Inhabited Rw]
set_option linter.unusedVariables false
set_option linter.unusedSimpArgs false
attribute [local go_sem] Oper.semAt_some

/-- the writes ws lie where v says, in blocks of R -/
def WriAt (R : Nat → Prop) (W : World) (v : Value) (ws : List Wri) : Prop :=
  ∃ a cap, v = .slice a ws.length cap ∧ ws.length ≤ cap ∧ cap ≤ maxLen ∧ ∀ i, i < ws.length → ∃ b o, a = some ⟨b, o, none⟩ ∧ R b ∧ wriCells W b (o + i * 3) (ws.getD i default)
theorem wriCells_mod {F : Nat → Prop} {w w' : World} {b o : Nat} {x : Wri} (hm : Mod F w w') (hb : ¬ F b) (h : wriCells w b o x) : wriCells w' b o x :=
  ⟨hm.cell h.1 hb, hm.cell h.2.1 hb, hm.cell h.2.2 hb⟩
theorem WriAt.mod {R F : Nat → Prop} {w w' : World} {v : Value} {ws : List Wri} (h : WriAt R w v ws) (hm : Mod F w w') (hF : ∀ b, R b → ¬ F b) : WriAt R w' v ws := by
  obtain ⟨a, cap, e, h1, h2, h3⟩ := h
  refine ⟨a, cap, e, h1, h2, fun i hi => ?_⟩
  obtain ⟨b, o, ha, hb, hc⟩ := h3 i hi
  exact ⟨b, o, ha, hb, wriCells_mod hm (hF b hb) hc⟩
theorem WriAt.of {R : Nat → Prop} {w : World} {v : Value} {ws : List Wri} (h : WrisV w v ws) (hR : ∀ b, b < w.heap.size → R b) : WriAt R w v ws := by
  obtain ⟨a, cap, e, h1, h2, h3⟩ := h
  refine ⟨a, cap, e, h1, h2, fun i hi => ?_⟩
  obtain ⟨b, o, ha, hc⟩ := h3 i hi
  exact ⟨b, o, ha, hR b (World.block_lt_of_cell? _ _ hc.1), hc⟩

set_option maxHeartbeats 1000000 in
theorem rowsAt_any (v : Int) (a : Option Addr) (n c : Nat) (w : World) :
    Calls Tryz.prog 78 #[.int .i64 v, .slice a n c] w fun e w' => e = .returned (.func (.func 130) #[] #[.pointer (some ⟨w.heap.size + 1, 0, none⟩), .pointer (some ⟨w.heap.size, 0, none⟩)]) ∧ w' = (w.alloc (.cells #[.int .i64 v] 2)).alloc (.cells #[.slice a n c] 44) := by
  go_enter Tryz.func78, Tryz.ntmps78
  go_wp2
  go_ret
  exact ⟨by simp, rfl⟩

set_option maxRecDepth 100000 in
set_option maxHeartbeats 2000000 in
theorem rowsAt_seq (Bl Bv : Nat) (lv : Value) (ws : List Wri) (ver : Int) (R : Nat → Prop) (w : World) (hB : w.cell? ⟨Bl, 0, none⟩ = some lv) (hV : w.cell? ⟨Bv, 0, none⟩ = some (.int .i64 ver)) (hRB : R Bl) (hRV : R Bv) (hT : WriAt R w lv ws) (hn : ws.length ≤ 200) :
    Seqx Tryz.prog 130 #[.pointer (some ⟨Bl, 0, none⟩), .pointer (some ⟨Bv, 0, none⟩)] rowV (ws.map (wrRow ver)) R w := by
  intro l J Jx W X hm hXa hJ hJx hY h0
  have hBW := hm.cell hB (fun h => h hRB)
  have hVW := hm.cell hV (fun h => h hRV)
  have hTW := hT.mod hm (fun b hb h => h hb)
  clear hB hT hV
  obtain ⟨a, cap, rfl, hc1, hc2, hrow⟩ := hTW
  unfold maxLen at hc2
  have HQ : Hid (∀ k, k < ws.length → (ws.map (wrRow ver)).getD k default = wrRow ver (ws.getD k default)) := fun k hk => by simp [List.getD, hk]
  have HNN : Hid ((ws.map (wrRow ver)).length = ws.length) := List.length_map _
  obtain ⟨xs, hxs⟩ : ∃ xs, ws.map (wrRow ver) = xs := ⟨_, rfl⟩
  rw [hxs] at HQ HNN hY ⊢
  have HP : Hid (∀ k, k < ws.length → xs.take k ++ [xs.getD k default] = xs.take (k + 1)) := fun k hk => take_snoc xs (by rw [HNN.out]; exact hk)
  have HA : Hid (∀ k, xs.take k <+: xs) := fun k => List.take_prefix _ _
  have HE : Hid (xs.take ws.length = xs) := by rw [Hid, ← HNN.out]; exact List.take_length
  clear hxs HNN
  generalize ws.length = n at *
  refine callsIn_of_wp Tryz.func130 rfl trivial ?_ rfl
  simp only [Tryz.ntmps130, List.size_toArray, List.length_cons, List.length_nil, Nat.reduceAdd, Nat.reduceSub, Array.replicate_succ, Array.replicate_zero, List.push_toArray, List.append_toArray, List.nil_append, List.cons_append]
  gi_wp2
  gi_loopw [8] (fun i wr => ∃ k : Nat, k ≤ n ∧ i = .int .i64 k ∧ Hid (J (xs.take k) wr X) ∧ Hid (∀ b, X b → b < wr.heap.size) ∧ Mod (fun b => ¬ R b) W wr) (fun i _ => n - (intOf i).toNat)
  case atStart => exact ⟨0, Nat.zero_le _, rfl, (show J [] W X from h0), hXa, Mod.refl _ _⟩
  case round =>
    obtain ⟨k, hk, rfl, HJ, HXa, hmr⟩ := hrel
    by_cases hlt : k < n
    · obtain ⟨b, o, rfl, hRb, hc⟩ := hrow k hlt
      obtain ⟨q, hq⟩ : ∃ q, q = ws.getD k default := ⟨_, rfl⟩
      have hP := HP.out k hlt
      have hQ := HQ.out k hlt
      rw [← hq] at hc hQ
      rw [hQ] at hP
      have HPk : Hid (xs.take k ++ [wrRow ver q] = xs.take (k + 1)) := hP
      obtain ⟨c0, c1, c2⟩ := wriCells_mod hmr (fun h => h hRb) hc
      have hvr := hmr.cell hVW (fun h => h hRV)
      have zb := World.block_lt_of_cell? _ _ c0
      have zv := World.block_lt_of_cell? _ _ hvr
      dsimp only at zb zv
      clear hP hq hrow hc hQ
      gi_wp2
      refine ⟨trivial, rfl, (callsIn_wide.2 (rowAt_any ver q _)).mono ?_⟩
      rintro e W2 ⟨rfl, hb2⟩
      have hm2 : ∀ F, Mod F wr W2 := fun F => (mod_alloc F _ _).trans (Mod.of_below hb2)
      have hs2 := (hm2 (fun _ => False)).size
      have hJ2 : J (xs.take k) W2 X := hJ _ _ _ _ _ HJ.out (hm2 _) (fun _ h => h) (fun b h => ⟨.inl h, by have := HXa.out b h; omega⟩)
      obtain ⟨fn, tmps, assign, body, hy, hR2⟩ := hY _ (wrRow ver q) W2 X hJ2 (fun _ h => h) (fun b h => by have := HXa.out b h; omega) (by rw [HPk.out]; exact HA.out _)
      unfold rowV wrRow at hy
      dsimp only at hy
      clear hb2
      gi_wp2
      refine ⟨rfl, hR2.mono ?_⟩
      rintro e W3 (⟨rfl, hJ3, hk3⟩ | ⟨rfl, hJx3, hk3⟩)
      · gi_wp2
        go_roundw
        case rel =>
          have hs := hk3.size
          refine ⟨k + 1, by omega, by simp, ?_, fun b h => ?_, (hmr.trans (hm2 _)).trans (hk3.mono (fun b h hr => h (.inl hr)))⟩
          · rw [Hid, ← HPk.out]
            exact hJ3
          · have := HXa.out b h
            omega
        case measure => simp [intOf]; omega
      · gi_wp2
        refine bodyPost_ret (results_none rfl _ _ _) rfl ?_
        exact ⟨⟨_, rfl⟩, X, fun _ h => h, .inr ⟨_, by rw [HPk.out]; exact HA.out _, hJx3⟩⟩
    · obtain rfl : k = n := by omega
      gi_wp2
      go_end0
      refine ⟨⟨_, rfl⟩, X, fun _ h => h, .inl ?_⟩
      have hj := HJ.out
      rw [HE.out] at hj
      exact hj

end Go.Proofs.YtdfapehonegeeaaGreat

/-
  slices.Collect and slices.AppendSeq over iterators of rows.
-/
namespace Go.Proofs.YtdfapehonegeeaaGreat
open Go.RowKit Go.Shelf
set_option linter.unusedSectionVars false
variable [DecidableEq Rw] [Inhabited Rw] [DecidableEq TabR] [Inhabited TabR]
set_option linter.unusedVariables false
set_option linter.unusedSimpArgs false
attribute [local go_sem] Oper.semAt_some
attribute [local go_sem] run_store_func

/-- a list that is gathered in the box T, its memory from L0 on -/
def CltC (C : List Value) (k T L0 : Nat) (w W : World) (Y : Nat → Prop) (v : Value) : Prop :=
  W.cell? ⟨T, 0, none⟩ = some v ∧ W.ownsRow L0 76 4 v k C ∧ (∀ b, v.ownBlock = some b → ¬ Y b) ∧ (∀ b, b ≤ T → ¬ Y b) ∧ L0 ≤ W.heap.size ∧ W.frozen? ⟨T, 0, none⟩ = false ∧ Below T w W
theorem CltC_mod {C : List Value} {k T L0 : Nat} {w W W' : World} {Y Y' F : Nat → Prop} {v : Value} (hTL : T < L0) (h : CltC C k T L0 w W Y v) (hm : Mod F W W') (hF : ∀ b, b ≤ T → ¬ F b) (hFv : ∀ b, v.ownBlock = some b → ¬ F b)
    (hY : ∀ b, b ≤ T → ¬ Y' b) (hYv : ∀ b, v.ownBlock = some b → ¬ Y' b) : CltC C k T L0 w W' Y' v := by
  obtain ⟨h1, h2, h3, h4, h5, h9, h10⟩ := h
  have hs := hm.size
  refine ⟨hm.cell h1 (hF _ (Nat.le_refl _)), hm.owns h2 hFv, hYv, hY, by omega, (hm.frozen (a := ⟨T, 0, none⟩) (by dsimp only; omega) (hF _ (by dsimp only; omega))).trans h9, ?_⟩
  exact ⟨hm.os.trans h10.os, hm.tape.trans h10.tape, hm.output.trans h10.output, Nat.le_trans h10.size hs, fun b hb => (hm.block b (by omega) (hF b (by omega))).trans (h10.block b hb)⟩
def CltI (T L0 : Nat) (w : World) (pre : List Rw) (W : World) (Y : Nat → Prop) : Prop := ∃ v, CltC (rwsC pre) pre.length T L0 w W Y v
theorem CltI_stb {T L0 : Nat} {w : World} (hTL : T < L0) : Stb (CltI T L0 w) := by
  rintro pre W W' Y Y' ⟨v, h⟩ hm hYY hYn
  have h' := h
  obtain ⟨h1, h2, h3, h4, h5, h9, h10⟩ := h'
  refine ⟨v, CltC_mod hTL h hm h4 h3 (fun b hb h2 => ?_) (fun b hb hy => ?_)⟩
  · rcases (hYn b h2).1 with h3 | h3
    · exact h4 b hb h3
    · omega
  · rcases (hYn b hy).1 with h | h
    · exact h3 b hb h
    · have := (h2.lt b hb).2
      omega
theorem CltC_mid {C : List Value} {k T L0 : Nat} {w W w5 : World} {Y : Nat → Prop} {v : Value} {o : Obj} (hTL : T < L0) (h : CltC C k T L0 w W Y v) (hg : (W.alloc o).grownBy w5 v.ownBlock) :
    w5.cell? ⟨T, 0, none⟩ = some v ∧ w5.frozen? ⟨T, 0, none⟩ = false ∧ Mod (fun b => v.ownBlock = some b) W w5 := by
  obtain ⟨h1, h2, h3, h4, h5, h9, h10⟩ := h
  have hm : Mod (fun b => v.ownBlock = some b) W w5 := (mod_alloc _ W o).trans (Mod.of_grown hg)
  have hn : ¬ v.ownBlock = some T := fun e => by have := (h2.lt T e).1; omega
  exact ⟨hm.cell h1 hn, (hm.frozen (a := ⟨T, 0, none⟩) (by dsimp only; omega) hn).trans h9, hm⟩
theorem CltC_app {C news : List Value} {k m T L0 : Nat} {w W w5 : World} {Y : Nat → Prop} {v v' : Value} {o : Obj} (hTL : T < L0) (h : CltC C k T L0 w W Y v) (hg : (W.alloc o).grownBy w5 v.ownBlock)
    (ho : w5.ownsRow L0 76 4 v' (k + m) (C ++ news)) (hv : v'.ownBlock = v.ownBlock ∨ v'.ownBlock = some (W.alloc o).heap.size) (hYa : ∀ b, Y b → b < W.heap.size) :
    CltC (C ++ news) (k + m) T L0 w (w5.setCell ⟨T, 0, none⟩ v') Y v' ∧ Mod (fun b => b = T ∨ v.ownBlock = some b) W (w5.setCell ⟨T, 0, none⟩ v') := by
  obtain ⟨c1, c2, hm⟩ := CltC_mid hTL h hg
  obtain ⟨h1, h2, h3, h4, h5, h9, h10⟩ := h
  have hset : Mod (fun b => b = T) w5 (w5.setCell ⟨T, 0, none⟩ v') := Mod.of_set w5 ⟨T, 0, none⟩ v'
  have hM : Mod (fun b => b = T ∨ v.ownBlock = some b) W (w5.setCell ⟨T, 0, none⟩ v') := (hm.mono (fun b h => .inr h)).trans (hset.mono (fun b h => .inl h))
  have hlow : ∀ b, b < T → ¬ (b = T ∨ v.ownBlock = some b) := by
    rintro b hb (h | h)
    · omega
    · have := (h2.lt b h).1
      omega
  have hs := hM.size
  refine ⟨⟨set_same c1, owns_setCell ho (by dsimp only; exact hTL) _, fun b hb hy => ?_, h4, by omega, by rw [World.frozen?_setCell]; exact c2,
    ⟨hM.os.trans h10.os, hM.tape.trans h10.tape, hM.output.trans h10.output, Nat.le_trans h10.size hs, fun b hb => (hM.block b (by omega) (hlow b (by omega))).trans (h10.block b hb)⟩⟩, hM⟩
  rcases hv with hv | hv
  · rw [hv] at hb
    exact h3 b hb hy
  · rw [hv] at hb
    cases hb
    have := hYa _ hy
    simp at this
    omega
def NoR (c : Code) (pre : List Rw) (W : World) (Y : Nat → Prop) : Prop := False
theorem NoR_stb (c : Code) : Stb (NoR c) := fun _ _ _ _ _ h _ _ _ => h

theorem seqx_mod {α : Type} {P : Program} {g : Nat} {lb : Array Value} {enc : α → Value} {xs : List α} {R : Nat → Prop} {w w' : World} (h : Seqx P g lb enc xs R w) (hm : Mod (fun k => ¬ R k) w w') : Seqx P g lb enc xs R w' :=
  fun l J Jx W X h1 h2 h3 h4 h5 h6 => h l J Jx W X (hm.trans h1) h2 h3 h4 h5 h6

set_option maxRecDepth 100000 in
set_option maxHeartbeats 4000000 in
theorem appendSeq_any (gf : Nat) (lb : Array Value) (xs : List Rw) (R : Nat → Prop) (w : World) (eg : ∀ args w, (callFunc gf args).run Tryz.prog w = .ok (.enter gf args) w) (hseq : Seqx Tryz.prog gf lb rowV xs R w) (hR : ∀ b, R b → b < w.heap.size) (hlen : xs.length ≤ 200) :
    Calls Tryz.prog 179 #[.slice none 0 0, .func (.func gf) #[] lb] w fun e w' => ∃ v, e = .returned v ∧ w'.ownsRow w.heap.size 76 4 v xs.length (rwsC xs) ∧ Below w.heap.size w w' := by
  obtain ⟨i0, hi, hz0, hz1, hz2⟩ := info_parts infoRw
  refine (callsIn_wide (n := 0)).1 ?_
  refine callsIn_of_wp_marks Tryz.func179 rfl trivial ?_ rfl
  simp only [Tryz.ntmps179, List.size_toArray, List.length_cons, List.length_nil, Nat.reduceAdd, Nat.reduceSub, Array.replicate_succ, Array.replicate_zero, List.push_toArray, List.append_toArray, List.nil_append, List.cons_append]
  gi_wp2
  have acc : CltC (rwsC []) 0 w.heap.size (w.heap.size + 1) w (w.alloc (.cells #[.slice none 0 0] 32)) (fun _ => False) (.slice none 0 0) :=
    ⟨by simp [go_sem], World.ownsRow_nil _ _ _ _, fun _ _ h => h, fun _ _ h => h, by simp, by simp [go_sem], by (repeat (first | exact Below.refl _ _ | assumption | refine Below.drew ?_ | refine balloc ?_ _ | refine bset ?_ (by simp; omega) _ | refine bset ?_ (by simp) _ | refine bstep ?_ (by assumption)))⟩
  have hseq2 := seqx_mod hseq (mod_alloc (fun k => ¬ R k) w (.cells #[.slice none 0 0] 32))
  have hRa : ∀ b, R b → b < (w.alloc (.cells #[.slice none 0 0] 32)).heap.size := fun b h => by have := hR b h; simp; omega
  have HR : Hid (∀ b, R b → b < w.heap.size) := hR
  have HLE : Hid (∀ ys, ys <+: xs → ys.length ≤ 200) := fun ys hy => Nat.le_trans hy.length_le hlen
  have hsz : (w.alloc (.cells #[.slice none 0 0] 32)).heap.size = w.heap.size + 1 := by simp
  have HSZ : Hid ((w.alloc (.cells #[.slice none 0 0] 32)).heap.size = w.heap.size + 1) := hsz
  clear hsz hR hseq
  generalize w.alloc (.cells #[.slice none 0 0] 32) = W0 at *
  obtain ⟨T, hTT⟩ : ∃ T, w.heap.size = T := ⟨_, rfl⟩
  have HTT : Hid (w.heap.size = T) := hTT
  rw [hTT] at acc HR HSZ ⊢
  clear hTT
  obtain ⟨L0, hL0⟩ : ∃ L, T + 1 = L := ⟨_, rfl⟩
  rw [hL0] at acc HSZ
  have hTL : T < L0 := by omega
  refine wp_rangeX (gf := gf) rfl eg hseq2 hRa (CltI T L0 w) NoR (CltI_stb hTL) NoR_stb (fun _ => False) (fun _ h => h.elim) ⟨_, acc⟩
    (fun x => RowBox L0 (fun B => { tmps := #[.slice none 0 0, .func (.func gf) #[] lb, .pointer (some ⟨T, 0, none⟩), undef, .slice none 0 0, .pointer (some ⟨B, 0, none⟩), .func (.func gf) #[] lb, .agg #[.string x.key, .int .i64 x.ver, .string x.val, .bool x.gone], undef, undef, undef, undef, undef], defers := [] }) x)
    (fun x a' => RowBox_stb _ _ x a') ?assign ?body ?done ?stop
  case assign =>
    rintro l2 pre x W3 Y K ⟨_, ha⟩ hYl hYa hK
    unfold rowV
    gi_wp2
    refine hK _ _ (mod_alloc _ _ _) ⟨W3.heap.size, ha.2.2.2.2.1, by simp, by unfold rowCells; simp [go_sem], fun h => ?_, rfl⟩
    have := hYa _ h
    omega
  case body =>
    rintro l2 pre x a' W3 Y hYl hYa ⟨vv, ha⟩ ⟨B, hlo, hB, hr, hYB, rfl⟩ hpre
    have hle : pre.length ≤ 200 := HLE.out pre ((List.prefix_append pre [x]).trans hpre)
    obtain ⟨r0, r1, r2, r3⟩ := hr
    simp only [Nat.zero_add] at r1 r2 r3
    have HP : Hid ((pre ++ [x]).length = pre.length + 1 ∧ rwsC (pre ++ [x]) = rwsC pre ++ rowC x) := ⟨by simp, rwsC_snoc _ _⟩
    have ha' := ha
    obtain ⟨a1, a2, a3, a4, a5, a9, a10⟩ := ha
    obtain ⟨ys, hys⟩ : ∃ ys, rwsC pre = ys := ⟨_, rfl⟩
    obtain ⟨m, hm⟩ : ∃ m, pre.length = m := ⟨_, rfl⟩
    rw [hys, hm] at a2 HP ha'
    rw [hm] at hle
    clear hys hm
    obtain ⟨av, cv, rfl⟩ := owns_form a2
    have hzT := World.block_lt_of_cell? _ _ a1
    dsimp only at hzT
    gi_wp2_with (gi_at_builtin; refine wpListIn_append_own_at _ rfl _ _ 32 rfl L0 76 i0 _ 4 48 Tryz.underlying32 hi hz0 hz1 hz2 rfl (by decide) _ _ _ rfl (a2.alloc _) ⟨W3.heap.size, 0, none⟩ 1 1 (rowC x) rfl rfl ?c1 (rowC_one x) ?c3 ?c4 ?c5 ?_)
    case c1 => exact rowC_cells (b := W3.heap.size) (o := 0) ⟨by simp [go_sem], by simp [go_sem], by simp [go_sem], by simp [go_sem]⟩
    case c3 => unfold maxLen; omega
    case c4 => omega
    case c5 => simp; omega
    intro v' w5 hown' hgrow _ hown
    obtain ⟨g', cap', rfl⟩ := ownsRow_succ hown'
    obtain ⟨b1, b9, _⟩ := CltC_mid hTL ha' hgrow
    obtain ⟨hnew, hM⟩ := CltC_app hTL ha' hgrow hown' (by rw [World.size_alloc]; exact hown) hYa
    gi_wp2
    refine ⟨hM.mono (fun b h => ?_), .slice (some ⟨g', 0, none⟩) (m + 1) cap', ?_⟩
    · rcases h with rfl | h
      · rintro (h2 | h2)
        · have := HR.out _ h2
          omega
        · exact a4 _ (Nat.le_refl _) h2
      · have := (a2.lt b h).1
        rintro (h2 | h2)
        · have := HR.out _ h2
          omega
        · exact a3 b h h2
    · rw [HP.out.1, HP.out.2]
      exact hnew
  case done =>
    rintro D W3 Y hD hYD ⟨vv, ha⟩ hdef
    obtain ⟨a1, a2, a3, a4, a5, a9, a10⟩ := ha
    obtain ⟨av, cv, rfl⟩ := owns_form a2
    have hsD := HSZ.out
    gi_wp2
    refine ⟨by simp, .inl ⟨_, _, rfl, run_takeDeferred hdef, ?_⟩⟩
    refine ⟨.slice av xs.length cv, by simp [results, Tryz.results179, go_sem], ?_⟩
    have mp : Mod (fun b => b = D) W3 (W3.putObj D (.deferred none)) := mod_put _ _ _
    have hTT := HTT.out
    rw [hTT]
    refine ⟨_, rfl, owns_base (mp.owns a2 (fun b hb e => a3 b hb (by rw [e]; exact hYD))) (by omega), ?_⟩
    exact ⟨mp.os.trans a10.os, mp.tape.trans a10.tape, mp.output.trans a10.output, Nat.le_trans a10.size mp.size, fun b hb => (mp.block b (by have := a10.size; omega) (by omega)).trans (a10.block b hb)⟩
  case stop =>
    rintro D c pre W3 Y hD hYD hpre h hdef
    exact h.elim

set_option maxHeartbeats 1000000 in
theorem collect_any (gf : Nat) (lb : Array Value) (xs : List Rw) (R : Nat → Prop) (w : World) (eg : ∀ args w, (callFunc gf args).run Tryz.prog w = .ok (.enter gf args) w) (hseq : Seqx Tryz.prog gf lb rowV xs R w) (hR : ∀ b, R b → b < w.heap.size) (hlen : xs.length ≤ 200) :
    Calls Tryz.prog 169 #[.func (.func gf) #[] lb] w fun e w' => ∃ v, e = .returned v ∧ w'.ownsRow w.heap.size 76 4 v xs.length (rwsC xs) ∧ Below w.heap.size w w' := by
  have hc := appendSeq_any gf lb xs R w eg hseq hR hlen
  clear eg hseq
  go_enter Tryz.func169, Tryz.ntmps169
  go_wp2_with fail
  refine hc.mono ?_
  rintro e w1 ⟨v, rfl, ho, hb⟩
  obtain ⟨av, cv, rfl⟩ := owns_form ho
  clear hc
  go_wp2
  go_ret
  exact ⟨_, rfl, ho, hb⟩

end Go.Proofs.YtdfapehonegeeaaGreat

/-
  Is a number a version? (the program's)
-/
namespace Go.Proofs.YtdfapehonegeeaaGreat
open Go.RowKit
set_option linter.unusedSectionVars false
variable [DecidableEq Rw] [Inhabited Rw]
attribute [local go_sem ↓] Go.wp_at_zero Go.wp_at_succ

theorem isVersion_any (a : Int) (w : World) :
    Calls Tryz.prog 52 #[.int .i64 a] w fun e w' => e = .returned (.bool (inR a 1 1000000)) ∧ w' = w := by
  go_enter Tryz.func52, Tryz.ntmps52
  go_wp2_with (go_at_call 109; refine (withinR_any _ _ _ _).mono ?_; rintro e w' ⟨rfl, rfl⟩)
  go_ret
  exact ⟨rfl, rfl⟩

end Go.Proofs.YtdfapehonegeeaaGreat


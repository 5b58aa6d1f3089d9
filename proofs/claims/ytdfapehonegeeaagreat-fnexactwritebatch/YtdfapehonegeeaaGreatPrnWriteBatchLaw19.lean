import Derived.Test.YtdfapehonegeeaaGreatPrnWriteBatchLaw8
import Derived.Test.YtdfapehonegeeaaGreatPrnWriteBatchLaw9
import Derived.Maps.OwnIn
import Derived.Maps.AppendAt
import Derived.Test.YtdfapehonegeeaaGreatPrnWriteBatchLaw5
import Derived.Test.YtdfapehonegeeaaGreatPrnWriteBatchLaw16
import Derived.Test.YtdfapehonegeeaaGreatPrnWriteBatchLaw18
import Derived.Test.YtdfapehonegeeaaGreatPrnWriteBatchLaw17

/-
  slices.Collect and slices.AppendSeq over iterators of rows.
-/
namespace Go.Proofs.YtdfapehonegeeaaGreat
open Go.RowKit Go.Shelf
set_option linter.unusedSectionVars false
variable [DecidableEq Rw] [Inhabited Rw] [DecidableEq TabR] [Inhabited TabR]
set_option linter.unusedVariables false
set_option linter.unusedSimpArgs false
attribute [local go_sem] Oper.semAt_some
attribute [local go_sem] run_store_func

def CltC (C : List Value) (k T L0 : Nat) (w W : World) (Y : Nat → Prop) (v : Value) : Prop :=
  W.cell? ⟨T, 0, none⟩ = some v ∧ W.ownsRow L0 76 4 v k C ∧ (∀ b, v.ownBlock = some b → ¬ Y b) ∧ (∀ b, b ≤ T → ¬ Y b) ∧ L0 ≤ W.heap.size ∧ W.frozen? ⟨T, 0, none⟩ = false ∧ Below T w W
theorem CltC_mod {C : List Value} {k T L0 : Nat} {w W W' : World} {Y Y' F : Nat → Prop} {v : Value} (hTL : T < L0) (h : CltC C k T L0 w W Y v) (hm : Mod F W W') (hF : ∀ b, b ≤ T → ¬ F b) (hFv : ∀ b, v.ownBlock = some b → ¬ F b)
    (hY : ∀ b, b ≤ T → ¬ Y' b) (hYv : ∀ b, v.ownBlock = some b → ¬ Y' b) : CltC C k T L0 w W' Y' v := by
  obtain ⟨h1, h2, h3, h4, h5, h9, h10⟩ := h
  have hs := hm.size
  refine ⟨hm.cell h1 (hF _ (Nat.le_refl _)), hm.owns h2 hFv, hYv, hY, by omega, (hm.frozen (a := ⟨T, 0, none⟩) (by dsimp only; omega) (hF _ (by dsimp only; omega))).trans h9, ?_⟩
  exact ⟨hm.os.trans h10.os, hm.tape.trans h10.tape, hm.output.trans h10.output, Nat.le_trans h10.size hs, fun b hb => (hm.block b (by omega) (hF b (by omega))).trans (h10.block b hb)⟩
def CltI (T L0 : Nat) (w : World) (pre : List Rw) (W : World) (Y : Nat → Prop) : Prop := ∃ v, CltC (rwsC pre) pre.length T L0 w W Y v
theorem CltI_stb {T L0 : Nat} {w : World} (hTL : T < L0) : Stb (CltI T L0 w) := by
  rintro pre W W' Y Y' ⟨v, h⟩ hm hYY hYn
  have h' := h
  obtain ⟨h1, h2, h3, h4, h5, h9, h10⟩ := h'
  refine ⟨v, CltC_mod hTL h hm h4 h3 (fun b hb h2 => ?_) (fun b hb hy => ?_)⟩
  · rcases (hYn b h2).1 with h3 | h3
    · exact h4 b hb h3
    · omega
  · rcases (hYn b hy).1 with h | h
    · exact h3 b hb h
    · have := (h2.lt b hb).2
      omega
theorem CltC_mid {C : List Value} {k T L0 : Nat} {w W w5 : World} {Y : Nat → Prop} {v : Value} {o : Obj} (hTL : T < L0) (h : CltC C k T L0 w W Y v) (hg : (W.alloc o).grownBy w5 v.ownBlock) :
    w5.cell? ⟨T, 0, none⟩ = some v ∧ w5.frozen? ⟨T, 0, none⟩ = false ∧ Mod (fun b => v.ownBlock = some b) W w5 := by
  obtain ⟨h1, h2, h3, h4, h5, h9, h10⟩ := h
  have hm : Mod (fun b => v.ownBlock = some b) W w5 := (mod_alloc _ W o).trans (Mod.of_grown hg)
  have hn : ¬ v.ownBlock = some T := fun e => by have := (h2.lt T e).1; omega
  exact ⟨hm.cell h1 hn, (hm.frozen (a := ⟨T, 0, none⟩) (by dsimp only; omega) hn).trans h9, hm⟩
theorem CltC_app {C news : List Value} {k m T L0 : Nat} {w W w5 : World} {Y : Nat → Prop} {v v' : Value} {o : Obj} (hTL : T < L0) (h : CltC C k T L0 w W Y v) (hg : (W.alloc o).grownBy w5 v.ownBlock)
    (ho : w5.ownsRow L0 76 4 v' (k + m) (C ++ news)) (hv : v'.ownBlock = v.ownBlock ∨ v'.ownBlock = some (W.alloc o).heap.size) (hYa : ∀ b, Y b → b < W.heap.size) :
    CltC (C ++ news) (k + m) T L0 w (w5.setCell ⟨T, 0, none⟩ v') Y v' ∧ Mod (fun b => b = T ∨ v.ownBlock = some b) W (w5.setCell ⟨T, 0, none⟩ v') := by
  obtain ⟨c1, c2, hm⟩ := CltC_mid hTL h hg
  obtain ⟨h1, h2, h3, h4, h5, h9, h10⟩ := h
  have hset : Mod (fun b => b = T) w5 (w5.setCell ⟨T, 0, none⟩ v') := Mod.of_set w5 ⟨T, 0, none⟩ v'
  have hM : Mod (fun b => b = T ∨ v.ownBlock = some b) W (w5.setCell ⟨T, 0, none⟩ v') := (hm.mono (fun b h => .inr h)).trans (hset.mono (fun b h => .inl h))
  have hlow : ∀ b, b < T → ¬ (b = T ∨ v.ownBlock = some b) := by
    rintro b hb (h | h)
    · omega
    · have := (h2.lt b h).1
      omega
  have hs := hM.size
  refine ⟨⟨set_same c1, owns_setCell ho (by dsimp only; exact hTL) _, fun b hb hy => ?_, h4, by omega, by rw [World.frozen?_setCell]; exact c2,
    ⟨hM.os.trans h10.os, hM.tape.trans h10.tape, hM.output.trans h10.output, Nat.le_trans h10.size hs, fun b hb => (hM.block b (by omega) (hlow b (by omega))).trans (h10.block b hb)⟩⟩, hM⟩
  rcases hv with hv | hv
  · rw [hv] at hb
    exact h3 b hb hy
  · rw [hv] at hb
    cases hb
    have := hYa _ hy
    simp at this
    omega
def NoR (c : Code) (pre : List Rw) (W : World) (Y : Nat → Prop) : Prop := False
theorem NoR_stb (c : Code) : Stb (NoR c) := fun _ _ _ _ _ h _ _ _ => h
theorem seqx_mod {α : Type} {P : Program} {g : Nat} {lb : Array Value} {enc : α → Value} {xs : List α} {R : Nat → Prop} {w w' : World} (h : Seqx P g lb enc xs R w) (hm : Mod (fun k => ¬ R k) w w') : Seqx P g lb enc xs R w' :=
  fun l J Jx W X h1 h2 h3 h4 h5 h6 => h l J Jx W X (hm.trans h1) h2 h3 h4 h5 h6
set_option maxRecDepth 100000 in
set_option maxHeartbeats 4000000 in
theorem appendSeq_any (gf : Nat) (lb : Array Value) (xs : List Rw) (R : Nat → Prop) (w : World) (eg : ∀ args w, (callFunc gf args).run Tryz.prog w = .ok (.enter gf args) w) (hseq : Seqx Tryz.prog gf lb rowV xs R w) (hR : ∀ b, R b → b < w.heap.size) (hlen : xs.length ≤ 200) :
    Calls Tryz.prog 179 #[.slice none 0 0, .func (.func gf) #[] lb] w fun e w' => ∃ v, e = .returned v ∧ w'.ownsRow w.heap.size 76 4 v xs.length (rwsC xs) ∧ Below w.heap.size w w' := by
  obtain ⟨i0, hi, hz0, hz1, hz2⟩ := info_parts infoRw
  refine (callsIn_wide (n := 0)).1 ?_
  refine callsIn_of_wp_marks Tryz.func179 rfl trivial ?_ rfl
  simp only [Tryz.ntmps179, List.size_toArray, List.length_cons, List.length_nil, Nat.reduceAdd, Nat.reduceSub, Array.replicate_succ, Array.replicate_zero, List.push_toArray, List.append_toArray, List.nil_append, List.cons_append]
  gi_wp2
  have acc : CltC (rwsC []) 0 w.heap.size (w.heap.size + 1) w (w.alloc (.cells #[.slice none 0 0] 32)) (fun _ => False) (.slice none 0 0) :=
    ⟨by simp [go_sem], World.ownsRow_nil _ _ _ _, fun _ _ h => h, fun _ _ h => h, by simp, by simp [go_sem], by (repeat (first | exact Below.refl _ _ | assumption | refine Below.drew ?_ | refine balloc ?_ _ | refine bset ?_ (by simp; omega) _ | refine bset ?_ (by simp) _ | refine bstep ?_ (by assumption)))⟩
  have hseq2 := seqx_mod hseq (mod_alloc (fun k => ¬ R k) w (.cells #[.slice none 0 0] 32))
  have hRa : ∀ b, R b → b < (w.alloc (.cells #[.slice none 0 0] 32)).heap.size := fun b h => by have := hR b h; simp; omega
  have HR : Hid (∀ b, R b → b < w.heap.size) := hR
  have HLE : Hid (∀ ys, ys <+: xs → ys.length ≤ 200) := fun ys hy => Nat.le_trans hy.length_le hlen
  have hsz : (w.alloc (.cells #[.slice none 0 0] 32)).heap.size = w.heap.size + 1 := by simp
  have HSZ : Hid ((w.alloc (.cells #[.slice none 0 0] 32)).heap.size = w.heap.size + 1) := hsz
  clear hsz hR hseq
  generalize w.alloc (.cells #[.slice none 0 0] 32) = W0 at *
  obtain ⟨T, hTT⟩ : ∃ T, w.heap.size = T := ⟨_, rfl⟩
  have HTT : Hid (w.heap.size = T) := hTT
  rw [hTT] at acc HR HSZ ⊢
  clear hTT
  obtain ⟨L0, hL0⟩ : ∃ L, T + 1 = L := ⟨_, rfl⟩
  rw [hL0] at acc HSZ
  have hTL : T < L0 := by omega
  refine wp_rangeX (gf := gf) rfl eg hseq2 hRa (CltI T L0 w) NoR (CltI_stb hTL) NoR_stb (fun _ => False) (fun _ h => h.elim) ⟨_, acc⟩
    (fun x => RowBox L0 (fun B => { tmps := #[.slice none 0 0, .func (.func gf) #[] lb, .pointer (some ⟨T, 0, none⟩), undef, .slice none 0 0, .pointer (some ⟨B, 0, none⟩), .func (.func gf) #[] lb, .agg #[.string x.key, .int .i64 x.ver, .string x.val, .bool x.gone], undef, undef, undef, undef, undef], defers := [] }) x)
    (fun x a' => RowBox_stb _ _ x a') ?assign ?body ?done ?stop
  case assign =>
    rintro l2 pre x W3 Y K ⟨_, ha⟩ hYl hYa hK
    unfold rowV
    gi_wp2
    refine hK _ _ (mod_alloc _ _ _) ⟨W3.heap.size, ha.2.2.2.2.1, by simp, by unfold rowCells; simp [go_sem], fun h => ?_, rfl⟩
    have := hYa _ h
    omega
  case body =>
    rintro l2 pre x a' W3 Y hYl hYa ⟨vv, ha⟩ ⟨B, hlo, hB, hr, hYB, rfl⟩ hpre
    have hle : pre.length ≤ 200 := HLE.out pre ((List.prefix_append pre [x]).trans hpre)
    obtain ⟨r0, r1, r2, r3⟩ := hr
    simp only [Nat.zero_add] at r1 r2 r3
    have HP : Hid ((pre ++ [x]).length = pre.length + 1 ∧ rwsC (pre ++ [x]) = rwsC pre ++ rowC x) := ⟨by simp, rwsC_snoc _ _⟩
    have ha' := ha
    obtain ⟨a1, a2, a3, a4, a5, a9, a10⟩ := ha
    obtain ⟨ys, hys⟩ : ∃ ys, rwsC pre = ys := ⟨_, rfl⟩
    obtain ⟨m, hm⟩ : ∃ m, pre.length = m := ⟨_, rfl⟩
    rw [hys, hm] at a2 HP ha'
    rw [hm] at hle
    clear hys hm
    obtain ⟨av, cv, rfl⟩ := owns_form a2
    have hzT := World.block_lt_of_cell? _ _ a1
    dsimp only at hzT
    gi_wp2_with (gi_at_builtin; refine wpListIn_append_own_at _ rfl _ _ 32 rfl L0 76 i0 _ 4 48 Tryz.underlying32 hi hz0 hz1 hz2 rfl (by decide) _ _ _ rfl (a2.alloc _) ⟨W3.heap.size, 0, none⟩ 1 1 (rowC x) rfl rfl ?c1 (rowC_one x) ?c3 ?c4 ?c5 ?_)
    case c1 => exact rowC_cells (b := W3.heap.size) (o := 0) ⟨by simp [go_sem], by simp [go_sem], by simp [go_sem], by simp [go_sem]⟩
    case c3 => unfold maxLen; omega
    case c4 => omega
    case c5 => simp; omega
    intro v' w5 hown' hgrow _ hown
    obtain ⟨g', cap', rfl⟩ := ownsRow_succ hown'
    obtain ⟨b1, b9, _⟩ := CltC_mid hTL ha' hgrow
    obtain ⟨hnew, hM⟩ := CltC_app hTL ha' hgrow hown' (by rw [World.size_alloc]; exact hown) hYa
    gi_wp2
    refine ⟨hM.mono (fun b h => ?_), .slice (some ⟨g', 0, none⟩) (m + 1) cap', ?_⟩
    · rcases h with rfl | h
      · rintro (h2 | h2)
        · have := HR.out _ h2
          omega
        · exact a4 _ (Nat.le_refl _) h2
      · have := (a2.lt b h).1
        rintro (h2 | h2)
        · have := HR.out _ h2
          omega
        · exact a3 b h h2
    · rw [HP.out.1, HP.out.2]
      exact hnew
  case done =>
    rintro D W3 Y hD hYD ⟨vv, ha⟩ hdef
    obtain ⟨a1, a2, a3, a4, a5, a9, a10⟩ := ha
    obtain ⟨av, cv, rfl⟩ := owns_form a2
    have hsD := HSZ.out
    gi_wp2
    refine ⟨by simp, .inl ⟨_, _, rfl, run_takeDeferred hdef, ?_⟩⟩
    refine ⟨.slice av xs.length cv, by simp [results, Tryz.results179, go_sem], ?_⟩
    have mp : Mod (fun b => b = D) W3 (W3.putObj D (.deferred none)) := mod_put _ _ _
    have hTT := HTT.out
    rw [hTT]
    refine ⟨_, rfl, owns_base (mp.owns a2 (fun b hb e => a3 b hb (by rw [e]; exact hYD))) (by omega), ?_⟩
    exact ⟨mp.os.trans a10.os, mp.tape.trans a10.tape, mp.output.trans a10.output, Nat.le_trans a10.size mp.size, fun b hb => (mp.block b (by have := a10.size; omega) (by omega)).trans (a10.block b hb)⟩
  case stop =>
    rintro D c pre W3 Y hD hYD hpre h hdef
    exact h.elim
set_option maxHeartbeats 1000000 in
theorem collect_any (gf : Nat) (lb : Array Value) (xs : List Rw) (R : Nat → Prop) (w : World) (eg : ∀ args w, (callFunc gf args).run Tryz.prog w = .ok (.enter gf args) w) (hseq : Seqx Tryz.prog gf lb rowV xs R w) (hR : ∀ b, R b → b < w.heap.size) (hlen : xs.length ≤ 200) :
    Calls Tryz.prog 169 #[.func (.func gf) #[] lb] w fun e w' => ∃ v, e = .returned v ∧ w'.ownsRow w.heap.size 76 4 v xs.length (rwsC xs) ∧ Below w.heap.size w w' := by
  have hc := appendSeq_any gf lb xs R w eg hseq hR hlen
  clear eg hseq
  go_enter Tryz.func169, Tryz.ntmps169
  go_wp2_with fail
  refine hc.mono ?_
  rintro e w1 ⟨v, rfl, ho, hb⟩
  obtain ⟨av, cv, rfl⟩ := owns_form ho
  clear hc
  go_wp2
  go_ret
  exact ⟨_, rfl, ho, hb⟩
end Go.Proofs.YtdfapehonegeeaaGreat

/-
  Is a number a version? (the program's)
-/
namespace Go.Proofs.YtdfapehonegeeaaGreat
open Go.RowKit
set_option linter.unusedSectionVars false
variable [DecidableEq Rw] [Inhabited Rw]
attribute [local go_sem ↓] Go.wp_at_zero Go.wp_at_succ

theorem isVersion_any (a : Int) (w : World) :
    Calls Tryz.prog 52 #[.int .i64 a] w fun e w' => e = .returned (.bool (inR a 1 1000000)) ∧ w' = w := by
  go_enter Tryz.func52, Tryz.ntmps52
  go_wp2_with (go_at_call 109; refine (withinR_any _ _ _ _).mono ?_; rintro e w' ⟨rfl, rfl⟩)
  go_ret
  exact ⟨rfl, rfl⟩
end Go.Proofs.YtdfapehonegeeaaGreat

/-
  UnpackWrites: the program's side.
-/
namespace Go.Proofs.YtdfapehonegeeaaGreat
open Go.RowKit
set_option linter.unusedSectionVars false
variable [DecidableEq Wri] [Inhabited Wri] [DecidableEq BytesR] [Inhabited BytesR] [DecidableEq Rw] [Inhabited Rw] [DecidableEq TabR] [Inhabited TabR]
set_option linter.unusedVariables false
set_option linter.unusedSimpArgs false
attribute [local go_sem ↓] Go.wp_at_zero Go.wp_at_succ

theorem fit_rows {v : Int} {ws : List Wri} (h : ∀ x ∈ ws, x.key.size ≤ 255 ∧ x.val.size ≤ 255) : Fit (ws.map (wrRow v)) := by
  intro i hi
  rw [List.length_map] at hi
  have e : (ws.map (wrRow v)).getD i default = wrRow v (ws[i]) := by simp [List.getD, hi]
  rw [e]
  have := h ws[i] (List.getElem_mem hi)
  unfold maxLen
  dsimp only [wrRow]
  omega
theorem fit_wri {ws : List Wri} (h : ∀ x ∈ ws, x.key.size ≤ 255 ∧ x.val.size ≤ 255) : FitWri ws := by
  rw [fitWri_mem]
  intro x hx
  have := h x hx
  unfold maxLen
  omega
set_option maxHeartbeats 4000000 in
theorem implUnw_u (x : Value) (d : List Byte) (w : World) (hx : bytesR.V w x d) :
    Calls Tryz.prog 151 #[x] w fun e w' => ∃ r F, e = .returned r ∧ tabRR.O w' w.heap.size F r (unwD d) ∧ Below w.heap.size w w' := by
  have HX : Hid (BytesV w x d) := hx
  obtain ⟨ax, cx, rfl, hcx, hmx, -⟩ := hx
  unfold maxLen at hmx
  by_cases hs : d.length < 8
  · have HD : Hid (unwD d = ⟨5, []⟩) := unwD_short hs
    have i1 : (d.length : Int) < 8 := by omega
    clear HX
    generalize d.length = n at *
    go_enter Tryz.func151, Tryz.ntmps151
    go_wp2
    refine bodyPost_ret (v := .agg #[.int .i64 5, .slice none 0 0]) (by simp [results, Tryz.results151, go_sem]) rfl ?_
    rw [HD.out]
    obtain ⟨F, hF⟩ := tabRR_nil (w.alloc (.cells #[.int .i64 5, .slice none 0 0] 61)) w.heap.size 5
    first | exact ⟨_, F, rfl, hF, by (repeat (first | exact Below.refl _ _ | assumption | refine Below.drew ?_ | refine balloc ?_ _ | refine bset ?_ (by simp; omega) _ | refine bset ?_ (by simp) _ | refine bstep ?_ (by assumption)))⟩ | exact ⟨_, rfl, ⟨F, hF⟩, by (repeat (first | exact Below.refl _ _ | assumption | refine Below.drew ?_ | refine balloc ?_ _ | refine bset ?_ (by simp; omega) _ | refine bset ?_ (by simp) _ | refine bstep ?_ (by assumption)))⟩
  by_cases hl : 500 < d.length
  · have HD : Hid (unwD d = ⟨5, []⟩) := unwD_long hl
    have i1 : ¬ (d.length : Int) < 8 := by omega
    have i2 : (500 : Int) < (d.length : Int) := by omega
    clear HX
    generalize d.length = n at *
    go_enter Tryz.func151, Tryz.ntmps151
    go_wp2
    refine bodyPost_ret (v := .agg #[.int .i64 5, .slice none 0 0]) (by simp [results, Tryz.results151, go_sem]) rfl ?_
    rw [HD.out]
    obtain ⟨F, hF⟩ := tabRR_nil (w.alloc (.cells #[.int .i64 5, .slice none 0 0] 61)) w.heap.size 5
    first | exact ⟨_, F, rfl, hF, by (repeat (first | exact Below.refl _ _ | assumption | refine Below.drew ?_ | refine balloc ?_ _ | refine bset ?_ (by simp; omega) _ | refine bset ?_ (by simp) _ | refine bstep ?_ (by assumption)))⟩ | exact ⟨_, rfl, ⟨F, hF⟩, by (repeat (first | exact Below.refl _ _ | assumption | refine Below.drew ?_ | refine balloc ?_ _ | refine bset ?_ (by simp; omega) _ | refine bset ?_ (by simp) _ | refine bstep ?_ (by assumption)))⟩
  have i1 : ¬ (d.length : Int) < 8 := by omega
  have i2 : ¬ (500 : Int) < (d.length : Int) := by omega
  obtain ⟨a2, c2, run2, V2⟩ := cutH (a := ax) (n := d.length) (cap := cx) 8 (by omega) (by omega) hcx
  obtain ⟨a3, c3, run3, V3⟩ := cutL (a := ax) (n := d.length) (cap := cx) 8 (by omega) (by omega) hcx
  have HV2 : Hid (∀ W, Below w.heap.size w W → BytesV W (.slice a2 8 c2) (d.take 8)) := fun W hW => V2 W d rfl (BytesV_below HX.out hW)
  have HV3 : Hid (∀ W, Below w.heap.size w W → BytesV W (.slice a3 (d.length - 8) c3) (d.drop 8)) := fun W hW => V3 W d rfl (BytesV_below HX.out hW)
  have run2' : ∀ w : World, (Instr.sliceAt 22 (.slice ax d.length cx) none (some (.int .i64 8)) none).run Tryz.prog w = .ok (.slice a2 8 c2) w := run2
  have run3' : ∀ w : World, (Instr.sliceAt 22 (.slice ax d.length cx) (some (.int .i64 8)) none none).run Tryz.prog w = .ok (.slice a3 (d.length - 8) c3) w := run3
  have HDL : Hid ((d.drop 8).length ≤ 1048576) := by rw [Hid, List.length_drop]; omega
  have H8 : Hid (8 ≤ d.length) := by rw [Hid]; omega
  have HVV : Hid (IntKind.i64.wrap (hiN (d.take 8)) = unwV d) := rfl
  clear run2 run3 V2 V3 hs hl HX
  have HN8 : Hid ((8 : Nat) ≤ d.length → True) := fun _ => trivial
  obtain ⟨n, hn⟩ : ∃ n, d.length = n := ⟨_, rfl⟩
  rw [hn] at run2' run3' HV3 i1 i2 hcx ⊢
  clear hn HN8
  generalize n - 8 = n8 at *
  go_enter Tryz.func151, Tryz.ntmps151
  go_wp2_with fail
  refine (numberIn_any _ (d.take 8) _ (HV2.out _ (by (repeat (first | exact Below.refl _ _ | assumption | refine Below.drew ?_ | refine balloc ?_ _ | refine bset ?_ (by simp; omega) _ | refine bset ?_ (by simp) _ | refine bstep ?_ (by assumption)))))).mono ?_
  rintro e W1 ⟨rfl, rfl⟩
  rw [HVV.out]
  go_wp2_with fail
  refine (writesIn_any _ (d.drop 8) _ (HV3.out _ (by (repeat (first | exact Below.refl _ _ | assumption | refine Below.drew ?_ | refine balloc ?_ _ | refine bset ?_ (by simp; omega) _ | refine bset ?_ (by simp) _ | refine bstep ?_ (by assumption))))) HDL.out).mono ?_
  rintro e W2 ⟨hw, hb2⟩
  have hB2 : Below w.heap.size w W2 := by (repeat (first | exact Below.refl _ _ | assumption | refine Below.drew ?_ | refine balloc ?_ _ | refine bset ?_ (by simp; omega) _ | refine bset ?_ (by simp) _ | refine bstep ?_ (by assumption)))
  have hr0 : W2.cell? ⟨w.heap.size, 0, none⟩ = some (.int .i64 0) := cell_keep hb2 (by simp [go_sem])
  have hr1 : W2.cell? ⟨w.heap.size, 1, none⟩ = some (.slice none 0 0) := cell_keep hb2 (by simp [go_sem])
  obtain ⟨hrf, hlt⟩ : (∀ o, W2.frozen? ⟨w.heap.size, o, none⟩ = false) ∧ w.heap.size < W2.heap.size := (boxNew2 hb2 (by simp)).2.2
  cases hW : writesL (d.drop 8) with
  | none =>
    rw [wsP_none hW] at hw
    obtain rfl := hw
    have HD : Hid (unwD d = ⟨5, []⟩) := unwD_none H8.out hW
    clear hb2 hW
    go_wp2
    refine bodyPost_ret (v := .agg #[.int .i64 5, .slice none 0 0]) (by simp [results, Tryz.results151, go_sem, hr0, hr1]) rfl ?_
    rw [HD.out]
    obtain ⟨F, hF⟩ := tabRR_nil ((W2.setCell ⟨w.heap.size, 0, none⟩ (.int .i64 5)).setCell ⟨w.heap.size, 1, none⟩ (.slice none 0 0)) w.heap.size 5
    first | exact ⟨_, F, rfl, hF, by (repeat (first | exact Below.refl _ _ | assumption | refine Below.drew ?_ | refine balloc ?_ _ | refine bset ?_ (by simp; omega) _ | refine bset ?_ (by simp) _ | refine bstep ?_ (by assumption)))⟩ | exact ⟨_, rfl, ⟨F, hF⟩, by (repeat (first | exact Below.refl _ _ | assumption | refine Below.drew ?_ | refine balloc ?_ _ | refine bset ?_ (by simp; omega) _ | refine bset ?_ (by simp) _ | refine bstep ?_ (by assumption)))⟩
  | some ws =>
    rw [wsP_some hW] at hw
    obtain ⟨v, rfl, ho⟩ := hw
    obtain ⟨av, cv, rfl⟩ := owns_form ho
    obtain ⟨hsum, hsz⟩ := writesL_len _ _ (Nat.lt_succ_self _) ws hW
    have HV : Hid (wrisR.V W2 (.slice av ws.length cv) ws) := ⟨WrisV_of_owns ho, fit_wri hsz⟩
    have HG : Hid ((inR (unwV d) 1 1000000 = true ∧ wrF ws = 0) → unwD d = ⟨0, ws.map (wrRow (unwV d))⟩) := unwD_good H8.out hW
    have HBD : Hid (¬ (inR (unwV d) 1 1000000 = true ∧ wrF ws = 0) → unwD d = ⟨5, []⟩) := unwD_bad H8.out hW
    have HSZ : Hid (∀ x ∈ ws, x.key.size ≤ 255 ∧ x.val.size ≤ 255) := hsz
    clear hb2 hW ho hsum hsz HV2 HV3 HDL
    generalize unwV d = ver at *
    cases hin : inR ver 1 1000000
    · have HD : Hid (unwD d = ⟨5, []⟩) := HBD.out (by rw [hin]; simp)
      go_wp2_with (go_at_call 52; refine (isVersion_any _ _).mono ?_; rintro e w' ⟨rfl, hEq⟩; obtain rfl := hEq.symm; rw [hin])
      refine bodyPost_ret (v := .agg #[.int .i64 5, .slice none 0 0]) (by simp [results, Tryz.results151, go_sem, hr0, hr1]) rfl ?_
      rw [HD.out]
      obtain ⟨F, hF⟩ := tabRR_nil ((W2.setCell ⟨w.heap.size, 0, none⟩ (.int .i64 5)).setCell ⟨w.heap.size, 1, none⟩ (.slice none 0 0)) w.heap.size 5
      first | exact ⟨_, F, rfl, hF, by (repeat (first | exact Below.refl _ _ | assumption | refine Below.drew ?_ | refine balloc ?_ _ | refine bset ?_ (by simp; omega) _ | refine bset ?_ (by simp) _ | refine bstep ?_ (by assumption)))⟩ | exact ⟨_, rfl, ⟨F, hF⟩, by (repeat (first | exact Below.refl _ _ | assumption | refine Below.drew ?_ | refine balloc ?_ _ | refine bset ?_ (by simp; omega) _ | refine bset ?_ (by simp) _ | refine bstep ?_ (by assumption)))⟩
    · go_wp2_with (first | (go_at_call 52; refine (isVersion_any _ _).mono ?_; rintro e w' ⟨rfl, hEq⟩; obtain rfl := hEq.symm; rw [hin]) | fail)
      refine (implWf_any _ ws _ HV.out).mono ?_
      rintro e W3 ⟨rfl, hb3⟩
      have hB3 := bstep hB2 hb3
      replace hr0 := cell_keep hb3 hr0
      replace hr1 := cell_keep hb3 hr1
      obtain ⟨hrf3, hlt3⟩ := boxKeep ⟨hrf, hlt⟩ hb3
      have HV3 : Hid (wrisR.V W3 (.slice av ws.length cv) ws) := wrisR.below HV.out hb3
      clear hrf hlt hb3 HV hB2
      by_cases hf : wrF ws = 0
      · have HD : Hid (unwD d = ⟨0, ws.map (wrRow ver)⟩) := HG.out ⟨hin, hf⟩
        have hl8 := (wrF_inv hf).2.1
        rw [hf]
        clear hf HG HBD hin
        go_wp2_with fail
        refine (rowsAt_any ver _ _ _ _).mono ?_
        rintro e W4 ⟨rfl, hW4⟩
        have hb4 : Below W3.heap.size W3 W4 := by rw [hW4]; (repeat (first | exact Below.refl _ _ | assumption | refine Below.drew ?_ | refine balloc ?_ _ | refine bset ?_ (by simp; omega) _ | refine bset ?_ (by simp) _ | refine bstep ?_ (by assumption)))
        have d1 : W4.cell? ⟨W3.heap.size + 1, 0, none⟩ = some (.slice av ws.length cv) := by rw [hW4]; simp [go_sem]
        have d2 : W4.cell? ⟨W3.heap.size, 0, none⟩ = some (.int .i64 ver) := by rw [hW4]; simp [go_sem]
        have s4 : W4.heap.size = W3.heap.size + 2 := by rw [hW4]; simp
        clear hW4
        have hT := WriAt.of (R := fun b => b < W4.heap.size) (wrisR.below HV3.out hb4).1 (fun b hb => hb)
        have hseq := rowsAt_seq (W3.heap.size + 1) W3.heap.size _ ws ver (fun b => b < W4.heap.size) W4 d1 d2 (by omega) (by omega) hT (by omega)
        have hcol := collect_any 130 _ _ _ W4 (enters_of Tryz.func130 (by kernel_rfl) rfl) hseq (fun b hb => hb) (by rw [List.length_map]; omega)
        have hB4 := bstep hB3 hb4
        replace hr0 := cell_keep hb4 hr0
        replace hr1 := cell_keep hb4 hr1
        obtain ⟨hrf4, hlt4⟩ := boxKeep ⟨hrf3, hlt3⟩ hb4
        clear hseq hT d1 d2 s4 hb4 hrf3 hB3
        go_wp2_with fail
        refine hcol.mono ?_
        rintro e W5 ⟨r, rfl, o5, hb5⟩
        obtain ⟨ar, cr, rfl⟩ := owns_form o5
        have hB5 := bstep hB4 hb5
        replace hr0 := cell_keep hb5 hr0
        replace hr1 := cell_keep hb5 hr1
        obtain ⟨hrf5, hlt5⟩ := boxKeep ⟨hrf4, hlt4⟩ hb5
        have o6 := owns_base (base' := w.heap.size + 1) o5 (by omega)
        have HFit : Hid (Fit (ws.map (wrRow ver))) := fit_rows HSZ.out
        clear o5 hcol hb5 hrf4 hB4
        obtain ⟨D, hD⟩ : ∃ D, ws.map (wrRow ver) = D := ⟨_, rfl⟩
        rw [hD] at o6 HD HFit
        rw [hD]
        clear hD
        go_wp2
        refine bodyPost_ret (v := .agg #[.int .i64 0, .slice ar D.length cr]) ?_ rfl ?_
        · simp [results, Tryz.results151, go_sem, hr0, hr1]
        · rw [HD.out]
          obtain ⟨F, hF⟩ := tabRR_of (c := 0) (owns_base (owns_setCell (a := ⟨w.heap.size, 1, none⟩) (owns_setCell (a := ⟨w.heap.size, 0, none⟩) o6 (Nat.lt_succ_self _) (.int .i64 0)) (Nat.lt_succ_self _) (.slice ar D.length cr)) (Nat.le_succ _)) HFit.out
          first | exact ⟨_, F, rfl, hF, by (repeat (first | exact Below.refl _ _ | assumption | refine Below.drew ?_ | refine balloc ?_ _ | refine bset ?_ (by simp; omega) _ | refine bset ?_ (by simp) _ | refine bstep ?_ (by assumption)))⟩ | exact ⟨_, rfl, ⟨F, hF⟩, by (repeat (first | exact Below.refl _ _ | assumption | refine Below.drew ?_ | refine balloc ?_ _ | refine bset ?_ (by simp; omega) _ | refine bset ?_ (by simp) _ | refine bstep ?_ (by assumption)))⟩
      · have HD : Hid (unwD d = ⟨5, []⟩) := HBD.out (fun h => hf h.2)
        have hc : (wrF ws == 0) = false := by simpa using hf
        clear HG HBD
        generalize wrF ws = c at *
        go_wp2
        refine bodyPost_ret (v := .agg #[.int .i64 5, .slice none 0 0]) (by simp [results, Tryz.results151, go_sem, hr0, hr1]) rfl ?_
        rw [HD.out]
        obtain ⟨F, hF⟩ := tabRR_nil ((W3.setCell ⟨w.heap.size, 0, none⟩ (.int .i64 5)).setCell ⟨w.heap.size, 1, none⟩ (.slice none 0 0)) w.heap.size 5
        first | exact ⟨_, F, rfl, hF, by (repeat (first | exact Below.refl _ _ | assumption | refine Below.drew ?_ | refine balloc ?_ _ | refine bset ?_ (by simp; omega) _ | refine bset ?_ (by simp) _ | refine bstep ?_ (by assumption)))⟩ | exact ⟨_, rfl, ⟨F, hF⟩, by (repeat (first | exact Below.refl _ _ | assumption | refine Below.drew ?_ | refine balloc ?_ _ | refine bset ?_ (by simp; omega) _ | refine bset ?_ (by simp) _ | refine bstep ?_ (by assumption)))⟩
end Go.Proofs.YtdfapehonegeeaaGreat

/-
  The fault of writes: the specification's side.
-/
namespace Go.Proofs.YtdfapehonegeeaaGreat
open Go.RowKit
set_option linter.unusedSectionVars false
variable [DecidableEq Wri] [Inhabited Wri] [DecidableEq BytesR] [Inhabited BytesR] [DecidableEq Rw] [Inhabited Rw]
set_option linter.unusedVariables false
set_option linter.unusedSimpArgs false
attribute [local go_sem ↓] Go.wp_at_zero Go.wp_at_succ

theorem bdrW {B : Nat} {w Y : World} (h : Below B w Y) (n : Nat) : Below B w (Y.drewN n) := h.trans ⟨rfl, rfl, rfl, Nat.le_refl _, fun _ _ => rfl⟩
set_option maxHeartbeats 4000000 in
theorem specWf_any (x : Value) (ws : List Wri) (w : World) (hx : wrisR.V w x ws) :
    Calls Tryz.prog 62 #[x] w fun e w' => e = .returned (.int .i64 (wrF ws)) ∧ Below w.heap.size w w' := by
  have HX : Hid (wrisR.V w x ws) := hx
  obtain ⟨hx, -⟩ := hx
  obtain ⟨ax, cx, rfl, hcx, hmx, hx⟩ := hx
  unfold maxLen at hmx
  by_cases hn : ws.length < 1 ∨ 8 < ws.length
  · rw [wrF_many hn]
    clear hx HX
    generalize ws.length = n at *
    rcases hn with hn | hn
    · have h1 : (n : Int) < 1 := by omega
      go_enter Tryz.func62, Tryz.ntmps62
      go_wp2
      go_ret
      exact ⟨rfl, Below.refl _ _⟩
    · have h1 : ¬ (n : Int) < 1 := by omega
      have h2 : (8 : Int) < n := by omega
      go_enter Tryz.func62, Tryz.ntmps62
      go_wp2
      go_ret
      exact ⟨rfl, Below.refl _ _⟩
  have HC : Hid (∀ k, k < ws.length → (∀ j, j < k → wrAt ws j = 0) → wrAt ws k ≠ 0 → wrF ws = wrAt ws k) := fun k hk h hc => wrF_at hn hk h hc
  have HZ : Hid ((∀ j, j < ws.length → wrAt ws j = 0) → wrF ws = if 500 < (packB 1 ws).length then 2 else 0) := wrF_end hn
  have HPK : Hid (∀ W, Below w.heap.size w W → Calls Tryz.prog 65 #[.int .i64 1, .slice ax ws.length cx] W fun e w' => ∃ r F, e = .returned r ∧ bytesR.O w' W.heap.size F r (packB 1 ws) ∧ Below W.heap.size W w') := fun W hb => l6Pack_any 1 _ ws W (wrisR.below HX.out hb) (by omega)
  have HB : Hid ((packB 1 ws).length ≤ 3300) := by
    have := packB_len 1 ws
    rw [Hid]
    omega
  clear HX
  generalize ws.length = n at *
  have h1 : ¬ (n : Int) < 1 := by omega
  have h2 : ¬ (8 : Int) < n := by omega
  have hn8 : n ≤ 8 := by omega
  clear hn
  go_enter Tryz.func62, Tryz.ntmps62
  go_wp2
  go_loopw [3] (fun i w' => ∃ k : Nat, k ≤ n ∧ i = .int .i64 k ∧ Hid (∀ j, j < k → wrAt ws j = 0) ∧ Below w.heap.size w w') (fun i _ => n - (intOf i).toNat)
  case atStart => exact ⟨0, Nat.zero_le _, rfl, fun j h => absurd h (Nat.not_lt_zero _), Below.refl _ _⟩
  case round =>
    obtain ⟨k, hk, rfl, HP, hbl⟩ := hrel
    by_cases hlt : k < n
    · have HXX : Hid (∀ i, i < n → ∃ b o, ax = some ⟨b, o, none⟩ ∧ wriCells w b (o + i * 3) (ws.getD i default)) := hx
      obtain ⟨bx, ox, rfl, g1⟩ := hx k hlt
      have HC2 : Hid (wrAt ws k ≠ 0 → wrF ws = wrAt ws k) := fun hc => HC.out k hlt HP.out hc
      have HK : Hid (wrAt ws k = if rowFault (wrRow 1 (ws.getD k default)) ≠ 0 then rowFault (wrRow 1 (ws.getD k default)) else if hasK ws k (ws.getD k default).key = true then 7 else 0) := rfl
      obtain ⟨l, hl⟩ : ∃ l, l = ws.getD k default := ⟨_, rfl⟩
      rw [← hl] at g1 HK
      clear hl hx HC
      obtain ⟨a1, a2, a3⟩ := wriCells_below hbl g1
      have hti : (k : Int) < (n : Int) := by omega
      clear g1
      go_wp2_with fail
      refine (specRowFault_any (wrRow 1 l) _).mono ?_
      rintro e wa ⟨rfl, hba⟩
      have q0 : wa.cell? ⟨wr.heap.size, 0, none⟩ = some (.string l.key) := cell_keep hba (by simp [go_sem])
      have hB : Below w.heap.size w wa := by (repeat (first | exact Below.refl _ _ | assumption | refine Below.drew ?_ | refine balloc ?_ _ | refine bset ?_ (by simp; omega) _ | refine bset ?_ (by simp) _ | refine bstep ?_ (by assumption)))
      have hzb := World.block_lt_of_cell? _ _ q0
      dsimp only at hzb
      clear hba a1 a2 a3 hbl
      generalize wr.heap.size = N at *
      by_cases hf : rowFault (wrRow 1 l) = 0
      · rw [hf]
        have HK2 : Hid (wrAt ws k = if hasK ws k l.key = true then 7 else 0) := by
          rw [Hid, HK.out, if_neg (by simp [hf])]
        clear hf HK
        go_wp2
        go_loopw [6] (fun i W => ∃ m : Nat, m ≤ k ∧ i = .int .i64 m ∧ Hid (∀ j, j < m → (ws.getD j default).key ≠ l.key) ∧ Below wa.heap.size wa W) (fun i _ => k - (intOf i).toNat)
        case atStart => exact ⟨0, Nat.zero_le _, rfl, fun j h => absurd h (Nat.not_lt_zero _), Below.refl _ _⟩
        case round =>
          obtain ⟨m, hm, rfl, HM, hb2⟩ := hrel
          have hB2 : Below w.heap.size w wr := bstep hB hb2
          have q1 := cell_keep hb2 q0
          by_cases hmk : m < k
          · obtain ⟨b2, o2, e2, g2⟩ := HXX.out m (by omega)
            simp only [Option.some.injEq, Addr.mk.injEq, and_true] at e2
            obtain ⟨rfl, rfl⟩ := e2
            obtain ⟨c1, c2, c3⟩ := wriCells_below hB2 g2
            obtain ⟨l2, hl2⟩ : ∃ l2, l2 = ws.getD m default := ⟨_, rfl⟩
            rw [← hl2] at c1
            have HL2 : Hid (l2 = ws.getD m default) := hl2
            clear hl2 g2 c2 c3
            have i1 : (m : Int) < (k : Int) := by omega
            have i2 : (0 : Int) ≤ (m : Int) := by omega
            have i3 : (m : Int) < (n : Int) := by omega
            by_cases hq : l2.key = l.key
            · have HQ : Hid (wrF ws = 7) := by
                have hh : wrAt ws k = 7 := by rw [HK2.out, if_pos (hasK_of hmk (by rw [← HL2.out]; exact hq))]
                rw [Hid, HC2.out (by rw [hh]; decide), hh]
              have h3 : (l2.key.toList == l.key.toList) = true := by rw [hq]; simp
              clear hq
              go_wp2
              go_quiet (fail)
              go_wp2
              go_ret
              exact ⟨by rw [HQ.out]; rfl, bdrW hB2 _⟩
            · have h3 : (l2.key.toList == l.key.toList) = false := by rw [beq_eq_false_iff_ne, Ne, tl_inj]; exact hq
              have HQ : Hid (∀ j, j < m + 1 → (ws.getD j default).key ≠ l.key) := fun j hj => by
                by_cases e : j = m
                · rw [e, ← HL2.out]; exact hq
                · exact HM.out j (by omega)
              clear hq
              go_wp2
              go_quiet (fail)
              go_wp2
              exact ⟨⟨m + 1, by omega, by go_num, HQ, bdrW hb2 _⟩, by simp [intOf]; omega⟩
          · obtain rfl : m = k := by omega
            have i1 : ¬ (m : Int) < (m : Int) := by omega
            have HQ : Hid (∀ j, j < m + 1 → wrAt ws j = 0) := fun j hj => by
              by_cases e : j = m
              · rw [e, HK2.out, if_neg (by rw [hasK_none HM.out]; decide)]
              · exact HP.out j (by omega)
            go_wp2
            exact ⟨⟨m + 1, by omega, by go_num, HQ, hB2⟩, by simp [intOf]; omega⟩
      · have HQ : Hid (wrF ws = rowFault (wrRow 1 l)) := by
          have hh : wrAt ws k = rowFault (wrRow 1 l) := by rw [HK.out, if_pos hf]
          rw [Hid, HC2.out (by rw [hh]; exact hf), hh]
        clear HK HC2
        generalize rowFault (wrRow 1 l) = c at *
        have hf2 : (c == 0) = false := by simpa using hf
        go_wp2
        go_ret
        exact ⟨by rw [HQ.out]; rfl, hB⟩
    · obtain rfl : k = n := by omega
      have hti : ¬ (k : Int) < (k : Int) := by omega
      have HE := HZ.out HP.out
      have HEE : Hid (wrF ws = if 500 < (packB 1 ws).length then 2 else 0) := HE
      clear HE HZ HC hx
      go_wp2_with fail
      refine (HPK.out _ hbl).mono ?_
      rintro e w1 ⟨r, F, rfl, o1, hb1⟩
      obtain ⟨p, q, rfl⟩ := bytes_form (bytesR.ofO o1)
      have hB := bstep hbl hb1
      have hbb := HB.out
      clear o1 hb1 HPK HB
      generalize (packB 1 ws).length = L at *
      by_cases h5 : 500 < L
      · have h6 : (500 : Int) < (L : Int) := by omega
        go_wp2
        go_ret
        exact ⟨by rw [HEE.out, if_pos h5]; rfl, hB⟩
      · have h6 : ¬ (500 : Int) < (L : Int) := by omega
        go_wp2
        go_ret
        exact ⟨by rw [HEE.out, if_neg h5]; rfl, hB⟩
end Go.Proofs.YtdfapehonegeeaaGreat


/-
  The program's KeysOf.
-/
import Derived.Test.YtaahmmadcdfcpaaKeyS
import Derived.Maps.OwnIn
import Derived.Maps.AppendAt
namespace Go.Proofs.Ytaahmmadcdfcpaa
open Go.RowKit Go.Shelf
set_option linter.unusedSectionVars false
variable [DecidableEq Rw] [Inhabited Rw] [DecidableEq KeysR] [Inhabited KeysR] [DecidableEq TabR] [Inhabited TabR]
set_option linter.unusedVariables false
set_option linter.unusedSimpArgs false
attribute [local go_sem] Oper.semAt_some
attribute [local go_sem] run_store_func

/-- a list that is gathered: the answer's box N (two cells), the list's box T, its memory from L0 on -/
def AccC (e size : Nat) (C : List Value) (k : Nat) (N T L0 : Nat) (w W : World) (Y : Nat → Prop) (v : Value) : Prop :=
  W.cell? ⟨T, 0, none⟩ = some v ∧ W.ownsRow L0 e size v k C ∧ (∀ b, v.ownBlock = some b → ¬ Y b) ∧ (∀ b, b ≤ T → ¬ Y b) ∧ L0 ≤ W.heap.size ∧
    W.cell? ⟨N, 0, none⟩ = some (.int .i64 0) ∧ W.cell? ⟨N, 1, none⟩ = some (.slice none 0 0) ∧ (∀ o, W.frozen? ⟨N, o, none⟩ = false) ∧ W.frozen? ⟨T, 0, none⟩ = false ∧ Below N w W

theorem AccC_mod {e size : Nat} {C : List Value} {k N T L0 : Nat} {w W W' : World} {Y Y' F : Nat → Prop} {v : Value} (hNT : N < T) (hTL : T < L0) (h : AccC e size C k N T L0 w W Y v) (hm : Mod F W W') (hF : ∀ b, b ≤ T → ¬ F b) (hFv : ∀ b, v.ownBlock = some b → ¬ F b)
    (hY : ∀ b, b ≤ T → ¬ Y' b) (hYv : ∀ b, v.ownBlock = some b → ¬ Y' b) : AccC e size C k N T L0 w W' Y' v := by
  obtain ⟨h1, h2, h3, h4, h5, h6, h7, h8, h9, h10⟩ := h
  have hs := hm.size
  refine ⟨hm.cell h1 (hF _ (Nat.le_refl _)), hm.owns h2 hFv, hYv, hY, by omega, hm.cell h6 (hF _ (by dsimp only; omega)), hm.cell h7 (hF _ (by dsimp only; omega)), fun o => (hm.frozen (a := ⟨N, o, none⟩) (by dsimp only; omega) (hF _ (by dsimp only; omega))).trans (h8 o),
    (hm.frozen (a := ⟨T, 0, none⟩) (by dsimp only; omega) (hF _ (by dsimp only; omega))).trans h9, ?_⟩
  exact ⟨hm.os.trans h10.os, hm.tape.trans h10.tape, hm.output.trans h10.output, Nat.le_trans h10.size hs, fun b hb => (hm.block b (by omega) (hF b (by omega))).trans (h10.block b hb)⟩

def AccI (e size : Nat) (f : List Rw → List Value) (g : List Rw → Nat) (N T L0 : Nat) (w : World) (pre : List Rw) (W : World) (Y : Nat → Prop) : Prop := ∃ v, AccC e size (f pre) (g pre) N T L0 w W Y v
theorem AccI_stb {e size : Nat} {f : List Rw → List Value} {g : List Rw → Nat} {N T L0 : Nat} {w : World} (hNT : N < T) (hTL : T < L0) : Stb (AccI e size f g N T L0 w) := by
  rintro pre W W' Y Y' ⟨v, h⟩ hm hYY hYn
  have h' := h
  obtain ⟨h1, h2, h3, h4, h5, h6, h7, h8, h9, h10⟩ := h'
  refine ⟨v, AccC_mod hNT hTL h hm h4 h3 (fun b hb h2 => ?_) (fun b hb hy => ?_)⟩
  · rcases (hYn b h2).1 with h3 | h3
    · exact h4 b hb h3
    · omega
  · rcases (hYn b hy).1 with h | h
    · exact h3 b hb h
    · have := (h2.lt b hb).2
      omega
/-- one more is appended .. -/
theorem AccC_mid {e size : Nat} {C : List Value} {k N T L0 : Nat} {w W w5 : World} {Y : Nat → Prop} {v : Value} {o : Obj} (hTL : T < L0) (h : AccC e size C k N T L0 w W Y v) (hg : (W.alloc o).grownBy w5 v.ownBlock) :
    w5.cell? ⟨T, 0, none⟩ = some v ∧ w5.frozen? ⟨T, 0, none⟩ = false ∧ Mod (fun b => v.ownBlock = some b) W w5 := by
  obtain ⟨h1, h2, h3, h4, h5, h6, h7, h8, h9, h10⟩ := h
  have hm : Mod (fun b => v.ownBlock = some b) W w5 := (mod_alloc _ W o).trans (Mod.of_grown hg)
  have hn : ¬ v.ownBlock = some T := fun e => by have := (h2.lt T e).1; omega
  exact ⟨hm.cell h1 hn, (hm.frozen (a := ⟨T, 0, none⟩) (by dsimp only; omega) hn).trans h9, hm⟩
/-- .. and stored -/
theorem AccC_app {e size : Nat} {C news : List Value} {k m N T L0 : Nat} {w W w5 : World} {Y : Nat → Prop} {v v' : Value} {o : Obj} (hNT : N < T) (hTL : T < L0) (h : AccC e size C k N T L0 w W Y v) (hg : (W.alloc o).grownBy w5 v.ownBlock)
    (ho : w5.ownsRow L0 e size v' (k + m) (C ++ news)) (hv : v'.ownBlock = v.ownBlock ∨ v'.ownBlock = some (W.alloc o).heap.size) (hYa : ∀ b, Y b → b < W.heap.size) :
    AccC e size (C ++ news) (k + m) N T L0 w (w5.setCell ⟨T, 0, none⟩ v') Y v' ∧ Mod (fun b => b = T ∨ v.ownBlock = some b) W (w5.setCell ⟨T, 0, none⟩ v') := by
  obtain ⟨c1, c2, hm⟩ := AccC_mid hTL h hg
  obtain ⟨h1, h2, h3, h4, h5, h6, h7, h8, h9, h10⟩ := h
  have hset : Mod (fun b => b = T) w5 (w5.setCell ⟨T, 0, none⟩ v') := Mod.of_set w5 ⟨T, 0, none⟩ v'
  have hM : Mod (fun b => b = T ∨ v.ownBlock = some b) W (w5.setCell ⟨T, 0, none⟩ v') := (hm.mono (fun b h => .inr h)).trans (hset.mono (fun b h => .inl h))
  have hlow : ∀ b, b < T → ¬ (b = T ∨ v.ownBlock = some b) := by
    rintro b hb (h | h)
    · omega
    · have := (h2.lt b h).1
      omega
  have hs := hM.size
  refine ⟨⟨set_same c1, owns_setCell ho (by dsimp only; exact hTL) _, fun b hb hy => ?_, h4, by omega, hM.cell h6 (hlow _ hNT), hM.cell h7 (hlow _ hNT), fun i => (hM.frozen (a := ⟨N, i, none⟩) (by dsimp only; omega) (hlow _ hNT)).trans (h8 i), by rw [World.frozen?_setCell]; exact c2,
    ⟨hM.os.trans h10.os, hM.tape.trans h10.tape, hM.output.trans h10.output, Nat.le_trans h10.size hs, fun b hb => (hM.block b (by omega) (hlow b (by omega))).trans (h10.block b hb)⟩⟩, hM⟩
  rcases hv with hv | hv
  · rw [hv] at hb
    exact h3 b hb hy
  · rw [hv] at hb
    cases hb
    have := hYa _ hy
    simp at this
    omega
/-- what the answer is made of -/
theorem AccC_end {e size : Nat} {C : List Value} {k N T L0 D : Nat} {w W : World} {Y : Nat → Prop} {v : Value} (hNT : N < T) (hTL : T < L0) (hD : L0 ≤ D) (h : AccC e size C k N T L0 w W Y v) (hYD : Y D) (hdef : W.heap[D]? = some (.deferred (some []))) :
    let W' := (W.setCell ⟨N, 0, none⟩ (.int .i64 0)).setCell ⟨N, 1, none⟩ v
    W'.heap[D]? = some (.deferred (some [])) ∧ (W'.putObj D (.deferred none)).cell? ⟨N, 0, none⟩ = some (.int .i64 0) ∧ (W'.putObj D (.deferred none)).cell? ⟨N, 1, none⟩ = some v ∧
      (W'.putObj D (.deferred none)).ownsRow N e size v k C ∧ Below N w (W'.putObj D (.deferred none)) := by
  intro W'
  obtain ⟨h1, h2, h3, h4, h5, h6, h7, h8, h9, h10⟩ := h
  have m1 : Mod (fun b => b = N) W (W.setCell ⟨N, 0, none⟩ (.int .i64 0)) := Mod.of_set W ⟨N, 0, none⟩ (.int .i64 0)
  have m2 : Mod (fun b => b = N) (W.setCell ⟨N, 0, none⟩ (.int .i64 0)) W' := Mod.of_set _ ⟨N, 1, none⟩ v
  have m := m1.trans m2
  have hs := m.size
  have mp : Mod (fun b => b = D) W' (W'.putObj D (.deferred none)) := mod_put _ _ _
  have a1 : (W.setCell ⟨N, 0, none⟩ (.int .i64 0)).cell? ⟨N, 1, none⟩ = some (.slice none 0 0) := (set_other (by simp)).trans h7
  have a0 : (W.setCell ⟨N, 0, none⟩ (.int .i64 0)).cell? ⟨N, 0, none⟩ = some (.int .i64 0) := set_same h6
  have b0 : W'.cell? ⟨N, 0, none⟩ = some (.int .i64 0) := (set_other (by simp)).trans a0
  have b1 : W'.cell? ⟨N, 1, none⟩ = some v := set_same a1
  have hDl := (Array.getElem?_eq_some_iff.1 hdef).1
  have ow : W'.ownsRow L0 e size v k C := m.owns h2 (fun b hb e => by have := (h2.lt b hb).1; omega)
  refine ⟨(m.block D hDl (by omega)).trans hdef, mp.cell b0 (by dsimp only; omega), mp.cell b1 (by dsimp only; omega), owns_base (mp.owns ow (fun b hb e => h3 b hb (by rw [e]; exact hYD))) (by omega), ?_⟩
  have mm := (m.mono (G := fun b => b = N ∨ b = D) (fun b h => .inl h)).trans (mp.mono (fun b h => .inr h))
  exact ⟨mm.os.trans h10.os, mm.tape.trans h10.tape, mm.output.trans h10.output, Nat.le_trans h10.size mm.size, fun b hb => (mm.block b (by omega) (by omega)).trans (h10.block b hb)⟩
/-- nothing leaves the loop -/
def NoX (c : Code) (pre : List Rw) (W : World) (Y : Nat → Prop) : Prop := False
theorem NoX_stb (c : Code) : Stb (NoX c) := fun _ _ _ _ _ h _ _ _ => h

set_option maxRecDepth 100000 in
set_option maxHeartbeats 4000000 in
theorem implKeysOf_u (x : Value) (xs : List Rw) (w : World) (hx : rowsR.V w x xs) :
    Calls Try.prog 10 #[x] w fun e w' => ∃ v F, e = .returned v ∧ keysRR.O w' w.heap.size F v (keysD xs) ∧ Below w.heap.size w w' := by
  have hX := hx.1
  obtain ⟨ax, cx, rfl⟩ := rows_form hx
  have HX : Hid (RowsV w (.slice ax xs.length cx) xs) := hX
  generalize hN : xs.length = n at *
  have HN : Hid (xs.length = n) := hN
  clear hN hx
  obtain ⟨i0, hi, hz0, hz1, hz2⟩ := info_parts infoStr
  refine (callsIn_wide (n := 0)).1 ?_
  refine callsIn_of_wp_marks Try.func10 rfl trivial ?_ rfl
  simp only [Try.ntmps10, List.size_toArray, List.length_cons, List.length_nil, Nat.reduceAdd, Nat.reduceSub, Array.replicate_succ, Array.replicate_zero, List.push_toArray, List.append_toArray, List.nil_append, List.cons_append]
  gi_wp2
  refine ⟨trivial, rfl, (callsIn_wide.2 (implTableFault_any _ xs _ (RowsV_below hX (by (repeat (first | exact Below.refl _ _ | assumption | refine Below.drew ?_ | refine balloc ?_ _ | refine bset ?_ (by simp; omega) _ | refine bset ?_ (by simp) _ | refine bstep ?_ (by assumption))))))).mono ?_⟩
  rintro e w1 ⟨rfl, hb1⟩
  obtain ⟨g1, g2, gf, gz⟩ := boxNew2 hb1 rfl
  have hB1 : Below w.heap.size w w1 := by (repeat (first | exact Below.refl _ _ | assumption | refine Below.drew ?_ | refine balloc ?_ _ | refine bset ?_ (by simp; omega) _ | refine bset ?_ (by simp) _ | refine bstep ?_ (by assumption)))
  clear hb1
  by_cases h0 : tabF xs = 0
  rotate_left
  · have E : Hid (keysD xs = ⟨tabF xs, []⟩) := by rw [Hid]; unfold keysD; rw [if_neg h0]
    have h0' : ((tabF xs : Int) == 0) = false := by rw [beq_eq_false_iff_ne]; exact h0
    generalize tabF xs = c at h0 h0' E ⊢
    gi_wp2
    refine ⟨.agg #[.int .i64 c, .slice none 0 0], by simp [results, Try.results10, go_sem, g1, g2, gf], ?_⟩
    obtain ⟨F, hF⟩ := keysRR_nil ((w1.setCell ⟨w.heap.size, 0, none⟩ (.int .i64 c)).setCell ⟨w.heap.size, 1, none⟩ (.slice none 0 0)) w.heap.size c
    exact ⟨_, F, rfl, by rw [E.out]; exact hF, by (repeat (first | exact Below.refl _ _ | assumption | refine Below.drew ?_ | refine balloc ?_ _ | refine bset ?_ (by simp; omega) _ | refine bset ?_ (by simp) _ | refine bstep ?_ (by assumption)))⟩
  have E : Hid (keysD xs = ⟨0, (lastL 1000000 xs).map (fun r => r.key)⟩) := by rw [Hid]; unfold keysD; rw [if_pos h0, keys_all (sorted_of h0)]
  have hlen := (tabF_all h0).1
  have HLE : Hid (∀ ys, ys <+: lastL 1000000 xs → ys.length ≤ 200) := by
    intro ys hy
    have h1 := hy.length_le
    have h2 := keysTo_le xs xs.length
    have h3 := congrArg List.length (keys_all (sorted_of h0))
    rw [List.length_map] at h3
    unfold keysL at h3
    omega
  rw [h0]
  gi_wp2
  refine ⟨trivial, rfl, (callsIn_wide.2 (tableOf_any _ _ _ _)).mono ?_⟩
  rintro e w2 ⟨rfl, hb2⟩
  have hM12 : Mod (fun _ => False) w1 w2 := (mod_alloc _ _ _).trans (Mod.of_below hb2)
  have t1 : w2.cell? ⟨w1.heap.size, 0, none⟩ = some (.slice none 0 0) := cell_keep hb2 (by simp [go_sem])
  have t2 : w2.frozen? ⟨w1.heap.size, 0, none⟩ = false := by rw [(bcell hb2).2 _ _ (by simp)]; simp [go_sem]
  have s2 := hb2.size
  simp only [World.size_alloc] at s2
  unfold cmpF
  gi_wp2
  refine ⟨trivial, rfl, (callsIn_wide.2 (lastAt_any _ _ _ _ _)).mono ?_⟩
  rintro e w3 ⟨rfl, hw3⟩
  have hM23 : Mod (fun _ => False) w2 w3 := by rw [hw3]; exact (mod_alloc _ _ _).alloc _
  have s3 : w3.heap.size = w2.heap.size + 2 := by rw [hw3]; simp
  have d1 : w3.cell? ⟨w2.heap.size, 0, none⟩ = some (.slice ax n cx) := by rw [hw3]; simp [go_sem]
  have d2 : w3.cell? ⟨w2.heap.size, 1, none⟩ = some cmpF := by rw [hw3]; simp [go_sem]
  have d3 : w3.cell? ⟨w2.heap.size + 1, 0, none⟩ = some (.int .i64 1000000) := by rw [hw3]; simp [go_sem]
  clear hw3
  have hM13 := hM12.trans hM23
  have hM03 : Mod (fun _ => False) w w3 := (Mod.of_below hB1).trans hM13
  have acc : AccC 9 1 (strsC []) 0 w.heap.size w1.heap.size w3.heap.size w w3 (fun _ => False) (.slice none 0 0) := by
    refine ⟨hM23.cell t1 (fun h => h), World.ownsRow_nil _ _ _ _, fun _ _ h => h, fun _ _ h => h, Nat.le_refl _, hM13.cell g1 (fun h => h), hM13.cell g2 (fun h => h), fun o => (hM13.frozen (a := ⟨w.heap.size, o, none⟩) gz (fun h => h)).trans (gf o),
      (hM23.frozen (a := ⟨w1.heap.size, 0, none⟩) (by dsimp only; omega) (fun h => h)).trans t2, ⟨hM03.os, hM03.tape, hM03.output, hM03.size, fun b hb => hM03.block b hb (fun h => h)⟩⟩
  obtain ⟨N, hNN⟩ : ∃ N, w.heap.size = N := ⟨_, rfl⟩
  obtain ⟨T, hTT⟩ : ∃ T, w1.heap.size = T := ⟨_, rfl⟩
  obtain ⟨M, hMM⟩ : ∃ M, w2.heap.size = M := ⟨_, rfl⟩
  obtain ⟨L0, hL0⟩ : ∃ L, w3.heap.size = L := ⟨_, rfl⟩
  have hT3 : TabAt (fun b => b < N ∨ b = M ∨ b = M + 1) w3 (.slice ax n cx) xs := by
    have h := TabAt.of (R := fun b => b < N ∨ b = M ∨ b = M + 1) HX.out (fun b hb => .inl (by omega))
    exact h.mod hM03 (fun _ _ h => h)
  rw [hMM] at d1 d2 d3 s3 s2 ⊢
  rw [hNN, hTT, hL0] at acc
  rw [hNN] at gz ⊢
  rw [hTT] at s2 ⊢
  rw [hTT] at gz
  have hRa : ∀ b, (b < N ∨ b = M ∨ b = M + 1) → b < w3.heap.size := fun b h => by omega
  have hseq := lastAt_seq M (M + 1) (.slice ax n cx) xs 1000000 (fun b => b < N ∨ b = M ∨ b = M + 1) w3 hRa d1 d2 d3 (.inr (.inl rfl)) (.inr (.inr rfl)) hT3 hlen
  have hTL : T < L0 := by omega
  gi_wp2
  refine wp_rangeX (gf := 75) rfl (enters_of Try.func75 (by kernel_rfl) rfl) hseq hRa
    (AccI 9 1 (fun pre => strsC (pre.map (fun r => r.key))) (fun pre => pre.length) N T L0 w) NoX (AccI_stb gz hTL) NoX_stb (fun _ => False) (fun _ h => h.elim) ⟨_, acc⟩
    (fun x => RowBox L0 (fun B => { tmps := #[.slice ax n cx, undef, .pointer (some ⟨N, 0, none⟩), .int .i64 0, .pointer (some ⟨T, 0, none⟩), .pointer (some ⟨B, 0, none⟩), .slice ax n cx, .int .i64 0, .int .i64 0, .bool false, undef, undef, .slice ax n cx, .agg #[.slice ax n cx, .func (.func 70) #[] #[]], .func (.func 75) #[] #[.pointer (some ⟨M, 0, none⟩), .pointer (some ⟨M + 1, 0, none⟩)], .agg #[.string x.key, .int .i64 x.ver, .string x.val, .bool x.gone], undef, undef, undef, undef, undef, undef, undef], defers := [] }) x)
    (fun x a' => RowBox_stb _ _ x a') ?assign ?body ?done ?stop
  case assign =>
    rintro l2 pre x W3 Y K ⟨_, ha⟩ hYl hYa hK
    unfold rowV
    gi_wp2
    refine hK _ _ (mod_alloc _ _ _) ⟨W3.heap.size, ha.2.2.2.2.1, by simp, by unfold rowCells; simp [go_sem], fun h => ?_, rfl⟩
    have := hYa _ h
    omega
  case body =>
    rintro l2 pre x a' W3 Y hYl hYa ⟨v, ha⟩ ⟨B, hlo, hB, hr, hYB, rfl⟩ hpre
    have HP : Hid ((pre ++ [x]).length = pre.length + 1 ∧ strsC ((pre ++ [x]).map (fun r => r.key)) = strsC (pre.map (fun r => r.key)) ++ [.string x.key]) := by
      refine ⟨by simp, ?_⟩
      rw [List.map_append, List.map_singleton, strsC_snoc]
    have hle : pre.length ≤ 200 := HLE.out pre ((List.prefix_append pre [x]).trans hpre)
    obtain ⟨r0, r1, r2, r3⟩ := hr
    have ha' := ha
    obtain ⟨a1, a2, a3, a4, a5, a6, a7, a8, a9, a10⟩ := ha
    dsimp only at a2 ha'
    obtain ⟨ys, hys⟩ : ∃ ys, strsC (pre.map (fun r => r.key)) = ys := ⟨_, rfl⟩
    obtain ⟨m, hm⟩ : ∃ m, pre.length = m := ⟨_, rfl⟩
    rw [hys, hm] at a2 HP ha'
    rw [hm] at hle
    clear hys hm
    obtain ⟨av, cv, rfl⟩ := owns_form a2
    have hzT := World.block_lt_of_cell? _ _ a1
    dsimp only at hzT
    gi_wp2_with (gi_at_builtin; refine wpListIn_append_own_at _ rfl _ _ 30 rfl L0 9 i0 _ 1 16 Try.underlying30 hi hz0 hz1 hz2 rfl (by decide) _ _ _ rfl (a2.alloc _) ⟨W3.heap.size, 0, none⟩ 1 1 [.string x.key] rfl rfl ?c1 ?c2 ?c3 ?c4 ?c5 ?_)
    case c1 => exact strCell_one _ _ _
    case c2 =>
      intro u hu
      rw [List.mem_singleton] at hu
      rw [hu]
      rfl
    case c3 => unfold maxLen; omega
    case c4 => omega
    case c5 => simp; omega
    intro v' w5 hown' hgrow _ hown
    obtain ⟨g', cap', rfl⟩ := ownsRow_succ hown'
    obtain ⟨b1, b9, _⟩ := AccC_mid hTL ha' hgrow
    obtain ⟨hnew, hM⟩ := AccC_app gz hTL ha' hgrow hown' (by rw [World.size_alloc]; exact hown) hYa
    gi_wp2
    refine ⟨hM.mono (fun b h => ?_), .slice (some ⟨g', 0, none⟩) (m + 1) cap', ?_⟩
    · rcases h with rfl | h
      · rintro (h2 | h2)
        · omega
        · exact a4 _ (Nat.le_refl _) h2
      · have := (a2.lt b h).1
        rintro (h2 | h2)
        · omega
        · exact a3 b h h2
    · dsimp only
      rw [HP.out.1, HP.out.2]
      exact hnew
  case done =>
    rintro D W3 Y hD hYD ⟨v, ha⟩ hdef
    obtain ⟨y1, y2, y3, y4, y5⟩ := AccC_end gz hTL (by omega) ha hYD hdef
    obtain ⟨av, cv, rfl⟩ := owns_form ha.2.1
    obtain ⟨a1, a2, a3, a4, a5, a6, a7, a8, a9, a10⟩ := ha
    have hzT := World.block_lt_of_cell? _ _ a1
    dsimp only at hzT y4
    gi_wp2
    refine ⟨by simp, .inl ⟨_, _, rfl, run_takeDeferred y1, ?_⟩⟩
    refine ⟨.agg #[.int .i64 0, .slice av (lastL 1000000 xs).length cv], by simp [results, Try.results10, go_sem, y2, y3], ?_⟩
    have y4' := y4
    rw [show (lastL 1000000 xs).length = ((lastL 1000000 xs).map (fun r => r.key)).length by simp] at y4'
    obtain ⟨F, hF⟩ := keysRR_of (c := 0) y4'
    rw [List.length_map] at hF
    rw [← E.out] at hF
    first | exact ⟨_, F, rfl, hF, y5⟩ | exact ⟨_, rfl, ⟨F, hF⟩, y5⟩
  case stop =>
    rintro D c pre W3 Y hD hYD hpre h hdef
    exact h.elim

theorem keysD_le (xs : List Rw) : wtKeysR (keysD xs) ≤ 200 := by
  unfold keysD
  split
  · rename_i h
    have := (tabF_all h).1
    have := keysTo_le xs xs.length
    show (keysL xs).length ≤ 200
    unfold keysL
    omega
  · show 0 ≤ 200
    omega

end Go.Proofs.Ytaahmmadcdfcpaa

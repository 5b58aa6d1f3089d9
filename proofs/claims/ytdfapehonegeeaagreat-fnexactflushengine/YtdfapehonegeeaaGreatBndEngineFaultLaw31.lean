import Derived.Test.YtdfapehonegeeaaGreatBndEngineFaultLaw11
import Derived.Test.YtdfapehonegeeaaGreatBndEngineFaultLaw30
import Derived.Test.YtdfapehonegeeaaGreatBndEngineFaultLaw14
import Derived.Scope
import Derived.Test.YtdfapehonegeeaaGreatBndEngineFaultLaw15

/-
  What lies above a version: above, as an iterator.
-/
namespace Go.Proofs.YtdfapehonegeeaaGreat
open Go.RowKit Go.Shelf
set_option linter.unusedSectionVars false
variable [DecidableEq Rw] [Inhabited Rw]
set_option linter.unusedVariables false
attribute [local go_sem] Oper.semAt_some
attribute [local go_sem] run_store_func

def overV (v : Int) (ys : List Rw) : List Rw := ys.filter (fun r => decide (v < r.ver))
theorem overV_pre {v : Int} {xs ys : List Rw} (h : xs <+: ys) : overV v xs <+: overV v ys := by
  obtain ⟨t, rfl⟩ := h
  unfold overV
  rw [List.filter_append]
  exact List.prefix_append _ _
theorem overV_skip {v : Int} (xs : List Rw) (x : Rw) (h : ¬ v < x.ver) : overV v (xs ++ [x]) = overV v xs := by simp [overV, List.filter_append, h]
theorem overV_take {v : Int} (xs : List Rw) (x : Rw) (h : v < x.ver) : overV v (xs ++ [x]) = overV v xs ++ [x] := by simp [overV, List.filter_append, h]

set_option maxHeartbeats 1000000 in
theorem above_any (a : Option Addr) (n c : Nat) (v : Int) (w : World) :
    Calls Tryz.prog 139 #[.agg #[.slice a n c, cmpF], .int .i64 v] w fun e w' => e = .returned (.func (.func 165) #[] #[.pointer (some ⟨w.heap.size, 0, none⟩), .pointer (some ⟨w.heap.size + 1, 0, none⟩)]) ∧
      w' = (w.alloc (.cells #[.slice a n c, cmpF] 111)).alloc (.cells #[.int .i64 v] 2) := by
  unfold cmpF
  go_enter Tryz.func139, Tryz.ntmps139
  go_wp2
  go_ret
  exact ⟨rfl, rfl⟩

set_option maxRecDepth 100000 in
set_option maxHeartbeats 4000000 in
theorem above_seq (B1 B2 : Nat) (sv : Value) (xs : List Rw) (v : Int) (R : Nat → Prop) (w : World) (hRa : ∀ b, R b → b < w.heap.size) (h1 : w.cell? ⟨B1, 0, none⟩ = some sv) (h1' : w.cell? ⟨B1, 1, none⟩ = some cmpF) (h2 : w.cell? ⟨B2, 0, none⟩ = some (.int .i64 v))
    (hR1 : R B1) (hR2 : R B2) (hT : TabAt R w sv xs) (hn : xs.length ≤ 200) :
    Seqx Tryz.prog 165 #[.pointer (some ⟨B1, 0, none⟩), .pointer (some ⟨B2, 0, none⟩)] rowV (overV v xs) R w := by
  intro l J Jx W X hm hXa hJ hJx hY h0
  have hT2 := hT.mod hm (fun b hb h => h hb)
  obtain ⟨a, cap, rfl, hc1, hc2, hrow⟩ := hT
  have k1 := hm.cell h1 (fun h => h hR1)
  have k1' := hm.cell h1' (fun h => h hR1)
  have k2 := hm.cell h2 (fun h => h hR2)
  have z1 := World.block_lt_of_cell? _ _ k1
  have z2 := World.block_lt_of_cell? _ _ k2
  dsimp only at z1 z2
  unfold cmpF at k1'
  generalize hN : xs.length = n at *
  have HN : Hid (xs.length = n) := hN
  clear hN hrow
  refine callsIn_of_wp_marks Tryz.func165 rfl trivial ?_ rfl
  simp only [Tryz.ntmps165, List.size_toArray, List.length_cons, List.length_nil, Nat.reduceAdd, Nat.reduceSub, Array.replicate_succ, Array.replicate_zero, List.push_toArray, List.append_toArray, List.nil_append, List.cons_append]
  gi_wp2
  refine ⟨trivial, rfl, (callsIn_wide.2 (all_any _ _ _ _)).mono ?_⟩
  rintro e w' ⟨rfl, hw'⟩
  have hM2 : ∀ F, Mod F W w' := fun F => by rw [hw']; exact ((mod_alloc F W _).alloc _).alloc _
  have s2 : w'.heap.size = W.heap.size + 3 := by rw [hw']; simp
  have c1 : w'.cell? ⟨W.heap.size, 0, none⟩ = some (.func (.yield l) #[] #[]) := by rw [hw']; simp [go_sem]
  have c3 : w'.cell? ⟨W.heap.size + 2, 0, none⟩ = some (.slice a n cap) := by rw [hw']; simp [go_sem]
  simp only [World.size_alloc]
  clear hw'
  gi_wp2
  have s0 := hm.size
  have hlen : xs.length ≤ 200 := by rw [HN.out]; exact hn
  obtain ⟨N, hN⟩ : ∃ N, W.heap.size = N := ⟨_, rfl⟩
  rw [hN] at c1 c3 s2 z1 z2 s0 hXa ⊢
  have hRb : ∀ b, (R b ∨ b = N + 1 ∨ b = N + 2) → b < w'.heap.size := fun b h => by
    rcases h with h | h
    · have := hRa b h
      omega
    · omega
  have hseq := values_seq (N + 2) (.slice a n cap) xs (fun b => R b ∨ b = N + 1 ∨ b = N + 2) w' c3 (.inr (.inr rfl)) ((hT2.mod (hM2 (fun _ => False)) (fun _ _ h => h)).wide (fun b h => .inl h)) hlen
  refine wp_rangeX (gf := 161) rfl (enters_of Tryz.func161 (by kernel_rfl) rfl) hseq hRb
    (ItI J (overV v) (fun b => b = N ∨ b = N + 1 ∨ b = N + 2) X R w (fun _ A => A.cell? ⟨N, 0, none⟩ = some (.func (.yield l) #[] #[]))) (ItX Jx (overV v) X)
    (ItI_stb hJ hRa (fun pre A B F h hm hF => hm.cell h (hF _ (.inl rfl)))) (ItX_stb hJx) (fun _ => False) (fun _ h => h.elim) ?start
    (fun x => RowBox (N + 3) (fun B => { tmps := #[.func (.yield l) #[] #[], .pointer (some ⟨B1, 0, none⟩), .pointer (some ⟨B2, 0, none⟩), .pointer (some ⟨N, 0, none⟩), .pointer (some ⟨B, 0, none⟩), .pointer (some ⟨B1, 0, none⟩), .agg #[.slice a n cap, .func (.func 75) #[] #[]], .func (.func 161) #[] #[.pointer (some ⟨N + 1 + 1, 0, none⟩)], .agg #[.string x.key, .int .i64 x.ver, .string x.val, .bool x.gone], undef, undef, undef, undef, undef, undef, undef, undef, undef, undef], defers := [] }) x)
    (fun x a' => RowBox_stb _ _ x a') ?assign ?body ?done ?stop
  case start =>
    refine ⟨fun b => X b ∨ b = N ∨ b = N + 1 ∨ b = N + 2, hJ _ _ _ X _ h0 (hM2 X) (fun b h => .inl h) (fun b h => ?_), fun _ h => h.elim, fun b h => ?_, fun b h => .inl h, fun b h => .inr h, fun b h h2 => h2, fun b h => h.elim, c1, hm.trans (hM2 _)⟩
    · rw [hN]
      rcases h with h | h
      · exact ⟨.inl h, by have := hXa b h; omega⟩
      · exact ⟨.inr (by omega), by omega⟩
    · rcases h with h | h
      · have := hXa b h
        omega
      · omega
  case assign =>
    intro l2 pre x W3 Y K hi hYl hYa hK
    unfold rowV
    gi_wp2
    have hlo : N + 2 < W3.heap.size := by
      obtain ⟨Z, _, _, hZa, _, hSZ, _⟩ := hi
      exact hZa _ (hSZ _ (.inr (.inr rfl)))
    refine hK _ _ (mod_alloc _ _ _) ⟨W3.heap.size, hlo, by simp, by unfold rowCells; simp [go_sem], fun h => ?_, rfl⟩
    have := hYa _ h
    omega
  case body =>
    rintro l2 pre x a' W3 Y hYl hYa ⟨Z, hj, hYZ, hZa, hXZ, hSZ, hSY, hYR, t3, hmw⟩ ⟨B, hlo, hB, hr, hYB, rfl⟩ hpre
    obtain ⟨r0, r1, r2, r3⟩ := hr
    simp only [Nat.zero_add] at r1 r2 r3
    have kv := hmw.cell h2 (fun h => h hR2)
    have zv := World.block_lt_of_cell? _ _ kv
    dsimp only at zv
    by_cases hg : v < x.ver
    · have hd1 : decide (v < x.ver) = true := decide_eq_true hg
      have HE : Hid (overV v (pre ++ [x]) = overV v pre ++ [x]) := overV_take pre x hg
      obtain ⟨fn, tmps, assign, body, hy, hR3⟩ := hY _ x _ Z hj hXZ hZa (by have h := overV_pre (v := v) hpre; rw [HE.out] at h; exact h)
      unfold rowV at hy
      gi_wp2
      refine ⟨rfl, RoundIn.mono (show RoundIn (Fence.wide.inRound l2) 0 Tryz.prog l fn tmps assign body _ _ from hR3) ?_⟩
      have kp : ∀ W5, Kp R Z W3 W5 → Kp (fun b => R b ∨ b = N + 1 ∨ b = N + 2) Y W3 W5 := fun W5 hk5 => hk5.mono (fun b h => by
            rintro ((h2 | h2) | h2)
            · exact h (.inl h2)
            · exact h (.inr (hSZ _ (.inr h2)))
            · exact h (.inr (hYZ _ h2)))
      rintro e W5 (⟨rfl, hJ5, hk5⟩ | ⟨rfl, hJx5, hk5⟩)
      · have q5 := hk5.size
        have c3' := hk5.cell t3 (fun h => h (.inr (hSZ _ (.inl rfl))))
        gi_wp2
        refine ⟨kp _ hk5, Z, ?_, hYZ, fun b h => by have := hZa b h; omega, hXZ, hSZ, hSY, hYR, c3', hmw.trans (hk5.mono (fun b h hr => h (.inl hr)))⟩
        rw [HE.out]
        exact hJ5
      · have q5 := hk5.size
        gi_wp2
        refine ⟨kp _ hk5, rfl, Z, ?_, hYZ, fun b h => by have := hZa b h; omega, hXZ⟩
        rw [HE.out]
        exact hJx5
    · have hd1 : decide (v < x.ver) = false := decide_eq_false hg
      have HE : Hid (overV v (pre ++ [x]) = overV v pre) := overV_skip pre x hg
      gi_wp2
      refine ⟨fun _ h => (by cases h), ?_⟩
      gi_wp2
      refine ⟨Mod.refl _ _, Z, ?_, hYZ, hZa, hXZ, hSZ, hSY, hYR, t3, hmw⟩
      rw [HE.out]
      exact hj
  case done =>
    rintro D W3 Y hD hYD hi hdef
    obtain ⟨Z, hj, hYZ, hZa, hXZ, hSZ, hSY, hYR, _, hmw⟩ := hi
    gi_wp2
    refine ⟨by simp, .inl ⟨_, _, rfl, run_takeDeferred hdef, ?_⟩⟩
    refine ⟨_, results_none rfl _ _ _, ⟨_, rfl⟩, Z, hXZ, .inl ?_⟩
    exact hJ _ _ _ Z Z hj ((mod_put _ _ _).mono (fun b h => by rw [h]; exact hYZ _ hYD)) (fun _ h => h) (fun b h => ⟨.inl h, by have := hZa b h; simpa [World.putObj] using this⟩)
  case stop =>
    rintro D c pre W3 Y hD hYD hpre ⟨rfl, Z, hj, hYZ, hZa, hXZ⟩ hdef
    gi_wp2
    refine ⟨by simp, .inl ⟨_, _, rfl, run_takeDeferred hdef, ?_⟩⟩
    refine ⟨_, results_none rfl _ _ _, ⟨_, rfl⟩, Z, hXZ, .inr ⟨_, overV_pre hpre, ?_⟩⟩
    exact hJx _ _ _ Z Z hj ((mod_put _ _ _).mono (fun b h => by rw [h]; exact hYZ _ hYD)) (fun _ h => h) (fun b h => ⟨.inl h, by have := hZa b h; simpa [World.putObj] using this⟩)

end Go.Proofs.YtdfapehonegeeaaGreat

/-
  merged: rows of several iterators put into one list, until there are too many.
-/
namespace Go.Proofs.YtdfapehonegeeaaGreat
open Go.RowKit Go.Shelf
set_option linter.unusedSectionVars false
variable [DecidableEq Rw] [Inhabited Rw] [DecidableEq TabR] [Inhabited TabR]
set_option linter.unusedVariables false
set_option linter.unusedSimpArgs false
attribute [local go_sem ↓] Go.wp_at_zero Go.wp_at_succ
attribute [local go_sem] Oper.semAt_some
attribute [local go_sem] run_store_func

theorem Seqx.mod {α : Type} {P : Program} {g : Nat} {lb : Array Value} {enc : α → Value} {xs : List α} {R : Nat → Prop} {w W0 : World} (h : Seqx P g lb enc xs R w) (hm : Mod (fun k => ¬ R k) w W0) : Seqx P g lb enc xs R W0 :=
  fun l J Jx W X hm2 => h l J Jx W X (hm.trans hm2)

/-- a list of iterators, as it is read -/
def PartsV (w : World) (v : Value) (m : Nat) (gs : Nat → Nat) (lbs : Nat → Array Value) : Prop :=
  ∃ a cap, v = .slice a m cap ∧ m ≤ cap ∧ cap ≤ maxLen ∧ ∀ i, i < m → ∃ b o, a = some ⟨b, o, none⟩ ∧ w.cell? ⟨b, o + i, none⟩ = some (.func (.func (gs i)) #[] (lbs i))

/-- the marks of the ranges that are done -/
def marks (ds : List Nat) : List Deferred := ds.map (fun D => { target := .collected D, args := #[] })

/-- the boxes of merged: most (N), the answer (N + 1), the list (N + 2), fits (N + 3) -/
structure MrgB (w : World) (N most : Nat) (f : Bool) (W : World) (v : Value) (ys : List Rw) (ds : List Nat) : Prop where
  l : LstB W (N + 4) (N + 2) v ys
  c : W.cell? ⟨N, 0, none⟩ = some (.int .i64 most)
  r0 : W.cell? ⟨N + 1, 0, none⟩ = some (.slice none 0 0)
  r1 : ∃ u, W.cell? ⟨N + 1, 1, none⟩ = some u
  rf : ∀ o, W.frozen? ⟨N + 1, o, none⟩ = false
  t : W.cell? ⟨N + 3, 0, none⟩ = some (.bool f)
  tf : W.frozen? ⟨N + 3, 0, none⟩ = false
  s : N + 4 ≤ W.heap.size
  d : ∀ D ∈ ds, N + 4 ≤ D ∧ W.heap[D]? = some (.deferred (some [])) ∧ v.ownBlock ≠ some D
  dd : ds.Nodup
  b : Below N w W

theorem MrgB.mod {w : World} {N most : Nat} {f : Bool} {W W' : World} {v : Value} {ys : List Rw} {ds : List Nat} {F : Nat → Prop} (h : MrgB w N most f W v ys ds) (hm : Mod F W W') (hF : ∀ b, b < N + 4 → ¬ F b) (hFv : ∀ b, v.ownBlock = some b → ¬ F b) (hFd : ∀ D ∈ ds, ¬ F D) :
    MrgB w N most f W' v ys ds := by
  obtain ⟨hl, hc, h0, ⟨u, h1⟩, hf, ht, htf, hs, hd, hdd, hb⟩ := h
  have hz := hm.size
  refine ⟨⟨hm.cell hl.c0 (hF _ (by dsimp only; omega)), hm.cell hl.c1 (hF _ (by dsimp only; omega)), (hm.frozen (a := ⟨N + 2, 0, none⟩) (by dsimp only; omega) (hF _ (by dsimp only; omega))).trans hl.fr, hm.owns hl.own hFv, hl.ne, hl.ri⟩,
    hm.cell hc (hF _ (by dsimp only; omega)), hm.cell h0 (hF _ (by dsimp only; omega)), ⟨u, hm.cell h1 (hF _ (by dsimp only; omega))⟩, fun o => (hm.frozen (a := ⟨N + 1, o, none⟩) (by dsimp only; omega) (hF _ (by dsimp only; omega))).trans (hf o),
    hm.cell ht (hF _ (by dsimp only; omega)), (hm.frozen (a := ⟨N + 3, 0, none⟩) (by dsimp only; omega) (hF _ (by dsimp only; omega))).trans htf, by omega, fun D hD => ?_, hdd, ?_⟩
  · obtain ⟨p1, p2, p3⟩ := hd D hD
    exact ⟨p1, (hm.block D (Array.getElem?_eq_some_iff.1 p2).1 (hFd D hD)).trans p2, p3⟩
  · exact ⟨hm.os.trans hb.os, hm.tape.trans hb.tape, hm.output.trans hb.output, Nat.le_trans hb.size hz, fun b hb' => (hm.block b (by omega) (hF b (by omega))).trans (hb.block b hb')⟩

/-- one more was put -/
theorem MrgB.add {w : World} {N most : Nat} {W W' : World} {v v' : Value} {ys ys' : List Rw} {ds : List Nat} (f : Bool) (h : MrgB w N most true W v ys ds) (hl : LstB W' (N + 4) (N + 2) v' ys') (hm : Mod (fun b => b = N + 2 ∨ v.ownBlock = some b) W W')
    (ho : ∀ b, v'.ownBlock = some b → v.ownBlock = some b ∨ (W.heap.size ≤ b ∧ b < W'.heap.size)) : MrgB w N most f (W'.setCell ⟨N + 3, 0, none⟩ (.bool f)) v' ys' ds ∧ Mod (fun b => b = N + 2 ∨ v.ownBlock = some b ∨ b = N + 3) W (W'.setCell ⟨N + 3, 0, none⟩ (.bool f)) := by
  have hset : Mod (fun b => b = N + 3) W' (W'.setCell ⟨N + 3, 0, none⟩ (.bool f)) := Mod.of_set W' ⟨N + 3, 0, none⟩ (.bool f)
  have hM : Mod (fun b => b = N + 2 ∨ v.ownBlock = some b ∨ b = N + 3) W (W'.setCell ⟨N + 3, 0, none⟩ (.bool f)) := (hm.mono (fun b h => h.imp id .inl)).trans (hset.mono (fun b h => .inr (.inr h)))
  have hlow : ∀ b, b < N + 2 → ¬ (b = N + 2 ∨ v.ownBlock = some b ∨ b = N + 3) := by
    rintro b hb (h1 | h1 | h1)
    · omega
    · have := (h.l.own.lt b h1).1
      omega
    · omega
  have h3 : ¬ (N + 3 = N + 2 ∨ v.ownBlock = some (N + 3)) := by
    rintro (h1 | h1)
    · omega
    · have := (h.l.own.lt _ h1).1
      omega
  have hs := h.s
  have z1 := hM.size
  have z2 := hm.size
  obtain ⟨u, hu⟩ := h.r1
  refine ⟨⟨⟨hset.cell hl.c0 (by dsimp only; omega), hset.cell hl.c1 (by dsimp only; omega), by rw [World.frozen?_setCell]; exact hl.fr, hset.owns hl.own (fun b hb e => by have := (hl.own.lt b hb).1; omega), hl.ne, hl.ri⟩,
    hM.cell h.c (hlow _ (by dsimp only; omega)), hM.cell h.r0 (hlow _ (by dsimp only; omega)), ⟨u, hM.cell hu (hlow _ (by dsimp only; omega))⟩, fun o => (hM.frozen (a := ⟨N + 1, o, none⟩) (by dsimp only; omega) (hlow _ (by dsimp only; omega))).trans (h.rf o),
    set_same (hm.cell h.t h3), by rw [World.frozen?_setCell]; exact (hm.frozen (a := ⟨N + 3, 0, none⟩) (by dsimp only; omega) h3).trans h.tf, by omega, fun D hD => ?_, h.dd, ?_⟩, hM⟩
  · obtain ⟨p1, p2, p3⟩ := h.d D hD
    have hlt := (Array.getElem?_eq_some_iff.1 p2).1
    refine ⟨p1, (hM.block D hlt (by rintro (e | e | e); omega; exact p3 e; omega)).trans p2, fun e => ?_⟩
    rcases ho D e with e | e
    · exact p3 e
    · omega
  · have hb := h.b
    exact ⟨hM.os.trans hb.os, hM.tape.trans hb.tape, hM.output.trans hb.output, Nat.le_trans hb.size z1, fun b hb' => (hM.block b (by omega) (hlow b (by omega))).trans (hb.block b hb')⟩

/-- all marks are taken -/
def unmark (W : World) (ds : List Nat) : World := ds.foldl (fun W D => W.putObj D (.deferred none)) W
theorem unmark_mod : ∀ (ds : List Nat) (W : World), Mod (fun b => b ∈ ds) W (unmark W ds)
  | [], W => Mod.refl _ _
  | D :: ds, W => ((mod_put W D _).mono (fun b h => by rw [h]; exact List.mem_cons_self ..)).trans ((unmark_mod ds _).mono (fun b h => List.mem_cons_of_mem _ h))
theorem leaves_marks {P : Program} {fn : Func} {tmps : Array Value} {R : Ending → World → Prop} : ∀ (ds : List Nat) (W : World), (∀ D ∈ ds, W.heap[D]? = some (.deferred (some []))) → ds.Nodup →
    LeavesInM Fence.wide 0 P fn tmps R [] .returning (unmark W ds) → LeavesInM Fence.wide 0 P fn tmps R (marks ds) .returning W
  | [], W, _, _, h => h
  | D :: ds, W, hd, hn, h => by
    rw [List.nodup_cons] at hn
    refine ⟨by simp, .inl ⟨D, W.putObj D (.deferred none), rfl, run_takeDeferred (hd D (List.mem_cons_self ..)), leaves_marks ds _ (fun E hE => ?_) hn.2 h⟩⟩
    have hne : E ≠ D := fun e => hn.1 (by rw [← e]; exact hE)
    exact (World.putObj_heap_other hne).trans (hd E (List.mem_cons_of_mem _ hE))

/-- between two rounds of one iterator -/
def MrgI (w : World) (N most : Nat) (ds : List Nat) (done : List Rw) (f : Bool) (pre : List Rw) (W : World) (Y : Nat → Prop) : Prop :=
  ∃ v, MrgB w N most f W v (putsL [] (done ++ pre)) ds ∧ (∀ b, b < N + 4 → ¬ Y b) ∧ (∀ b, v.ownBlock = some b → ¬ Y b) ∧ (∀ D ∈ ds, ¬ Y D) ∧ (f = true → (putsL [] (done ++ pre)).length ≤ most)
theorem MrgI_stb (w : World) (N most : Nat) (ds : List Nat) (done : List Rw) (f : Bool) : Stb (MrgI w N most ds done f) := by
  rintro pre W W' Y Y' ⟨v, h, h1, h2, h3, h4⟩ hm hYY hYn
  refine ⟨v, h.mod hm h1 h2 h3, fun b hb hy => ?_, fun b hb hy => ?_, fun D hD hy => ?_, h4⟩
  · rcases (hYn b hy).1 with h' | h'
    · exact h1 b hb h'
    · have := h.s
      omega
  · rcases (hYn b hy).1 with h' | h'
    · exact h2 b hb h'
    · have := (h.l.own.lt b hb).2
      omega
  · rcases (hYn D hy).1 with h' | h'
    · exact h3 D hD h'
    · have := (Array.getElem?_eq_some_iff.1 (h.d D hD).2.1).1
      omega
def MrgX (w : World) (N most : Nat) (ds : List Nat) (done : List Rw) (c : Code) (pre : List Rw) (W : World) (Y : Nat → Prop) : Prop :=
  c = .exit 0 ∧ most < (putsL [] (done ++ pre)).length ∧ MrgI w N most ds done false pre W Y
theorem MrgX_stb (w : World) (N most : Nat) (ds : List Nat) (done : List Rw) (c : Code) : Stb (MrgX w N most ds done c) := by
  rintro pre W W' Y Y' ⟨e, hl, h⟩ hm hYY hYn
  exact ⟨e, hl, MrgI_stb w N most ds done false pre W W' Y Y' h hm hYY hYn⟩

set_option maxRecDepth 100000 in
set_option maxHeartbeats 8000000 in
theorem merged_any (pv : Value) (m most : Nat) (gs : Nat → Nat) (lbs : Nat → Array Value) (xss : Nat → List Rw) (w : World) (hp : PartsV w pv m gs lbs) (hmost : most ≤ 1048576) (htot : (flatTo xss m).length ≤ 1000000)
    (heg : ∀ i, i < m → ∀ args w, (callFunc (gs i) args).run Tryz.prog w = .ok (.enter (gs i) args) w) (hseq : ∀ i, i < m → Seqx Tryz.prog (gs i) (lbs i) rowV (xss i) (fun b => b < w.heap.size) w) :
    Calls Tryz.prog 74 #[cmpF, .int .i64 most, pv] w fun e w' => ∃ v f, e = .returned (.tuple #[.agg #[v, cmpF], .bool f]) ∧ (∃ a n c, v = .slice a n c) ∧ Below w.heap.size w w' ∧
      (f = true → w'.ownsRow w.heap.size 76 4 v (putsL [] (flatTo xss m)).length (rwsC (putsL [] (flatTo xss m))) ∧ (putsL [] (flatTo xss m)).length ≤ most) ∧ (f = false → most < (putsL [] (flatTo xss m)).length) := by
  obtain ⟨ap, cp, rfl, hmc, hcm, hpart⟩ := hp
  unfold maxLen at hcm
  have HSEQ : Hid (∀ i, i < m → Seqx Tryz.prog (gs i) (lbs i) rowV (xss i) (fun b => b < w.heap.size) w) := hseq
  have HEG : Hid (∀ i, i < m → ∀ args w, (callFunc (gs i) args).run Tryz.prog w = .ok (.enter (gs i) args) w) := heg
  have HTOT : Hid ((flatTo xss m).length ≤ 1000000) := htot
  clear hseq heg htot
  refine (callsIn_wide (n := 0)).1 ?_
  refine callsIn_of_wp_marks Tryz.func74 rfl trivial ?_ rfl
  refine wpIn_wide.2 ?_
  unfold cmpF
  simp only [Tryz.ntmps74, List.size_toArray, List.length_cons, List.length_nil, Nat.reduceAdd, Nat.reduceSub, Array.replicate_succ, Array.replicate_zero, List.push_toArray, List.append_toArray, List.nil_append, List.cons_append]
  go_wp2
  refine wp_scope_straight ?_
  go_wp2
  refine wp_label ?_
  go_wp2
  obtain ⟨N, hN⟩ : ∃ N, N = w.heap.size := ⟨_, rfl⟩
  have HN : Hid (N = w.heap.size) := hN
  obtain ⟨W0, hW0⟩ : ∃ W0, W0 = ((((w.alloc (.cells #[.int .i64 most] 3)).alloc (.cells #[.slice none 0 0, .nilFunc] 105)).alloc (.cells #[.slice none 0 0, .func (.func 75) #[] #[]] 105)).alloc (.cells #[.bool true] 4)) := ⟨_, rfl⟩
  have hB0 : MrgB w N most true W0 (.slice none 0 0) (putsL [] (flatTo xss 0)) [] := by
    rw [hN, hW0]
    refine ⟨⟨by simp [go_sem], by simp [go_sem, cmpF], by simp [go_sem], World.ownsRow_nil _ _ _ _, by simp [Value.ownBlock], rises_nil⟩, by simp [go_sem], by simp [go_sem], ⟨.nilFunc, by simp [go_sem]⟩, fun o => by simp [go_sem], by simp [go_sem], by simp [go_sem], by simp, fun D hD => by simp at hD, List.nodup_nil, ?_⟩
    exact balloc (balloc (balloc (balloc (Below.refl _ _) _) _) _) _
  rw [← hW0, ← hN]
  clear hW0 hN
  refine wp_loop (fun a W => ∃ (k : Nat) (v : Value) (ds : List Nat) (u11 u18 u19 u20 u21 u32 : Value), k ≤ m ∧ Hid (MrgB w N most true W v (putsL [] (flatTo xss k)) ds) ∧ (putsL [] (flatTo xss k)).length ≤ most ∧
    a = { tmps := #[.func (.func 75) #[] #[], .int .i64 most, .slice ap m cp, undef, .pointer (some ⟨N, 0, none⟩), undef, .pointer (some ⟨N + 1, 0, none⟩), .bool false, .pointer (some ⟨N + 1 + 1, 0, none⟩), .pointer (some ⟨N + 1 + 1 + 1, 0, none⟩), undef, u11, undef,
      .func (.func 75) #[] #[], .agg #[.slice none 0 0, .func (.func 75) #[] #[]], .slice ap m cp, .int .i64 m, .int .i64 k, u18, u19, u20, u21, undef, undef, undef, undef, undef, undef, undef, undef, undef, undef, u32, undef, undef], defers := marks ds }) (fun a _ => m - (intOf (a.tmps.getD 17 undef)).toNat) ?_ ?_
  · exact ⟨0, .slice none 0 0, [], undef, undef, undef, undef, undef, undef, Nat.zero_le _, hB0, Nat.zero_le _, rfl⟩
  clear hB0
  rintro a W ⟨k, v, ds, u11, u18, u19, u20, u21, u32, hk, HB, hlen, rfl⟩
  by_cases hlt : k < m
  · obtain ⟨b, o, rfl, hc⟩ := hpart k hlt
    have hc2 : W.cell? ⟨b, o + k, none⟩ = some (.func (.func (gs k)) #[] (lbs k)) := (HB.out.b.cell (p := ⟨b, o + k, none⟩) (by rw [HN.out]; exact World.block_lt_of_cell? _ _ hc)).trans hc
    have hi4 : (0 : Int) ≤ k := by omega
    have hi5 : (k : Int) < m := by omega
    have hseqW : Seqx Tryz.prog (gs k) (lbs k) rowV (xss k) (fun b => b < w.heap.size) W := (HSEQ.out k hlt).mod ⟨HB.out.b.os, HB.out.b.tape, HB.out.b.output, by have := HB.out.b.size; have := HN.out; omega, fun b hb hn => HB.out.b.block b (by have := HN.out; omega)⟩
    have hRa : ∀ b, b < w.heap.size → b < W.heap.size := fun b hb => by have := HB.out.s; have := HN.out; omega
    have HSQ : Hid (Seqx Tryz.prog (gs k) (lbs k) rowV (xss k) (fun b => b < w.heap.size) W) := hseqW
    have HRA : Hid (∀ b, b < w.heap.size → b < W.heap.size) := hRa
    have HFL : Hid (∀ pre, pre <+: xss k → (putsL [] (flatTo xss k ++ pre)).length ≤ 1000000) := fun pre hpre => by
      have h1 := (length_putsL (flatTo xss k ++ pre) []).2
      have h2 := hpre.length_le
      have h3 : ∀ n, k < n → n ≤ m → (flatTo xss k).length + (xss k).length ≤ (flatTo xss n).length := by
        intro n
        induction n with
        | zero => intro h; omega
        | succ n ih =>
          intro h h'
          have e0 : flatTo xss (n + 1) = flatTo xss n ++ xss n := rfl
          rw [e0, List.length_append]
          by_cases e : k = n
          · subst e; omega
          · have := ih (by omega) (by omega); omega
      have h4 := h3 m hlt (Nat.le_refl _)
      have h5 := HTOT.out
      simp only [List.length_nil, List.length_append, Nat.zero_add] at h1
      omega
    have HI0 : Hid (MrgI w N most ds (flatTo xss k) true [] W (fun _ => False)) := ⟨v, by rw [List.append_nil]; exact HB.out, fun _ _ h => h, fun _ _ h => h, fun _ _ h => h, fun _ => by rw [List.append_nil]; exact hlen⟩
    have hs4 := HB.out.s
    clear hseqW hRa
    go_wp2
    refine (wpIn_wide (n := 0)).1 ?_
    refine wp_rangeX (gf := gs k) rfl (HEG.out k hlt) HSQ.out HRA.out (MrgI w N most ds (flatTo xss k) true) (MrgX w N most ds (flatTo xss k)) (MrgI_stb _ _ _ _ _ _) (MrgX_stb _ _ _ _ _) (fun _ => False) (fun _ h => h.elim) HI0.out
      (fun x => RowBox (N + 4) (fun B => { tmps := #[.func (.func 75) #[] #[], .int .i64 most, .slice (some ⟨b, o, none⟩) m cp, undef, .pointer (some ⟨N, 0, none⟩), undef, .pointer (some ⟨N + 1, 0, none⟩), .bool false, .pointer (some ⟨N + 1 + 1, 0, none⟩), .pointer (some ⟨N + 1 + 1 + 1, 0, none⟩), undef, .func (.func (gs k)) #[] (lbs k), .pointer (some ⟨B, 0, none⟩),
        .func (.func 75) #[] #[], .agg #[.slice none 0 0, .func (.func 75) #[] #[]], .slice (some ⟨b, o, none⟩) m cp, .int .i64 m, .int .i64 k, .bool true, .pointer (some ⟨b, o + k, none⟩), .func (.func (gs k)) #[] (lbs k), .func (.func (gs k)) #[] (lbs k), .agg #[.string x.key, .int .i64 x.ver, .string x.val, .bool x.gone], undef, undef, undef, undef, undef, undef, undef, undef, undef, u32, undef, undef], defers := [] }) x)
      (fun x a' => RowBox_stb _ _ x a') ?assign ?body ?done ?stop
    case assign =>
      rintro l2 pre x W3 Y K ⟨_, hB3, _⟩ hYl hYa hK
      have h3s := hB3.s
      unfold rowV
      gi_wp2
      refine hK _ _ (mod_alloc _ _ _) ⟨W3.heap.size, h3s, by simp, by unfold rowCells; simp [go_sem], fun h => ?_, rfl⟩
      have := hYa _ h
      omega
    case body =>
      rintro l2 pre x a' W3 Y hYl hYa ⟨v3, hB3, y1, y2, y3, y4⟩ ⟨B, hBlo, hBs, hr, hYB, rfl⟩ hpre
      have HP : Hid (putsL [] (flatTo xss k ++ (pre ++ [x])) = putL (putsL [] (flatTo xss k ++ pre)) x) := by
        rw [Hid, ← List.append_assoc, putsL_snoc]
      have hfl := HFL.out pre ((List.prefix_append pre [x]).trans hpre)
      obtain ⟨r0, r1, r2, r3⟩ := hr
      simp only [Nat.zero_add] at r1 r2 r3
      have HB3 : Hid (MrgB w N most true W3 v3 (putsL [] (flatTo xss k ++ pre)) ds) := hB3
      have hl3 := hB3.l
      have hs3 := hB3.s
      clear hB3
      generalize putsL [] (flatTo xss k ++ pre) = ys at *
      gi_wp2
      refine ⟨trivial, rfl, (CallsIn.inRound l2 (callsIn_wide.2 (add_any (N + 2) v3 ys x (N + 4) W3 hl3 (by omega) hs3))).mono ?_⟩
      rintro e W4 ⟨⟨u, rfl⟩, v4, l4, m4, o4⟩
      obtain ⟨L4, hL4⟩ : ∃ L4, (putL ys x).length = L4 := ⟨_, rfl⟩
      have HL4 : Hid ((putL ys x).length = L4) := hL4
      have k0 := l4.own
      rw [hL4] at k0
      clear hL4
      obtain ⟨a4, c4, rfl⟩ := owns_form k0
      clear k0
      have k0 : W4.cell? ⟨N + 1 + 1, 0, none⟩ = some (.slice a4 L4 c4) := l4.c0
      have h4s : L4 ≤ 1000001 := by
        have := (length_putL ys x).2
        have := HL4.out
        omega
      have k1 : W4.cell? ⟨N, 0, none⟩ = some (.int .i64 most) := m4.cell HB3.out.c (by rintro (h | h); dsimp only at h; omega; have := (hl3.own.lt _ h).1; dsimp only at this; omega)
      have hn3 : ¬ (N + 3 = N + 2 ∨ v3.ownBlock = some (N + 3)) := by
        rintro (h | h)
        · omega
        · have := (hl3.own.lt _ h).1
          omega
      have k2 : W4.cell? ⟨N + 1 + 1 + 1, 0, none⟩ = some (.bool true) := m4.cell HB3.out.t hn3
      have k3 : W4.frozen? ⟨N + 1 + 1 + 1, 0, none⟩ = false := (m4.frozen (a := ⟨N + 3, 0, none⟩) (by dsimp only; omega) hn3).trans HB3.out.tf
      have HA := fun f => MrgB.add f HB3.out l4 m4 o4
      have HKP : Hid (∀ W5, Mod (fun b => b = N + 2 ∨ v3.ownBlock = some b ∨ b = N + 3) W3 W5 → Kp (fun b => b < w.heap.size) Y W3 W5) := fun W5 hm => hm.mono (fun b h => by
        have hwN := HN.out
        rcases h with rfl | h | rfl
        · rintro (h2 | h2)
          · omega
          · exact y1 _ (by omega) h2
        · have := (hl3.own.lt b h).1
          rintro (h2 | h2)
          · omega
          · exact y2 b h h2
        · rintro (h2 | h2)
          · omega
          · exact y1 _ (by omega) h2)
      have HYO : Hid (∀ b, (Value.slice a4 L4 c4).ownBlock = some b → ¬ Y b) := fun b hb hy => by
        rcases o4 b hb with h | h
        · exact y2 b h hy
        · have := hYa b hy
          omega
      by_cases hle : L4 ≤ most
      · have hd : decide ((L4 : Int) ≤ (most : Int)) = true := decide_eq_true (by omega)
        have HH := HA true
        have HN1 : Hid (MrgB w N most true (W4.setCell ⟨N + 1 + 1 + 1, 0, none⟩ (.bool true)) (.slice a4 L4 c4) (putL ys x) ds ∧ Mod (fun b => b = N + 2 ∨ v3.ownBlock = some b ∨ b = N + 3) W3 (W4.setCell ⟨N + 1 + 1 + 1, 0, none⟩ (.bool true))) := HH
        clear HH HA
        gi_wp2
        refine ⟨HKP.out _ HN1.out.2, .slice a4 L4 c4, ?_, y1, HYO.out, y3, fun _ => ?_⟩
        · rw [HP.out]
          exact HN1.out.1
        · rw [HP.out, HL4.out]
          exact hle
      · have hd : decide ((L4 : Int) ≤ (most : Int)) = false := decide_eq_false (by omega)
        have HH := HA false
        have HN1 : Hid (MrgB w N most false (W4.setCell ⟨N + 1 + 1 + 1, 0, none⟩ (.bool false)) (.slice a4 L4 c4) (putL ys x) ds ∧ Mod (fun b => b = N + 2 ∨ v3.ownBlock = some b ∨ b = N + 3) W3 (W4.setCell ⟨N + 1 + 1 + 1, 0, none⟩ (.bool false))) := HH
        clear HH HA
        gi_wp2
        refine ⟨HKP.out _ HN1.out.2, rfl, ?_, .slice a4 L4 c4, ?_, y1, HYO.out, y3, fun h => by cases h⟩
        · rw [HP.out, HL4.out]
          omega
        · rw [HP.out]
          exact HN1.out.1
    case done =>
      rintro D W5 Y hD hYD ⟨v5, hB5, y1, y2, y3, y4⟩ hdef
      have hBk : MrgB w N most true W5 v5 (putsL [] (flatTo xss (k + 1))) (D :: ds) := by
        refine ⟨hB5.l, hB5.c, hB5.r0, hB5.r1, hB5.rf, hB5.t, hB5.tf, hB5.s, fun E hE => ?_, ?_, hB5.b⟩
        · rcases List.mem_cons.1 hE with rfl | hE
          · exact ⟨by omega, hdef, fun e => y2 _ e hYD⟩
          · exact hB5.d E hE
        · rw [List.nodup_cons]
          exact ⟨fun h => y3 D h hYD, hB5.dd⟩
      have hlk : (putsL [] (flatTo xss (k + 1))).length ≤ most := y4 rfl
      have HBk : Hid (MrgB w N most true W5 v5 (putsL [] (flatTo xss (k + 1))) (D :: ds) ∧ (putsL [] (flatTo xss (k + 1))).length ≤ most) := ⟨hBk, hlk⟩
      clear hBk hlk hB5 y1 y2 y3 y4
      go_wp2
      refine ⟨⟨k + 1, v5, D :: ds, _, _, _, _, _, _, by omega, HBk.out.1, HBk.out.2, rfl⟩, ?_⟩
      simp [intOf]
      omega
    case stop =>
      rintro D c pre W5 Y hD hYD hpre ⟨rfl, hlong, v5, hB5, y1, y2, y3, y4⟩ hdef
      have HB5 : Hid (MrgB w N most false W5 v5 (putsL [] (flatTo xss k ++ pre)) (D :: ds)) := by
        refine ⟨hB5.l, hB5.c, hB5.r0, hB5.r1, hB5.rf, hB5.t, hB5.tf, hB5.s, fun E hE => ?_, ?_, hB5.b⟩
        · rcases List.mem_cons.1 hE with rfl | hE
          · exact ⟨by omega, hdef, fun e => y2 _ e hYD⟩
          · exact hB5.d E hE
        · rw [List.nodup_cons]
          exact ⟨fun h => y3 D h hYD, hB5.dd⟩
      clear hB5 y1 y2 y3 y4
      refine wpIn_wide.2 ?_
      go_wp2
      obtain ⟨L5, hL5⟩ : ∃ L5, (putsL [] (flatTo xss k ++ pre)).length = L5 := ⟨_, rfl⟩
      have HL5 : Hid ((putsL [] (flatTo xss k ++ pre)).length = L5) := hL5
      have o5 := HB5.out.l.own
      rw [hL5] at o5
      clear hL5
      obtain ⟨a5, c5, rfl⟩ := owns_form o5
      have e0 : W5.cell? ⟨N + 1 + 1, 0, none⟩ = some (.slice a5 L5 c5) := HB5.out.l.c0
      have e1 : W5.cell? ⟨N + 1 + 1, 1, none⟩ = some (.func (.func 75) #[] #[]) := HB5.out.l.c1
      have e2 : W5.cell? ⟨N + 1 + 1 + 1, 0, none⟩ = some (.bool false) := HB5.out.t
      have e3 := HB5.out.r0
      obtain ⟨u1, e4⟩ := HB5.out.r1
      have e5 := HB5.out.rf
      have hs5 := HB5.out.s
      refine wp_region_noPanic ?_
      refine region_upto (fun W' => W'.cell? ⟨N + 1 + 1, 0, none⟩ = some (.slice a5 L5 c5) ∧ W'.cell? ⟨N + 1 + 1, 1, none⟩ = some (.func (.func 75) #[] #[]) ∧ W'.cell? ⟨N + 1 + 1 + 1, 0, none⟩ = some (.bool false)) 3 (by kernel_rfl) ⟨e0, e1, e2⟩ (fun hS => ?_)
      refine upto_take (i := 0) (v := ?_) rfl (by kernel_rfl) (by kernel_rfl) (by kernel_rfl) (by kernel_rfl) (fun _ _ _ h => h) (by rfl) hS ?_ ?_
      rotate_left
      · intro wS hSw
        try dsimp only at hSw
        first | (go_simp; done) | (go_simp; with_reducible rfl)
      try simp only [Act.put, List.getElem_toArray, List.getElem_cons_zero, List.getElem_cons_succ, List.setIfInBounds_toArray, List.set_cons_zero, List.set_cons_succ]
      refine upto_take (i := 1) (v := ?_) rfl (by kernel_rfl) (by kernel_rfl) (by kernel_rfl) (by kernel_rfl) (fun _ _ _ h => h) (by rfl) hS ?_ ?_
      rotate_left
      · intro wS hSw
        try dsimp only at hSw
        first | (go_simp; done) | (go_simp; with_reducible rfl)
      try simp only [Act.put, List.getElem_toArray, List.getElem_cons_zero, List.getElem_cons_succ, List.setIfInBounds_toArray, List.set_cons_zero, List.set_cons_succ]
      refine upto_step (i := 2) (by kernel_rfl) rfl ?_
      intro K hK
      go_simp
      obtain ⟨W6, hW6⟩ : ∃ W6, W6 = ((W5.setCell ⟨N + 1, 0, none⟩ (.slice a5 L5 c5)).setCell ⟨N + 1, 1, none⟩ (.func (.func 75) #[] #[])).drew := ⟨_, rfl⟩
      have hm6 : Mod (fun b => b = N + 1) W5 W6 := by
        rw [hW6]
        exact ((Mod.of_set W5 ⟨N + 1, 0, none⟩ _).trans (Mod.of_set _ ⟨N + 1, 1, none⟩ _)).trans (Mod.of_below (Below.drew (Below.refl _ _)))
      have g0 : W6.cell? ⟨N + 1, 0, none⟩ = some (.slice a5 L5 c5) := by
        rw [hW6]
        exact (set_other (w := W5.setCell ⟨N + 1, 0, none⟩ (.slice a5 L5 c5)) (by simp)).trans (set_same e3)
      have g1 : W6.cell? ⟨N + 1, 1, none⟩ = some (.func (.func 75) #[] #[]) := by
        rw [hW6]
        exact set_same ((set_other (by simp)).trans e4)
      rw [← hW6]
      clear hW6
      refine hK _ _ (fun _ => ⟨hm6.cell e0 (by dsimp only; omega), hm6.cell e1 (by dsimp only; omega), hm6.cell e2 (by dsimp only; omega)⟩) ?_
      clear hK K hS
      try simp only [Act.put, List.getElem_toArray, List.getElem_cons_zero, List.getElem_cons_succ, List.setIfInBounds_toArray, List.set_cons_zero, List.set_cons_succ]
      refine upto_step (i := 3) (by kernel_rfl) rfl ?_
      intro K hK
      go_simp
      refine hK _ _ (fun h => absurd rfl h) ?_
      clear hK K
      try simp only [Act.put, List.getElem_toArray, List.getElem_cons_zero, List.getElem_cons_succ, List.setIfInBounds_toArray, List.set_cons_zero, List.set_cons_succ]
      refine upto_done (by kernel_rfl) ?_
      refine NoPanic.normal ?_
      have HD : Hid (∀ E ∈ (D :: ds), N + 4 ≤ E ∧ W6.heap[E]? = some (.deferred (some [])) ∧ (Value.slice a5 L5 c5).ownBlock ≠ some E) := fun E hD => by
        obtain ⟨p1, p2, p3⟩ := HB5.out.d E hD
        exact ⟨p1, (hm6.block E (Array.getElem?_eq_some_iff.1 p2).1 (by omega)).trans p2, p3⟩
      have HU := unmark_mod (D :: ds) W6
      have hz6 := hm6.size
      have y0 := HU.cell g0 (fun h => by have := (HD.out _ h).1; dsimp only at this; omega)
      have y1 := HU.cell g1 (fun h => by have := (HD.out _ h).1; dsimp only at this; omega)
      have HBL : Hid (Below N w (unmark W6 (D :: ds))) := by
        have h1 := HB5.out.b
        have h2 := HB5.out.s
        have h3 := HU.size
        refine ⟨HU.os.trans (hm6.os.trans h1.os), HU.tape.trans (hm6.tape.trans h1.tape), HU.output.trans (hm6.output.trans h1.output), by have := h1.size; omega, fun b hb => ?_⟩
        have hbl : b < W5.heap.size := by omega
        exact ((HU.block b (by omega) (fun h => by have := (HD.out _ h).1; omega)).trans (hm6.block b hbl (by omega))).trans (h1.block b hb)
      have HOW : Hid ((unmark W6 (D :: ds)).ownsRow (N + 4) 76 4 (.slice a5 L5 c5) L5 _) := HU.owns (hm6.owns o5 (fun b hb e => by have := (o5.lt b hb).1; omega)) (fun b hb h => (HD.out b h).2.2 hb)
      clear HU
      go_wp2
      refine leaves_marks (D :: ds) _ (fun D hD => (HD.out D hD).2.1) HB5.out.dd ?_
      refine ⟨.tuple #[.agg #[.slice a5 L5 c5, .func (.func 75) #[] #[]], .bool false], by simp [results, Tryz.results74, go_sem, y0, y1], ?_⟩
      refine ⟨.slice a5 L5 c5, false, rfl, ⟨_, _, _, rfl⟩, by rw [← HN.out]; exact HBL.out, ?_, ?_⟩
      · intro h; cases h
      · intro _
        have h1 : (flatTo xss k ++ pre) <+: flatTo xss m := by
          have h3 : ∀ n, k < n → n ≤ m → flatTo xss (k + 1) <+: flatTo xss n := by
            intro n
            induction n with
            | zero => intro h; omega
            | succ n ih =>
              intro h h'
              by_cases e : k = n
              · subst e; exact List.prefix_refl _
              · exact (ih (by omega) (by omega)).trans (List.prefix_append _ _)
          refine List.IsPrefix.trans ?_ (h3 m hlt (Nat.le_refl _))
          exact (List.prefix_append_right_inj _).2 hpre
        have h2 := length_putsL_pre (ys := []) h1
        omega
  · obtain rfl : k = m := by omega
    have hi5 : ¬ ((k : Int) < k) := by omega
    have hi6 : decide (k < k) = false := decide_eq_false hlt
    go_wp2
    obtain ⟨L5, hL5⟩ : ∃ L5, (putsL [] (flatTo xss k)).length = L5 := ⟨_, rfl⟩
    have HL5 : Hid ((putsL [] (flatTo xss k)).length = L5) := hL5
    have o5 := HB.out.l.own
    rw [hL5] at o5
    clear hL5
    obtain ⟨a5, c5, rfl⟩ := owns_form o5
    have e0 : W.cell? ⟨N + 1 + 1, 0, none⟩ = some (.slice a5 L5 c5) := HB.out.l.c0
    have e1 : W.cell? ⟨N + 1 + 1, 1, none⟩ = some (.func (.func 75) #[] #[]) := HB.out.l.c1
    have e2 : W.cell? ⟨N + 1 + 1 + 1, 0, none⟩ = some (.bool true) := HB.out.t
    have e3 := HB.out.r0
    obtain ⟨u1, e4⟩ := HB.out.r1
    have e5 := HB.out.rf
    have hs5 := HB.out.s
    refine wp_region_noPanic ?_
    refine region_upto (fun W' => W'.cell? ⟨N + 1 + 1, 0, none⟩ = some (.slice a5 L5 c5) ∧ W'.cell? ⟨N + 1 + 1, 1, none⟩ = some (.func (.func 75) #[] #[]) ∧ W'.cell? ⟨N + 1 + 1 + 1, 0, none⟩ = some (.bool true)) 3 (by kernel_rfl) ⟨e0, e1, e2⟩ (fun hS => ?_)
    refine upto_take (i := 0) (v := ?_) rfl (by kernel_rfl) (by kernel_rfl) (by kernel_rfl) (by kernel_rfl) (fun _ _ _ h => h) (by rfl) hS ?_ ?_
    rotate_left
    · intro wS hSw
      try dsimp only at hSw
      first | (go_simp; done) | (go_simp; with_reducible rfl)
    try simp only [Act.put, List.getElem_toArray, List.getElem_cons_zero, List.getElem_cons_succ, List.setIfInBounds_toArray, List.set_cons_zero, List.set_cons_succ]
    refine upto_take (i := 1) (v := ?_) rfl (by kernel_rfl) (by kernel_rfl) (by kernel_rfl) (by kernel_rfl) (fun _ _ _ h => h) (by rfl) hS ?_ ?_
    rotate_left
    · intro wS hSw
      try dsimp only at hSw
      first | (go_simp; done) | (go_simp; with_reducible rfl)
    try simp only [Act.put, List.getElem_toArray, List.getElem_cons_zero, List.getElem_cons_succ, List.setIfInBounds_toArray, List.set_cons_zero, List.set_cons_succ]
    refine upto_step (i := 2) (by kernel_rfl) rfl ?_
    intro K hK
    go_simp
    obtain ⟨W6, hW6⟩ : ∃ W6, W6 = ((W.setCell ⟨N + 1, 0, none⟩ (.slice a5 L5 c5)).setCell ⟨N + 1, 1, none⟩ (.func (.func 75) #[] #[])).drew := ⟨_, rfl⟩
    have hm6 : Mod (fun b => b = N + 1) W W6 := by
      rw [hW6]
      exact ((Mod.of_set W ⟨N + 1, 0, none⟩ _).trans (Mod.of_set _ ⟨N + 1, 1, none⟩ _)).trans (Mod.of_below (Below.drew (Below.refl _ _)))
    have g0 : W6.cell? ⟨N + 1, 0, none⟩ = some (.slice a5 L5 c5) := by
      rw [hW6]
      exact (set_other (w := W.setCell ⟨N + 1, 0, none⟩ (.slice a5 L5 c5)) (by simp)).trans (set_same e3)
    have g1 : W6.cell? ⟨N + 1, 1, none⟩ = some (.func (.func 75) #[] #[]) := by
      rw [hW6]
      exact set_same ((set_other (by simp)).trans e4)
    rw [← hW6]
    clear hW6
    refine hK _ _ (fun _ => ⟨hm6.cell e0 (by dsimp only; omega), hm6.cell e1 (by dsimp only; omega), hm6.cell e2 (by dsimp only; omega)⟩) ?_
    clear hK K hS
    try simp only [Act.put, List.getElem_toArray, List.getElem_cons_zero, List.getElem_cons_succ, List.setIfInBounds_toArray, List.set_cons_zero, List.set_cons_succ]
    refine upto_step (i := 3) (by kernel_rfl) rfl ?_
    intro K hK
    go_simp
    refine hK _ _ (fun h => absurd rfl h) ?_
    clear hK K
    try simp only [Act.put, List.getElem_toArray, List.getElem_cons_zero, List.getElem_cons_succ, List.setIfInBounds_toArray, List.set_cons_zero, List.set_cons_succ]
    refine upto_done (by kernel_rfl) ?_
    refine NoPanic.normal ?_
    have HD : Hid (∀ D ∈ ds, N + 4 ≤ D ∧ W6.heap[D]? = some (.deferred (some [])) ∧ (Value.slice a5 L5 c5).ownBlock ≠ some D) := fun D hD => by
      obtain ⟨p1, p2, p3⟩ := HB.out.d D hD
      exact ⟨p1, (hm6.block D (Array.getElem?_eq_some_iff.1 p2).1 (by omega)).trans p2, p3⟩
    have HU := unmark_mod ds W6
    have hz6 := hm6.size
    have y0 := HU.cell g0 (fun h => by have := (HD.out _ h).1; dsimp only at this; omega)
    have y1 := HU.cell g1 (fun h => by have := (HD.out _ h).1; dsimp only at this; omega)
    have HBL : Hid (Below N w (unmark W6 ds)) := by
      have h1 := HB.out.b
      have h2 := HB.out.s
      have h3 := HU.size
      refine ⟨HU.os.trans (hm6.os.trans h1.os), HU.tape.trans (hm6.tape.trans h1.tape), HU.output.trans (hm6.output.trans h1.output), by have := h1.size; omega, fun b hb => ?_⟩
      have hbl : b < W.heap.size := by omega
      exact ((HU.block b (by omega) (fun h => by have := (HD.out _ h).1; omega)).trans (hm6.block b hbl (by omega))).trans (h1.block b hb)
    have HOW : Hid ((unmark W6 ds).ownsRow (N + 4) 76 4 (.slice a5 L5 c5) L5 _) := HU.owns (hm6.owns o5 (fun b hb e => by have := (o5.lt b hb).1; omega)) (fun b hb h => (HD.out b h).2.2 hb)
    clear HU
    go_wp2
    refine leaves_marks ds _ (fun D hD => (HD.out D hD).2.1) HB.out.dd ?_
    refine ⟨.tuple #[.agg #[.slice a5 L5 c5, .func (.func 75) #[] #[]], .bool true], by simp [results, Tryz.results74, go_sem, y0, y1], ?_⟩
    refine ⟨.slice a5 L5 c5, true, rfl, ⟨_, _, _, rfl⟩, by rw [← HN.out]; exact HBL.out, ?_, ?_⟩
    · intro _
      rw [HL5.out]
      exact ⟨owns_base HOW.out (by have := HN.out; omega), by have := HL5.out; omega⟩
    · intro h; cases h

end Go.Proofs.YtdfapehonegeeaaGreat

/-
  The program's MergeTables.
-/
namespace Go.Proofs.YtdfapehonegeeaaGreat
open Go.RowKit Go.Shelf
set_option linter.unusedSectionVars false
variable [DecidableEq Rw] [Inhabited Rw] [DecidableEq TabR] [Inhabited TabR]
set_option linter.unusedVariables false
set_option linter.unusedSimpArgs false
attribute [local go_sem ↓] Go.wp_at_zero Go.wp_at_succ
attribute [local go_sem] run_store_func

theorem infoSeq : (Tryz.prog.info? 109).map (fun i => (i.zero, i.size, i.bytes)) = some (some .nilFunc, 1, 8) := by kernel_rfl
/-- an iterator over the rows that lie in the slice of box B -/
def valF (B : Nat) : Value := .func (.func 161) #[] #[.pointer (some ⟨B, 0, none⟩)]
/-- iterators gathered: each one's box holds rows -/
def PrtI (w W : World) (base : Nat) (pv : Value) (k : Nat) (Bs : Nat → Nat) (f : Nat → List Rw) : Prop :=
  W.ownsRow base 109 1 pv k ((List.range k).map (fun i => valF (Bs i))) ∧ ∀ i, i < k → Bs i < W.heap.size ∧ pv.ownBlock ≠ some (Bs i) ∧ ∃ u, W.cell? ⟨Bs i, 0, none⟩ = some u ∧ RowsV w u (f i)
theorem PrtI.below {w W W' : World} {base : Nat} {pv : Value} {k : Nat} {Bs : Nat → Nat} {f : Nat → List Rw} (h : PrtI w W base pv k Bs f) (hb : Below W.heap.size W W') : PrtI w W' base pv k Bs f := by
  refine ⟨owns_below h.1 hb, fun i hi => ?_⟩
  obtain ⟨h1, h2, u, h3, h4⟩ := h.2 i hi
  exact ⟨Nat.lt_of_lt_of_le h1 hb.size, h2, u, cell_keep hb h3, h4⟩
/-- one more -/
theorem PrtI.push {w W W' : World} {base : Nat} {pv pv' : Value} {k B : Nat} {Bs : Nat → Nat} {f : Nat → List Rw} {u : Value} (h : PrtI w W base pv k Bs f) (hB : B < W.heap.size) (hBn : pv.ownBlock ≠ some B) (hu : W.cell? ⟨B, 0, none⟩ = some u) (hr : RowsV w u (f k))
    (ho : W'.ownsRow base 109 1 pv' (k + 1) ((List.range k).map (fun i => valF (Bs i)) ++ [valF B])) (hg : W.grownBy W' pv.ownBlock) (hv : pv'.ownBlock = pv.ownBlock ∨ pv'.ownBlock = some W.heap.size) :
    PrtI w W' base pv' (k + 1) (upd Bs k B) f := by
  have hs := hg.size
  refine ⟨?_, fun i hi => ?_⟩
  · have e : (List.range (k + 1)).map (fun i => valF (upd Bs k B i)) = (List.range k).map (fun i => valF (Bs i)) ++ [valF B] := by
      rw [List.range_succ, List.map_append, List.map_singleton, upd_at]
      congr 1
      refine List.map_congr_left (fun i hi => ?_)
      rw [upd_ne _ _ (by have := List.mem_range.1 hi; omega)]
    rw [e]
    exact ho
  · by_cases e : i = k
    · subst e
      rw [upd_at]
      refine ⟨by omega, ?_, u, cell_grown hg hu (fun h => hBn h.symm), hr⟩
      rcases hv with hv | hv
      · rw [hv]; exact hBn
      · rw [hv]; intro e; simp only [Option.some.injEq] at e; omega
    · rw [upd_ne _ _ e]
      obtain ⟨h1, h2, u', h3, h4⟩ := h.2 i (by omega)
      refine ⟨by omega, ?_, u', cell_grown hg h3 (fun h => h2 h.symm), h4⟩
      rcases hv with hv | hv
      · rw [hv]; exact h2
      · rw [hv]; intro e; simp only [Option.some.injEq] at e; omega
theorem PrtI.parts {w W : World} {base : Nat} {pv : Value} {k : Nat} {Bs : Nat → Nat} {f : Nat → List Rw} (h : PrtI w W base pv k Bs f) : PartsV W pv k (fun _ => 161) (fun i => #[.pointer (some ⟨Bs i, 0, none⟩)]) := by
  rcases h.1.2 with ⟨rfl, rfl⟩ | ⟨g, cap, cur, rfl, _, hg, h1, h2, _⟩
  · exact ⟨none, 0, rfl, by omega, by unfold maxLen; omega, fun i hi => absurd hi (Nat.not_lt_zero _)⟩
  · refine ⟨_, cap, rfl, h1, h2, fun i hi => ⟨g, 0, rfl, ?_⟩⟩
    have hc := h.1.cellAt i (by omega)
    rw [Nat.zero_add, hc]
    simp [hi, valF]

set_option maxRecDepth 100000 in
set_option maxHeartbeats 4000000 in
theorem implMerge_u (x : Value) (xss : List (List Rw)) (w : World) (hx : rowssR.V w x xss) :
    Calls Tryz.prog 90 #[x] w fun e w' => ∃ v F, e = .returned v ∧ tabRR.O w' w.heap.size F v (mergeD xss) ∧ Below w.heap.size w w' := by
  obtain ⟨ax, cx, rfl, hcx, hmx, hx⟩ := hx
  unfold maxLen at hmx
  obtain ⟨i0, hi0, hz0, hz1, hz2⟩ := info_parts infoSeq
  have HN : Hid (Fit (mergeL xss)) := mergeL_fit (fun i hi => by
    obtain ⟨_, _, _, _, _, _, h⟩ := hx i hi
    exact h.2)
  have HD8 : Hid (8 < xss.length → mergeD xss = ⟨2, []⟩) := fun h => by unfold mergeD; rw [if_pos h]
  have HDF : Hid (¬ 8 < xss.length → ∀ k, k < xss.length → (∀ j, j < k → tabF (xss.getD j default) = 0) → tabF (xss.getD k default) ≠ 0 → mergeD xss = ⟨tabF (xss.getD k default), []⟩) := fun h k hk h1 h2 => by
    have e := firstF_at hk h1 h2
    unfold mergeD
    rw [if_neg h, if_pos (by rw [e]; exact h2), e]
  have HDM : Hid (¬ 8 < xss.length → (∀ j, j < xss.length → tabF (xss.getD j default) = 0) → mergeD xss = if 200 < (mergeL xss).length then ⟨2, []⟩ else ⟨0, mergeL xss⟩) := fun h h1 => by
    have e := firstF_none h1
    unfold mergeD
    rw [if_neg h, if_neg (by rw [e]; simp)]
  have HTL : Hid (¬ 8 < xss.length → (∀ j, j < xss.length → tabF (xss.getD j default) = 0) → (flatTo (fun i => xss.getD i default) xss.length).length ≤ 1000000) := fun h h1 => by
    have h2 := flatTo_len (f := fun i => xss.getD i default) (M := 200) (n := xss.length) (fun i hi => (tabF_all (h1 i hi)).1)
    omega
  have hM : putsL [] (flatTo (fun i => xss.getD i default) xss.length) = mergeL xss := rfl
  obtain ⟨D, hD⟩ : ∃ D, mergeD xss = D := ⟨_, rfl⟩
  rw [hD] at HD8 HDF HDM ⊢
  clear hD
  generalize hN : xss.length = n at *
  have HM : Hid (putsL [] (flatTo (fun i => xss.getD i default) n) = mergeL xss) := hM
  clear hN hM
  by_cases h8 : 8 < n
  · have hi8 : decide ((8 : Int) < n) = true := decide_eq_true (by omega)
    have hi9 : (8 : Int) < n := by omega
    have E := HD8.out h8
    subst E
    go_enter Tryz.func90, Tryz.ntmps90
    go_wp2
    refine bodyPost_ret (v := .agg #[.int .i64 2, .slice none 0 0]) (by simp [results, Tryz.results90, go_sem]) rfl ?_
    obtain ⟨F, hF⟩ := tabRR_nil (w.alloc (.cells #[.int .i64 2, .slice none 0 0] 61)) w.heap.size 2
    exact ⟨_, rfl, ⟨F, hF⟩, by (repeat (first | exact Below.refl _ _ | assumption | refine Below.drew ?_ | refine balloc ?_ _ | refine bset ?_ (by simp; omega) _ | refine bset ?_ (by simp) _ | refine bstep ?_ (by assumption)))⟩
  · have hi8 : decide ((8 : Int) < n) = false := decide_eq_false (by omega)
    have hi9 : ¬ ((8 : Int) < n) := by omega
    have HDF2 := HDF.out h8
    have HDF : Hid (∀ k, k < n → (∀ j, j < k → tabF (xss.getD j default) = 0) → tabF (xss.getD k default) ≠ 0 → D = ⟨tabF (xss.getD k default), []⟩) := HDF2
    clear HDF2
    go_enter Tryz.func90, Tryz.ntmps90
    go_wp2
    go_loopw [3, 15] (fun p i W => ∃ (k : Nat) (Bs : Nat → Nat), k ≤ n ∧ i = .int .i64 k ∧ Hid (∀ j, j < k → tabF (xss.getD j default) = 0) ∧ Hid (PrtI w W (w.heap.size + 1) p k Bs (fun i => xss.getD i default)) ∧ W.cell? ⟨w.heap.size, 0, none⟩ = some (.int .i64 0) ∧ W.cell? ⟨w.heap.size, 1, none⟩ = some (.slice none 0 0) ∧ (∀ o, W.frozen? ⟨w.heap.size, o, none⟩ = false) ∧ w.heap.size < W.heap.size ∧ Below w.heap.size w W) (fun _ i _ => n - (intOf i).toNat)
    case atStart =>
      refine ⟨0, fun _ => 0, Nat.zero_le _, rfl, fun j h => absurd h (Nat.not_lt_zero _), ⟨World.ownsRow_nil _ _ _ _, fun i hi => absurd hi (Nat.not_lt_zero _)⟩, by simp [go_sem], by simp [go_sem], fun o => by simp [go_sem], by simp, balloc (Below.refl _ _) _⟩
    case round =>
      obtain ⟨k, Bs, hk, rfl, HZ, HP, b0, b1, bf, bz, hbl⟩ := hrel
      have hi4 : (0 : Int) ≤ k := by omega
      by_cases hlt : k < n
      · obtain ⟨b, o, u, rfl, _, hc, hu⟩ := hx k hlt
        have g0 : wr.cell? ⟨b, o + k, none⟩ = some u := cell_keep hbl (cells1 hc)
        have hX := RowsV_below hu.1 hbl
        have HX : Hid (RowsV w u (xss.getD k default)) := hu.1
        have hi5 : (k : Int) < n := by omega
        clear hc hu hx
        have hXf := hX
        obtain ⟨au, cu, rfl, _⟩ := hXf
        have hC := implTableFault_any _ (xss.getD k default) wr hX
        obtain ⟨m, hm⟩ : ∃ m, (xss.getD k default).length = m := ⟨_, rfl⟩
        rw [hm] at hC g0 HX
        clear hm hX
        obtain ⟨T, hT⟩ : ∃ T, tabF (xss.getD k default) = T := ⟨_, rfl⟩
        have HT : Hid (tabF (xss.getD k default) = T) := hT
        rw [hT] at hC
        clear hT
        obtain ⟨ap, cp, hap⟩ := owns_form HP.out.1
        subst hap
        go_wp2_with fail
        refine hC.mono ?_
        rintro e w1 ⟨rfl, hb1⟩
        have hB1 := bstep hbl hb1
        have q0 := cell_keep hb1 b0
        have q1 := cell_keep hb1 b1
        have qf := boxKeep ⟨bf, bz⟩ hb1
        have HP1 : Hid (PrtI w w1 (w.heap.size + 1) (.slice ap k cp) k Bs (fun i => xss.getD i default)) := HP.out.below hb1
        clear hC HP
        by_cases h0 : T = 0
        · subst h0
          have hfd := tableField
          go_wp2_with fail
          refine (tableOf_any _ _ _ _).mono ?_
          rintro e w2 ⟨rfl, hb2⟩
          unfold cmpF
          go_wp2_with fail
          refine (all_any _ _ _ _).mono ?_
          rintro e w3 ⟨rfl, hw3⟩
          have hb3 : Below w2.heap.size w2 w3 := by rw [hw3]; exact balloc (balloc (Below.refl _ _) _) _
          have HS3 : Hid (w3.heap.size = w2.heap.size + 2) := by rw [Hid, hw3]; simp
          have hc3 : w3.cell? ⟨w2.heap.size + 1, 0, none⟩ = some (.slice au m cu) := by rw [hw3]; simp [go_sem]
          clear hw3
          have hb13 := bstep hb2 hb3
          have HP3 : Hid (PrtI w w3 (w.heap.size + 1) (.slice ap k cp) k Bs (fun i => xss.getD i default)) := HP1.out.below hb13
          have ho3 := HP3.out.1
          have hB2n : (Value.slice ap k cp).ownBlock ≠ some (w2.heap.size + 1) := fun e => by
            have h1 := (HP1.out.1.lt _ e).2
            have h2 := hb2.size
            omega
          have hz13 := hb13.size
          clear HP1
          obtain ⟨C, hC⟩ : ∃ C, (List.range k).map (fun i => valF (Bs i)) = C := ⟨_, rfl⟩
          rw [hC] at ho3
          have HC : Hid ((List.range k).map (fun i => valF (Bs i)) = C) := hC
          clear hC
          go_wp2_with (at_builtin; refine wpList_append_own_at _ rfl _ _ 138 rfl (w.heap.size + 1) 109 i0 _ 1 8 Tryz.underlying138 hi0 hz0 hz1 hz2 rfl (by decide) _ k C rfl (ho3.alloc _) ⟨w3.heap.size, 0, none⟩ 1 1 [valF (w2.heap.size + 1)] rfl rfl ?c1 ?c2 ?c3 ?c4 ?c5 ?_)
          case c1 =>
            intro j u hj
            match j, hj with
            | 0, hj => simp at hj; subst hj; simp [Addr.add, go_sem, valF]
            | j + 1, hj => simp at hj
          case c2 =>
            intro u hu
            rw [List.mem_singleton] at hu
            rw [hu]
            rfl
          case c3 => unfold maxLen; omega
          case c4 => omega
          case c5 => simp; omega
          intro v' w5 o5 g5 _ l5
          have hbA : Below w3.heap.size w3 (w3.alloc (.cells #[valF (w2.heap.size + 1)] 109)) := balloc (Below.refl _ _) _
          have HPA := HP3.out.below hbA
          have o5' := o5
          rw [← HC.out] at o5'
          have hnew := PrtI.push HPA (B := w2.heap.size + 1) (by have := HS3.out; simp; omega) hB2n (cell_keep hbA hc3) HX.out o5' g5 (by rw [World.size_alloc]; exact l5)
          have hB5 : Below w.heap.size w w5 := by
            have h1 : Below w.heap.size w (w3.alloc (.cells #[valF (w2.heap.size + 1)] 109)) := by (repeat (first | exact Below.refl _ _ | assumption | refine Below.drew ?_ | refine balloc ?_ _ | refine bset ?_ (by simp; omega) _ | refine bset ?_ (by simp) _ | refine bstep ?_ (by assumption)))
            refine h1.grown g5 h1.size (fun b hb => ?_)
            have := (ho3.lt b hb).1
            omega
          have hnk : some w.heap.size ≠ (Value.slice ap k cp).ownBlock := fun e => by
            have := (ho3.lt _ e.symm).1
            omega
          have p0 := cell_grown g5 (cell_keep hbA (cell_keep hb13 q0)) hnk
          have p1 := cell_grown g5 (cell_keep hbA (cell_keep hb13 q1)) hnk
          have pf := boxKeep (boxKeep qf hb13) hbA
          have pf5 : ∀ o, w5.frozen? ⟨w.heap.size, o, none⟩ = false := fun o => ((Mod.of_grown g5).frozen (a := ⟨w.heap.size, o, none⟩) pf.2 (fun e => hnk e.symm)).trans (pf.1 o)
          have hz5 := g5.size
          have HNEW : Hid (PrtI w w5 (w.heap.size + 1) v' (k + 1) (upd Bs k (w2.heap.size + 1)) (fun i => xss.getD i default)) := hnew
          have pz : w.heap.size < w5.heap.size := Nat.lt_of_lt_of_le pf.2 hz5
          clear hnew HPA o5' hbA pf
          obtain ⟨a5, c5, rfl⟩ := owns_form o5
          go_wp2
          refine ⟨⟨k + 1, _, by omega, by go_num, fun j hj => ?_, HNEW, p0, p1, pf5, pz, hB5⟩, by simp [intOf]; omega⟩
          by_cases h : j < k
          · exact HZ.out j h
          · have : j = k := by omega
            subst this
            exact HT.out
        · have h0' : (T == 0) = false := by rw [beq_eq_false_iff_ne]; exact h0
          have E := HDF.out k hlt HZ.out (by rw [HT.out]; exact h0)
          rw [HT.out] at E
          have HE : Hid (D = ⟨T, []⟩) := E
          clear E
          have qf1 := qf.1
          go_wp2
          refine bodyPost_ret (v := .agg #[.int .i64 T, .slice none 0 0]) (by simp [results, Tryz.results90, go_sem, q0, q1]) rfl ?_
          obtain ⟨F, hF⟩ := tabRR_nil ((w1.setCell ⟨w.heap.size, 0, none⟩ (.int .i64 T)).setCell ⟨w.heap.size, 1, none⟩ (.slice none 0 0)) w.heap.size T
          rw [HE.out]
          first | exact ⟨_, F, rfl, hF, by (repeat (first | exact Below.refl _ _ | assumption | refine Below.drew ?_ | refine balloc ?_ _ | refine bset ?_ (by simp; omega) _ | refine bset ?_ (by simp) _ | refine bstep ?_ (by assumption)))⟩ | exact ⟨_, rfl, ⟨F, hF⟩, by (repeat (first | exact Below.refl _ _ | assumption | refine Below.drew ?_ | refine balloc ?_ _ | refine bset ?_ (by simp; omega) _ | refine bset ?_ (by simp) _ | refine bstep ?_ (by assumption)))⟩
      · obtain rfl : k = n := by omega
        have hi5 : ¬ ((k : Int) < k) := by omega
        have HE := HDM.out h8 (fun j hj => HZ.out j hj)
        have hTL := HTL.out h8 (fun j hj => HZ.out j hj)
        have hC := merged_any u3 k 200 (fun _ => 161) (fun i => #[.pointer (some ⟨Bs i, 0, none⟩)]) (fun i => xss.getD i default) wr HP.out.parts (by omega) hTL (fun i hi => enters_of Tryz.func161 (by kernel_rfl) rfl) (fun i hi => by
          obtain ⟨h1, h2, u, h3, h4⟩ := HP.out.2 i hi
          exact values_seq (Bs i) u (xss.getD i default) _ wr h3 h1 (TabAt.of (RowsV_below h4 hbl) (fun b hb => hb)) (tabF_all (HZ.out i hi)).1)
        rw [HM.out] at hC
        have HE2 : Hid (D = if 200 < (mergeL xss).length then ⟨2, []⟩ else ⟨0, mergeL xss⟩) := HE
        obtain ⟨ap, cp, hap⟩ := owns_form HP.out.1
        subst hap
        clear HE hTL
        generalize mergeL xss = ys at *
        unfold cmpF at hC
        go_wp2_with fail
        refine hC.mono ?_
        rintro e w1 ⟨v, f, rfl, ⟨a1, n1, c1, rfl⟩, hb1, ht, hf⟩
        clear hC
        have hB1 := bstep hbl hb1
        have q0 := cell_keep hb1 b0
        have q1 := cell_keep hb1 b1
        have qf := boxKeep ⟨bf, bz⟩ hb1
        have qf1 := qf.1
        have qz := qf.2
        cases f with
        | false =>
          have hlen := hf rfl
          have HE : Hid (D = ⟨2, []⟩) := by rw [Hid, HE2.out, if_pos hlen]
          clear ht hf
          go_wp2
          refine bodyPost_ret (v := .agg #[.int .i64 2, .slice none 0 0]) (by simp [results, Tryz.results90, go_sem, q0, q1, qz]) rfl ?_
          obtain ⟨F, hF⟩ := tabRR_nil (((w1.setCell ⟨w.heap.size, 0, none⟩ (.int .i64 2)).setCell ⟨w.heap.size, 1, none⟩ (.slice none 0 0)).alloc (.cells #[.slice a1 n1 c1, .func (.func 75) #[] #[]] 105)) w.heap.size 2
          rw [HE.out]
          first | exact ⟨_, F, rfl, hF, by (repeat (first | exact Below.refl _ _ | assumption | refine Below.drew ?_ | refine balloc ?_ _ | refine bset ?_ (by simp; omega) _ | refine bset ?_ (by simp) _ | refine bstep ?_ (by assumption)))⟩ | exact ⟨_, rfl, ⟨F, hF⟩, by (repeat (first | exact Below.refl _ _ | assumption | refine Below.drew ?_ | refine balloc ?_ _ | refine bset ?_ (by simp; omega) _ | refine bset ?_ (by simp) _ | refine bstep ?_ (by assumption)))⟩
        | true =>
          obtain ⟨ho, hlen⟩ := ht rfl
          have HE : Hid (D = ⟨0, ys⟩) := by rw [Hid, HE2.out, if_neg (by omega)]
          clear ht hf
          have hn1 : n1 = ys.length := by
            obtain ⟨a', c', e⟩ := owns_form ho
            simp only [Value.slice.injEq] at e
            exact e.2.1
          have Hn1 : Hid (n1 = ys.length) := hn1
          clear hn1
          have hbz := hbl.size
          go_wp2
          refine bodyPost_ret (v := .agg #[.int .i64 0, .slice a1 n1 c1]) (by simp [results, Tryz.results90, go_sem, q0, q1, qz]) rfl ?_
          have ho2 : (((w1.setCell ⟨w.heap.size, 0, none⟩ (.int .i64 0)).setCell ⟨w.heap.size, 1, none⟩ (.slice a1 n1 c1)).alloc (.cells #[.slice a1 n1 c1, .func (.func 75) #[] #[]] 105)).ownsRow w.heap.size 76 4 (.slice a1 n1 c1) ys.length (rwsC ys) :=
            owns_base ((owns_setCell (owns_setCell ho (by dsimp only; omega) _) (by dsimp only; omega) _).alloc _) (by omega)
          obtain ⟨F, hF⟩ := tabRR_of (c := 0) ho2 HN.out
          rw [HE.out]
          first | exact ⟨_, F, rfl, hF, by (repeat (first | exact Below.refl _ _ | assumption | refine Below.drew ?_ | refine balloc ?_ _ | refine bset ?_ (by simp; omega) _ | refine bset ?_ (by simp) _ | refine bstep ?_ (by assumption)))⟩ | exact ⟨_, rfl, ⟨F, hF⟩, by (repeat (first | exact Below.refl _ _ | assumption | refine Below.drew ?_ | refine balloc ?_ _ | refine bset ?_ (by simp; omega) _ | refine bset ?_ (by simp) _ | refine bstep ?_ (by assumption)))⟩

end Go.Proofs.YtdfapehonegeeaaGreat


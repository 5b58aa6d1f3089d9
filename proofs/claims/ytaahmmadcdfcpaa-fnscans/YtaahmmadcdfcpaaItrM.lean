/-
  What lives at a version: livingAt, as an iterator.
-/
import Derived.Test.YtaahmmadcdfcpaaItrL
namespace Go.Proofs.Ytaahmmadcdfcpaa
open Go.RowKit Go.Shelf
set_option linter.unusedSectionVars false
variable [DecidableEq Rw] [Inhabited Rw]
set_option linter.unusedVariables false
attribute [local go_sem] Oper.semAt_some
attribute [local go_sem] run_store_func

def living (ys : List Rw) : List Rw := ys.filter (fun r => !r.gone)
theorem living_pre {xs ys : List Rw} (h : xs <+: ys) : living xs <+: living ys := by
  obtain ⟨t, rfl⟩ := h
  unfold living
  rw [List.filter_append]
  exact List.prefix_append _ _
theorem living_gone (xs : List Rw) (x : Rw) (h : x.gone = true) : living (xs ++ [x]) = living xs := by simp [living, List.filter_append, h]
theorem living_take (xs : List Rw) (x : Rw) (h : x.gone = false) : living (xs ++ [x]) = living xs ++ [x] := by simp [living, List.filter_append, h]

set_option maxRecDepth 100000 in
set_option maxHeartbeats 4000000 in
theorem livingAt_seq (B1 B2 : Nat) (sv : Value) (xs : List Rw) (v : Int) (R : Nat → Prop) (w : World) (hRa : ∀ b, R b → b < w.heap.size) (h1 : w.cell? ⟨B1, 0, none⟩ = some sv) (h1' : w.cell? ⟨B1, 1, none⟩ = some cmpF) (h2 : w.cell? ⟨B2, 0, none⟩ = some (.int .i64 v))
    (hR1 : R B1) (hR2 : R B2) (hT : TabAt R w sv xs) (hn : xs.length ≤ 200) :
    Seqx Try.prog 71 #[.pointer (some ⟨B1, 0, none⟩), .pointer (some ⟨B2, 0, none⟩)] rowV (living (lastL v xs)) R w := by
  intro l J Jx W X hm hXa hJ hJx hY h0
  have hT2 := hT.mod hm (fun b hb h => h hb)
  obtain ⟨a, cap, rfl, hc1, hc2, hrow⟩ := hT
  have k1 := hm.cell h1 (fun h => h hR1)
  have k1' := hm.cell h1' (fun h => h hR1)
  have k2 := hm.cell h2 (fun h => h hR2)
  have z1 := World.block_lt_of_cell? _ _ k1
  have z2 := World.block_lt_of_cell? _ _ k2
  dsimp only at z1 z2
  unfold cmpF at k1'
  generalize hN : xs.length = n at *
  have HN : Hid (xs.length = n) := hN
  clear hN hrow
  refine callsIn_of_wp_marks Try.func71 rfl trivial ?_ rfl
  simp only [Try.ntmps71, List.size_toArray, List.length_cons, List.length_nil, Nat.reduceAdd, Nat.reduceSub, Array.replicate_succ, Array.replicate_zero, List.push_toArray, List.append_toArray, List.nil_append, List.cons_append]
  gi_wp2
  refine ⟨trivial, rfl, (callsIn_wide.2 (lastAt_any _ _ _ _ _)).mono ?_⟩
  rintro e w' ⟨rfl, hw'⟩
  have hM2 : ∀ F, Mod F W w' := fun F => by rw [hw']; exact ((mod_alloc F W _).alloc _).alloc _
  have s2 : w'.heap.size = W.heap.size + 3 := by rw [hw']; simp
  have c1 : w'.cell? ⟨W.heap.size, 0, none⟩ = some (.func (.yield l) #[] #[]) := by rw [hw']; simp [go_sem]
  have c2 : w'.cell? ⟨W.heap.size + 1, 0, none⟩ = some (.slice a n cap) := by rw [hw']; simp [go_sem]
  have c2' : w'.cell? ⟨W.heap.size + 1, 1, none⟩ = some cmpF := by rw [hw']; simp [go_sem]
  have c3 : w'.cell? ⟨W.heap.size + 2, 0, none⟩ = some (.int .i64 v) := by rw [hw']; simp [go_sem]
  simp only [World.size_alloc]
  clear hw'
  gi_wp2
  have s0 := hm.size
  have hlen : xs.length ≤ 200 := by rw [HN.out]; exact hn
  obtain ⟨N, hN⟩ : ∃ N, W.heap.size = N := ⟨_, rfl⟩
  rw [hN] at c1 c2 c2' c3 s2 z1 z2 s0 hXa ⊢
  have hRb : ∀ b, (R b ∨ b = N + 1 ∨ b = N + 2) → b < w'.heap.size := fun b h => by
    rcases h with h | h
    · have := hRa b h
      omega
    · omega
  have hseq := lastAt_seq (N + 1) (N + 2) (.slice a n cap) xs v (fun b => R b ∨ b = N + 1 ∨ b = N + 2) w' hRb c2 c2' c3 (.inr (.inl rfl)) (.inr (.inr rfl)) ((hT2.mod (hM2 (fun _ => False)) (fun _ _ h => h)).wide (fun b h => .inl h)) hlen
  refine wp_rangeX (gf := 75) rfl (enters_of Try.func75 (by kernel_rfl) rfl) hseq hRb
    (ItI J living (fun b => b = N ∨ b = N + 1 ∨ b = N + 2) X R w (fun _ A => A.cell? ⟨N, 0, none⟩ = some (.func (.yield l) #[] #[]))) (ItX Jx living X)
    (ItI_stb hJ hRa (fun pre A B F h hm hF => hm.cell h (hF _ (.inl rfl)))) (ItX_stb hJx) (fun _ => False) (fun _ h => h.elim) ?start
    (fun x => RowBox (N + 3) (fun B => { tmps := #[.func (.yield l) #[] #[], .pointer (some ⟨B1, 0, none⟩), .pointer (some ⟨B2, 0, none⟩), .pointer (some ⟨N, 0, none⟩), .pointer (some ⟨B, 0, none⟩), .agg #[.slice a n cap, .func (.func 70) #[] #[]], .int .i64 v, .func (.func 75) #[] #[.pointer (some ⟨N + 1, 0, none⟩), .pointer (some ⟨N + 1 + 1, 0, none⟩)], .agg #[.string x.key, .int .i64 x.ver, .string x.val, .bool x.gone], undef, undef, undef, undef, undef, undef, undef, undef, undef], defers := [] }) x)
    (fun x a' => RowBox_stb _ _ x a') ?assign ?body ?done ?stop
  case start =>
    refine ⟨fun b => X b ∨ b = N ∨ b = N + 1 ∨ b = N + 2, hJ _ _ _ X _ h0 (hM2 X) (fun b h => .inl h) (fun b h => ?_), fun _ h => h.elim, fun b h => ?_, fun b h => .inl h, fun b h => .inr h, fun b h h2 => h2, fun b h => h.elim, c1, hm.trans (hM2 _)⟩
    · rw [hN]
      rcases h with h | h
      · exact ⟨.inl h, by have := hXa b h; omega⟩
      · exact ⟨.inr (by omega), by omega⟩
    · rcases h with h | h
      · have := hXa b h
        omega
      · omega
  case assign =>
    intro l2 pre x W3 Y K hi hYl hYa hK
    unfold rowV
    gi_wp2
    have hlo : N + 2 < W3.heap.size := by
      obtain ⟨Z, _, _, hZa, _, hSZ, _⟩ := hi
      exact hZa _ (hSZ _ (.inr (.inr rfl)))
    refine hK _ _ (mod_alloc _ _ _) ⟨W3.heap.size, hlo, by simp, by unfold rowCells; simp [go_sem], fun h => ?_, rfl⟩
    have := hYa _ h
    omega
  case body =>
    rintro l2 pre x a' W3 Y hYl hYa ⟨Z, hj, hYZ, hZa, hXZ, hSZ, hSY, hYR, t3, hmw⟩ ⟨B, hlo, hB, hr, hYB, rfl⟩ hpre
    obtain ⟨r0, r1, r2, r3⟩ := hr
    simp only [Nat.zero_add] at r1 r2 r3
    cases hg : x.gone
    · have HE : Hid (living (pre ++ [x]) = living pre ++ [x]) := living_take pre x hg
      obtain ⟨fn, tmps, assign, body, hy, hR3⟩ := hY _ x _ Z hj hXZ hZa (by have h := living_pre hpre; rw [HE.out] at h; exact h)
      unfold rowV at hy
      rw [hg] at hy r3
      gi_wp2
      refine ⟨rfl, RoundIn.mono (show RoundIn (Fence.wide.inRound l2) 0 Try.prog l fn tmps assign body _ _ from hR3) ?_⟩
      have kp : ∀ W5, Kp R Z W3 W5 → Kp (fun b => R b ∨ b = N + 1 ∨ b = N + 2) Y W3 W5 := fun W5 hk5 => hk5.mono (fun b h => by
            rintro ((h2 | h2) | h2)
            · exact h (.inl h2)
            · exact h (.inr (hSZ _ (.inr h2)))
            · exact h (.inr (hYZ _ h2)))
      rintro e W5 (⟨rfl, hJ5, hk5⟩ | ⟨rfl, hJx5, hk5⟩)
      · have q5 := hk5.size
        have c3' := hk5.cell t3 (fun h => h (.inr (hSZ _ (.inl rfl))))
        gi_wp2
        refine ⟨kp _ hk5, Z, ?_, hYZ, fun b h => by have := hZa b h; omega, hXZ, hSZ, hSY, hYR, c3', hmw.trans (hk5.mono (fun b h hr => h (.inl hr)))⟩
        rw [HE.out]
        exact hJ5
      · have q5 := hk5.size
        gi_wp2
        refine ⟨kp _ hk5, rfl, Z, ?_, hYZ, fun b h => by have := hZa b h; omega, hXZ⟩
        rw [HE.out]
        exact hJx5
    · have HE : Hid (living (pre ++ [x]) = living pre) := living_gone pre x hg
      rw [hg] at r3
      gi_wp2
      refine ⟨fun _ h => (by cases h), ?_⟩
      gi_wp2
      refine ⟨Mod.refl _ _, Z, ?_, hYZ, hZa, hXZ, hSZ, hSY, hYR, t3, hmw⟩
      rw [HE.out]
      exact hj
  case done =>
    rintro D W3 Y hD hYD hi hdef
    obtain ⟨Z, hj, hYZ, hZa, hXZ, hSZ, hSY, hYR, _, hmw⟩ := hi
    gi_wp2
    refine ⟨by simp, .inl ⟨_, _, rfl, run_takeDeferred hdef, ?_⟩⟩
    refine ⟨_, results_none rfl _ _ _, ⟨_, rfl⟩, Z, hXZ, .inl ?_⟩
    exact hJ _ _ _ Z Z hj ((mod_put _ _ _).mono (fun b h => by rw [h]; exact hYZ _ hYD)) (fun _ h => h) (fun b h => ⟨.inl h, by have := hZa b h; simpa [World.putObj] using this⟩)
  case stop =>
    rintro D c pre W3 Y hD hYD hpre ⟨rfl, Z, hj, hYZ, hZa, hXZ⟩ hdef
    gi_wp2
    refine ⟨by simp, .inl ⟨_, _, rfl, run_takeDeferred hdef, ?_⟩⟩
    refine ⟨_, results_none rfl _ _ _, ⟨_, rfl⟩, Z, hXZ, .inr ⟨_, living_pre hpre, ?_⟩⟩
    exact hJx _ _ _ Z Z hj ((mod_put _ _ _).mono (fun b h => by rw [h]; exact hYZ _ hYD)) (fun _ h => h) (fun b h => ⟨.inl h, by have := hZa b h; simpa [World.putObj] using this⟩)

end Go.Proofs.Ytaahmmadcdfcpaa

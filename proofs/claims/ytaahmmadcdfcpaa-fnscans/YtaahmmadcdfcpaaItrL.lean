/-
  What counts at a version: lastAt, as an iterator.
-/
import Derived.Test.YtaahmmadcdfcpaaItrV
namespace Go.Proofs.Ytaahmmadcdfcpaa
open Go.RowKit Go.Shelf
set_option linter.unusedSectionVars false
variable [DecidableEq Rw] [Inhabited Rw]
set_option linter.unusedVariables false
attribute [local go_sem] Oper.semAt_some
attribute [local go_sem] run_store_func

set_option maxHeartbeats 1000000 in
theorem values_any (a : Option Addr) (n c : Nat) (w : World) :
    Calls Try.prog 98 #[.slice a n c] w fun e w' => e = .returned (.func (.func 109) #[] #[.pointer (some ⟨w.heap.size, 0, none⟩)]) ∧ w' = w.alloc (.cells #[.slice a n c] 24) := by
  go_enter Try.func98, Try.ntmps98
  go_wp2
  go_ret
  exact ⟨rfl, rfl⟩
set_option maxHeartbeats 1000000 in
theorem all_any (a : Option Addr) (n c : Nat) (w : World) :
    Calls Try.prog 76 #[.agg #[.slice a n c, cmpF]] w fun e w' => e = .returned (.func (.func 109) #[] #[.pointer (some ⟨w.heap.size + 1, 0, none⟩)]) ∧
      w' = (w.alloc (.cells #[.slice a n c, cmpF] 76)).alloc (.cells #[.slice a n c] 24) := by
  unfold cmpF
  go_enter Try.func76, Try.ntmps76
  go_wp2_with (go_at_call 98; refine (values_any _ _ _ _).mono ?_; rintro e w' ⟨rfl, rfl⟩)
  go_ret
  exact ⟨by simp, rfl⟩
set_option maxHeartbeats 1000000 in
theorem lastAt_any (a : Option Addr) (n c : Nat) (v : Int) (w : World) :
    Calls Try.prog 36 #[.agg #[.slice a n c, cmpF], .int .i64 v] w fun e w' => e = .returned (.func (.func 75) #[] #[.pointer (some ⟨w.heap.size, 0, none⟩), .pointer (some ⟨w.heap.size + 1, 0, none⟩)]) ∧
      w' = (w.alloc (.cells #[.slice a n c, cmpF] 78)).alloc (.cells #[.int .i64 v] 2) := by
  unfold cmpF
  go_enter Try.func36, Try.ntmps36
  go_wp2
  go_ret
  exact ⟨rfl, rfl⟩
set_option maxHeartbeats 1000000 in
theorem livingAt_any (a : Option Addr) (n c : Nat) (v : Int) (w : World) :
    Calls Try.prog 31 #[.agg #[.slice a n c, cmpF], .int .i64 v] w fun e w' => e = .returned (.func (.func 71) #[] #[.pointer (some ⟨w.heap.size, 0, none⟩), .pointer (some ⟨w.heap.size + 1, 0, none⟩)]) ∧
      w' = (w.alloc (.cells #[.slice a n c, cmpF] 78)).alloc (.cells #[.int .i64 v] 2) := by
  unfold cmpF
  go_enter Try.func31, Try.ntmps31
  go_wp2
  go_ret
  exact ⟨rfl, rfl⟩

/-- told, and what was told -/
def stepL (v : Int) (s : ByteArray × List Rw) (x : Rw) : ByteArray × List Rw := if v < x.ver ∨ x.key = s.1 then s else (x.key, s.2 ++ [x])
def lastS (v : Int) (xs : List Rw) : ByteArray × List Rw := xs.foldl (stepL v) (⟨#[]⟩, [])
def lastL (v : Int) (xs : List Rw) : List Rw := (lastS v xs).2
theorem lastS_snoc (v : Int) (xs : List Rw) (x : Rw) : lastS v (xs ++ [x]) = stepL v (lastS v xs) x := by simp [lastS, List.foldl_append]
theorem stepL_pre (v : Int) (s : ByteArray × List Rw) (x : Rw) : s.2 <+: (stepL v s x).2 := by
  unfold stepL
  split
  · exact List.prefix_refl _
  · exact List.prefix_append _ _
theorem foldl_pre (v : Int) : ∀ (ys : List Rw) (s : ByteArray × List Rw), s.2 <+: (ys.foldl (stepL v) s).2
  | [], s => List.prefix_refl _
  | y :: ys, s => (stepL_pre v s y).trans (foldl_pre v ys _)
theorem lastL_pre {v : Int} {xs ys : List Rw} (h : xs <+: ys) : lastL v xs <+: lastL v ys := by
  obtain ⟨t, rfl⟩ := h
  unfold lastL lastS
  rw [List.foldl_append]
  exact foldl_pre v t _
theorem lastL_skip {v : Int} {xs : List Rw} {x : Rw} (h : v < x.ver ∨ x.key = (lastS v xs).1) : lastS v (xs ++ [x]) = lastS v xs := by
  rw [lastS_snoc]
  unfold stepL
  rw [if_pos h]
theorem lastL_take {v : Int} {xs : List Rw} {x : Rw} (h : ¬ (v < x.ver ∨ x.key = (lastS v xs).1)) : lastS v (xs ++ [x]) = (x.key, lastL v xs ++ [x]) := by
  rw [lastS_snoc]
  unfold stepL
  rw [if_neg h]
  rfl

theorem Mod.frozen {F : Nat → Prop} {w w' : World} (h : Mod F w w') {a : Addr} (ha : a.block < w.heap.size) (hn : ¬ F a.block) : w'.frozen? a = w.frozen? a := by
  have := h.block a.block ha hn
  unfold World.frozen?
  rw [this]

/-- what holds between two rounds of an iterator's own loop: J: the caller's; f: what has been told of what came; S: blocks of its own, of which C speaks; R: what is leant on -/
def ItI (J : List Rw → World → (Nat → Prop) → Prop) (f : List Rw → List Rw) (S X R : Nat → Prop) (w : World) (C : List Rw → World → Prop) (pre : List Rw) (W : World) (Y : Nat → Prop) : Prop :=
  ∃ Z, J (f pre) W Z ∧ (∀ b, Y b → Z b) ∧ (∀ b, Z b → b < W.heap.size) ∧ (∀ b, X b → Z b) ∧ (∀ b, S b → Z b) ∧ (∀ b, S b → ¬ Y b) ∧ (∀ b, Y b → ¬ R b) ∧ C pre W ∧ Mod (fun b => ¬ R b) w W
def ItX (Jx : List Rw → World → (Nat → Prop) → Prop) (f : List Rw → List Rw) (X : Nat → Prop) (c : Code) (pre : List Rw) (W : World) (Y : Nat → Prop) : Prop :=
  c = .ret ∧ ∃ Z, Jx (f pre) W Z ∧ (∀ b, Y b → Z b) ∧ (∀ b, Z b → b < W.heap.size) ∧ (∀ b, X b → Z b)

theorem growZ {W W' : World} {X X' Z : Nat → Prop} (hXn : ∀ b, X' b → (X b ∨ W.heap.size ≤ b) ∧ b < W'.heap.size) (hs : W.heap.size ≤ W'.heap.size) (hXZ : ∀ b, X b → Z b) (hZ : ∀ b, Z b → b < W.heap.size) :
    ∀ b, (Z b ∨ X' b) → (Z b ∨ W.heap.size ≤ b) ∧ b < W'.heap.size := by
  rintro b (h | h)
  · exact ⟨.inl h, by have := hZ b h; omega⟩
  · have := hXn b h
    exact ⟨this.1.imp (hXZ b) id, this.2⟩

theorem ItI_stb {J : List Rw → World → (Nat → Prop) → Prop} (hJ : Stb J) {f : List Rw → List Rw} {S X R : Nat → Prop} {w : World} {C : List Rw → World → Prop} (hR : ∀ b, R b → b < w.heap.size)
    (hC : ∀ pre W W' F, C pre W → Mod F W W' → (∀ b, S b → ¬ F b) → C pre W') : Stb (ItI J f S X R w C) := by
  rintro pre W W' Y Y' ⟨Z, hj, hYZ, hZa, hXZ, hSZ, hSY, hYR, hc, hm⟩ hmY hYY hYn
  have hs := hmY.size
  refine ⟨fun b => Z b ∨ Y' b, hJ _ _ _ Z _ hj (hmY.mono hYZ) (fun b h => .inl h) (growZ hYn hs hYZ hZa), fun b h => .inr h, fun b h => (growZ hYn hs hYZ hZa b h).2, fun b h => .inl (hXZ b h), fun b h => .inl (hSZ b h), fun b h h2 => ?_, fun b h h2 => ?_, hC _ _ _ _ hc hmY hSY, hm.trans (hmY.mono (fun b h => hYR b h))⟩
  · rcases (hYn b h2).1 with h3 | h3
    · exact hSY b h h3
    · have := hZa b (hSZ b h)
      omega
  · rcases (hYn b h).1 with h3 | h3
    · exact hYR b h3 h2
    · have := hR b h2
      have := hm.size
      omega
theorem ItX_stb {Jx : List Rw → World → (Nat → Prop) → Prop} (hJ : Stb Jx) {f : List Rw → List Rw} {X : Nat → Prop} (c : Code) : Stb (ItX Jx f X c) := by
  rintro pre W W' Y Y' ⟨e, Z, hj, hYZ, hZa, hXZ⟩ hmY hYY hYn
  have hs := hmY.size
  exact ⟨e, fun b => Z b ∨ Y' b, hJ _ _ _ Z _ hj (hmY.mono hYZ) (fun b h => .inl h) (growZ hYn hs hYZ hZa), fun b h => .inr h, fun b h => (growZ hYn hs hYZ hZa b h).2, fun b h => .inl (hXZ b h)⟩

/-- the loop's variable lies in a box -/
def RowBox (lo : Nat) (mk : Nat → Act) (x : Rw) (a' : Act) (W : World) (Y : Nat → Prop) : Prop := ∃ B, lo ≤ B ∧ B < W.heap.size ∧ rowCells W B 0 x ∧ ¬ Y B ∧ a' = mk B
theorem RowBox_stb (lo : Nat) (mk : Nat → Act) (x : Rw) (a' : Act) : Stb (fun (_ : Unit) => RowBox lo mk x a') := by
  rintro _ W W' Y Y' ⟨B, hlo, hB, hr, hY, e⟩ hm hYY hYn
  have hs := hm.size
  refine ⟨B, hlo, by omega, rowCells_mod hm hY hr, fun h => ?_, e⟩
  rcases (hYn B h).1 with h3 | h3
  · exact hY h3
  · omega

/-- lastAt's own: what was told last, and yield -/
def LastC (v : Int) (l T Yb : Nat) (pre : List Rw) (W : World) : Prop :=
  W.cell? ⟨T, 0, none⟩ = some (.string (lastS v pre).1) ∧ W.frozen? ⟨T, 0, none⟩ = false ∧ W.cell? ⟨Yb, 0, none⟩ = some (.func (.yield l) #[] #[])
theorem LastC_mod {v : Int} {l T Yb : Nat} {pre : List Rw} {W W' : World} {F : Nat → Prop} (h : LastC v l T Yb pre W) (hm : Mod F W W') (h1 : ¬ F T) (h2 : ¬ F Yb) : LastC v l T Yb pre W' := by
  have hl := World.block_lt_of_cell? _ _ h.1
  dsimp only at hl
  exact ⟨hm.cell h.1 h1, (hm.frozen (a := ⟨T, 0, none⟩) hl h1).trans h.2.1, hm.cell h.2.2 h2⟩

set_option maxRecDepth 100000 in
set_option maxHeartbeats 4000000 in
theorem lastAt_seq (B1 B2 : Nat) (sv : Value) (xs : List Rw) (v : Int) (R : Nat → Prop) (w : World) (hRa : ∀ b, R b → b < w.heap.size) (h1 : w.cell? ⟨B1, 0, none⟩ = some sv) (h1' : w.cell? ⟨B1, 1, none⟩ = some cmpF) (h2 : w.cell? ⟨B2, 0, none⟩ = some (.int .i64 v))
    (hR1 : R B1) (hR2 : R B2) (hT : TabAt R w sv xs) (hn : xs.length ≤ 200) :
    Seqx Try.prog 75 #[.pointer (some ⟨B1, 0, none⟩), .pointer (some ⟨B2, 0, none⟩)] rowV (lastL v xs) R w := by
  intro l J Jx W X hm hXa hJ hJx hY h0
  have hT2 := hT.mod hm (fun b hb h => h hb)
  obtain ⟨a, cap, rfl, hc1, hc2, hrow⟩ := hT
  have k1 := hm.cell h1 (fun h => h hR1)
  have k1' := hm.cell h1' (fun h => h hR1)
  have k2 := hm.cell h2 (fun h => h hR2)
  have z1 := World.block_lt_of_cell? _ _ k1
  have z2 := World.block_lt_of_cell? _ _ k2
  dsimp only at z1 z2
  unfold cmpF at k1'
  generalize hN : xs.length = n at *
  have HN : Hid (xs.length = n) := hN
  clear hN hrow
  refine callsIn_of_wp_marks Try.func75 rfl trivial ?_ rfl
  simp only [Try.ntmps75, List.size_toArray, List.length_cons, List.length_nil, Nat.reduceAdd, Nat.reduceSub, Array.replicate_succ, Array.replicate_zero, List.push_toArray, List.append_toArray, List.nil_append, List.cons_append]
  gi_wp2
  refine ⟨trivial, rfl, (callsIn_wide.2 (all_any _ _ _ _)).mono ?_⟩
  rintro e w' ⟨rfl, hw'⟩
  have hM2 : ∀ F, Mod F W w' := fun F => by rw [hw']; exact (((mod_alloc F W _).alloc _).alloc _).alloc _
  have s2 : w'.heap.size = W.heap.size + 4 := by rw [hw']; simp
  have c1 : w'.cell? ⟨W.heap.size, 0, none⟩ = some (.func (.yield l) #[] #[]) := by rw [hw']; simp [go_sem]
  have c2 : w'.cell? ⟨W.heap.size + 1, 0, none⟩ = some (.string ⟨#[]⟩) := by rw [hw']; simp [go_sem]
  have c2f : w'.frozen? ⟨W.heap.size + 1, 0, none⟩ = false := by rw [hw']; simp [go_sem]
  have c3 : w'.cell? ⟨W.heap.size + 3, 0, none⟩ = some (.slice a n cap) := by rw [hw']; simp [go_sem]
  simp only [World.size_alloc]
  clear hw'
  gi_wp2
  have s0 := hm.size
  have hlen : xs.length ≤ 200 := by rw [HN.out]; exact hn
  obtain ⟨N, hN⟩ : ∃ N, W.heap.size = N := ⟨_, rfl⟩
  rw [hN] at c1 c2 c2f c3 s2 z1 z2 s0 hXa ⊢
  have hseq := values_seq (N + 3) (.slice a n cap) xs (fun b => R b ∨ b = N + 3) w' c3 (.inr rfl) ((hT2.mod (hM2 (fun _ => False)) (fun _ _ h => h)).wide (fun b h => .inl h)) hlen
  refine wp_rangeX (gf := 109) rfl (enters_of Try.func109 (by kernel_rfl) rfl) hseq (fun b h => ?hR)
    (ItI J (lastL v) (fun b => b = N ∨ b = N + 1 ∨ b = N + 3) X R w (LastC v l (N + 1) N)) (ItX Jx (lastL v) X)
    (ItI_stb hJ hRa (fun pre A B F h hm hF => LastC_mod h hm (hF _ (.inr (.inl rfl))) (hF _ (.inl rfl)))) (ItX_stb hJx) (fun _ => False) (fun _ h => h.elim) ?start
    (fun x => RowBox (N + 4) (fun B => { tmps := #[.func (.yield l) #[] #[], .pointer (some ⟨B1, 0, none⟩), .pointer (some ⟨B2, 0, none⟩), .pointer (some ⟨N, 0, none⟩), .pointer (some ⟨N + 1, 0, none⟩), .pointer (some ⟨B, 0, none⟩), .pointer (some ⟨B1, 0, none⟩), .agg #[.slice a n cap, .func (.func 70) #[] #[]], .func (.func 109) #[] #[.pointer (some ⟨N + 1 + 1 + 1, 0, none⟩)], .agg #[.string x.key, .int .i64 x.ver, .string x.val, .bool x.gone], undef, undef, undef, undef, undef, undef, undef, undef, undef, undef, undef, undef, undef, undef, undef, undef], defers := [] }) x)
    (fun x a' => RowBox_stb _ _ x a') ?assign ?body ?done ?stop
  case hR =>
    rcases h with h | rfl
    · have := hRa b h
      omega
    · omega
  case start =>
    refine ⟨fun b => X b ∨ b = N ∨ b = N + 1 ∨ b = N + 3, hJ _ _ _ X _ h0 (hM2 X) (fun b h => .inl h) (fun b h => ?_), fun _ h => h.elim, fun b h => ?_, fun b h => .inl h, fun b h => .inr h, fun b h h2 => h2, fun b h => h.elim, ⟨c2, c2f, c1⟩, hm.trans (hM2 _)⟩
    · rw [hN]
      rcases h with h | h
      · exact ⟨.inl h, by have := hXa b h; omega⟩
      · exact ⟨.inr (by omega), by omega⟩
    · rcases h with h | h
      · have := hXa b h
        omega
      · omega
  case assign =>
    intro l2 pre x W3 Y K hi hYl hYa hK
    unfold rowV
    gi_wp2
    have hlo : N + 3 < W3.heap.size := by
      obtain ⟨Z, _, _, hZa, _, hSZ, _⟩ := hi
      exact hZa _ (hSZ _ (.inr (.inr rfl)))
    refine hK _ _ (mod_alloc _ _ _) ⟨W3.heap.size, hlo, by simp, by unfold rowCells; simp [go_sem], fun h => ?_, rfl⟩
    have := hYa _ h
    omega
  case body =>
    rintro l2 pre x a' W3 Y hYl hYa ⟨Z, hj, hYZ, hZa, hXZ, hSZ, hSY, hYR, ⟨t1, t2, t3⟩, hmw⟩ ⟨B, hlo, hB, hr, hYB, rfl⟩ hpre
    have kv := hmw.cell h2 (fun h => h hR2)
    obtain ⟨r0, r1, r2, r3⟩ := hr
    simp only [Nat.zero_add] at r1 r2 r3
    have HS : Hid (∀ (told : ByteArray), (lastS v pre).1 = told → v < x.ver ∨ x.key = told → lastS v (pre ++ [x]) = lastS v pre) := fun told e h => lastL_skip (by rw [e]; exact h)
    have HT : Hid (∀ (told : ByteArray), (lastS v pre).1 = told → ¬ (v < x.ver ∨ x.key = told) → lastS v (pre ++ [x]) = (x.key, lastL v pre ++ [x])) := fun told e h => lastL_take (by rw [e]; exact h)
    generalize htold : (lastS v pre).1 = told at t1
    have HTD : Hid ((lastS v pre).1 = told) := htold
    clear htold
    have HI : Hid (lastS v (pre ++ [x]) = lastS v pre → ItI J (lastL v) (fun b => b = N ∨ b = N + 1 ∨ b = N + 3) X R w (LastC v l (N + 1) N) (pre ++ [x]) W3 Y) := fun e => by
      refine ⟨Z, ?_, hYZ, hZa, hXZ, hSZ, hSY, hYR, ⟨?_, t2, t3⟩, hmw⟩
      · unfold lastL
        rw [e]
        exact hj
      · rw [e, HTD.out]
        exact t1
    by_cases hver : v < x.ver
    · have hd1 : decide (v < x.ver) = true := decide_eq_true hver
      gi_wp2
      exact ⟨Mod.refl _ _, HI.out (HS.out _ HTD.out (.inl hver))⟩
    · have hd1 : decide (v < x.ver) = false := decide_eq_false hver
      by_cases hkey : x.key = told
      · have hd2 : (x.key.toList == told.toList) = true := by rw [hkey]; simp
        gi_wp2
        exact ⟨Mod.refl _ _, HI.out (HS.out _ HTD.out (.inr hkey))⟩
      · have hd2 : (x.key.toList == told.toList) = false := by rw [beq_eq_false_iff_ne, Ne, tl_inj]; exact hkey
        have hd3 : ¬ x.key.toList = told.toList := by rw [tl_inj]; exact hkey
        have HE : Hid (lastS v (pre ++ [x]) = (x.key, lastL v pre ++ [x])) := HT.out _ HTD.out (fun h => h.elim hver hkey)
        have hTlt := World.block_lt_of_cell? _ _ t1
        dsimp only at hTlt
        have hset : Mod (fun b => b = N + 1) W3 (W3.setCell ⟨N + 1, 0, none⟩ (.string x.key)) := Mod.of_set W3 ⟨N + 1, 0, none⟩ (.string x.key)
        have hj4 : J (lastL v pre) (W3.setCell ⟨N + 1, 0, none⟩ (.string x.key)) Z := hJ _ _ _ Z Z hj (hset.mono (fun b h => hSZ b (.inr (.inl h)))) (fun _ h => h) (fun b h => ⟨.inl h, by have := hZa b h; have := hset.size; omega⟩)
        obtain ⟨fn, tmps, assign, body, hy, hR3⟩ := hY _ x _ Z hj4 hXZ (fun b h => by have := hZa b h; have := hset.size; omega) (by have h := lastL_pre (v := v) hpre; unfold lastL at h; rw [HE.out] at h; exact h)
        unfold rowV at hy
        have hNB : B ≠ N + 1 := by omega
        have hNB2 : ¬ N + 1 = B := by omega
        have q1 : (W3.setCell ⟨N + 1, 0, none⟩ (.string x.key)).cell? ⟨N + 1, 0, none⟩ = some (.string x.key) := set_same t1
        have q2 : (W3.setCell ⟨N + 1, 0, none⟩ (.string x.key)).frozen? ⟨N + 1, 0, none⟩ = false := by rw [World.frozen?_setCell]; exact t2
        have q3 : (W3.setCell ⟨N + 1, 0, none⟩ (.string x.key)).cell? ⟨N, 0, none⟩ = some (.func (.yield l) #[] #[]) := hset.cell t3 (fun h => absurd h (by simp))
        have q4 := hset.size
        gi_wp2
        refine ⟨rfl, RoundIn.mono (show RoundIn (Fence.wide.inRound l2) 0 Try.prog l fn tmps assign body _ _ from hR3) ?_⟩
        have hNR : ¬ ((R (N + 1) ∨ N + 1 = N + 3) ∨ Y (N + 1)) := by
          rintro ((h | h) | h)
          · have := hRa _ h
            omega
          · omega
          · exact hSY _ (.inr (.inl rfl)) h
        have kp : ∀ W5, Kp R Z (W3.setCell ⟨N + 1, 0, none⟩ (.string x.key)) W5 → Kp (fun b => R b ∨ b = N + 3) Y W3 W5 := fun W5 hk5 =>
          (hset.mono (fun b h => by rw [h]; exact hNR)).trans (hk5.mono (fun b h => by
            rintro ((h2 | h2) | h2)
            · exact h (.inl h2)
            · exact h (.inr (hSZ _ (.inr (.inr h2))))
            · exact h (.inr (hYZ _ h2))))
        rintro e W5 (⟨rfl, hJ5, hk5⟩ | ⟨rfl, hJx5, hk5⟩)
        · have q5 := hk5.size
          have c1' := hk5.cell q1 (fun h => h (.inr (hSZ _ (.inr (.inl rfl)))))
          have c2' := (hk5.frozen (a := ⟨N + 1, 0, none⟩) (by dsimp only; omega) (fun h => h (.inr (hSZ _ (.inr (.inl rfl)))))).trans q2
          have c3' := hk5.cell q3 (fun h => h (.inr (hSZ _ (.inl rfl))))
          gi_wp2
          refine ⟨kp _ hk5, Z, ?_, hYZ, fun b h => by have := hZa b h; omega, hXZ, hSZ, hSY, hYR, ⟨?_, c2', c3'⟩, (hmw.trans (hset.mono (fun b h => by rw [h]; exact fun hr => hNR (.inl (.inl hr))))).trans (hk5.mono (fun b h hr => h (.inl hr)))⟩
          · unfold lastL
            rw [HE.out]
            exact hJ5
          · rw [HE.out]
            exact c1'
        · have q5 := hk5.size
          gi_wp2
          refine ⟨kp _ hk5, rfl, Z, ?_, hYZ, fun b h => by have := hZa b h; omega, hXZ⟩
          unfold lastL
          rw [HE.out]
          exact hJx5
  case done =>
    rintro D W3 Y hD hYD hi hdef
    obtain ⟨Z, hj, hYZ, hZa, hXZ, hSZ, hSY, hYR, _, hmw⟩ := hi
    gi_wp2
    refine ⟨by simp, .inl ⟨_, _, rfl, run_takeDeferred hdef, ?_⟩⟩
    refine ⟨_, results_none rfl _ _ _, ⟨_, rfl⟩, Z, hXZ, .inl ?_⟩
    exact hJ _ _ _ Z Z hj ((mod_put _ _ _).mono (fun b h => by rw [h]; exact hYZ _ hYD)) (fun _ h => h) (fun b h => ⟨.inl h, by have := hZa b h; simpa [World.putObj] using this⟩)
  case stop =>
    rintro D c pre W3 Y hD hYD hpre ⟨rfl, Z, hj, hYZ, hZa, hXZ⟩ hdef
    gi_wp2
    refine ⟨by simp, .inl ⟨_, _, rfl, run_takeDeferred hdef, ?_⟩⟩
    refine ⟨_, results_none rfl _ _ _, ⟨_, rfl⟩, Z, hXZ, .inr ⟨_, lastL_pre hpre, ?_⟩⟩
    exact hJx _ _ _ Z Z hj ((mod_put _ _ _).mono (fun b h => by rw [h]; exact hYZ _ hYD)) (fun _ h => h) (fun b h => ⟨.inl h, by have := hZa b h; simpa [World.putObj] using this⟩)

end Go.Proofs.Ytaahmmadcdfcpaa

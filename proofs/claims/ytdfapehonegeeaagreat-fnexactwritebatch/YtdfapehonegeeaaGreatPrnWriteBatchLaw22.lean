import Derived.Test.YtdfapehonegeeaaGreatPrnWriteBatchLaw20
import Derived.Test.YtdfapehonegeeaaGreatPrnWriteBatchLaw9
import Derived.Deep.RegionLawGrows

/-
  One more record in a log: the specification's side.
-/
namespace Go.Proofs.YtdfapehonegeeaaGreat
open Go.RowKit
set_option linter.unusedSectionVars false
variable [DecidableEq Logg] [Inhabited Logg] [DecidableEq LoggR] [Inhabited LoggR] [DecidableEq BytesR] [Inhabited BytesR] [DecidableEq RecsR] [Inhabited RecsR] [DecidableEq Leg] [Inhabited Leg]
set_option linter.unusedSimpArgs false
attribute [local go_sem ↓] Go.wp_at_zero Go.wp_at_succ

theorem run_append_zero {P : Program} (w : World) (t ty e : TypeId) (i : TypeInfo) (ht : P.underlying t = some (.slice e)) (hi : P.info? e = some i) (g c : Nat) (ao : Option Addr) :
    (Builtin.append_ #[t, t] ty #[.slice (some ⟨g, 0, none⟩) 0 0, .slice ao 0 c]).run P w = .ok (.slice (some ⟨g, 0, none⟩) 0 0) w := by
  cases ao with
  | none => simp [Builtin.append_, run_underlying ht, sizeOf, typeInfo, hi, Builtin.lenOf, Builtin.firstCells, storeCells]
  | some ad => simp [Builtin.append_, run_underlying ht, sizeOf, typeInfo, hi, Builtin.lenOf, Builtin.firstCells, storeCells, loadCells, loadCellsFrom]
theorem step_litB (Y : World) {ops : Array Oper} {o : Oper} {a : Act} {K : Act → World → Prop} {Q : Exit → Act → World → Prop} {E : Prop} (hgd : o.guard = none) (s x : Operand)
    (ho : o.op = .call { callee := .builtin .append, args := #[s, x], argTypes := #[22, 22] })
    (g : Nat) (hs : a.eval s = .slice (some ⟨g, 0, none⟩) 0 0) (u : Value) (ys : List Byte) (hx : a.eval x = u) (hsrc : AppAny Y u ys.length (bytesC ys)) (hlen : ys.length ≤ 1073741824)
    (h : ∀ v' w', Below Y.heap.size Y w' → ((ys = [] ∧ v' = .slice (some ⟨g, 0, none⟩) 0 0) ∨ w'.ownsRow Y.heap.size 5 1 v' ys.length (bytesC ys)) → K (a.put o.dst v') w') :
    if Region.wanted o (yielded ops a.tmps) = true then Oper.wp Tryz.prog o a Y K Q else E := by
  obtain ⟨i0, hi, hz0, hz1, hz2⟩ := info_parts infoByte
  by_cases hy : ys = []
  · subst hy
    have hu : ∃ ao c, u = .slice ao 0 c := by
      rcases hsrc with ⟨c, rfl, _, _⟩ | ⟨ad, c, rfl, _⟩
      · exact ⟨_, _, rfl⟩
      · exact ⟨_, _, rfl⟩
    obtain ⟨ao, c, rfl⟩ := hu
    have hw : Region.wanted o (yielded ops a.tmps) = true := by simp [Region.wanted, hgd]
    rw [if_pos hw]
    have hr := run_append_zero (P := Tryz.prog) Y 22 o.type 5 i0 Tryz.underlying22 hi g c ao
    unfold Oper.wp execOp
    simp only [ho, resolve, invoke, builtin, Sem.run_bind, Sem.run_pure, Result.andThen_ok, List.map_toArray, List.map_cons, List.map_nil, hs, hx, hr]
    exact h _ _ (Below.refl _ _) (.inl ⟨rfl, rfl⟩)
  · rcases hsrc with ⟨c, rfl, hm, _⟩ | ⟨ad, c, rfl, hc⟩
    · exact absurd (List.eq_nil_of_length_eq_zero hm) hy
    · have hpos : 0 < ys.length := List.length_pos_iff.2 hy
      refine step_append_grows hgd s x 22 ho 5 i0 _ 1 1 Tryz.underlying22 hi hz0 hz1 hz2 rfl (by decide) (some ⟨g, 0, none⟩) 0 0 [] hs (fun e => by cases e) rfl (fun _ _ j v hj => by cases hj) ad ys.length c (bytesC ys) hx (by rw [length_bytesC]; omega) hc (bytesC_one ys) (by omega) (by unfold maxLen; omega) (by omega) ?_
      intro v' w' hown hg
      refine h v' w' ((Below.refl _ _).grown hg (Nat.le_refl _) (fun k e => by cases e)) (.inr ?_)
      simpa using hown
def copyG (d : Logg) : Nat → (Nat → Value) → Nat → Nat → World → Prop
  | 0, y, lo, hi, w => y 3 = .slice (some ⟨lo, 0, none⟩) 0 0 ∧ lo < hi ∧ w.ownsRow lo 5 1 (.slice (some ⟨lo, 0, none⟩) 0 0) 0 (bytesC [])
  | 3, y, lo, hi, w => (∃ a c, y 6 = .slice a d.synced.length c) ∧ ((d.synced = [] ∧ y 6 = y 3) ∨ (w.ownsRow lo 5 1 (y 6) d.synced.length (bytesC d.synced) ∧ ∀ b, (y 6).ownBlock = some b → b < hi))
  | 4, y, lo, hi, w => y 7 = .slice (some ⟨lo, 0, none⟩) 0 0 ∧ lo < hi ∧ w.ownsRow lo 5 1 (.slice (some ⟨lo, 0, none⟩) 0 0) 0 (bytesC [])
  | 7, y, lo, hi, w => (∃ a c, y 10 = .slice a d.loose.length c) ∧ ((d.loose = [] ∧ y 10 = y 7) ∨ (w.ownsRow lo 5 1 (y 10) d.loose.length (bytesC d.loose) ∧ ∀ b, (y 10).ownBlock = some b → b < hi))
  | 8, y, _, _, _ => y 11 = .agg #[y 6, y 10]
  | _, _, _, _, _ => True
theorem lit_both {w0 w : World} {xs : List Byte} {v v0 : Value} {l1 h1 l2 h2 : Nat} (b1 : InB w0 w l1 h1) (b2 : InB w0 w l2 h2)
    (g1 : v0 = .slice (some ⟨l1, 0, none⟩) 0 0 ∧ l1 < h1 ∧ w.ownsRow l1 5 1 (.slice (some ⟨l1, 0, none⟩) 0 0) 0 (bytesC []))
    (g2 : (xs = [] ∧ v = v0) ∨ (w.ownsRow l2 5 1 v xs.length (bytesC xs) ∧ ∀ b, v.ownBlock = some b → b < h2)) :
    ∃ F, bytesR.O w w0.heap.size F v xs ∧ ∀ b, F b → (l1 ≤ b ∧ b < h1) ∨ (l2 ≤ b ∧ b < h2) := by
  rcases g2 with ⟨rfl, rfl⟩ | ⟨g2, g3⟩
  · obtain ⟨rfl, g4, g5⟩ := g1
    refine ⟨_, bytesR.base (base := l1) ⟨g5, rfl⟩ b1.1, fun b hb => .inl ?_⟩
    simp [Value.ownBlock] at hb
    omega
  · refine ⟨_, bytesR.base (base := l2) ⟨g2, rfl⟩ b2.1, fun b hb => .inr ⟨?_, g3 b hb⟩⟩
    exact (bytesR.rng (F := fun b => v.ownBlock = some b) (show bytesR.O w l2 _ v xs from ⟨g2, rfl⟩) b hb).1
set_option maxHeartbeats 1000000 in
theorem l4Copy_any (x : Value) (d : Logg) (w : World) (hx : loggR.V w x d) (hn : wtLogg d ≤ 1048576) :
    Calls Tryz.prog 115 #[x] w fun e w' => ∃ v F, e = .returned v ∧ loggR.O w' w.heap.size F v d ∧ Below w.heap.size w w' := by
  have hX := hx
  obtain ⟨u1, u2, rfl, h1, h2⟩ := hx
  obtain ⟨a1, c1, rfl⟩ := bytes_form h1
  obtain ⟨a2, c2, rfl⟩ := bytes_form h2
  unfold wtLogg wtBytes at hn
  go_enter Tryz.func115, Tryz.ntmps115
  go_wp2
  refine wp_region_noPanic ?_
  refine region_upto (fun w' => Below w.heap.size w w' ∧ w'.cell? ⟨w.heap.size, 0, none⟩ = some (.slice a1 d.synced.length c1) ∧ w'.cell? ⟨w.heap.size, 1, none⟩ = some (.slice a2 d.loose.length c2)) 9 (by kernel_rfl) ⟨by (repeat (first | exact Below.refl _ _ | assumption | refine Below.drew ?_ | refine balloc ?_ _ | refine bset ?_ (by simp; omega) _ | refine bset ?_ (by simp) _ | refine bstep ?_ (by assumption))), by simp [go_sem], by simp [go_sem]⟩ (fun hS => ?_)
  refine upto_take (i := 1) (v := ?_) rfl (by kernel_rfl) (by kernel_rfl) (by kernel_rfl) (by kernel_rfl) (fun _ _ _ h => h) (by rfl) hS ?_ ?_
  rotate_left
  · intro wS hSw
    try dsimp only at hSw
    first | (go_simp; done) | (go_simp; with_reducible rfl)
  try simp only [Act.put, List.getElem_toArray, List.getElem_cons_zero, List.getElem_cons_succ, List.setIfInBounds_toArray, List.set_cons_zero, List.set_cons_succ]
  refine upto_take (i := 2) (v := ?_) rfl (by kernel_rfl) (by kernel_rfl) (by kernel_rfl) (by kernel_rfl) (fun _ _ _ h => h) (by rfl) hS ?_ ?_
  rotate_left
  · intro wS hSw
    try dsimp only at hSw
    first | (go_simp; done) | (go_simp; with_reducible rfl)
  try simp only [Act.put, List.getElem_toArray, List.getElem_cons_zero, List.getElem_cons_succ, List.setIfInBounds_toArray, List.set_cons_zero, List.set_cons_succ]
  refine upto_take (i := 5) (v := ?_) rfl (by kernel_rfl) (by kernel_rfl) (by kernel_rfl) (by kernel_rfl) (fun _ _ _ h => h) (by rfl) hS ?_ ?_
  rotate_left
  · intro wS hSw
    try dsimp only at hSw
    first | (go_simp; done) | (go_simp; with_reducible rfl)
  try simp only [Act.put, List.getElem_toArray, List.getElem_cons_zero, List.getElem_cons_succ, List.setIfInBounds_toArray, List.set_cons_zero, List.set_cons_succ]
  refine upto_take (i := 6) (v := ?_) rfl (by kernel_rfl) (by kernel_rfl) (by kernel_rfl) (by kernel_rfl) (fun _ _ _ h => h) (by rfl) hS ?_ ?_
  rotate_left
  · intro wS hSw
    try dsimp only at hSw
    first | (go_simp; done) | (go_simp; with_reducible rfl)
  try simp only [Act.put, List.getElem_toArray, List.getElem_cons_zero, List.getElem_cons_succ, List.setIfInBounds_toArray, List.set_cons_zero, List.set_cons_succ]
  have hB0 : Below (w.heap.size + 2) ((w.alloc (.cells #[.slice a1 d.synced.length c1, .slice a2 d.loose.length c2] 31)).alloc (.cells #[.slice none 0 0, .slice none 0 0] 31)) ((w.alloc (.cells #[.slice a1 d.synced.length c1, .slice a2 d.loose.length c2] 31)).alloc (.cells #[.slice none 0 0, .slice none 0 0] 31)).drew := Below.drew (Below.refl _ _)
  have hs0 : ((w.alloc (.cells #[.slice a1 d.synced.length c1, .slice a2 d.loose.length c2] 31)).alloc (.cells #[.slice none 0 0, .slice none 0 0] 31)).drew.heap.size = w.heap.size + 2 := by simp
  have r0 : ((w.alloc (.cells #[.slice a1 d.synced.length c1, .slice a2 d.loose.length c2] 31)).alloc (.cells #[.slice none 0 0, .slice none 0 0] 31)).drew.cell? ⟨w.heap.size + 1, 0, none⟩ = some (.slice none 0 0) := by simp [go_sem]
  have r1 : ((w.alloc (.cells #[.slice a1 d.synced.length c1, .slice a2 d.loose.length c2] 31)).alloc (.cells #[.slice none 0 0, .slice none 0 0] 31)).drew.cell? ⟨w.heap.size + 1, 1, none⟩ = some (.slice none 0 0) := by simp [go_sem]
  have rf : ∀ o, ((w.alloc (.cells #[.slice a1 d.synced.length c1, .slice a2 d.loose.length c2] 31)).alloc (.cells #[.slice none 0 0, .slice none 0 0] 31)).drew.frozen? ⟨w.heap.size + 1, o, none⟩ = false := fun o => by simp [go_sem]
  have hb0 := hS.1
  clear hB0
  generalize ((w.alloc (.cells #[.slice a1 d.synced.length c1, .slice a2 d.loose.length c2] 31)).alloc (.cells #[.slice none 0 0, .slice none 0 0] 31)).drew = W0 at *
  refine upto_stable' [(0, 3), (3, 6), (4, 7), (7, 10), (8, 11)] (copyG d) (by kernel_rfl) hS (fun W W' h hb => ⟨bstep h.1 hb, cell_keep hb h.2.1, cell_keep hb h.2.2⟩) ?_ ?_ ?_
  · -- what was yielded stays
    intro p hp
    simp only [List.mem_cons, List.not_mem_nil, or_false] at hp
    rcases hp with rfl | rfl | rfl | rfl | rfl
    · intro y y' lo hi W W' h hi' hb e _
      simp only [copyG] at h ⊢
      rw [e]
      exact ⟨h.1, h.2.1, owns_below h.2.2 hb⟩
    · intro y y' lo hi W W' h hi' hb e he
      have e0 := he (0, 3) (by simp) (by kernel_rfl)
      simp only [copyG] at h ⊢
      rw [e, e0]
      exact ⟨h.1, h.2.imp id (fun h => ⟨owns_below h.1 hb, h.2⟩)⟩
    · intro y y' lo hi W W' h hi' hb e _
      simp only [copyG] at h ⊢
      rw [e]
      exact ⟨h.1, h.2.1, owns_below h.2.2 hb⟩
    · intro y y' lo hi W W' h hi' hb e he
      have e0 := he (4, 7) (by simp) (by kernel_rfl)
      simp only [copyG] at h ⊢
      rw [e, e0]
      exact ⟨h.1, h.2.imp id (fun h => ⟨owns_below h.1 hb, h.2⟩)⟩
    · intro y y' lo hi W W' h hi' hb e he
      have e0 := he (3, 6) (by simp) (by kernel_rfl)
      have e1 := he (7, 10) (by simp) (by kernel_rfl)
      simp only [copyG] at h ⊢
      rw [e, e0, e1]
      exact h
  · -- each operation
    intro p hp
    simp only [List.mem_cons, List.not_mem_nil, or_false] at hp
    rcases hp with rfl | rfl | rfl | rfl | rfl
    all_goals
      refine ⟨_, rfl, rfl, ?_⟩
      intro y W lo hi hSW hBW hd hap K hK
      clear hap
    · clear hd
      refine ⟨?_⟩
      simp only [over, Act.put, List.getElem_toArray, List.getElem_cons_zero, List.getElem_cons_succ, List.map_cons, List.map_nil, List.foldl_cons, List.foldl_nil, List.setIfInBounds_toArray, List.set_cons_zero, List.set_cons_succ] at hK ⊢
      go_simp
      refine hK _ _ (by (repeat (first | exact Below.refl _ _ | assumption | refine Below.drew ?_ | refine balloc ?_ _ | refine bset ?_ (by simp; omega) _ | refine bset ?_ (by simp) _ | refine bstep ?_ (by assumption)))) ?_
      simp only [copyG, updV]
      exact ⟨rfl, by simp, nil_owns (Below.refl _ _) _ rfl (Nat.le_refl _)⟩
    · have g0 := (hd (0, 3) (by simp) (by kernel_rfl)).2
      clear hd
      simp only [copyG] at g0
      refine ⟨?_⟩
      refine step_litB W rfl (.tmp 3) (.tmp 5) rfl (lo 0) ?_ (.slice a1 d.synced.length c1) d.synced ?_ (appAny_bytes (bytesR.below h1 hSW.1)) (by omega) ?_
      · exact g0.1
      · rfl
      intro v' w' hb ho
      refine hK _ _ hb ?_
      simp only [copyG, updV]
      rcases ho with ⟨hl, rfl⟩ | ho
      · exact ⟨⟨some ⟨lo 0, 0, none⟩, 0, by simp [hl]⟩, .inl ⟨hl, by simp [g0.1]⟩⟩
      · obtain ⟨av, cv, hv⟩ := owns_form ho
        refine ⟨⟨av, cv, by simpa using hv⟩, .inr ⟨by simpa using ho, fun b hb' => ?_⟩⟩
        exact (bytesR.rng (F := fun b => v'.ownBlock = some b) (show bytesR.O w' _ _ v' d.synced from ⟨ho, rfl⟩) b (by simpa using hb')).2
    · clear hd
      refine ⟨?_⟩
      simp only [over, Act.put, List.getElem_toArray, List.getElem_cons_zero, List.getElem_cons_succ, List.map_cons, List.map_nil, List.foldl_cons, List.foldl_nil, List.setIfInBounds_toArray, List.set_cons_zero, List.set_cons_succ] at hK ⊢
      go_simp
      refine hK _ _ (by (repeat (first | exact Below.refl _ _ | assumption | refine Below.drew ?_ | refine balloc ?_ _ | refine bset ?_ (by simp; omega) _ | refine bset ?_ (by simp) _ | refine bstep ?_ (by assumption)))) ?_
      simp only [copyG, updV]
      exact ⟨rfl, by simp, nil_owns (Below.refl _ _) _ rfl (Nat.le_refl _)⟩
    · have g0 := (hd (4, 7) (by simp) (by kernel_rfl)).2
      clear hd
      simp only [copyG] at g0
      refine ⟨?_⟩
      refine step_litB W rfl (.tmp 7) (.tmp 9) rfl (lo 4) ?_ (.slice a2 d.loose.length c2) d.loose ?_ (appAny_bytes (bytesR.below h2 hSW.1)) (by omega) ?_
      · exact g0.1
      · rfl
      intro v' w' hb ho
      refine hK _ _ hb ?_
      simp only [copyG, updV]
      rcases ho with ⟨hl, rfl⟩ | ho
      · exact ⟨⟨some ⟨lo 4, 0, none⟩, 0, by simp [hl]⟩, .inl ⟨hl, by simp [g0.1]⟩⟩
      · obtain ⟨av, cv, hv⟩ := owns_form ho
        refine ⟨⟨av, cv, by simpa using hv⟩, .inr ⟨by simpa using ho, fun b hb' => ?_⟩⟩
        exact (bytesR.rng (F := fun b => v'.ownBlock = some b) (show bytesR.O w' _ _ v' d.loose from ⟨ho, rfl⟩) b (by simpa using hb')).2
    · have g3 := (hd (3, 6) (by simp) (by kernel_rfl)).2
      have g7 := (hd (7, 10) (by simp) (by kernel_rfl)).2
      clear hd
      simp only [copyG] at g3 g7
      obtain ⟨⟨a6, c6, e6⟩, _⟩ := g3
      obtain ⟨⟨a7, c7, e7⟩, _⟩ := g7
      refine ⟨?_⟩
      simp only [over, Act.put, List.getElem_toArray, List.getElem_cons_zero, List.getElem_cons_succ, List.map_cons, List.map_nil, List.foldl_cons, List.foldl_nil, List.setIfInBounds_toArray, List.set_cons_zero, List.set_cons_succ] at hK ⊢
      simp only [e6, e7] at hK ⊢
      go_simp
      refine hK _ _ (Below.refl _ _) ?_
      simp only [copyG, updV]
      simp [e6, e7]
  · refine ⟨_, rfl, ?_⟩
    intro y W lo hi hSW hBW hd hap K hK
    have h0 := hd (0, 3) (by simp)
    have h3 := hd (3, 6) (by simp)
    have h4 := hd (4, 7) (by simp)
    have h7 := hd (7, 10) (by simp)
    have h8 := hd (8, 11) (by simp)
    clear hd
    simp only [copyG] at h0 h3 h4 h7 h8
    obtain ⟨b0, g0⟩ := h0
    obtain ⟨b3, g3⟩ := h3
    obtain ⟨b4, g4⟩ := h4
    obtain ⟨b7, g7⟩ := h7
    obtain ⟨b8, g8⟩ := h8
    have p04 := hap (0, 3) (by simp) (4, 7) (by simp) (by simp)
    have p07 := hap (0, 3) (by simp) (7, 10) (by simp) (by simp)
    have p34 := hap (3, 6) (by simp) (4, 7) (by simp) (by simp)
    have p37 := hap (3, 6) (by simp) (7, 10) (by simp) (by simp)
    clear hap
    simp only [Apart] at p04 p07 p34 p37
    obtain ⟨F1, o1, f1⟩ := lit_both b0 b3 g0 g3.2
    obtain ⟨F2, o2, f2⟩ := lit_both b4 b7 g4 g7.2
    obtain ⟨⟨a6, c6, e6⟩, _⟩ := g3
    obtain ⟨⟨a7, c7, e7⟩, _⟩ := g7
    have hdis : ∀ b, F1 b → ¬ F2 b := fun b q1 q2 => by
      have := f1 b q1
      have := f2 b q2
      omega
    have q0 := cell_keep hBW r0
    have q1 := cell_keep hBW r1
    have qf : ∀ o, W.frozen? ⟨w.heap.size + 1, o, none⟩ = false := fun o => by rw [(bcell hBW).2 _ _ (by omega)]; exact rf o
    rw [hs0] at o1 o2
    rw [e6] at o1 g8
    rw [e7] at o2 g8
    have hBB := hSW.1
    refine ⟨?_⟩
    simp only [over, Act.put, List.getElem_toArray, List.getElem_cons_zero, List.getElem_cons_succ, List.map_cons, List.map_nil, List.foldl_cons, List.foldl_nil, List.setIfInBounds_toArray, List.set_cons_zero, List.set_cons_succ]
    simp only [g8]
    clear g0 g4 g8 b0 b3 b4 b7 b8 p04 p07 p34 p37 f1 f2 hS hSW hBW
    go_simp
    refine hK _ _ ?_
    clear hK K
    refine NoPanic.normal ?_
    go_wp2
    refine bodyPost_ret (v := .agg #[.slice a6 d.synced.length c6, .slice a7 d.loose.length c7]) ?_ rfl ⟨_, fun b => F1 b ∨ F2 b, rfl, ⟨_, _, F1, F2, rfl, bytesR.base (bytesR.set (bytesR.set o1 _ (by simp)) _ (by simp)) (by omega), bytesR.base (bytesR.set (bytesR.set o2 _ (by simp)) _ (by simp)) (by omega), hdis, fun b => Iff.rfl⟩, by (repeat (first | exact Below.refl _ _ | assumption | refine Below.drew ?_ | refine balloc ?_ _ | refine bset ?_ (by simp; omega) _ | refine bset ?_ (by simp) _ | refine bstep ?_ (by assumption)))⟩
    simp [results, Tryz.results115, go_sem, q0, q1]
end Go.Proofs.YtdfapehonegeeaaGreat

/-
  One more record in a log: the specification's side, and what is told.
-/
namespace Go.Proofs.YtdfapehonegeeaaGreat
open Go.RowKit
set_option linter.unusedSectionVars false
variable [DecidableEq Logg] [Inhabited Logg] [DecidableEq LoggR] [Inhabited LoggR] [DecidableEq BytesR] [Inhabited BytesR] [DecidableEq RecsR] [Inhabited RecsR] [DecidableEq Leg] [Inhabited Leg]
set_option linter.unusedSimpArgs false
attribute [local go_sem ↓] Go.wp_at_zero Go.wp_at_succ

theorem Mod.frozenAt {F : Nat → Prop} {w w' : World} (h : Mod F w w') {a : Addr} (hl : a.block < w.heap.size) (hn : ¬ F a.block) : w'.frozen? a = w.frozen? a := World.frozen?_of_block (h.block a.block hl hn)
theorem step_appAt (Y : World) {ops : Array Oper} {o : Oper} {a : Act} {K : Act → World → Prop} {Q : Exit → Act → World → Prop} {E : Prop} (hgd : o.guard = none) (s x : Operand)
    (ho : o.op = .call { callee := .builtin .append, args := #[s, x], argTypes := #[22, 22] })
    (base : Nat) (v : Value) (xs : List Byte) (hs : a.eval s = v) (u : Value) (ys : List Byte) (hx : a.eval x = u)
    (hown : Y.ownsRow base 5 1 v xs.length (bytesC xs)) (hsrc : AppAny Y u ys.length (bytesC ys)) (hpos : 0 < ys.length) (hlen : xs.length + ys.length ≤ 1073741824) (hbase : base ≤ Y.heap.size)
    (h : ∀ v' w', w'.ownsRow base 5 1 v' (xs ++ ys).length (bytesC (xs ++ ys)) → Y.grownBy w' v.ownBlock → (v'.ownBlock = v.ownBlock ∨ v'.ownBlock = some Y.heap.size) → K (a.put o.dst v') w') :
    if Region.wanted o (yielded ops a.tmps) = true then Oper.wp Tryz.prog o a Y K Q else E := by
  obtain ⟨i0, hi, hz0, hz1, hz2⟩ := info_parts infoByte
  rcases hsrc with ⟨c, rfl, hm, _⟩ | ⟨ad, c, rfl, hc⟩
  · omega
  refine step_append_at Y hgd s x 22 ho base 5 i0 _ 1 1 Tryz.underlying22 hi hz0 hz1 hz2 rfl (by decide) v xs.length (bytesC xs) hs hown ad ys.length c (bytesC ys) hx (by rw [length_bytesC]; omega) hc (bytesC_one ys) (by unfold maxLen; omega) (by omega) hbase ?_
  intro v' w' h1 h2 h3
  refine h v' w' ?_ h2 h3
  rw [List.length_append, bytesC_append]
  exact h1
set_option maxHeartbeats 2000000 in
theorem l4Append_any (x y : Value) (d : Logg) (xs : List Byte) (w : World) (hx : loggR.V w x d) (hy : bytesR.V w y xs) (hn : d.synced.length + d.loose.length ≤ 6000) (h500 : xs.length ≤ 500) :
    Calls Tryz.prog 64 #[x, y] w fun e w' => ∃ v F, e = .returned (.tuple #[v, .int .i64 (logF ⟨d.synced, d.loose ++ frameB xs⟩)]) ∧ loggR.O w' w.heap.size F v ⟨d.synced, d.loose ++ frameB xs⟩ ∧ Below w.heap.size w w' := by
  have hX := hx
  obtain ⟨a1, a2, c1, c2, rfl⟩ := logg_form hx
  obtain ⟨ay, cy, rfl⟩ := bytes_form hy
  have hf1 : 0 < (frameB xs).length := by rw [length_frameB]; omega
  have hf2 : (frameB xs).length ≤ 504 := by rw [length_frameB]; omega
  obtain ⟨c, hc⟩ : ∃ c, logF ⟨d.synced, d.loose ++ frameB xs⟩ = c := ⟨_, rfl⟩
  have HC : Hid (logF ⟨d.synced, d.loose ++ frameB xs⟩ = c) := hc
  rw [hc]
  clear hc
  go_enter Tryz.func64, Tryz.ntmps64
  go_wp2_with fail
  refine (l4Copy_any _ d _ (loggR.below hX (by (repeat (first | exact Below.refl _ _ | assumption | refine Below.drew ?_ | refine balloc ?_ _ | refine bset ?_ (by simp; omega) _ | refine bset ?_ (by simp) _ | refine bstep ?_ (by assumption))))) (by unfold wtLogg wtBytes; omega)).mono ?_
  rintro e w1 ⟨v, F, rfl, ho, hb1⟩
  obtain ⟨u1, u2, F1, F2, rfl, o1, o2, hdis, _⟩ := ho
  obtain ⟨a6, c6, rfl⟩ := bytes_form (bytesR.ofO o1)
  obtain ⟨a7, c7, rfl⟩ := bytes_form (bytesR.ofO o2)
  have r0 : w1.cell? ⟨w.heap.size + 1, 0, none⟩ = some (.slice none 0 0) := cell_keep hb1 (by simp [go_sem])
  have r1 : w1.cell? ⟨w.heap.size + 1, 1, none⟩ = some (.slice none 0 0) := cell_keep hb1 (by simp [go_sem])
  have rf : ∀ o, w1.frozen? ⟨w.heap.size + 1, o, none⟩ = false := fun o => by rw [(bcell hb1).2 _ _ (by simp)]; simp [go_sem]
  have s1 := hb1.size
  simp only [World.size_alloc] at s1
  have hB1 : Below w.heap.size w w1 := by (repeat (first | exact Below.refl _ _ | assumption | refine Below.drew ?_ | refine balloc ?_ _ | refine bset ?_ (by simp; omega) _ | refine bset ?_ (by simp) _ | refine bstep ?_ (by assumption)))
  replace o1 := bytesR.base (base' := w.heap.size + 2) o1 (by simp)
  replace o2 := bytesR.base (base' := w.heap.size + 2) o2 (by simp)
  have hF2 : ∀ b, F2 b → w.heap.size + 2 ≤ b ∧ b < w1.heap.size := fun b hb => bytesR.rng o2 b hb
  have hY := bytesR.below hy hB1
  clear hb1 hX hx
  go_wp2
  refine wp_region_noPanic ?_
  refine region_upto (fun w' => Below w.heap.size w w' ∧ w'.cell? ⟨w1.heap.size, 1, none⟩ = some (.slice a7 d.loose.length c7)) 6 (by kernel_rfl) ⟨by (repeat (first | exact Below.refl _ _ | assumption | refine Below.drew ?_ | refine balloc ?_ _ | refine bset ?_ (by simp; omega) _ | refine bset ?_ (by simp) _ | refine bstep ?_ (by assumption))), by simp [go_sem]⟩ (fun hS => ?_)
  refine upto_take (i := 0) (v := ?_) rfl (by kernel_rfl) (by kernel_rfl) (by kernel_rfl) (by kernel_rfl) (fun _ _ _ h => h) (by rfl) hS ?_ ?_
  rotate_left
  · intro wS hSw
    try dsimp only at hSw
    first | (go_simp; done) | (go_simp; with_reducible rfl)
  try simp only [Act.put, List.getElem_toArray, List.getElem_cons_zero, List.getElem_cons_succ, List.setIfInBounds_toArray, List.set_cons_zero, List.set_cons_succ]
  refine upto_take (i := 1) (v := ?_) rfl (by kernel_rfl) (by kernel_rfl) (by kernel_rfl) (by kernel_rfl) (fun _ _ _ h => h) (by rfl) hS ?_ ?_
  rotate_left
  · intro wS hSw
    try dsimp only at hSw
    first | (go_simp; done) | (go_simp; with_reducible rfl)
  try simp only [Act.put, List.getElem_toArray, List.getElem_cons_zero, List.getElem_cons_succ, List.setIfInBounds_toArray, List.set_cons_zero, List.set_cons_succ]
  refine upto_take (i := 2) (v := ?_) rfl (by kernel_rfl) (by kernel_rfl) (by kernel_rfl) (by kernel_rfl) (fun _ _ _ h => h) (by rfl) hS ?_ ?_
  rotate_left
  · intro wS hSw
    try dsimp only at hSw
    first | (go_simp; done) | (go_simp; with_reducible rfl)
  try simp only [Act.put, List.getElem_toArray, List.getElem_cons_zero, List.getElem_cons_succ, List.setIfInBounds_toArray, List.set_cons_zero, List.set_cons_succ]
  refine upto_step (i := 3) (by kernel_rfl) rfl ?_
  intro K hK
  go_simp
  refine (l3Frame_any _ xs _ (bytesR.below hY (by (repeat (first | exact Below.refl _ _ | assumption | refine Below.drew ?_ | refine balloc ?_ _ | refine bset ?_ (by simp; omega) _ | refine bset ?_ (by simp) _ | refine bstep ?_ (by assumption))))) h500).mono ?_
  rintro e w2 ⟨v, F3, rfl, o3, hb2⟩
  have V3 := bytesR.ofO o3
  obtain ⟨a3, c3, rfl⟩ := bytes_form V3
  have hW2 : Below w1.heap.size w1 w2 := bstep (by (repeat (first | exact Below.refl _ _ | assumption | refine Below.drew ?_ | refine balloc ?_ _ | refine bset ?_ (by simp; omega) _ | refine bset ?_ (by simp) _ | refine bstep ?_ (by assumption)))) hb2
  have x0 : w2.cell? ⟨w1.heap.size, 0, none⟩ = some (.slice a6 d.synced.length c6) := cell_keep hb2 (by simp [go_sem])
  have x1 : w2.cell? ⟨w1.heap.size, 1, none⟩ = some (.slice a7 d.loose.length c7) := cell_keep hb2 (by simp [go_sem])
  have xf : ∀ o, w2.frozen? ⟨w1.heap.size, o, none⟩ = false := fun o => by rw [(bcell hb2).2 _ _ (by simp)]; simp [go_sem]
  have z2 := hb2.size
  simp at z2
  have hB2 : Below w.heap.size w w2 := bstep hB1 hW2
  refine hK _ _ (fun _ => ⟨hB2, x1⟩) ?_
  clear hK K hb2 o3 hY
  try simp only [Act.put, List.getElem_toArray, List.getElem_cons_zero, List.getElem_cons_succ, List.setIfInBounds_toArray, List.set_cons_zero, List.set_cons_succ]
  refine upto_step (i := 4) (by kernel_rfl) rfl ?_
  intro K hK
  have o2' := bytesR.keep o2 hW2
  have o1' := bytesR.keep o1 hW2
  refine step_appAt w2 rfl _ _ rfl (w.heap.size + 2) (.slice a7 d.loose.length c7) d.loose rfl (.slice a3 (frameB xs).length c3) (frameB xs) rfl o2'.1 (appAny_bytes V3) (by omega) (by omega) (by omega) ?_
  intro v4 w4 o4 hg4 hat4
  have hm4 : Mod F2 w2 w4 := by rw [o2.2]; exact Mod.of_grown hg4
  have k1 := bytesR.mod o1' hm4 hdis
  have hB4' : Below w.heap.size w w4 := hm4.below hB2 hB2.size (fun b hb => by have := hF2 b hb; omega)
  have y0 := hm4.cell x0 (fun hf => by have := hF2 _ hf; dsimp only at this; omega)
  have y1 := hm4.cell x1 (fun hf => by have := hF2 _ hf; dsimp only at this; omega)
  have yf : ∀ o, w4.frozen? ⟨w1.heap.size, o, none⟩ = false := fun o => by rw [hm4.frozenAt (a := ⟨w1.heap.size, o, none⟩) (by dsimp only; omega) (fun hf => by have := hF2 _ hf; dsimp only at this; omega)]; exact xf o
  have t0 := hm4.cell (cell_keep hW2 r0) (fun hf => by have := hF2 _ hf; dsimp only at this; omega)
  have t1 := hm4.cell (cell_keep hW2 r1) (fun hf => by have := hF2 _ hf; dsimp only at this; omega)
  have tf : ∀ o, w4.frozen? ⟨w.heap.size + 1, o, none⟩ = false := fun o => by rw [hm4.frozenAt (a := ⟨w.heap.size + 1, o, none⟩) (by dsimp only; omega) (fun hf => by have := hF2 _ hf; dsimp only at this; omega), (bcell hW2).2 _ _ (by omega)]; exact rf o
  obtain ⟨p4, q4, rfl⟩ := owns_form o4
  have hF1 : ∀ b, F1 b → b < w1.heap.size := fun b hb => (bytesR.rng o1 b hb).2
  have hz12 := hW2.size
  have f4 : ∀ b, F1 b → ¬ (Value.slice p4 (d.loose ++ frameB xs).length q4).ownBlock = some b := fun b hf hb => by
    rcases hat4 with h | h
    · refine hdis b hf ?_
      rw [o2.2, ← h]
      exact hb
    · rw [h] at hb
      have := hF1 b hf
      simp only [Option.some.injEq] at hb
      omega
  have hne : ∀ b, (Value.slice p4 (d.loose ++ frameB xs).length q4).ownBlock = some b → b ≠ w1.heap.size := fun b hb e => by
    rcases hat4 with h | h
    · have h5 : F2 b := by rw [o2.2, ← h]; exact hb
      have := hF2 b h5
      omega
    · rw [h] at hb
      simp only [Option.some.injEq] at hb
      omega
  have z4 := hm4.size
  have HO : Hid (bytesR.O w4 (w.heap.size + 2) (fun b => (Value.slice p4 (d.loose ++ frameB xs).length q4).ownBlock = some b) (.slice p4 (d.loose ++ frameB xs).length q4) (d.loose ++ frameB xs)) := ⟨o4, rfl⟩
  have hS4 : (fun w' => Below w.heap.size w w' ∧ w'.cell? ⟨w1.heap.size, 1, none⟩ = some (.slice a7 d.loose.length c7)) w4 := ⟨hB4', y1⟩
  refine hK _ _ (fun _ => hS4) ?_
  clear hK K hat4 hg4 o4 o1' o2' o1 o2 hS x0 x1 xf r0 r1 rf hW2 hm4 V3 hB2
  rw [List.length_append] at *
  try simp only [Act.put, List.getElem_toArray, List.getElem_cons_zero, List.getElem_cons_succ, List.setIfInBounds_toArray, List.set_cons_zero, List.set_cons_succ]
  refine upto_take (i := 5) (v := ?_) rfl (by kernel_rfl) (by kernel_rfl) (by kernel_rfl) (by kernel_rfl) (fun _ _ _ h => h) (by rfl) hS4 ?_ ?_
  rotate_left
  · intro wS hSw
    try dsimp only at hSw
    first | (go_simp; done) | (go_simp; with_reducible rfl)
  try simp only [Act.put, List.getElem_toArray, List.getElem_cons_zero, List.getElem_cons_succ, List.setIfInBounds_toArray, List.set_cons_zero, List.set_cons_succ]
  refine upto_step (i := 6) (by kernel_rfl) rfl ?_
  intro K hK
  go_simp
  refine hK _ _ (fun h => absurd rfl h) ?_
  clear hK K
  refine upto_done (by kernel_rfl) ?_
  refine NoPanic.normal ?_
  have s0 : (w4.setCell ⟨w1.heap.size, 1, none⟩ (.slice p4 (d.loose.length + (frameB xs).length) q4)).cell? ⟨w1.heap.size, 0, none⟩ = some (.slice a6 d.synced.length c6) := by rw [set_other (by simp)]; exact y0
  have s1' : (w4.setCell ⟨w1.heap.size, 1, none⟩ (.slice p4 (d.loose.length + (frameB xs).length) q4)).cell? ⟨w1.heap.size, 1, none⟩ = some (.slice p4 (d.loose.length + (frameB xs).length) q4) := by simpa using set_same y1
  have m0 : (w4.setCell ⟨w1.heap.size, 1, none⟩ (.slice p4 (d.loose.length + (frameB xs).length) q4)).cell? ⟨w.heap.size + 1, 0, none⟩ = some (.slice none 0 0) := by rw [set_other (by simp)]; exact t0
  have m1 : (w4.setCell ⟨w1.heap.size, 1, none⟩ (.slice p4 (d.loose.length + (frameB xs).length) q4)).cell? ⟨w.heap.size + 1, 1, none⟩ = some (.slice none 0 0) := by rw [set_other (by simp)]; exact t1
  have mf : ∀ o, (w4.setCell ⟨w1.heap.size, 1, none⟩ (.slice p4 (d.loose.length + (frameB xs).length) q4)).frozen? ⟨w.heap.size + 1, o, none⟩ = false := fun o => by simp [tf]
  have hB5 : Below w.heap.size w (w4.setCell ⟨w1.heap.size, 1, none⟩ (.slice p4 (d.loose.length + (frameB xs).length) q4)) := hB4'.setCell (by dsimp only; omega) _
  have n1 : bytesR.O (w4.setCell ⟨w1.heap.size, 1, none⟩ (.slice p4 (d.loose.length + (frameB xs).length) q4)) (w.heap.size + 2) F1 (.slice a6 d.synced.length c6) d.synced := bytesR.mod k1 (Mod.of_set w4 _ _) (fun b hb e => by have := hF1 b hb; dsimp only at e; omega)
  have n2 : bytesR.O (w4.setCell ⟨w1.heap.size, 1, none⟩ (.slice p4 (d.loose.length + (frameB xs).length) q4)) (w.heap.size + 2) (fun b => (Value.slice p4 (d.loose.length + (frameB xs).length) q4).ownBlock = some b) (.slice p4 (d.loose.length + (frameB xs).length) q4) (d.loose ++ frameB xs) := bytesR.mod HO.out (Mod.of_set w4 _ _) (fun b hb e => hne b hb e)
  have hL : loggR.O (w4.setCell ⟨w1.heap.size, 1, none⟩ (.slice p4 (d.loose.length + (frameB xs).length) q4)) (w.heap.size + 2) (fun b => F1 b ∨ (Value.slice p4 (d.loose.length + (frameB xs).length) q4).ownBlock = some b) (.agg #[.slice a6 d.synced.length c6, .slice p4 (d.loose.length + (frameB xs).length) q4]) ⟨d.synced, d.loose ++ frameB xs⟩ := ⟨_, _, F1, _, rfl, n1, n2, f4, fun b => Iff.rfl⟩
  have z5 : w1.heap.size < (w4.setCell ⟨w1.heap.size, 1, none⟩ (.slice p4 (d.loose.length + (frameB xs).length) q4)).heap.size := by simp; omega
  generalize w4.setCell ⟨w1.heap.size, 1, none⟩ (.slice p4 (d.loose.length + (frameB xs).length) q4) = W5 at *
  clear hS4 y0 y1 yf t0 t1 tf k1 HO n1 n2 hne f4 hdis hF1 hF2 hB4'
  go_wp2
  refine wp_region_noPanic ?_
  refine region_upto (fun w' => Below w.heap.size w w' ∧ w'.cell? ⟨w1.heap.size, 0, none⟩ = some (.slice a6 d.synced.length c6) ∧ w'.cell? ⟨w1.heap.size, 1, none⟩ = some (.slice p4 (d.loose.length + (frameB xs).length) q4)) 4 (by kernel_rfl) ⟨by (repeat (first | exact Below.refl _ _ | assumption | refine Below.drew ?_ | refine balloc ?_ _ | refine bset ?_ (by simp; omega) _ | refine bset ?_ (by simp) _ | refine bstep ?_ (by assumption))), by simpa [go_sem] using s0, by simpa [go_sem] using s1'⟩ (fun hS => ?_)
  refine upto_take (i := 0) (v := ?_) rfl (by kernel_rfl) (by kernel_rfl) (by kernel_rfl) (by kernel_rfl) (fun _ _ _ h => h) (by rfl) hS ?_ ?_
  rotate_left
  · intro wS hSw
    try dsimp only at hSw
    first | (go_simp; done) | (go_simp; with_reducible rfl)
  try simp only [Act.put, List.getElem_toArray, List.getElem_cons_zero, List.getElem_cons_succ, List.setIfInBounds_toArray, List.set_cons_zero, List.set_cons_succ]
  refine upto_take (i := 1) (v := ?_) rfl (by kernel_rfl) (by kernel_rfl) (by kernel_rfl) (by kernel_rfl) (fun _ _ _ h => h) (by rfl) hS ?_ ?_
  rotate_left
  · intro wS hSw
    try dsimp only at hSw
    first | (go_simp; done) | (go_simp; with_reducible rfl)
  try simp only [Act.put, List.getElem_toArray, List.getElem_cons_zero, List.getElem_cons_succ, List.setIfInBounds_toArray, List.set_cons_zero, List.set_cons_succ]
  refine upto_step (i := 2) (by kernel_rfl) rfl ?_
  intro K hK
  go_simp
  refine (specLogF_any _ ⟨d.synced, d.loose ++ frameB xs⟩ _ (loggR.below (loggR.ofO hL) (by (repeat (first | exact Below.refl _ _ | assumption | refine Below.drew ?_ | refine balloc ?_ _ | refine bset ?_ (by simp; omega) _ | refine bset ?_ (by simp) _ | refine bstep ?_ (by assumption))))) (by unfold wtLogg wtBytes; simp only [List.length_append]; omega)).mono ?_
  rintro e w6 ⟨rfl, hb6⟩
  rw [HC.out]
  have hW6 : Below W5.heap.size W5 w6 := bstep (by (repeat (first | exact Below.refl _ _ | assumption | refine Below.drew ?_ | refine balloc ?_ _ | refine bset ?_ (by simp; omega) _ | refine bset ?_ (by simp) _ | refine bstep ?_ (by assumption)))) hb6
  have hS6 : (fun w' => Below w.heap.size w w' ∧ w'.cell? ⟨w1.heap.size, 0, none⟩ = some (.slice a6 d.synced.length c6) ∧ w'.cell? ⟨w1.heap.size, 1, none⟩ = some (.slice p4 (d.loose.length + (frameB xs).length) q4)) w6 := ⟨bstep hB5 hW6, cell_keep hW6 s0, cell_keep hW6 s1'⟩
  have q0 := cell_keep hW6 m0
  have q1 := cell_keep hW6 m1
  have qf : ∀ o, w6.frozen? ⟨w.heap.size + 1, o, none⟩ = false := fun o => by rw [(bcell hW6).2 _ _ (by omega)]; exact mf o
  have hB6 := hS6.1
  have hL6 := loggR.keep hL hW6
  refine hK _ _ (fun _ => hS6) ?_
  clear hK K hb6 hL
  try simp only [Act.put, List.getElem_toArray, List.getElem_cons_zero, List.getElem_cons_succ, List.setIfInBounds_toArray, List.set_cons_zero, List.set_cons_succ]
  refine upto_step (i := 3) (by kernel_rfl) rfl ?_
  intro K hK
  go_simp
  refine hK _ _ (fun _ => ⟨by (repeat (first | exact Below.refl _ _ | assumption | refine Below.drew ?_ | refine balloc ?_ _ | refine bset ?_ (by simp; omega) _ | refine bset ?_ (by simp) _ | refine bstep ?_ (by assumption))), ?_, ?_⟩) ?_
  · rw [set_other (by simp), set_other (by simp)]; exact hS6.2.1
  · rw [set_other (by simp), set_other (by simp)]; exact hS6.2.2
  clear hK K
  try simp only [Act.put, List.getElem_toArray, List.getElem_cons_zero, List.getElem_cons_succ, List.setIfInBounds_toArray, List.set_cons_zero, List.set_cons_succ]
  refine upto_step (i := 4) (by kernel_rfl) rfl ?_
  intro K hK
  go_simp
  refine hK _ _ (fun h => absurd rfl h) ?_
  clear hK K
  refine upto_done (by kernel_rfl) ?_
  refine NoPanic.normal ?_
  clear hS hS6 s0 s1' m0 m1 mf hW6
  go_wp2
  refine bodyPost_ret (v := .tuple #[.agg #[.slice a6 d.synced.length c6, .slice p4 (d.loose.length + (frameB xs).length) q4], .int .i64 c]) ?_ rfl ⟨_, _, rfl, loggR.base (loggR.set (loggR.set hL6 _ (by simp)) _ (by simp)) (by omega), by (repeat (first | exact Below.refl _ _ | assumption | refine Below.drew ?_ | refine balloc ?_ _ | refine bset ?_ (by simp; omega) _ | refine bset ?_ (by simp) _ | refine bstep ?_ (by assumption)))⟩
  simp [results, Tryz.results64, go_sem, q0, q1]
end Go.Proofs.YtdfapehonegeeaaGreat

/-
  One more record in a log, on both sides.
-/
namespace Go.Proofs.YtdfapehonegeeaaGreat
open Go.RowKit
set_option linter.unusedSectionVars false
variable [DecidableEq Logg] [Inhabited Logg] [DecidableEq LoggR] [Inhabited LoggR] [DecidableEq BytesR] [Inhabited BytesR] [DecidableEq RecsR] [Inhabited RecsR] [DecidableEq Leg] [Inhabited Leg]
set_option linter.unusedSimpArgs false
attribute [local go_sem ↓] Go.wp_at_zero Go.wp_at_succ

def appD (d : Logg) (xs : List Byte) : LoggR := if logF d = 0 then (if 1 ≤ xs.length ∧ xs.length ≤ 500 then (if logF ⟨d.synced, d.loose ++ frameB xs⟩ = 0 then ⟨0, ⟨d.synced, d.loose ++ frameB xs⟩⟩ else codeD 2) else codeD 2) else codeD 2
end Go.Proofs.YtdfapehonegeeaaGreat

/-
  One more record in a log: the program's side.
-/
namespace Go.Proofs.YtdfapehonegeeaaGreat
open Go.RowKit
set_option linter.unusedSectionVars false
variable [DecidableEq Logg] [Inhabited Logg] [DecidableEq LoggR] [Inhabited LoggR] [DecidableEq BytesR] [Inhabited BytesR] [DecidableEq RecsR] [Inhabited RecsR] [DecidableEq Leg] [Inhabited Leg]
set_option linter.unusedSimpArgs false
attribute [local go_sem ↓] Go.wp_at_zero Go.wp_at_succ

def appG (d : Logg) (fs : List Byte) (a1 a2 a3 : Option Addr) (c1 c2 c3 : Nat) : Nat → (Nat → Value) → Nat → Nat → World → Prop
  | 2, y, lo, _, w => y 25 = .slice (some ⟨lo, 0, none⟩) 1 1 ∧ w.cell? ⟨lo, 0, none⟩ = some (.slice a1 d.synced.length c1)
  | 3, y, lo, hi, w => (∃ a c, y 26 = .slice a d.synced.length c) ∧ ∃ F, bytesR.O w lo F (y 26) d.synced ∧ ∀ b, F b → b < hi
  | 8, y, lo, _, w => y 31 = .slice (some ⟨lo, 0, none⟩) 2 2 ∧ w.cell? ⟨lo, 0, none⟩ = some (.slice a2 d.loose.length c2) ∧ w.cell? ⟨lo, 1, none⟩ = some (.slice a3 fs.length c3)
  | 9, y, lo, hi, w => (∃ a c, y 32 = .slice a (d.loose.length + fs.length) c) ∧ ∃ F, bytesR.O w lo F (y 32) (d.loose ++ fs) ∧ ∀ b, F b → b < hi
  | 10, y, _, _, _ => y 33 = .agg #[y 26, y 32]
  | 11, y, lo, hi, w => y 7 = .pointer (some ⟨lo, 0, none⟩) ∧ lo < hi ∧ w.cell? ⟨lo, 0, none⟩ = some (.slice none 0 0) ∧ w.cell? ⟨lo, 1, none⟩ = some (.slice none 0 0) ∧ ∀ o, w.frozen? ⟨lo, o, none⟩ = false
  | _, _, _, _, _ => True
set_option maxHeartbeats 4000000 in
theorem implApp_u (x : Value) (d : Logg) (y : Value) (xs : List Byte) (w : World) (hx : loggR.V w x d) (hn : wtLogg d ≤ 1048576) (hy : bytesR.V w y xs) :
    Calls Tryz.prog 71 #[x, y] w fun e w' => ∃ v F, e = .returned v ∧ loggRR.O w' w.heap.size F v (appD d xs) ∧ Below w.heap.size w w' := by
  have hX := hx
  obtain ⟨a1, a2, c1, c2, rfl⟩ := logg_form hx
  obtain ⟨ay, cy, rfl⟩ := bytes_form hy
  go_enter Tryz.func71, Tryz.ntmps71
  go_wp2_with fail
  refine (implLogF_any _ d _ (loggR.below hX (by (repeat (first | exact Below.refl _ _ | assumption | refine Below.drew ?_ | refine balloc ?_ _ | refine bset ?_ (by simp; omega) _ | refine bset ?_ (by simp) _ | refine bstep ?_ (by assumption))))) hn).mono ?_
  rintro e w1 ⟨rfl, hb1⟩
  have x0 : w1.cell? ⟨w.heap.size, 0, none⟩ = some (.slice a1 d.synced.length c1) := cell_keep hb1 (by simp [go_sem])
  have x1 : w1.cell? ⟨w.heap.size, 1, none⟩ = some (.slice a2 d.loose.length c2) := cell_keep hb1 (by simp [go_sem])
  have r0 : w1.cell? ⟨w.heap.size + 1, 0, none⟩ = some (.int .i64 0) := cell_keep hb1 (by simp [go_sem])
  have r1 : w1.cell? ⟨w.heap.size + 1, 1, none⟩ = some (.slice none 0 0) := cell_keep hb1 (by simp [go_sem])
  have r2 : w1.cell? ⟨w.heap.size + 1, 2, none⟩ = some (.slice none 0 0) := cell_keep hb1 (by simp [go_sem])
  have rf : ∀ o, w1.frozen? ⟨w.heap.size + 1, o, none⟩ = false := fun o => by rw [(bcell hb1).2 _ _ (by simp)]; simp [go_sem]
  have s1 := hb1.size
  simp only [World.size_alloc] at s1
  have hB1 : Below w.heap.size w w1 := by (repeat (first | exact Below.refl _ _ | assumption | refine Below.drew ?_ | refine balloc ?_ _ | refine bset ?_ (by simp; omega) _ | refine bset ?_ (by simp) _ | refine bstep ?_ (by assumption)))
  clear hb1
  have z0 : w.heap.size < w1.heap.size := by omega
  have z1 : w.heap.size + 1 < w1.heap.size := by omega
  rcases logF_cases d with ⟨h0, hl⟩ | h0
  rotate_left
  · have HD : Hid (appD d xs = codeD 2) := by unfold Hid appD; rw [if_neg (by omega)]
    rw [h0]
    go_wp2
    refine bodyPost_ret (v := .agg #[.int .i64 2, .slice none 0 0, .slice none 0 0]) ?_ rfl ?_
    · simp [results, Tryz.results71, go_sem, r0, r1, r2]
    · rw [HD.out]
      exact ⟨_, none_, rfl, loggR_code _ _ _, by (repeat (first | exact Below.refl _ _ | assumption | refine Below.drew ?_ | refine balloc ?_ _ | refine bset ?_ (by simp; omega) _ | refine bset ?_ (by simp) _ | refine bstep ?_ (by assumption)))⟩
  rw [h0]
  have hXw := loggR.below hX hB1
  clear hX hx
  have hY := bytesR.below hy hB1
  clear hy
  have h2m : ∀ W : World, Below w1.heap.size w1 W → bytesR.V W (.slice ay xs.length cy) xs := fun W hW => bytesR.below hY hW
  go_wp2_with fail
  refine (implFrame_u _ xs _ hY).mono ?_
  rintro e w2 ⟨v, F, rfl, ho, hb⟩
  have hB2 : Below w.heap.size w w2 := bstep hB1 hb
  have ofm := bytesRR.ofO ho
  by_cases h5 : 1 ≤ xs.length ∧ xs.length ≤ 500
  rotate_left
  · have HD : Hid (appD d xs = codeD 2) := by unfold Hid appD; rw [if_pos h0, if_neg h5]
    have hfd : frameD xs = ⟨2, []⟩ := if_neg h5
    rw [hfd] at ofm
    obtain ⟨a3, c3, rfl⟩ := bytesR_form ofm
    have qx0 := cell_keep hb x0
    have qx1 := cell_keep hb x1
    have qr0 := cell_keep hb r0
    have qr1 := cell_keep hb r1
    have qr2 := cell_keep hb r2
    have qrf := (boxKeep ⟨rf, z1⟩ hb).1
    have qz0 := Nat.lt_of_lt_of_le z0 hb.size
    have qz1 := Nat.lt_of_lt_of_le z1 hb.size
    clear x0 x1 r0 r1 r2 rf z0 z1
    clear ho hb hB1 hXw ofm h2m hY
    go_wp2
    refine bodyPost_ret (v := .agg #[.int .i64 2, .slice none 0 0, .slice none 0 0]) ?_ rfl ?_
    · simp [results, Tryz.results71, go_sem, qr0, qr1, qr2, qz1]
    · rw [HD.out]
      exact ⟨_, none_, rfl, loggR_code _ _ _, by (repeat (first | exact Below.refl _ _ | assumption | refine Below.drew ?_ | refine balloc ?_ _ | refine bset ?_ (by simp; omega) _ | refine bset ?_ (by simp) _ | refine bstep ?_ (by assumption)))⟩
  have hfd : frameD xs = ⟨0, frameB xs⟩ := if_pos h5
  rw [hfd] at ofm
  obtain ⟨u3, e3, V3⟩ := ofm
  subst e3
  obtain ⟨a3, c3, rfl⟩ := bytes_form V3
  have qx0 := cell_keep hb x0
  have qx1 := cell_keep hb x1
  have qr0 := cell_keep hb r0
  have qr1 := cell_keep hb r1
  have qr2 := cell_keep hb r2
  have qrf := (boxKeep ⟨rf, z1⟩ hb).1
  have qz0 := Nat.lt_of_lt_of_le z0 hb.size
  have qz1 := Nat.lt_of_lt_of_le z1 hb.size
  clear x0 x1 r0 r1 r2 rf z0 z1
  have hW2 := hb
  clear ho hb
  clear h2m hY
  obtain ⟨u1, u2, e, V1, V2⟩ := hXw
  simp only [Value.agg.injEq, Array.mk.injEq, List.cons.injEq, and_true] at e
  obtain ⟨rfl, rfl⟩ := e
  replace V1 := bytesR.below V1 hW2
  replace V2 := bytesR.below V2 hW2
  have hf2 : (frameB xs).length ≤ 504 := by rw [length_frameB]; omega
  obtain ⟨fs, hfs⟩ : ∃ fs, frameB xs = fs := ⟨_, rfl⟩
  have HFS : Hid (frameB xs = fs) := hfs
  rw [hfs] at V3 hf2 ⊢
  clear hfs hfd hW2
  go_wp2
  refine wp_region_noPanic ?_
  refine region_upto (fun w' => Below w.heap.size w w' ∧ w'.cell? ⟨w.heap.size, 0, none⟩ = some (.slice a1 d.synced.length c1) ∧ w'.cell? ⟨w.heap.size, 1, none⟩ = some (.slice a2 d.loose.length c2) ∧ w'.cell? ⟨w2.heap.size, 1, none⟩ = some (.slice a3 fs.length c3)) 12 (by kernel_rfl) ⟨by (repeat (first | exact Below.refl _ _ | assumption | refine Below.drew ?_ | refine balloc ?_ _ | refine bset ?_ (by simp; omega) _ | refine bset ?_ (by simp) _ | refine bstep ?_ (by assumption))), cell_keep (by (repeat (first | exact Below.refl _ _ | assumption | refine Below.drew ?_ | refine balloc ?_ _ | refine bset ?_ (by simp; omega) _ | refine bset ?_ (by simp) _ | refine bstep ?_ (by assumption)))) qx0, cell_keep (by (repeat (first | exact Below.refl _ _ | assumption | refine Below.drew ?_ | refine balloc ?_ _ | refine bset ?_ (by simp; omega) _ | refine bset ?_ (by simp) _ | refine bstep ?_ (by assumption)))) qx1, by simp [go_sem]⟩ (fun hS => ?_)
  refine upto_take (i := 0) (v := ?_) rfl (by kernel_rfl) (by kernel_rfl) (by kernel_rfl) (by kernel_rfl) (fun _ _ _ h => h) (by rfl) hS ?_ ?_
  rotate_left
  · intro wS hSw
    try dsimp only at hSw
    first | (go_simp; done) | (go_simp; with_reducible rfl)
  try simp only [Act.put, List.getElem_toArray, List.getElem_cons_zero, List.getElem_cons_succ, List.setIfInBounds_toArray, List.set_cons_zero, List.set_cons_succ]
  refine upto_take (i := 1) (v := ?_) rfl (by kernel_rfl) (by kernel_rfl) (by kernel_rfl) (by kernel_rfl) (fun _ _ _ h => h) (by rfl) hS ?_ ?_
  rotate_left
  · intro wS hSw
    try dsimp only at hSw
    first | (go_simp; done) | (go_simp; with_reducible rfl)
  try simp only [Act.put, List.getElem_toArray, List.getElem_cons_zero, List.getElem_cons_succ, List.setIfInBounds_toArray, List.set_cons_zero, List.set_cons_succ]
  refine upto_take (i := 4) (v := ?_) rfl (by kernel_rfl) (by kernel_rfl) (by kernel_rfl) (by kernel_rfl) (fun _ _ _ h => h) (by rfl) hS ?_ ?_
  rotate_left
  · intro wS hSw
    try dsimp only at hSw
    first | (go_simp; done) | (go_simp; with_reducible rfl)
  try simp only [Act.put, List.getElem_toArray, List.getElem_cons_zero, List.getElem_cons_succ, List.setIfInBounds_toArray, List.set_cons_zero, List.set_cons_succ]
  refine upto_take (i := 5) (v := ?_) rfl (by kernel_rfl) (by kernel_rfl) (by kernel_rfl) (by kernel_rfl) (fun _ _ _ h => h) (by rfl) hS ?_ ?_
  rotate_left
  · intro wS hSw
    try dsimp only at hSw
    first | (go_simp; done) | (go_simp; with_reducible rfl)
  try simp only [Act.put, List.getElem_toArray, List.getElem_cons_zero, List.getElem_cons_succ, List.setIfInBounds_toArray, List.set_cons_zero, List.set_cons_succ]
  refine upto_take (i := 6) (v := ?_) rfl (by kernel_rfl) (by kernel_rfl) (by kernel_rfl) (by kernel_rfl) (fun _ _ _ h => h) (by rfl) hS ?_ ?_
  rotate_left
  · intro wS hSw
    try dsimp only at hSw
    first | (go_simp; done) | (go_simp; with_reducible rfl)
  try simp only [Act.put, List.getElem_toArray, List.getElem_cons_zero, List.getElem_cons_succ, List.setIfInBounds_toArray, List.set_cons_zero, List.set_cons_succ]
  refine upto_take (i := 7) (v := ?_) rfl (by kernel_rfl) (by kernel_rfl) (by kernel_rfl) (by kernel_rfl) (fun _ _ _ h => h) (by rfl) hS ?_ ?_
  rotate_left
  · intro wS hSw
    try dsimp only at hSw
    first | (go_simp; done) | (go_simp; with_reducible rfl)
  try simp only [Act.put, List.getElem_toArray, List.getElem_cons_zero, List.getElem_cons_succ, List.setIfInBounds_toArray, List.set_cons_zero, List.set_cons_succ]
  have hb0 : Below w2.heap.size w2 (w2.alloc (.cells #[.int .i64 0, .slice a3 fs.length c3] 146)).drew := by (repeat (first | exact Below.refl _ _ | assumption | refine Below.drew ?_ | refine balloc ?_ _ | refine bset ?_ (by simp; omega) _ | refine bset ?_ (by simp) _ | refine bstep ?_ (by assumption)))
  have hs0 : w.heap.size + 2 ≤ ((w2.alloc (.cells #[.int .i64 0, .slice a3 fs.length c3] 146)).drew).heap.size := by simp; omega
  generalize (w2.alloc (.cells #[.int .i64 0, .slice a3 fs.length c3] 146)).drew = W0 at *
  refine upto_stable' [(2, 25), (3, 26), (8, 31), (9, 32), (10, 33), (11, 7)] (appG d fs a1 a2 a3 c1 c2 c3) (by kernel_rfl) hS (fun W W' h hb => ⟨bstep h.1 hb, cell_keep hb h.2.1, cell_keep hb h.2.2.1, cell_keep hb h.2.2.2⟩) ?_ ?_ ?_
  · intro p hp
    simp only [List.mem_cons, List.not_mem_nil, or_false] at hp
    rcases hp with rfl | rfl | rfl | rfl | rfl | rfl
    · intro y y' lo hi W W' h hi' hb e _
      simp only [appG] at h ⊢
      rw [e]
      exact ⟨h.1, cell_keep hb h.2⟩
    · intro y y' lo hi W W' h hi' hb e _
      simp only [appG] at h ⊢
      rw [e]
      obtain ⟨h1, F, h2, h3⟩ := h
      exact ⟨h1, F, bytesR.keep h2 hb, h3⟩
    · intro y y' lo hi W W' h hi' hb e _
      simp only [appG] at h ⊢
      rw [e]
      exact ⟨h.1, cell_keep hb h.2.1, cell_keep hb h.2.2⟩
    · intro y y' lo hi W W' h hi' hb e _
      simp only [appG] at h ⊢
      rw [e]
      obtain ⟨h1, F, h2, h3⟩ := h
      exact ⟨h1, F, bytesR.keep h2 hb, h3⟩
    · intro y y' lo hi W W' h hi' hb e he
      have e0 := he (3, 26) (by simp) (by kernel_rfl)
      have e1 := he (9, 32) (by simp) (by kernel_rfl)
      simp only [appG] at h ⊢
      rw [e, e0, e1]
      exact h
    · intro y y' lo hi W W' h hi' hb e _
      simp only [appG] at h ⊢
      rw [e]
      exact ⟨h.1, h.2.1, cell_keep hb h.2.2.1, cell_keep hb h.2.2.2.1, fun o => by rw [(bcell hb).2 _ _ (Nat.lt_of_lt_of_le h.2.1 hi'.2.2)]; exact h.2.2.2.2 o⟩
  · intro p hp
    simp only [List.mem_cons, List.not_mem_nil, or_false] at hp
    rcases hp with rfl | rfl | rfl | rfl | rfl | rfl
    all_goals
      refine ⟨_, rfl, rfl, ?_⟩
      intro y W lo hi hSW hBW hd hap K hK
      clear hap
    · clear hd
      refine ⟨?_⟩
      simp only [over, Act.put, List.getElem_toArray, List.getElem_cons_zero, List.getElem_cons_succ, List.map_cons, List.map_nil, List.foldl_cons, List.foldl_nil, List.setIfInBounds_toArray, List.set_cons_zero, List.set_cons_succ] at hK ⊢
      go_simp
      refine hK _ _ (by (repeat (first | exact Below.refl _ _ | assumption | refine Below.drew ?_ | refine balloc ?_ _ | refine bset ?_ (by simp; omega) _ | refine bset ?_ (by simp) _ | refine bstep ?_ (by assumption)))) ?_
      simp only [appG, updV]
      exact ⟨rfl, by simp [go_sem]⟩
    · have g0 := (hd (2, 25) (by simp) (by kernel_rfl)).2
      clear hd
      simp only [appG] at g0
      refine ⟨?_⟩
      simp only [over, Act.put, List.getElem_toArray, List.getElem_cons_zero, List.getElem_cons_succ, List.map_cons, List.map_nil, List.foldl_cons, List.foldl_nil, List.setIfInBounds_toArray, List.set_cons_zero, List.set_cons_succ] at hK ⊢
      simp only [g0.1] at hK ⊢
      go_simp
      refine (joined_any _ [d.synced] _ (bytess1 g0.2 (bytesR.below V1 (bstep hb0 hBW))) (by simp; omega)).mono ?_
      rintro e w' ⟨v, F, rfl, o3, hb3⟩
      have e1 : [d.synced].flatten = d.synced := by simp
      rw [e1] at o3
      refine hK _ _ hb3 ?_
      simp only [appG, updV]
      obtain ⟨av, cv, hv⟩ := bytes_form (bytesR.ofO o3)
      exact ⟨⟨av, cv, by simpa using hv⟩, F, by simpa using o3, fun b hb => (bytesR.rng o3 b hb).2⟩
    · clear hd
      refine ⟨?_⟩
      simp only [over, Act.put, List.getElem_toArray, List.getElem_cons_zero, List.getElem_cons_succ, List.map_cons, List.map_nil, List.foldl_cons, List.foldl_nil, List.setIfInBounds_toArray, List.set_cons_zero, List.set_cons_succ] at hK ⊢
      go_simp
      refine hK _ _ (by (repeat (first | exact Below.refl _ _ | assumption | refine Below.drew ?_ | refine balloc ?_ _ | refine bset ?_ (by simp; omega) _ | refine bset ?_ (by simp) _ | refine bstep ?_ (by assumption)))) ?_
      simp only [appG, updV]
      exact ⟨rfl, by simp [go_sem], by simp [go_sem]⟩
    · have g0 := (hd (8, 31) (by simp) (by kernel_rfl)).2
      clear hd
      simp only [appG] at g0
      refine ⟨?_⟩
      simp only [over, Act.put, List.getElem_toArray, List.getElem_cons_zero, List.getElem_cons_succ, List.map_cons, List.map_nil, List.foldl_cons, List.foldl_nil, List.setIfInBounds_toArray, List.set_cons_zero, List.set_cons_succ] at hK ⊢
      simp only [g0.1] at hK ⊢
      go_simp
      refine (joined_any _ [d.loose, fs] _ (bytess2 g0.2.1 g0.2.2 (bytesR.below V2 (bstep hb0 hBW)) (bytesR.below V3 (bstep hb0 hBW))) (by simp; omega)).mono ?_
      rintro e w' ⟨v, F, rfl, o3, hb3⟩
      have e1 : [d.loose, fs].flatten = d.loose ++ fs := by simp
      rw [e1] at o3
      refine hK _ _ hb3 ?_
      simp only [appG, updV]
      obtain ⟨av, cv, hv⟩ := bytes_form (bytesR.ofO o3)
      exact ⟨⟨av, cv, by simpa using hv⟩, F, by simpa using o3, fun b hb => (bytesR.rng o3 b hb).2⟩
    · have g3 := (hd (3, 26) (by simp) (by kernel_rfl)).2
      have g7 := (hd (9, 32) (by simp) (by kernel_rfl)).2
      clear hd
      simp only [appG] at g3 g7
      obtain ⟨⟨a6, c6, e6⟩, _⟩ := g3
      obtain ⟨⟨a7, c7, e7⟩, _⟩ := g7
      refine ⟨?_⟩
      simp only [over, Act.put, List.getElem_toArray, List.getElem_cons_zero, List.getElem_cons_succ, List.map_cons, List.map_nil, List.foldl_cons, List.foldl_nil, List.setIfInBounds_toArray, List.set_cons_zero, List.set_cons_succ] at hK ⊢
      simp only [e6, e7] at hK ⊢
      go_simp
      refine hK _ _ (Below.refl _ _) ?_
      simp only [appG, updV]
      simp [e6, e7]
    · clear hd
      refine ⟨?_⟩
      simp only [over, Act.put, List.getElem_toArray, List.getElem_cons_zero, List.getElem_cons_succ, List.map_cons, List.map_nil, List.foldl_cons, List.foldl_nil, List.setIfInBounds_toArray, List.set_cons_zero, List.set_cons_succ] at hK ⊢
      go_simp
      refine hK _ _ (by (repeat (first | exact Below.refl _ _ | assumption | refine Below.drew ?_ | refine balloc ?_ _ | refine bset ?_ (by simp; omega) _ | refine bset ?_ (by simp) _ | refine bstep ?_ (by assumption)))) ?_
      simp only [appG, updV]
      exact ⟨rfl, by simp, by simp [go_sem], by simp [go_sem], fun o => by simp [go_sem]⟩
  · refine ⟨_, rfl, ?_⟩
    intro y W lo hi hSW hBW hd hap K hK
    have g3 := hd (3, 26) (by simp)
    have g9 := hd (9, 32) (by simp)
    have g10 := (hd (10, 33) (by simp)).2
    have g11 := hd (11, 7) (by simp)
    clear hd
    have p39 := hap (3, 26) (by simp) (9, 32) (by simp) (by simp)
    have p3b := hap (3, 26) (by simp) (11, 7) (by simp) (by simp)
    have p9b := hap (9, 32) (by simp) (11, 7) (by simp) (by simp)
    clear hap
    simp only [appG, Apart, InB] at g3 g9 g10 g11 p39 p3b p9b
    obtain ⟨b3, ⟨a6, c6, e6⟩, F1, o1, f1⟩ := g3
    obtain ⟨b9, ⟨a7, c7, e7⟩, F2, o2, f2⟩ := g9
    obtain ⟨b11, e11, hlh, k0, k1, kf⟩ := g11
    have hl1 : ∀ b, F1 b → lo 3 ≤ b := fun b hb => (bytesR.rng o1 b hb).1
    have hl2 : ∀ b, F2 b → lo 9 ≤ b := fun b hb => (bytesR.rng o2 b hb).1
    have hdis : ∀ b, F1 b → ¬ F2 b := fun b q1 q2 => by
      have := f1 b q1
      have := f2 b q2
      have := hl1 b q1
      have := hl2 b q2
      omega
    have hn1 : ¬ F1 (lo 11) := fun q => by
      have := f1 _ q
      have := hl1 _ q
      omega
    have hn2 : ¬ F2 (lo 11) := fun q => by
      have := f2 _ q
      have := hl2 _ q
      omega
    have hB11 : w.heap.size + 2 ≤ lo 11 := by omega
    have hW : Below w2.heap.size w2 W := bstep hb0 hBW
    replace o1 := bytesR.base (base' := w.heap.size + 2) o1 (by omega)
    replace o2 := bytesR.base (base' := w.heap.size + 2) o2 (by omega)
    rw [e6] at o1 g10
    rw [e7] at o2 g10
    have hBB := hSW.1
    have hlt : lo 11 < W.heap.size := by omega
    generalize lo 11 = B at *
    refine ⟨?_⟩
    simp only [over, Act.put, List.getElem_toArray, List.getElem_cons_zero, List.getElem_cons_succ, List.map_cons, List.map_nil, List.foldl_cons, List.foldl_nil, List.setIfInBounds_toArray, List.set_cons_zero, List.set_cons_succ]
    simp only [g10, e11]
    clear g10 e11 e6 e7 b3 b9 b11 p39 p3b p9b f1 f2 hl1 hl2 hS hSW hBW hb0 hs0
    go_simp
    refine hK _ _ ?_
    clear hK K
    refine NoPanic.normal ?_
    have t0 : ((W.setCell ⟨B, 0, none⟩ (.slice a6 d.synced.length c6)).setCell ⟨B, 1, none⟩ (.slice a7 (d.loose.length + fs.length) c7)).cell? ⟨B, 0, none⟩ = some (.slice a6 d.synced.length c6) := by rw [set_other (by simp)]; simpa using set_same k0
    have t1 : ((W.setCell ⟨B, 0, none⟩ (.slice a6 d.synced.length c6)).setCell ⟨B, 1, none⟩ (.slice a7 (d.loose.length + fs.length) c7)).cell? ⟨B, 1, none⟩ = some (.slice a7 (d.loose.length + fs.length) c7) := by simpa using set_same (by rw [set_other (by simp)]; exact k1)
    have hm5 : Mod (fun b => b = B) W ((W.setCell ⟨B, 0, none⟩ (.slice a6 d.synced.length c6)).setCell ⟨B, 1, none⟩ (.slice a7 (d.loose.length + fs.length) c7)) := (Mod.of_set W ⟨B, 0, none⟩ _).trans (Mod.of_set _ ⟨B, 1, none⟩ _)
    generalize (W.setCell ⟨B, 0, none⟩ (.slice a6 d.synced.length c6)).setCell ⟨B, 1, none⟩ (.slice a7 (d.loose.length + fs.length) c7) = W5 at *
    have n1 := bytesR.mod o1 hm5 (fun b hb e => hn1 (e ▸ hb))
    have n2 := bytesR.mod o2 hm5 (fun b hb e => hn2 (e ▸ hb))
    have hL : loggR.O W5 (w.heap.size + 2) (fun b => F1 b ∨ F2 b) (.agg #[.slice a6 d.synced.length c6, .slice a7 (d.loose.length + fs.length) c7]) ⟨d.synced, d.loose ++ fs⟩ := ⟨_, _, F1, F2, rfl, n1, n2, hdis, fun _ => Iff.rfl⟩
    have hB5 : Below w.heap.size w W5 := hm5.below hBB hBB.size (fun b hb => by omega)
    have m0 := hm5.cell (cell_keep hW qr0) (fun e => by dsimp only at e; omega)
    have m1 := hm5.cell (cell_keep hW qr1) (fun e => by dsimp only at e; omega)
    have m2 := hm5.cell (cell_keep hW qr2) (fun e => by dsimp only at e; omega)
    have mf : ∀ o, W5.frozen? ⟨w.heap.size + 1, o, none⟩ = false := fun o => by rw [hm5.frozenAt (a := ⟨w.heap.size + 1, o, none⟩) (by dsimp only; omega) (fun e => by dsimp only at e; omega), (bcell hW).2 _ _ qz1]; exact qrf o
    have hz5 : B < W5.heap.size := Nat.lt_of_lt_of_le hlt hm5.size
    clear o1 o2 n1 n2 hm5 hdis hn1 hn2 k0 k1 kf hW qx0 qx1 qr0 qr1 qr2 qrf V1 V2 V3 hBB
    go_wp2_with fail
    refine (implLogF_any _ ⟨d.synced, d.loose ++ fs⟩ _ (loggR.ofO hL) (by unfold wtLogg wtBytes; simp only [List.length_append]; omega)).mono ?_
    rintro e w6 ⟨rfl, hb6⟩
    have hB6 : Below w.heap.size w w6 := bstep hB5 hb6
    have hL6 := loggR.keep hL hb6
    have v0 := cell_keep hb6 t0
    have v1 := cell_keep hb6 t1
    have q0 := cell_keep hb6 m0
    have q1 := cell_keep hb6 m1
    have q2 := cell_keep hb6 m2
    have qf := (boxKeep ⟨mf, (by omega : w.heap.size + 1 < W5.heap.size)⟩ hb6).1
    clear hL t0 t1 m0 m1 m2 mf hb6 hB5
    rcases logF_cases ⟨d.synced, d.loose ++ fs⟩ with ⟨hc, hl2⟩ | hc
    · have HD : Hid (appD d xs = ⟨0, ⟨d.synced, d.loose ++ fs⟩⟩) := by unfold Hid appD; rw [if_pos h0, if_pos h5, HFS.out, if_pos hc]
      rw [hc]
      clear hc hl2
      go_wp2
      have HO2 := loggR_of hL6
      refine bodyPost_ret (v := .agg #[.int .i64 0, .slice a6 d.synced.length c6, .slice a7 (d.loose.length + fs.length) c7]) ?_ rfl ?_
      · simp [results, Tryz.results71, go_sem, q0, q1, q2]
      · first | refine ⟨_, fun b => F1 b ∨ F2 b, rfl, ?_, by (repeat (first | exact Below.refl _ _ | assumption | refine Below.drew ?_ | refine balloc ?_ _ | refine bset ?_ (by simp; omega) _ | refine bset ?_ (by simp) _ | refine bstep ?_ (by assumption)))⟩ | refine ⟨_, rfl, ⟨fun b => F1 b ∨ F2 b, ?_⟩, by (repeat (first | exact Below.refl _ _ | assumption | refine Below.drew ?_ | refine balloc ?_ _ | refine bset ?_ (by simp; omega) _ | refine bset ?_ (by simp) _ | refine bstep ?_ (by assumption)))⟩
        rw [HD.out]
        exact loggRR.base (base := w.heap.size + 2) (by (repeat (first | assumption | refine Rep.set _ ?_ _ (by simp; omega) | refine Rep.set _ ?_ _ (by simp) | refine Rep.alloc _ ?_ _ | refine Rep.keep _ ?_ (by assumption)))) (by omega)
    · have HD : Hid (appD d xs = codeD 2) := by unfold Hid appD; rw [if_pos h0, if_pos h5, HFS.out, if_neg (by omega)]
      rw [hc]
      clear hc
      go_wp2
      refine bodyPost_ret (v := .agg #[.int .i64 2, .slice none 0 0, .slice none 0 0]) ?_ rfl ?_
      · simp [results, Tryz.results71, go_sem, q0, q1, q2]
      · rw [HD.out]
        first | exact ⟨_, none_, rfl, loggR_code _ _ _, by (repeat (first | exact Below.refl _ _ | assumption | refine Below.drew ?_ | refine balloc ?_ _ | refine bset ?_ (by simp; omega) _ | refine bset ?_ (by simp) _ | refine bstep ?_ (by assumption)))⟩ | exact ⟨_, rfl, ⟨none_, loggR_code _ _ _⟩, by (repeat (first | exact Below.refl _ _ | assumption | refine Below.drew ?_ | refine balloc ?_ _ | refine bset ?_ (by simp; omega) _ | refine bset ?_ (by simp) _ | refine bstep ?_ (by assumption)))⟩
end Go.Proofs.YtdfapehonegeeaaGreat


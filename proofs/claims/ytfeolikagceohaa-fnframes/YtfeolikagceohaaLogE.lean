/-
  One more record in a log: the specification's side.
-/
import Derived.Test.YtfeolikagceohaaLogD
import Derived.Test.YtfeolikagceohaaRegS
import Derived.Deep.RegionLawGrows
namespace Go.Proofs.Ytfeolikagceohaa
open Go.RowKit
set_option linter.unusedSectionVars false
variable [DecidableEq Logg] [Inhabited Logg] [DecidableEq LoggR] [Inhabited LoggR] [DecidableEq BytesR] [Inhabited BytesR] [DecidableEq RecsR] [Inhabited RecsR] [DecidableEq Leg] [Inhabited Leg]
set_option linter.unusedSimpArgs false
attribute [local go_sem ↓] Go.wp_at_zero Go.wp_at_succ

theorem run_append_zero {P : Program} (w : World) (t ty e : TypeId) (i : TypeInfo) (ht : P.underlying t = some (.slice e)) (hi : P.info? e = some i) (g c : Nat) (ao : Option Addr) :
    (Builtin.append_ #[t, t] ty #[.slice (some ⟨g, 0, none⟩) 0 0, .slice ao 0 c]).run P w = .ok (.slice (some ⟨g, 0, none⟩) 0 0) w := by
  cases ao with
  | none => simp [Builtin.append_, run_underlying ht, sizeOf, typeInfo, hi, Builtin.lenOf, Builtin.firstCells, storeCells]
  | some ad => simp [Builtin.append_, run_underlying ht, sizeOf, typeInfo, hi, Builtin.lenOf, Builtin.firstCells, storeCells, loadCells, loadCellsFrom]

/-- bytes appended to an empty literal -/
theorem step_litB (Y : World) {ops : Array Oper} {o : Oper} {a : Act} {K : Act → World → Prop} {Q : Exit → Act → World → Prop} {E : Prop} (hgd : o.guard = none) (s x : Operand)
    (ho : o.op = .call { callee := .builtin .append, args := #[s, x], argTypes := #[22, 22] })
    (g : Nat) (hs : a.eval s = .slice (some ⟨g, 0, none⟩) 0 0) (u : Value) (ys : List Byte) (hx : a.eval x = u) (hsrc : AppAny Y u ys.length (bytesC ys)) (hlen : ys.length ≤ 1073741824)
    (h : ∀ v' w', Below Y.heap.size Y w' → ((ys = [] ∧ v' = .slice (some ⟨g, 0, none⟩) 0 0) ∨ w'.ownsRow Y.heap.size 5 1 v' ys.length (bytesC ys)) → K (a.put o.dst v') w') :
    if Region.wanted o (yielded ops a.tmps) = true then Oper.wp Try.prog o a Y K Q else E := by
  obtain ⟨i0, hi, hz0, hz1, hz2⟩ := info_parts infoByte
  by_cases hy : ys = []
  · subst hy
    have hu : ∃ ao c, u = .slice ao 0 c := by
      rcases hsrc with ⟨c, rfl, _, _⟩ | ⟨ad, c, rfl, _⟩
      · exact ⟨_, _, rfl⟩
      · exact ⟨_, _, rfl⟩
    obtain ⟨ao, c, rfl⟩ := hu
    have hw : Region.wanted o (yielded ops a.tmps) = true := by simp [Region.wanted, hgd]
    rw [if_pos hw]
    have hr := run_append_zero (P := Try.prog) Y 22 o.type 5 i0 Try.underlying22 hi g c ao
    unfold Oper.wp execOp
    simp only [ho, resolve, invoke, builtin, Sem.run_bind, Sem.run_pure, Result.andThen_ok, List.map_toArray, List.map_cons, List.map_nil, hs, hx, hr]
    exact h _ _ (Below.refl _ _) (.inl ⟨rfl, rfl⟩)
  · rcases hsrc with ⟨c, rfl, hm, _⟩ | ⟨ad, c, rfl, hc⟩
    · exact absurd (List.eq_nil_of_length_eq_zero hm) hy
    · have hpos : 0 < ys.length := List.length_pos_iff.2 hy
      refine step_append_grows hgd s x 22 ho 5 i0 _ 1 1 Try.underlying22 hi hz0 hz1 hz2 rfl (by decide) (some ⟨g, 0, none⟩) 0 0 [] hs (fun e => by cases e) rfl (fun _ _ j v hj => by cases hj) ad ys.length c (bytesC ys) hx (by rw [length_bytesC]; omega) hc (bytesC_one ys) (by omega) (by unfold maxLen; omega) (by omega) ?_
      intro v' w' hown hg
      refine h v' w' ((Below.refl _ _).grown hg (Nat.le_refl _) (fun k e => by cases e)) (.inr ?_)
      simpa using hown

/-- the operations of l4Copy's region, and what each yields -/
def copyG (d : Logg) : Nat → (Nat → Value) → Nat → Nat → World → Prop
  | 0, y, lo, hi, w => y 3 = .slice (some ⟨lo, 0, none⟩) 0 0 ∧ lo < hi ∧ w.ownsRow lo 5 1 (.slice (some ⟨lo, 0, none⟩) 0 0) 0 (bytesC [])
  | 3, y, lo, hi, w => (∃ a c, y 6 = .slice a d.synced.length c) ∧ ((d.synced = [] ∧ y 6 = y 3) ∨ (w.ownsRow lo 5 1 (y 6) d.synced.length (bytesC d.synced) ∧ ∀ b, (y 6).ownBlock = some b → b < hi))
  | 4, y, lo, hi, w => y 7 = .slice (some ⟨lo, 0, none⟩) 0 0 ∧ lo < hi ∧ w.ownsRow lo 5 1 (.slice (some ⟨lo, 0, none⟩) 0 0) 0 (bytesC [])
  | 7, y, lo, hi, w => (∃ a c, y 10 = .slice a d.loose.length c) ∧ ((d.loose = [] ∧ y 10 = y 7) ∨ (w.ownsRow lo 5 1 (y 10) d.loose.length (bytesC d.loose) ∧ ∀ b, (y 10).ownBlock = some b → b < hi))
  | 8, y, _, _, _ => y 11 = .agg #[y 6, y 10]
  | _, _, _, _, _ => True

theorem lit_both {w0 w : World} {xs : List Byte} {v v0 : Value} {l1 h1 l2 h2 : Nat} (b1 : InB w0 w l1 h1) (b2 : InB w0 w l2 h2)
    (g1 : v0 = .slice (some ⟨l1, 0, none⟩) 0 0 ∧ l1 < h1 ∧ w.ownsRow l1 5 1 (.slice (some ⟨l1, 0, none⟩) 0 0) 0 (bytesC []))
    (g2 : (xs = [] ∧ v = v0) ∨ (w.ownsRow l2 5 1 v xs.length (bytesC xs) ∧ ∀ b, v.ownBlock = some b → b < h2)) :
    ∃ F, bytesR.O w w0.heap.size F v xs ∧ ∀ b, F b → (l1 ≤ b ∧ b < h1) ∨ (l2 ≤ b ∧ b < h2) := by
  rcases g2 with ⟨rfl, rfl⟩ | ⟨g2, g3⟩
  · obtain ⟨rfl, g4, g5⟩ := g1
    refine ⟨_, bytesR.base (base := l1) ⟨g5, rfl⟩ b1.1, fun b hb => .inl ?_⟩
    simp [Value.ownBlock] at hb
    omega
  · refine ⟨_, bytesR.base (base := l2) ⟨g2, rfl⟩ b2.1, fun b hb => .inr ⟨?_, g3 b hb⟩⟩
    exact (bytesR.rng (F := fun b => v.ownBlock = some b) (show bytesR.O w l2 _ v xs from ⟨g2, rfl⟩) b hb).1

set_option maxHeartbeats 1000000 in
theorem l4Copy_any (x : Value) (d : Logg) (w : World) (hx : loggR.V w x d) (hn : wtLogg d ≤ 1048576) :
    Calls Try.prog 50 #[x] w fun e w' => ∃ v F, e = .returned v ∧ loggR.O w' w.heap.size F v d ∧ Below w.heap.size w w' := by
  have hX := hx
  obtain ⟨u1, u2, rfl, h1, h2⟩ := hx
  obtain ⟨a1, c1, rfl⟩ := bytes_form h1
  obtain ⟨a2, c2, rfl⟩ := bytes_form h2
  unfold wtLogg wtBytes at hn
  go_enter Try.func50, Try.ntmps50
  go_wp2
  refine wp_region_noPanic ?_
  refine region_upto (fun w' => Below w.heap.size w w' ∧ w'.cell? ⟨w.heap.size, 0, none⟩ = some (.slice a1 d.synced.length c1) ∧ w'.cell? ⟨w.heap.size, 1, none⟩ = some (.slice a2 d.loose.length c2)) 9 (by kernel_rfl) ⟨by (repeat (first | exact Below.refl _ _ | assumption | refine Below.drew ?_ | refine balloc ?_ _ | refine bset ?_ (by simp; omega) _ | refine bset ?_ (by simp) _ | refine bstep ?_ (by assumption))), by simp [go_sem], by simp [go_sem]⟩ (fun hS => ?_)
  refine upto_take (i := 1) (v := ?_) rfl (by kernel_rfl) (by kernel_rfl) (by kernel_rfl) (by kernel_rfl) (fun _ _ _ h => h) (by rfl) hS ?_ ?_
  rotate_left
  · intro wS hSw
    try dsimp only at hSw
    first | (go_simp; done) | (go_simp; with_reducible rfl)
  try simp only [Act.put, List.getElem_toArray, List.getElem_cons_zero, List.getElem_cons_succ, List.setIfInBounds_toArray, List.set_cons_zero, List.set_cons_succ]
  refine upto_take (i := 2) (v := ?_) rfl (by kernel_rfl) (by kernel_rfl) (by kernel_rfl) (by kernel_rfl) (fun _ _ _ h => h) (by rfl) hS ?_ ?_
  rotate_left
  · intro wS hSw
    try dsimp only at hSw
    first | (go_simp; done) | (go_simp; with_reducible rfl)
  try simp only [Act.put, List.getElem_toArray, List.getElem_cons_zero, List.getElem_cons_succ, List.setIfInBounds_toArray, List.set_cons_zero, List.set_cons_succ]
  refine upto_take (i := 5) (v := ?_) rfl (by kernel_rfl) (by kernel_rfl) (by kernel_rfl) (by kernel_rfl) (fun _ _ _ h => h) (by rfl) hS ?_ ?_
  rotate_left
  · intro wS hSw
    try dsimp only at hSw
    first | (go_simp; done) | (go_simp; with_reducible rfl)
  try simp only [Act.put, List.getElem_toArray, List.getElem_cons_zero, List.getElem_cons_succ, List.setIfInBounds_toArray, List.set_cons_zero, List.set_cons_succ]
  refine upto_take (i := 6) (v := ?_) rfl (by kernel_rfl) (by kernel_rfl) (by kernel_rfl) (by kernel_rfl) (fun _ _ _ h => h) (by rfl) hS ?_ ?_
  rotate_left
  · intro wS hSw
    try dsimp only at hSw
    first | (go_simp; done) | (go_simp; with_reducible rfl)
  try simp only [Act.put, List.getElem_toArray, List.getElem_cons_zero, List.getElem_cons_succ, List.setIfInBounds_toArray, List.set_cons_zero, List.set_cons_succ]
  have hB0 : Below (w.heap.size + 2) ((w.alloc (.cells #[.slice a1 d.synced.length c1, .slice a2 d.loose.length c2] 34)).alloc (.cells #[.slice none 0 0, .slice none 0 0] 34)) ((w.alloc (.cells #[.slice a1 d.synced.length c1, .slice a2 d.loose.length c2] 34)).alloc (.cells #[.slice none 0 0, .slice none 0 0] 34)).drew := Below.drew (Below.refl _ _)
  have hs0 : ((w.alloc (.cells #[.slice a1 d.synced.length c1, .slice a2 d.loose.length c2] 34)).alloc (.cells #[.slice none 0 0, .slice none 0 0] 34)).drew.heap.size = w.heap.size + 2 := by simp
  have r0 : ((w.alloc (.cells #[.slice a1 d.synced.length c1, .slice a2 d.loose.length c2] 34)).alloc (.cells #[.slice none 0 0, .slice none 0 0] 34)).drew.cell? ⟨w.heap.size + 1, 0, none⟩ = some (.slice none 0 0) := by simp [go_sem]
  have r1 : ((w.alloc (.cells #[.slice a1 d.synced.length c1, .slice a2 d.loose.length c2] 34)).alloc (.cells #[.slice none 0 0, .slice none 0 0] 34)).drew.cell? ⟨w.heap.size + 1, 1, none⟩ = some (.slice none 0 0) := by simp [go_sem]
  have rf : ∀ o, ((w.alloc (.cells #[.slice a1 d.synced.length c1, .slice a2 d.loose.length c2] 34)).alloc (.cells #[.slice none 0 0, .slice none 0 0] 34)).drew.frozen? ⟨w.heap.size + 1, o, none⟩ = false := fun o => by simp [go_sem]
  have hb0 := hS.1
  clear hB0
  generalize ((w.alloc (.cells #[.slice a1 d.synced.length c1, .slice a2 d.loose.length c2] 34)).alloc (.cells #[.slice none 0 0, .slice none 0 0] 34)).drew = W0 at *
  refine upto_stable' [(0, 3), (3, 6), (4, 7), (7, 10), (8, 11)] (copyG d) (by kernel_rfl) hS (fun W W' h hb => ⟨bstep h.1 hb, cell_keep hb h.2.1, cell_keep hb h.2.2⟩) ?_ ?_ ?_
  · -- what was yielded stays
    intro p hp
    simp only [List.mem_cons, List.not_mem_nil, or_false] at hp
    rcases hp with rfl | rfl | rfl | rfl | rfl
    · intro y y' lo hi W W' h hi' hb e _
      simp only [copyG] at h ⊢
      rw [e]
      exact ⟨h.1, h.2.1, owns_below h.2.2 hb⟩
    · intro y y' lo hi W W' h hi' hb e he
      have e0 := he (0, 3) (by simp) (by kernel_rfl)
      simp only [copyG] at h ⊢
      rw [e, e0]
      exact ⟨h.1, h.2.imp id (fun h => ⟨owns_below h.1 hb, h.2⟩)⟩
    · intro y y' lo hi W W' h hi' hb e _
      simp only [copyG] at h ⊢
      rw [e]
      exact ⟨h.1, h.2.1, owns_below h.2.2 hb⟩
    · intro y y' lo hi W W' h hi' hb e he
      have e0 := he (4, 7) (by simp) (by kernel_rfl)
      simp only [copyG] at h ⊢
      rw [e, e0]
      exact ⟨h.1, h.2.imp id (fun h => ⟨owns_below h.1 hb, h.2⟩)⟩
    · intro y y' lo hi W W' h hi' hb e he
      have e0 := he (3, 6) (by simp) (by kernel_rfl)
      have e1 := he (7, 10) (by simp) (by kernel_rfl)
      simp only [copyG] at h ⊢
      rw [e, e0, e1]
      exact h
  · -- each operation
    intro p hp
    simp only [List.mem_cons, List.not_mem_nil, or_false] at hp
    rcases hp with rfl | rfl | rfl | rfl | rfl
    all_goals
      refine ⟨_, rfl, rfl, ?_⟩
      intro y W lo hi hSW hBW hd hap K hK
      clear hap
    · clear hd
      refine ⟨?_⟩
      simp only [over, Act.put, List.getElem_toArray, List.getElem_cons_zero, List.getElem_cons_succ, List.map_cons, List.map_nil, List.foldl_cons, List.foldl_nil, List.setIfInBounds_toArray, List.set_cons_zero, List.set_cons_succ] at hK ⊢
      go_simp
      refine hK _ _ (by (repeat (first | exact Below.refl _ _ | assumption | refine Below.drew ?_ | refine balloc ?_ _ | refine bset ?_ (by simp; omega) _ | refine bset ?_ (by simp) _ | refine bstep ?_ (by assumption)))) ?_
      simp only [copyG, updV]
      exact ⟨rfl, by simp, nil_owns (Below.refl _ _) _ rfl (Nat.le_refl _)⟩
    · have g0 := (hd (0, 3) (by simp) (by kernel_rfl)).2
      clear hd
      simp only [copyG] at g0
      refine ⟨?_⟩
      refine step_litB W rfl (.tmp 3) (.tmp 5) rfl (lo 0) ?_ (.slice a1 d.synced.length c1) d.synced ?_ (appAny_bytes (bytesR.below h1 hSW.1)) (by omega) ?_
      · exact g0.1
      · rfl
      intro v' w' hb ho
      refine hK _ _ hb ?_
      simp only [copyG, updV]
      rcases ho with ⟨hl, rfl⟩ | ho
      · exact ⟨⟨some ⟨lo 0, 0, none⟩, 0, by simp [hl]⟩, .inl ⟨hl, by simp [g0.1]⟩⟩
      · obtain ⟨av, cv, hv⟩ := owns_form ho
        refine ⟨⟨av, cv, by simpa using hv⟩, .inr ⟨by simpa using ho, fun b hb' => ?_⟩⟩
        exact (bytesR.rng (F := fun b => v'.ownBlock = some b) (show bytesR.O w' _ _ v' d.synced from ⟨ho, rfl⟩) b (by simpa using hb')).2
    · clear hd
      refine ⟨?_⟩
      simp only [over, Act.put, List.getElem_toArray, List.getElem_cons_zero, List.getElem_cons_succ, List.map_cons, List.map_nil, List.foldl_cons, List.foldl_nil, List.setIfInBounds_toArray, List.set_cons_zero, List.set_cons_succ] at hK ⊢
      go_simp
      refine hK _ _ (by (repeat (first | exact Below.refl _ _ | assumption | refine Below.drew ?_ | refine balloc ?_ _ | refine bset ?_ (by simp; omega) _ | refine bset ?_ (by simp) _ | refine bstep ?_ (by assumption)))) ?_
      simp only [copyG, updV]
      exact ⟨rfl, by simp, nil_owns (Below.refl _ _) _ rfl (Nat.le_refl _)⟩
    · have g0 := (hd (4, 7) (by simp) (by kernel_rfl)).2
      clear hd
      simp only [copyG] at g0
      refine ⟨?_⟩
      refine step_litB W rfl (.tmp 7) (.tmp 9) rfl (lo 4) ?_ (.slice a2 d.loose.length c2) d.loose ?_ (appAny_bytes (bytesR.below h2 hSW.1)) (by omega) ?_
      · exact g0.1
      · rfl
      intro v' w' hb ho
      refine hK _ _ hb ?_
      simp only [copyG, updV]
      rcases ho with ⟨hl, rfl⟩ | ho
      · exact ⟨⟨some ⟨lo 4, 0, none⟩, 0, by simp [hl]⟩, .inl ⟨hl, by simp [g0.1]⟩⟩
      · obtain ⟨av, cv, hv⟩ := owns_form ho
        refine ⟨⟨av, cv, by simpa using hv⟩, .inr ⟨by simpa using ho, fun b hb' => ?_⟩⟩
        exact (bytesR.rng (F := fun b => v'.ownBlock = some b) (show bytesR.O w' _ _ v' d.loose from ⟨ho, rfl⟩) b (by simpa using hb')).2
    · have g3 := (hd (3, 6) (by simp) (by kernel_rfl)).2
      have g7 := (hd (7, 10) (by simp) (by kernel_rfl)).2
      clear hd
      simp only [copyG] at g3 g7
      obtain ⟨⟨a6, c6, e6⟩, _⟩ := g3
      obtain ⟨⟨a7, c7, e7⟩, _⟩ := g7
      refine ⟨?_⟩
      simp only [over, Act.put, List.getElem_toArray, List.getElem_cons_zero, List.getElem_cons_succ, List.map_cons, List.map_nil, List.foldl_cons, List.foldl_nil, List.setIfInBounds_toArray, List.set_cons_zero, List.set_cons_succ] at hK ⊢
      simp only [e6, e7] at hK ⊢
      go_simp
      refine hK _ _ (Below.refl _ _) ?_
      simp only [copyG, updV]
      simp [e6, e7]
  · refine ⟨_, rfl, ?_⟩
    intro y W lo hi hSW hBW hd hap K hK
    have h0 := hd (0, 3) (by simp)
    have h3 := hd (3, 6) (by simp)
    have h4 := hd (4, 7) (by simp)
    have h7 := hd (7, 10) (by simp)
    have h8 := hd (8, 11) (by simp)
    clear hd
    simp only [copyG] at h0 h3 h4 h7 h8
    obtain ⟨b0, g0⟩ := h0
    obtain ⟨b3, g3⟩ := h3
    obtain ⟨b4, g4⟩ := h4
    obtain ⟨b7, g7⟩ := h7
    obtain ⟨b8, g8⟩ := h8
    have p04 := hap (0, 3) (by simp) (4, 7) (by simp) (by simp)
    have p07 := hap (0, 3) (by simp) (7, 10) (by simp) (by simp)
    have p34 := hap (3, 6) (by simp) (4, 7) (by simp) (by simp)
    have p37 := hap (3, 6) (by simp) (7, 10) (by simp) (by simp)
    clear hap
    simp only [Apart] at p04 p07 p34 p37
    obtain ⟨F1, o1, f1⟩ := lit_both b0 b3 g0 g3.2
    obtain ⟨F2, o2, f2⟩ := lit_both b4 b7 g4 g7.2
    obtain ⟨⟨a6, c6, e6⟩, _⟩ := g3
    obtain ⟨⟨a7, c7, e7⟩, _⟩ := g7
    have hdis : ∀ b, F1 b → ¬ F2 b := fun b q1 q2 => by
      have := f1 b q1
      have := f2 b q2
      omega
    have q0 := cell_keep hBW r0
    have q1 := cell_keep hBW r1
    have qf : ∀ o, W.frozen? ⟨w.heap.size + 1, o, none⟩ = false := fun o => by rw [(bcell hBW).2 _ _ (by omega)]; exact rf o
    rw [hs0] at o1 o2
    rw [e6] at o1 g8
    rw [e7] at o2 g8
    have hBB := hSW.1
    refine ⟨?_⟩
    simp only [over, Act.put, List.getElem_toArray, List.getElem_cons_zero, List.getElem_cons_succ, List.map_cons, List.map_nil, List.foldl_cons, List.foldl_nil, List.setIfInBounds_toArray, List.set_cons_zero, List.set_cons_succ]
    simp only [g8]
    clear g0 g4 g8 b0 b3 b4 b7 b8 p04 p07 p34 p37 f1 f2 hS hSW hBW
    go_simp
    refine hK _ _ ?_
    clear hK K
    refine NoPanic.normal ?_
    go_wp2
    refine bodyPost_ret (v := .agg #[.slice a6 d.synced.length c6, .slice a7 d.loose.length c7]) ?_ rfl ⟨_, fun b => F1 b ∨ F2 b, rfl, ⟨_, _, F1, F2, rfl, bytesR.base (bytesR.set (bytesR.set o1 _ (by simp)) _ (by simp)) (by omega), bytesR.base (bytesR.set (bytesR.set o2 _ (by simp)) _ (by simp)) (by omega), hdis, fun b => Iff.rfl⟩, by (repeat (first | exact Below.refl _ _ | assumption | refine Below.drew ?_ | refine balloc ?_ _ | refine bset ?_ (by simp; omega) _ | refine bset ?_ (by simp) _ | refine bstep ?_ (by assumption)))⟩
    simp [results, Try.results50, go_sem, q0, q1]

end Go.Proofs.Ytfeolikagceohaa

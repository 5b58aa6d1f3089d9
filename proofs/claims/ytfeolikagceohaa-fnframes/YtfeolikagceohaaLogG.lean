/-
  One more record in a log: the specification's side, and what is told.
-/
import Derived.Test.YtfeolikagceohaaLogE
import Derived.Test.YtfeolikagceohaaSep2
namespace Go.Proofs.Ytfeolikagceohaa
open Go.RowKit
set_option linter.unusedSectionVars false
variable [DecidableEq Logg] [Inhabited Logg] [DecidableEq LoggR] [Inhabited LoggR] [DecidableEq BytesR] [Inhabited BytesR] [DecidableEq RecsR] [Inhabited RecsR] [DecidableEq Leg] [Inhabited Leg]
set_option linter.unusedSimpArgs false
attribute [local go_sem ↓] Go.wp_at_zero Go.wp_at_succ

theorem Mod.frozenAt {F : Nat → Prop} {w w' : World} (h : Mod F w w') {a : Addr} (hl : a.block < w.heap.size) (hn : ¬ F a.block) : w'.frozen? a = w.frozen? a := World.frozen?_of_block (h.block a.block hl hn)

theorem step_appAt (Y : World) {ops : Array Oper} {o : Oper} {a : Act} {K : Act → World → Prop} {Q : Exit → Act → World → Prop} {E : Prop} (hgd : o.guard = none) (s x : Operand)
    (ho : o.op = .call { callee := .builtin .append, args := #[s, x], argTypes := #[22, 22] })
    (base : Nat) (v : Value) (xs : List Byte) (hs : a.eval s = v) (u : Value) (ys : List Byte) (hx : a.eval x = u)
    (hown : Y.ownsRow base 5 1 v xs.length (bytesC xs)) (hsrc : AppAny Y u ys.length (bytesC ys)) (hpos : 0 < ys.length) (hlen : xs.length + ys.length ≤ 1073741824) (hbase : base ≤ Y.heap.size)
    (h : ∀ v' w', w'.ownsRow base 5 1 v' (xs ++ ys).length (bytesC (xs ++ ys)) → Y.grownBy w' v.ownBlock → (v'.ownBlock = v.ownBlock ∨ v'.ownBlock = some Y.heap.size) → K (a.put o.dst v') w') :
    if Region.wanted o (yielded ops a.tmps) = true then Oper.wp Try.prog o a Y K Q else E := by
  obtain ⟨i0, hi, hz0, hz1, hz2⟩ := info_parts infoByte
  rcases hsrc with ⟨c, rfl, hm, _⟩ | ⟨ad, c, rfl, hc⟩
  · omega
  refine step_append_at Y hgd s x 22 ho base 5 i0 _ 1 1 Try.underlying22 hi hz0 hz1 hz2 rfl (by decide) v xs.length (bytesC xs) hs hown ad ys.length c (bytesC ys) hx (by rw [length_bytesC]; omega) hc (bytesC_one ys) (by unfold maxLen; omega) (by omega) hbase ?_
  intro v' w' h1 h2 h3
  refine h v' w' ?_ h2 h3
  rw [List.length_append, bytesC_append]
  exact h1

set_option maxHeartbeats 2000000 in
theorem l4Append_any (x y : Value) (d : Logg) (xs : List Byte) (w : World) (hx : loggR.V w x d) (hy : bytesR.V w y xs) (hn : d.synced.length + d.loose.length ≤ 6000) (h500 : xs.length ≤ 500) :
    Calls Try.prog 42 #[x, y] w fun e w' => ∃ v F, e = .returned (.tuple #[v, .int .i64 (logF ⟨d.synced, d.loose ++ frameB xs⟩)]) ∧ loggR.O w' w.heap.size F v ⟨d.synced, d.loose ++ frameB xs⟩ ∧ Below w.heap.size w w' := by
  have hX := hx
  obtain ⟨a1, a2, c1, c2, rfl⟩ := logg_form hx
  obtain ⟨ay, cy, rfl⟩ := bytes_form hy
  have hf1 : 0 < (frameB xs).length := by rw [length_frameB]; omega
  have hf2 : (frameB xs).length ≤ 504 := by rw [length_frameB]; omega
  obtain ⟨c, hc⟩ : ∃ c, logF ⟨d.synced, d.loose ++ frameB xs⟩ = c := ⟨_, rfl⟩
  have HC : Hid (logF ⟨d.synced, d.loose ++ frameB xs⟩ = c) := hc
  rw [hc]
  clear hc
  go_enter Try.func42, Try.ntmps42
  go_wp2_with fail
  refine (l4Copy_any _ d _ (loggR.below hX (by (repeat (first | exact Below.refl _ _ | assumption | refine Below.drew ?_ | refine balloc ?_ _ | refine bset ?_ (by simp; omega) _ | refine bset ?_ (by simp) _ | refine bstep ?_ (by assumption))))) (by unfold wtLogg wtBytes; omega)).mono ?_
  rintro e w1 ⟨v, F, rfl, ho, hb1⟩
  obtain ⟨u1, u2, F1, F2, rfl, o1, o2, hdis, _⟩ := ho
  obtain ⟨a6, c6, rfl⟩ := bytes_form (bytesR.ofO o1)
  obtain ⟨a7, c7, rfl⟩ := bytes_form (bytesR.ofO o2)
  have r0 : w1.cell? ⟨w.heap.size + 1, 0, none⟩ = some (.slice none 0 0) := cell_keep hb1 (by simp [go_sem])
  have r1 : w1.cell? ⟨w.heap.size + 1, 1, none⟩ = some (.slice none 0 0) := cell_keep hb1 (by simp [go_sem])
  have rf : ∀ o, w1.frozen? ⟨w.heap.size + 1, o, none⟩ = false := fun o => by rw [(bcell hb1).2 _ _ (by simp)]; simp [go_sem]
  have s1 := hb1.size
  simp only [World.size_alloc] at s1
  have hB1 : Below w.heap.size w w1 := by (repeat (first | exact Below.refl _ _ | assumption | refine Below.drew ?_ | refine balloc ?_ _ | refine bset ?_ (by simp; omega) _ | refine bset ?_ (by simp) _ | refine bstep ?_ (by assumption)))
  replace o1 := bytesR.base (base' := w.heap.size + 2) o1 (by simp)
  replace o2 := bytesR.base (base' := w.heap.size + 2) o2 (by simp)
  have hF2 : ∀ b, F2 b → w.heap.size + 2 ≤ b ∧ b < w1.heap.size := fun b hb => bytesR.rng o2 b hb
  have hY := bytesR.below hy hB1
  clear hb1 hX hx
  go_wp2
  refine wp_region_noPanic ?_
  refine region_upto (fun w' => Below w.heap.size w w' ∧ w'.cell? ⟨w1.heap.size, 1, none⟩ = some (.slice a7 d.loose.length c7)) 6 (by kernel_rfl) ⟨by (repeat (first | exact Below.refl _ _ | assumption | refine Below.drew ?_ | refine balloc ?_ _ | refine bset ?_ (by simp; omega) _ | refine bset ?_ (by simp) _ | refine bstep ?_ (by assumption))), by simp [go_sem]⟩ (fun hS => ?_)
  refine upto_take (i := 0) (v := ?_) rfl (by kernel_rfl) (by kernel_rfl) (by kernel_rfl) (by kernel_rfl) (fun _ _ _ h => h) (by rfl) hS ?_ ?_
  rotate_left
  · intro wS hSw
    try dsimp only at hSw
    first | (go_simp; done) | (go_simp; with_reducible rfl)
  try simp only [Act.put, List.getElem_toArray, List.getElem_cons_zero, List.getElem_cons_succ, List.setIfInBounds_toArray, List.set_cons_zero, List.set_cons_succ]
  refine upto_take (i := 1) (v := ?_) rfl (by kernel_rfl) (by kernel_rfl) (by kernel_rfl) (by kernel_rfl) (fun _ _ _ h => h) (by rfl) hS ?_ ?_
  rotate_left
  · intro wS hSw
    try dsimp only at hSw
    first | (go_simp; done) | (go_simp; with_reducible rfl)
  try simp only [Act.put, List.getElem_toArray, List.getElem_cons_zero, List.getElem_cons_succ, List.setIfInBounds_toArray, List.set_cons_zero, List.set_cons_succ]
  refine upto_take (i := 2) (v := ?_) rfl (by kernel_rfl) (by kernel_rfl) (by kernel_rfl) (by kernel_rfl) (fun _ _ _ h => h) (by rfl) hS ?_ ?_
  rotate_left
  · intro wS hSw
    try dsimp only at hSw
    first | (go_simp; done) | (go_simp; with_reducible rfl)
  try simp only [Act.put, List.getElem_toArray, List.getElem_cons_zero, List.getElem_cons_succ, List.setIfInBounds_toArray, List.set_cons_zero, List.set_cons_succ]
  refine upto_step (i := 3) (by kernel_rfl) rfl ?_
  intro K hK
  go_simp
  refine (l3Frame_any _ xs _ (bytesR.below hY (by (repeat (first | exact Below.refl _ _ | assumption | refine Below.drew ?_ | refine balloc ?_ _ | refine bset ?_ (by simp; omega) _ | refine bset ?_ (by simp) _ | refine bstep ?_ (by assumption))))) h500).mono ?_
  rintro e w2 ⟨v, F3, rfl, o3, hb2⟩
  have V3 := bytesR.ofO o3
  obtain ⟨a3, c3, rfl⟩ := bytes_form V3
  have hW2 : Below w1.heap.size w1 w2 := bstep (by (repeat (first | exact Below.refl _ _ | assumption | refine Below.drew ?_ | refine balloc ?_ _ | refine bset ?_ (by simp; omega) _ | refine bset ?_ (by simp) _ | refine bstep ?_ (by assumption)))) hb2
  have x0 : w2.cell? ⟨w1.heap.size, 0, none⟩ = some (.slice a6 d.synced.length c6) := cell_keep hb2 (by simp [go_sem])
  have x1 : w2.cell? ⟨w1.heap.size, 1, none⟩ = some (.slice a7 d.loose.length c7) := cell_keep hb2 (by simp [go_sem])
  have xf : ∀ o, w2.frozen? ⟨w1.heap.size, o, none⟩ = false := fun o => by rw [(bcell hb2).2 _ _ (by simp)]; simp [go_sem]
  have z2 := hb2.size
  simp at z2
  have hB2 : Below w.heap.size w w2 := bstep hB1 hW2
  refine hK _ _ (fun _ => ⟨hB2, x1⟩) ?_
  clear hK K hb2 o3 hY
  try simp only [Act.put, List.getElem_toArray, List.getElem_cons_zero, List.getElem_cons_succ, List.setIfInBounds_toArray, List.set_cons_zero, List.set_cons_succ]
  refine upto_step (i := 4) (by kernel_rfl) rfl ?_
  intro K hK
  have o2' := bytesR.keep o2 hW2
  have o1' := bytesR.keep o1 hW2
  refine step_appAt w2 rfl _ _ rfl (w.heap.size + 2) (.slice a7 d.loose.length c7) d.loose rfl (.slice a3 (frameB xs).length c3) (frameB xs) rfl o2'.1 (appAny_bytes V3) (by omega) (by omega) (by omega) ?_
  intro v4 w4 o4 hg4 hat4
  have hm4 : Mod F2 w2 w4 := by rw [o2.2]; exact Mod.of_grown hg4
  have k1 := bytesR.mod o1' hm4 hdis
  have hB4' : Below w.heap.size w w4 := hm4.below hB2 hB2.size (fun b hb => by have := hF2 b hb; omega)
  have y0 := hm4.cell x0 (fun hf => by have := hF2 _ hf; dsimp only at this; omega)
  have y1 := hm4.cell x1 (fun hf => by have := hF2 _ hf; dsimp only at this; omega)
  have yf : ∀ o, w4.frozen? ⟨w1.heap.size, o, none⟩ = false := fun o => by rw [hm4.frozenAt (a := ⟨w1.heap.size, o, none⟩) (by dsimp only; omega) (fun hf => by have := hF2 _ hf; dsimp only at this; omega)]; exact xf o
  have t0 := hm4.cell (cell_keep hW2 r0) (fun hf => by have := hF2 _ hf; dsimp only at this; omega)
  have t1 := hm4.cell (cell_keep hW2 r1) (fun hf => by have := hF2 _ hf; dsimp only at this; omega)
  have tf : ∀ o, w4.frozen? ⟨w.heap.size + 1, o, none⟩ = false := fun o => by rw [hm4.frozenAt (a := ⟨w.heap.size + 1, o, none⟩) (by dsimp only; omega) (fun hf => by have := hF2 _ hf; dsimp only at this; omega), (bcell hW2).2 _ _ (by omega)]; exact rf o
  obtain ⟨p4, q4, rfl⟩ := owns_form o4
  have hF1 : ∀ b, F1 b → b < w1.heap.size := fun b hb => (bytesR.rng o1 b hb).2
  have hz12 := hW2.size
  have f4 : ∀ b, F1 b → ¬ (Value.slice p4 (d.loose ++ frameB xs).length q4).ownBlock = some b := fun b hf hb => by
    rcases hat4 with h | h
    · refine hdis b hf ?_
      rw [o2.2, ← h]
      exact hb
    · rw [h] at hb
      have := hF1 b hf
      simp only [Option.some.injEq] at hb
      omega
  have hne : ∀ b, (Value.slice p4 (d.loose ++ frameB xs).length q4).ownBlock = some b → b ≠ w1.heap.size := fun b hb e => by
    rcases hat4 with h | h
    · have h5 : F2 b := by rw [o2.2, ← h]; exact hb
      have := hF2 b h5
      omega
    · rw [h] at hb
      simp only [Option.some.injEq] at hb
      omega
  have z4 := hm4.size
  have HO : Hid (bytesR.O w4 (w.heap.size + 2) (fun b => (Value.slice p4 (d.loose ++ frameB xs).length q4).ownBlock = some b) (.slice p4 (d.loose ++ frameB xs).length q4) (d.loose ++ frameB xs)) := ⟨o4, rfl⟩
  have hS4 : (fun w' => Below w.heap.size w w' ∧ w'.cell? ⟨w1.heap.size, 1, none⟩ = some (.slice a7 d.loose.length c7)) w4 := ⟨hB4', y1⟩
  refine hK _ _ (fun _ => hS4) ?_
  clear hK K hat4 hg4 o4 o1' o2' o1 o2 hS x0 x1 xf r0 r1 rf hW2 hm4 V3 hB2
  rw [List.length_append] at *
  try simp only [Act.put, List.getElem_toArray, List.getElem_cons_zero, List.getElem_cons_succ, List.setIfInBounds_toArray, List.set_cons_zero, List.set_cons_succ]
  refine upto_take (i := 5) (v := ?_) rfl (by kernel_rfl) (by kernel_rfl) (by kernel_rfl) (by kernel_rfl) (fun _ _ _ h => h) (by rfl) hS4 ?_ ?_
  rotate_left
  · intro wS hSw
    try dsimp only at hSw
    first | (go_simp; done) | (go_simp; with_reducible rfl)
  try simp only [Act.put, List.getElem_toArray, List.getElem_cons_zero, List.getElem_cons_succ, List.setIfInBounds_toArray, List.set_cons_zero, List.set_cons_succ]
  refine upto_step (i := 6) (by kernel_rfl) rfl ?_
  intro K hK
  go_simp
  refine hK _ _ (fun h => absurd rfl h) ?_
  clear hK K
  refine upto_done (by kernel_rfl) ?_
  refine NoPanic.normal ?_
  have s0 : (w4.setCell ⟨w1.heap.size, 1, none⟩ (.slice p4 (d.loose.length + (frameB xs).length) q4)).cell? ⟨w1.heap.size, 0, none⟩ = some (.slice a6 d.synced.length c6) := by rw [set_other (by simp)]; exact y0
  have s1' : (w4.setCell ⟨w1.heap.size, 1, none⟩ (.slice p4 (d.loose.length + (frameB xs).length) q4)).cell? ⟨w1.heap.size, 1, none⟩ = some (.slice p4 (d.loose.length + (frameB xs).length) q4) := by simpa using set_same y1
  have m0 : (w4.setCell ⟨w1.heap.size, 1, none⟩ (.slice p4 (d.loose.length + (frameB xs).length) q4)).cell? ⟨w.heap.size + 1, 0, none⟩ = some (.slice none 0 0) := by rw [set_other (by simp)]; exact t0
  have m1 : (w4.setCell ⟨w1.heap.size, 1, none⟩ (.slice p4 (d.loose.length + (frameB xs).length) q4)).cell? ⟨w.heap.size + 1, 1, none⟩ = some (.slice none 0 0) := by rw [set_other (by simp)]; exact t1
  have mf : ∀ o, (w4.setCell ⟨w1.heap.size, 1, none⟩ (.slice p4 (d.loose.length + (frameB xs).length) q4)).frozen? ⟨w.heap.size + 1, o, none⟩ = false := fun o => by simp [tf]
  have hB5 : Below w.heap.size w (w4.setCell ⟨w1.heap.size, 1, none⟩ (.slice p4 (d.loose.length + (frameB xs).length) q4)) := hB4'.setCell (by dsimp only; omega) _
  have n1 : bytesR.O (w4.setCell ⟨w1.heap.size, 1, none⟩ (.slice p4 (d.loose.length + (frameB xs).length) q4)) (w.heap.size + 2) F1 (.slice a6 d.synced.length c6) d.synced := bytesR.mod k1 (Mod.of_set w4 _ _) (fun b hb e => by have := hF1 b hb; dsimp only at e; omega)
  have n2 : bytesR.O (w4.setCell ⟨w1.heap.size, 1, none⟩ (.slice p4 (d.loose.length + (frameB xs).length) q4)) (w.heap.size + 2) (fun b => (Value.slice p4 (d.loose.length + (frameB xs).length) q4).ownBlock = some b) (.slice p4 (d.loose.length + (frameB xs).length) q4) (d.loose ++ frameB xs) := bytesR.mod HO.out (Mod.of_set w4 _ _) (fun b hb e => hne b hb e)
  have hL : loggR.O (w4.setCell ⟨w1.heap.size, 1, none⟩ (.slice p4 (d.loose.length + (frameB xs).length) q4)) (w.heap.size + 2) (fun b => F1 b ∨ (Value.slice p4 (d.loose.length + (frameB xs).length) q4).ownBlock = some b) (.agg #[.slice a6 d.synced.length c6, .slice p4 (d.loose.length + (frameB xs).length) q4]) ⟨d.synced, d.loose ++ frameB xs⟩ := ⟨_, _, F1, _, rfl, n1, n2, f4, fun b => Iff.rfl⟩
  have z5 : w1.heap.size < (w4.setCell ⟨w1.heap.size, 1, none⟩ (.slice p4 (d.loose.length + (frameB xs).length) q4)).heap.size := by simp; omega
  generalize w4.setCell ⟨w1.heap.size, 1, none⟩ (.slice p4 (d.loose.length + (frameB xs).length) q4) = W5 at *
  clear hS4 y0 y1 yf t0 t1 tf k1 HO n1 n2 hne f4 hdis hF1 hF2 hB4'
  go_wp2
  refine wp_region_noPanic ?_
  refine region_upto (fun w' => Below w.heap.size w w' ∧ w'.cell? ⟨w1.heap.size, 0, none⟩ = some (.slice a6 d.synced.length c6) ∧ w'.cell? ⟨w1.heap.size, 1, none⟩ = some (.slice p4 (d.loose.length + (frameB xs).length) q4)) 4 (by kernel_rfl) ⟨by (repeat (first | exact Below.refl _ _ | assumption | refine Below.drew ?_ | refine balloc ?_ _ | refine bset ?_ (by simp; omega) _ | refine bset ?_ (by simp) _ | refine bstep ?_ (by assumption))), by simpa [go_sem] using s0, by simpa [go_sem] using s1'⟩ (fun hS => ?_)
  refine upto_take (i := 0) (v := ?_) rfl (by kernel_rfl) (by kernel_rfl) (by kernel_rfl) (by kernel_rfl) (fun _ _ _ h => h) (by rfl) hS ?_ ?_
  rotate_left
  · intro wS hSw
    try dsimp only at hSw
    first | (go_simp; done) | (go_simp; with_reducible rfl)
  try simp only [Act.put, List.getElem_toArray, List.getElem_cons_zero, List.getElem_cons_succ, List.setIfInBounds_toArray, List.set_cons_zero, List.set_cons_succ]
  refine upto_take (i := 1) (v := ?_) rfl (by kernel_rfl) (by kernel_rfl) (by kernel_rfl) (by kernel_rfl) (fun _ _ _ h => h) (by rfl) hS ?_ ?_
  rotate_left
  · intro wS hSw
    try dsimp only at hSw
    first | (go_simp; done) | (go_simp; with_reducible rfl)
  try simp only [Act.put, List.getElem_toArray, List.getElem_cons_zero, List.getElem_cons_succ, List.setIfInBounds_toArray, List.set_cons_zero, List.set_cons_succ]
  refine upto_step (i := 2) (by kernel_rfl) rfl ?_
  intro K hK
  go_simp
  refine (specLogF_any _ ⟨d.synced, d.loose ++ frameB xs⟩ _ (loggR.below (loggR.ofO hL) (by (repeat (first | exact Below.refl _ _ | assumption | refine Below.drew ?_ | refine balloc ?_ _ | refine bset ?_ (by simp; omega) _ | refine bset ?_ (by simp) _ | refine bstep ?_ (by assumption))))) (by unfold wtLogg wtBytes; simp only [List.length_append]; omega)).mono ?_
  rintro e w6 ⟨rfl, hb6⟩
  rw [HC.out]
  have hW6 : Below W5.heap.size W5 w6 := bstep (by (repeat (first | exact Below.refl _ _ | assumption | refine Below.drew ?_ | refine balloc ?_ _ | refine bset ?_ (by simp; omega) _ | refine bset ?_ (by simp) _ | refine bstep ?_ (by assumption)))) hb6
  have hS6 : (fun w' => Below w.heap.size w w' ∧ w'.cell? ⟨w1.heap.size, 0, none⟩ = some (.slice a6 d.synced.length c6) ∧ w'.cell? ⟨w1.heap.size, 1, none⟩ = some (.slice p4 (d.loose.length + (frameB xs).length) q4)) w6 := ⟨bstep hB5 hW6, cell_keep hW6 s0, cell_keep hW6 s1'⟩
  have q0 := cell_keep hW6 m0
  have q1 := cell_keep hW6 m1
  have qf : ∀ o, w6.frozen? ⟨w.heap.size + 1, o, none⟩ = false := fun o => by rw [(bcell hW6).2 _ _ (by omega)]; exact mf o
  have hB6 := hS6.1
  have hL6 := loggR.keep hL hW6
  refine hK _ _ (fun _ => hS6) ?_
  clear hK K hb6 hL
  try simp only [Act.put, List.getElem_toArray, List.getElem_cons_zero, List.getElem_cons_succ, List.setIfInBounds_toArray, List.set_cons_zero, List.set_cons_succ]
  refine upto_step (i := 3) (by kernel_rfl) rfl ?_
  intro K hK
  go_simp
  refine hK _ _ (fun _ => ⟨by (repeat (first | exact Below.refl _ _ | assumption | refine Below.drew ?_ | refine balloc ?_ _ | refine bset ?_ (by simp; omega) _ | refine bset ?_ (by simp) _ | refine bstep ?_ (by assumption))), ?_, ?_⟩) ?_
  · rw [set_other (by simp), set_other (by simp)]; exact hS6.2.1
  · rw [set_other (by simp), set_other (by simp)]; exact hS6.2.2
  clear hK K
  try simp only [Act.put, List.getElem_toArray, List.getElem_cons_zero, List.getElem_cons_succ, List.setIfInBounds_toArray, List.set_cons_zero, List.set_cons_succ]
  refine upto_step (i := 4) (by kernel_rfl) rfl ?_
  intro K hK
  go_simp
  refine hK _ _ (fun h => absurd rfl h) ?_
  clear hK K
  refine upto_done (by kernel_rfl) ?_
  refine NoPanic.normal ?_
  clear hS hS6 s0 s1' m0 m1 mf hW6
  go_wp2
  refine bodyPost_ret (v := .tuple #[.agg #[.slice a6 d.synced.length c6, .slice p4 (d.loose.length + (frameB xs).length) q4], .int .i64 c]) ?_ rfl ⟨_, _, rfl, loggR.base (loggR.set (loggR.set hL6 _ (by simp)) _ (by simp)) (by omega), by (repeat (first | exact Below.refl _ _ | assumption | refine Below.drew ?_ | refine balloc ?_ _ | refine bset ?_ (by simp; omega) _ | refine bset ?_ (by simp) _ | refine bstep ?_ (by assumption)))⟩
  simp [results, Try.results42, go_sem, q0, q1]

end Go.Proofs.Ytfeolikagceohaa

import Derived.Test.YtecfelacdapdgaaGreatPrnPackEventLaw2
import Derived.Test.YtecfelacdapdgaaGreatPrnPackEventLaw11
import Derived.Test.YtecfelacdapdgaaGreatPrnPackEventLaw4
import Derived.Test.YtecfelacdapdgaaGreatPrnPackEventLaw8
import Derived.BigQuiet
import Derived.Deep.QuietTactic
import Derived.Deep.RegionHeld3
import Derived.Test.YtecfelacdapdgaaGreatPrnPackEventLaw10
import Derived.Maps.OwnSet
import Derived.DeepKeys4
import Derived.Test.YtecfelacdapdgaaGreatPrnPackEventLaw1
import Derived.Deep.DrawnRows

/-
  Appends, with what they turn.
-/
set_option linter.unusedSimpArgs false
set_option linter.unusedVariables false
namespace Go.Proofs.YtecfelacdapdgaaGreat
open Go.RowKit
set_option linter.unusedSectionVars false
variable [DecidableEq Leg] [Inhabited Leg] [DecidableEq Mrk] [Inhabited Mrk] [DecidableEq Bal] [Inhabited Bal]
attribute [local go_sem ↓] Go.wp_at_zero Go.wp_at_succ

theorem wp_appG (Y : World) {o : Oper} {a : Act} {K : Act → World → Prop} {Q : Exit → Act → World → Prop} (hgd : o.guard = none) (s x : Operand) (t : TypeId)
    (ho : o.op = .call { callee := .builtin .append, args := #[s, x], argTypes := #[t, t] })
    (e : TypeId) (i : TypeInfo) (z : Value) (size bytes : Nat) (ht : Tryz.prog.underlying t = some (.slice e)) (hi : Tryz.prog.info? e = some i) (hz : i.zero = some z)
    (hsize : i.size = size) (hby : i.bytes = bytes) (hzs : z.cells.size = size) (hsz : 0 < size) (hbs : bytes ≤ 64)
    (base : Nat) (v : Value) (F1 : Nat → Prop) (n : Nat) (cs : List Value) (hs : a.eval s = v) (u : Value) (m : Nat) (ds : List Value) (hx : a.eval x = u)
    (hown : Y.ownsRow base e size v n cs ∧ F1 = (fun b => v.ownBlock = some b)) (hsrc : AppAny Y u m ds) (hl : ds.length = m * size) (h1 : ∀ y ∈ ds, y.oneCell' = true) (hlen : n + m ≤ 1073741824) (hbase : base ≤ Y.heap.size)
    (h : ∀ v' w', (w'.ownsRow base e size v' (n + m) (cs ++ ds) ∧ (fun b => v'.ownBlock = some b) = (fun b => v'.ownBlock = some b)) → Mod F1 Y w' → (∀ b, v'.ownBlock = some b → F1 b ∨ (Y.heap.size ≤ b ∧ b < w'.heap.size)) → K (a.put o.dst v') w') : Oper.wp Tryz.prog o a Y K Q := by
  obtain ⟨hown, hF1⟩ := hown
  rcases hsrc with ⟨c, rfl, hm, hd⟩ | ⟨ad, c, rfl, hc⟩
  · subst hm hd
    have hr := run_append_none_any (P := Tryz.prog) Y base t o.type e i size c ht hi v n cs hown
    unfold Oper.wp execOp
    simp only [ho, resolve, invoke, builtin, Sem.run_bind, Sem.run_pure, Result.andThen_ok, List.map_toArray, List.map_cons, List.map_nil, hs, hx, hr]
    refine h v Y ⟨?_, rfl⟩ (Mod.refl _ _) (fun b hb => .inl (by rw [hF1]; exact hb))
    rw [List.append_nil, Nat.add_zero]
    exact hown
  · have h0 := step_append_at (E := True) (ops := #[]) (Q := Q) (K := K) Y hgd s x t ho base e i z size bytes ht hi hz hsize hby hzs hsz v n cs hs hown ad m c ds hx hl hc h1 (by unfold maxLen; omega) (Nat.le_trans (Nat.mul_le_mul hlen hbs) (by decide)) hbase (by
      intro v' w' h1 h2 h3
      refine h v' w' ⟨h1, rfl⟩ (by rw [hF1]; exact Mod.of_grown h2) (fun b hb => ?_)
      rcases h3 with h3 | h3
      · exact .inl (by rw [hF1]; exact h3 ▸ hb)
      · rw [h3] at hb
        simp only [Option.some.injEq] at hb
        have := (h1.lt b (by rw [h3, hb])).2
        exact .inr ⟨by omega, this⟩)
    rwa [if_pos (by simp [Region.wanted, hgd])] at h0
theorem ite_wantedG {c : Bool} {A B : Prop} (hc : c = true) (h : A) : if c = true then A else B := by rw [if_pos hc]; exact h
end Go.Proofs.YtecfelacdapdgaaGreat

/-
  PackEvent, the document's.
-/
set_option linter.unusedSimpArgs false
set_option linter.unusedVariables false
namespace Go.Proofs.YtecfelacdapdgaaGreat
open Go.RowKit
set_option linter.unusedSectionVars false
variable [DecidableEq Leg] [Inhabited Leg] [DecidableEq Cont] [Inhabited Cont] [DecidableEq Evt] [Inhabited Evt] [DecidableEq EvtR] [Inhabited EvtR] [DecidableEq BytesR] [Inhabited BytesR] [DecidableEq ContR] [Inhabited ContR] [DecidableEq Logg] [Inhabited Logg] [DecidableEq LoggR] [Inhabited LoggR] [DecidableEq RecsR] [Inhabited RecsR] [DecidableEq Mrk] [Inhabited Mrk] [DecidableEq Bal] [Inhabited Bal]
attribute [local go_sem ↓] Go.wp_at_zero Go.wp_at_succ

theorem wp_app12Y (Y : World) {o : Oper} {a : Act} {K : Act → World → Prop} {Q : Exit → Act → World → Prop} (hgd : o.guard = none) (s x : Operand)
    (ho : o.op = .call { callee := .builtin .append, args := #[s, x], argTypes := #[37, 37] })
    (base : Nat) (v : Value) (F1 : Nat → Prop) (xs : List Byte) (hs : a.eval s = v) (u : Value) (ys : List Byte) (hx : a.eval x = u)
    (hown : bytesR.O Y base F1 v xs) (hsrc : AppAny Y u ys.length (bytesC ys)) (hlen : xs.length + ys.length ≤ 1073741824) (hbase : base ≤ Y.heap.size)
    (h : ∀ v' w' F', bytesR.O w' base F' v' (xs ++ ys) → Mod F1 Y w' → (∀ b, F' b → F1 b ∨ (Y.heap.size ≤ b ∧ b < w'.heap.size)) → K (a.put o.dst v') w') : Oper.wp Tryz.prog o a Y K Q := by
  obtain ⟨i0, hi, hz0, hz1, hz2⟩ := info_parts infoByte
  refine wp_appG Y hgd s x 37 ho 5 i0 _ 1 1 Tryz.underlying37 hi hz0 hz1 hz2 rfl (by decide) (by decide) base v F1 xs.length (bytesC xs) hs u ys.length (bytesC ys) hx hown hsrc (by rw [length_bytesC]; omega) (bytesC_one ys) hlen hbase ?_
  intro v' w' h1 h2 h3
  refine h v' w' _ ⟨?_, rfl⟩ h2 h3
  rw [List.length_append, bytesC_append]
  exact h1.1
theorem lit12Y (Y : World) (base : Nat) (hb : base ≤ Y.heap.size) (q : Int) (b : Byte) (hq : q = (b.val : Int)) : bytesR.O (Y.alloc (.cells #[.int .u8 q] 5)) base (fun b => b = Y.heap.size) (.slice (some ⟨Y.heap.size, 0, none⟩) 1 1) [b] := by
  subst hq
  exact ⟨World.ownsRow_lit (base := base) (e := 5) (size := 1) Y #[.int .u8 (b.val : Int)] 1 hb (by decide) rfl, by funext b; simp [Value.ownBlock, eq_comm]⟩
def ev14C : Nat → List Nat
  | 5 => [0]
  | 10 => [5]
  | _ => []
def ev14G (base : Nat) (id o : Int) : Nat → (Nat → Value) → (Nat → Prop) → World → Prop
  | 0, y, F, w => (∃ a c, y 10 = .slice a 1 c) ∧ bytesR.O w base F (y 10) [toB 2]
  | 4, y, F, w => (∃ a c, y 14 = .slice a 8 c) ∧ bytesR.O w base F (y 14) (hiB id 8)
  | 5, y, F, w => (∃ a c, y 15 = .slice a 9 c) ∧ bytesR.O w base F (y 15) ([toB 2] ++ hiB id 8)
  | 9, y, F, w => (∃ a c, y 19 = .slice a 1 c) ∧ bytesR.O w base F (y 19) [toB o]
  | 10, y, F, w => (∃ a c, y 20 = .slice a 10 c) ∧ bytesR.O w base F (y 20) ([toB 2] ++ hiB id 8 ++ [toB o])
  | _, _, _, _ => True
set_option maxRecDepth 20000 in
set_option maxHeartbeats 8000000 in
theorem l14Pack_u (x : Value) (d : Evt) (w : World) (hx : evtR.V w x d) (h8 : d.con.legs.length ≤ 8) :
    Calls Tryz.prog 42 #[x] w fun e w' => ∃ v F, e = .returned v ∧ bytesR.O w' w.heap.size F v (evtB d) ∧ Below w.heap.size w w' := by
  obtain ⟨a, c, rfl, hl⟩ := evt_open hx
  obtain ⟨b, ⟨id, ls⟩, o⟩ := d
  dsimp only at hl h8 ⊢
  clear hx
  cases b
  · have HD : Hid (evtB ⟨false, ⟨id, ls⟩, o⟩ = [toB 2] ++ hiB id 8 ++ [toB o]) := rfl
    have HP : Hid (∀ W, Below w.heap.size w W → Calls Tryz.prog 74 #[.int .i64 id] W fun e w' => ∃ v F, e = .returned v ∧ bytesR.O w' W.heap.size F v (hiB id 8) ∧ Below W.heap.size W w') := fun W _ => specPack_u id W
    have HW8 : Hid (IntKind.u8.wrap o = ((toB o).val : Int)) := wrapB _
    generalize evtB ⟨false, ⟨id, ls⟩, o⟩ = R at *
    generalize ls.length = n at *
    clear hl h8
    go_enter Tryz.func42, Tryz.ntmps42
    go_wp2
    obtain ⟨wq, hwq⟩ : ∃ wq, wq = w.alloc (.cells #[.bool false, .int .i64 id, .slice a n c, .int .i64 o] 33) := ⟨_, rfl⟩
    have y0 : wq.cell? ⟨w.heap.size, 0, none⟩ = some (.bool false) := by rw [hwq]; simp [go_sem]
    have y1 : wq.cell? ⟨w.heap.size, 1, none⟩ = some (.int .i64 id) := by rw [hwq]; simp [go_sem]
    have y2 : wq.cell? ⟨w.heap.size, 2, none⟩ = some (.slice a n c) := by rw [hwq]; simp [go_sem]
    have y3 : wq.cell? ⟨w.heap.size, 3, none⟩ = some (.int .i64 o) := by rw [hwq]; simp [go_sem]
    have hBq : Below w.heap.size w wq := by rw [hwq]; (repeat (first | exact Below.refl _ _ | assumption | refine Below.drew ?_ | refine balloc ?_ _ | refine bset ?_ (by simp; omega) _ | refine bset ?_ (by simp) _ | refine bstep ?_ (by assumption)))
    have zq : w.heap.size < wq.heap.size := by rw [hwq]; simp
    rw [← hwq]
    clear hwq
    refine wp_region_noPanic ?_
    refine region_upto (fun W => Below wq.heap.size wq W ∧ W.cell? ⟨w.heap.size, 0, none⟩ = some (.bool false) ∧ W.cell? ⟨w.heap.size, 1, none⟩ = some (.int .i64 id) ∧ W.cell? ⟨w.heap.size, 2, none⟩ = some (.slice a n c) ∧ W.cell? ⟨w.heap.size, 3, none⟩ = some (.int .i64 o)) 11 (by kernel_rfl) ⟨by (repeat (first | exact Below.refl _ _ | assumption | refine Below.drew ?_ | refine balloc ?_ _ | refine bset ?_ (by simp; omega) _ | refine bset ?_ (by simp) _ | refine bstep ?_ (by assumption))), cell_keep (by (repeat (first | exact Below.refl _ _ | assumption | refine Below.drew ?_ | refine balloc ?_ _ | refine bset ?_ (by simp; omega) _ | refine bset ?_ (by simp) _ | refine bstep ?_ (by assumption)))) y0, cell_keep (by (repeat (first | exact Below.refl _ _ | assumption | refine Below.drew ?_ | refine balloc ?_ _ | refine bset ?_ (by simp; omega) _ | refine bset ?_ (by simp) _ | refine bstep ?_ (by assumption)))) y1, cell_keep (by (repeat (first | exact Below.refl _ _ | assumption | refine Below.drew ?_ | refine balloc ?_ _ | refine bset ?_ (by simp; omega) _ | refine bset ?_ (by simp) _ | refine bstep ?_ (by assumption)))) y2, cell_keep (by (repeat (first | exact Below.refl _ _ | assumption | refine Below.drew ?_ | refine balloc ?_ _ | refine bset ?_ (by simp; omega) _ | refine bset ?_ (by simp) _ | refine bstep ?_ (by assumption)))) y3⟩ (fun hS => ?_)
    refine upto_take (i := 1) (v := ?_) rfl (by kernel_rfl) (by kernel_rfl) (by kernel_rfl) (by kernel_rfl) (fun _ _ _ h => h) (by rfl) hS ?_ ?_
    rotate_left
    · intro wS hSw
      try dsimp only at hSw
      first | (go_simp; done) | (go_simp; with_reducible rfl)
    try simp only [Act.put, List.getElem_toArray, List.getElem_cons_zero, List.getElem_cons_succ, List.setIfInBounds_toArray, List.set_cons_zero, List.set_cons_succ]
    refine upto_take (i := 2) (v := ?_) rfl (by kernel_rfl) (by kernel_rfl) (by kernel_rfl) (by kernel_rfl) (fun _ _ _ h => h) (by rfl) hS ?_ ?_
    rotate_left
    · intro wS hSw
      try dsimp only at hSw
      first | (go_simp; done) | (go_simp; with_reducible rfl)
    try simp only [Act.put, List.getElem_toArray, List.getElem_cons_zero, List.getElem_cons_succ, List.setIfInBounds_toArray, List.set_cons_zero, List.set_cons_succ]
    refine upto_take (i := 3) (v := ?_) rfl (by kernel_rfl) (by kernel_rfl) (by kernel_rfl) (by kernel_rfl) (fun _ _ _ h => h) (by rfl) hS ?_ ?_
    rotate_left
    · intro wS hSw
      try dsimp only at hSw
      first | (go_simp; done) | (go_simp; with_reducible rfl)
    try simp only [Act.put, List.getElem_toArray, List.getElem_cons_zero, List.getElem_cons_succ, List.setIfInBounds_toArray, List.set_cons_zero, List.set_cons_succ]
    refine upto_take (i := 6) (v := ?_) rfl (by kernel_rfl) (by kernel_rfl) (by kernel_rfl) (by kernel_rfl) (fun _ _ _ h => h) (by rfl) hS ?_ ?_
    rotate_left
    · intro wS hSw
      try dsimp only at hSw
      first | (go_simp; done) | (go_simp; with_reducible rfl)
    try simp only [Act.put, List.getElem_toArray, List.getElem_cons_zero, List.getElem_cons_succ, List.setIfInBounds_toArray, List.set_cons_zero, List.set_cons_succ]
    refine upto_take (i := 7) (v := ?_) rfl (by kernel_rfl) (by kernel_rfl) (by kernel_rfl) (by kernel_rfl) (fun _ _ _ h => h) (by rfl) hS ?_ ?_
    rotate_left
    · intro wS hSw
      try dsimp only at hSw
      first | (go_simp; done) | (go_simp; with_reducible rfl)
    try simp only [Act.put, List.getElem_toArray, List.getElem_cons_zero, List.getElem_cons_succ, List.setIfInBounds_toArray, List.set_cons_zero, List.set_cons_succ]
    refine upto_take (i := 8) (v := ?_) rfl (by kernel_rfl) (by kernel_rfl) (by kernel_rfl) (by kernel_rfl) (fun _ _ _ h => h) (by rfl) hS ?_ ?_
    rotate_left
    · intro wS hSw
      try dsimp only at hSw
      first | (go_simp; done) | (go_simp; with_reducible rfl)
    try simp only [Act.put, List.getElem_toArray, List.getElem_cons_zero, List.getElem_cons_succ, List.setIfInBounds_toArray, List.set_cons_zero, List.set_cons_succ]
    have hb0 : Below wq.heap.size wq wq.drew := Below.drew (Below.refl _ _)
    generalize wq.drew = W0 at *
    have hs10 := hb0.size
    have hz0 : w.heap.size < W0.heap.size := by omega
    refine upto_cons' [(0, 10), (4, 14), (5, 15), (9, 19), (10, 20)] ev14C (ev14G W0.heap.size id o) (by kernel_rfl) hS ?_ ?_ ?_ ?_
    · intro F W W' h hm hF
      have hne : ¬ F w.heap.size := fun e => by have := hF _ e; omega
      exact ⟨hm.below h.1 h.1.size (fun b hb => by have := hF b hb; omega), hm.cell h.2.1 hne, hm.cell h.2.2.1 hne, hm.cell h.2.2.2.1 hne, hm.cell h.2.2.2.2 hne⟩
    · intro p hp
      simp only [List.mem_cons, List.not_mem_nil, or_false] at hp
      rcases hp with rfl | rfl | rfl | rfl | rfl
      all_goals
        intro y y' F F' W W' h hF hm hap hF' e he
        simp only [ev14G] at h ⊢
        rw [e]
        exact ⟨h.1, bytesR.mod h.2 hm (fun b hb hf => hap b hf hb)⟩
    · intro p hp
      simp only [List.mem_cons, List.not_mem_nil, or_false] at hp
      rcases hp with rfl | rfl | rfl | rfl | rfl
      all_goals
        refine ⟨_, rfl, rfl, ?_⟩
        intro y W Φ hSW hBW hd K hK
      · clear hd
        refine ⟨?_⟩
        simp only [over, Act.put, List.getElem_toArray, List.getElem_cons_zero, List.getElem_cons_succ, List.map_cons, List.map_nil, List.foldl_cons, List.foldl_nil, List.setIfInBounds_toArray, List.set_cons_zero, List.set_cons_succ] at hK ⊢
        go_simp
        refine hK _ _ (fun b => b = W.heap.size) (Mod.of_below (by (repeat (first | exact Below.refl _ _ | assumption | refine Below.drew ?_ | refine balloc ?_ _ | refine bset ?_ (by simp; omega) _ | refine bset ?_ (by simp) _ | refine bstep ?_ (by assumption))))) (fun b hb => .inr (by rw [hb]; simp)) ?_
        simp only [ev14G, updV]
        exact ⟨⟨_, _, rfl⟩, lit12Y W _ hBW.size _ _ rfl⟩
      · clear hd
        refine ⟨?_⟩
        simp only [over, Act.put, List.getElem_toArray, List.getElem_cons_zero, List.getElem_cons_succ, List.map_cons, List.map_nil, List.foldl_cons, List.foldl_nil, List.setIfInBounds_toArray, List.set_cons_zero, List.set_cons_succ] at hK ⊢
        go_simp
        refine (HP.out W (bstep hBq hSW.1)).mono ?_
        rintro e w' ⟨v, F, rfl, o4, hb4⟩
        refine hK _ _ F (Mod.of_below hb4) (fun b hb => .inr (bytesR.rng o4 b hb)) ?_
        simp only [ev14G, updV]
        obtain ⟨av, cv, hv⟩ := bytes_form (bytesR.ofO o4)
        rw [length_hiB] at hv
        exact ⟨⟨av, cv, by simpa using hv⟩, bytesR.base (by simpa using o4) hBW.size⟩
      · have g0 := (hd (0, 10) (by simp) (by kernel_rfl) (.inl (by simp [ev14C]))).2.2
        have g4 := (hd (4, 14) (by simp) (by kernel_rfl) (.inr (by decide))).2.2
        clear hd
        refine ⟨?_⟩
        simp only [over, Act.put, List.getElem_toArray, List.getElem_cons_zero, List.getElem_cons_succ, List.map_cons, List.map_nil, List.foldl_cons, List.foldl_nil, List.setIfInBounds_toArray, List.set_cons_zero, List.set_cons_succ] at hK ⊢
        refine ite_wantedG rfl ?_
        refine wp_app12Y W ?hg1 (.tmp 10) (.tmp 14) ?ho1 W0.heap.size (y 10) (Φ 0) [toB 2] ?hs1 (y 14) (hiB id 8) ?hx1 g0 (appAny_bytes (bytesR.ofO g4)) (by rw [length_hiB]; simp) hBW.size ?_
        case hg1 => rfl
        case ho1 => rfl
        case hs1 => rfl
        case hx1 => rfl
        intro v' w' F' hO hm hl
        refine hK _ _ F' (hm.mono (fun b hb => ⟨0, by simp [ev14C], hb⟩)) (fun b hb => (hl b hb).imp (fun h => ⟨0, by simp [ev14C], h⟩) (fun h => h)) ?_
        simp only [ev14G, updV]
        obtain ⟨av, cv, hv⟩ := bytes_form (bytesR.ofO hO)
        rw [List.length_append, length_hiB] at hv
        exact ⟨⟨av, cv, by simpa using hv⟩, by simpa using hO⟩
      · clear hd
        refine ⟨?_⟩
        simp only [over, Act.put, List.getElem_toArray, List.getElem_cons_zero, List.getElem_cons_succ, List.map_cons, List.map_nil, List.foldl_cons, List.foldl_nil, List.setIfInBounds_toArray, List.set_cons_zero, List.set_cons_succ] at hK ⊢
        go_simp
        refine hK _ _ (fun b => b = W.heap.size) (Mod.of_below (by (repeat (first | exact Below.refl _ _ | assumption | refine Below.drew ?_ | refine balloc ?_ _ | refine bset ?_ (by simp; omega) _ | refine bset ?_ (by simp) _ | refine bstep ?_ (by assumption))))) (fun b hb => .inr (by rw [hb]; simp)) ?_
        simp only [ev14G, updV]
        exact ⟨⟨_, _, rfl⟩, lit12Y W _ hBW.size _ _ HW8.out⟩
      · have g5 := (hd (5, 15) (by simp) (by kernel_rfl) (.inl (by simp [ev14C]))).2.2
        have g9 := (hd (9, 19) (by simp) (by kernel_rfl) (.inr (by decide))).2.2
        clear hd
        refine ⟨?_⟩
        simp only [over, Act.put, List.getElem_toArray, List.getElem_cons_zero, List.getElem_cons_succ, List.map_cons, List.map_nil, List.foldl_cons, List.foldl_nil, List.setIfInBounds_toArray, List.set_cons_zero, List.set_cons_succ] at hK ⊢
        refine ite_wantedG rfl ?_
        refine wp_app12Y W ?hg1 (.tmp 15) (.tmp 19) ?ho1 W0.heap.size (y 15) (Φ 5) ([toB 2] ++ hiB id 8) ?hs1 (y 19) [toB o] ?hx1 g5 (appAny_bytes (bytesR.ofO g9)) (by rw [List.length_append, length_hiB]; simp) hBW.size ?_
        case hg1 => rfl
        case ho1 => rfl
        case hs1 => rfl
        case hx1 => rfl
        intro v' w' F' hO hm hl
        refine hK _ _ F' (hm.mono (fun b hb => ⟨5, by simp [ev14C], hb⟩)) (fun b hb => (hl b hb).imp (fun h => ⟨5, by simp [ev14C], h⟩) (fun h => h)) ?_
        simp only [ev14G, updV]
        obtain ⟨av, cv, hv⟩ := bytes_form (bytesR.ofO hO)
        rw [List.length_append, List.length_append, length_hiB] at hv
        exact ⟨⟨av, cv, by simpa using hv⟩, by simpa using hO⟩
    · refine ⟨_, rfl, ?_⟩
      intro y W Φ hSW hBW hd hap K hK
      have g := (hd (10, 20) (by simp) (by decide)).2
      clear hd hap
      simp only [ev14G] at g
      obtain ⟨⟨q, s, e⟩, o10⟩ := g
      rw [e] at o10
      refine ⟨?_⟩
      simp only [over, Act.put, List.getElem_toArray, List.getElem_cons_zero, List.getElem_cons_succ, List.map_cons, List.map_nil, List.foldl_cons, List.foldl_nil, List.setIfInBounds_toArray, List.set_cons_zero, List.set_cons_succ]
      simp only [e]
      go_simp
      refine hK _ _ ?_
      clear hK K e
      refine NoPanic.normal ?_
      have HO : Hid (bytesR.O W W0.heap.size (Φ 10) (.slice q 10 s) ([toB 2] ++ hiB id 8 ++ [toB o])) := o10
      have hBW1 : Below w.heap.size w W := bstep hBq (bstep hb0 hBW)
      clear o10 hSW hS hBW
      go_wp2
      go_ret
      exact ⟨_, _, rfl, by rw [HD.out]; exact bytesR.base HO.out (by omega), hBW1⟩
  · have HD : Hid (evtB ⟨true, ⟨id, ls⟩, o⟩ = [toB 1] ++ contBy id ls) := rfl
    have HC : Hid (∀ W, Below w.heap.size w W → Calls Tryz.prog 73 #[.agg #[.int .i64 id, .slice a ls.length c]] W fun e w' => ∃ v F, e = .returned v ∧ bytesR.O w' W.heap.size F v (contBy id ls) ∧ Below W.heap.size W w') := fun W hW => l3Contract_any id _ ls W (LegsV_below hl hW) h8
    have hcl : (contBy id ls).length ≤ 96 := by rw [length_contBy]; omega
    generalize evtB ⟨true, ⟨id, ls⟩, o⟩ = R at *
    generalize contBy id ls = cb at *
    clear hl h8
    generalize ls.length = n at *
    go_enter Tryz.func42, Tryz.ntmps42
    go_wp2_with fail
    refine (HC.out _ (by (repeat (first | exact Below.refl _ _ | assumption | refine Below.drew ?_ | refine balloc ?_ _ | refine bset ?_ (by simp; omega) _ | refine bset ?_ (by simp) _ | refine bstep ?_ (by assumption))))).mono ?_
    rintro e w1 ⟨v1, F1, rfl, o1, hb1⟩
    have hB1 : Below w.heap.size w w1 := by (repeat (first | exact Below.refl _ _ | assumption | refine Below.drew ?_ | refine balloc ?_ _ | refine bset ?_ (by simp; omega) _ | refine bset ?_ (by simp) _ | refine bstep ?_ (by assumption)))
    have r0 := World.ownsRow_lit (base := w.heap.size + 1) (e := 5) (size := 1) (w.alloc (.cells #[.bool true, .int .i64 id, .slice a n c, .int .i64 o] 33)) #[.int .u8 1] 1 (by simp) (by unfold maxLen; omega) rfl
    have r1 : World.ownsRow w1 (w.heap.size + 1) 5 1 (.slice (some ⟨w.heap.size + 1, 0, none⟩) 1 1) [toB 1].length (bytesC [toB 1]) := by
      have r2 := owns_below r0 hb1
      simp only [World.size_alloc] at r2
      exact r2
    clear r0
    have t1 := appAny_bytes (bytesR.ofO o1)
    have hz : w.heap.size + 1 ≤ w1.heap.size := by have := hb1.size; simp at this; omega
    obtain ⟨p1, q1, rfl⟩ := bytes_form (bytesR.ofO o1)
    clear o1 hb1 HC
    go_wp2_with (at_builtin; refine wpList_appB _ rfl _ _ rfl (w.heap.size + 1) _ [toB 1] rfl _ cb rfl r1 t1 (by simp; omega) hz ?_)
    intro v' w2 ho' hg hB
    have hB2 : Below w.heap.size w w2 := hB1.grown hg hB1.size (fun k hk => by have := r1.lt k hk; omega)
    clear hg hB r1 t1 hB1
    go_wp2
    go_ret
    exact ⟨_, _, rfl, by rw [HD.out]; exact ⟨owns_base ho' (by omega), rfl⟩, hB2⟩
set_option maxHeartbeats 2000000 in
theorem specPackE_u (x : Value) (d : Evt) (w : World) (hx : evtR.V w x d) :
    Calls Tryz.prog 12 #[x] w fun e w' => ∃ v F, e = .returned v ∧ bytesRR.O w' w.heap.size F v (packE d) ∧ Below w.heap.size w w' := by
  have HF : Hid (∀ W, Below w.heap.size w W → Calls Tryz.prog 8 #[x] W fun e w' => e = .returned (.int .i64 (evtF d)) ∧ Below W.heap.size W w') := fun W hW => specEvF_any x d W (evtR.below hx hW)
  have HP : Hid (evtF d = 0 → ∀ W, Below w.heap.size w W → Calls Tryz.prog 42 #[x] W fun e w' => ∃ v F, e = .returned v ∧ bytesR.O w' W.heap.size F v (evtB d) ∧ Below W.heap.size W w') := fun h W hW => l14Pack_u x d W (evtR.below hx hW) (evt_len8 h)
  have H0 : Hid (evtF d = 0 → packE d = ⟨0, evtB d⟩) := fun h => if_pos h
  have H1 : Hid (¬ evtF d = 0 → packE d = ⟨evtF d, []⟩) := fun h => if_neg h
  obtain ⟨a, c, rfl, hl⟩ := evt_open hx
  clear hx hl
  generalize packE d = R at *
  generalize evtF d = ef at *
  generalize evtB d = eb at *
  generalize d.con.legs.length = n at *
  go_enter Tryz.func12, Tryz.ntmps12
  go_wp2_with fail
  refine (HF.out _ (by (repeat (first | exact Below.refl _ _ | assumption | refine Below.drew ?_ | refine balloc ?_ _ | refine bset ?_ (by simp; omega) _ | refine bset ?_ (by simp) _ | refine bstep ?_ (by assumption))))).mono ?_
  rintro e w1 ⟨rfl, hb1⟩
  have hB1 : Below w.heap.size w w1 := by (repeat (first | exact Below.refl _ _ | assumption | refine Below.drew ?_ | refine balloc ?_ _ | refine bset ?_ (by simp; omega) _ | refine bset ?_ (by simp) _ | refine bstep ?_ (by assumption)))
  have y0 : w1.cell? ⟨w.heap.size, 0, none⟩ = some (.bool d.vote) := cell_keep hb1 (by simp [go_sem])
  have y1 : w1.cell? ⟨w.heap.size, 1, none⟩ = some (.int .i64 d.con.id) := cell_keep hb1 (by simp [go_sem])
  have y2 : w1.cell? ⟨w.heap.size, 2, none⟩ = some (.slice a n c) := cell_keep hb1 (by simp [go_sem])
  have y3 : w1.cell? ⟨w.heap.size, 3, none⟩ = some (.int .i64 d.out) := cell_keep hb1 (by simp [go_sem])
  have r0 : w1.cell? ⟨w.heap.size + 1, 0, none⟩ = some (.int .i64 0) := cell_keep hb1 (by simp [go_sem])
  have r1 : w1.cell? ⟨w.heap.size + 1, 1, none⟩ = some (.slice none 0 0) := cell_keep hb1 (by simp [go_sem])
  have hrf : (∀ o, w1.frozen? ⟨w.heap.size + 1, o, none⟩ = false) ∧ w.heap.size + 1 < w1.heap.size := (boxNew2 hb1 (by simp)).2.2
  clear hb1 HF
  by_cases hc : ef = 0
  · have HC : Hid (R = ⟨0, eb⟩) := H0.out hc
    have HP' : Hid _ := HP.out hc
    clear H0 H1 HP
    subst hc
    have hz := hrf.2
    go_wp2_with fail
    refine (HP'.out _ (by (repeat (first | exact Below.refl _ _ | assumption | refine Below.drew ?_ | refine balloc ?_ _ | refine bset ?_ (by simp; omega) _ | refine bset ?_ (by simp) _ | refine bstep ?_ (by assumption))))).mono ?_
    rintro e w2 ⟨v2, F2, rfl, o2, hb2⟩
    have hB2 : Below w.heap.size w w2 := bstep (by (repeat (first | exact Below.refl _ _ | assumption | refine Below.drew ?_ | refine balloc ?_ _ | refine bset ?_ (by simp; omega) _ | refine bset ?_ (by simp) _ | refine bstep ?_ (by assumption)))) hb2
    replace r0 := cell_keep hb2 r0
    replace r1 := cell_keep hb2 r1
    obtain ⟨rf, rz⟩ := boxKeep hrf hb2
    obtain ⟨p, q, rfl⟩ := bytes_form (bytesR.ofO o2)
    have HO : Hid (bytesR.O w2 (w.heap.size + 2) F2 (.slice p eb.length q) eb) := bytesR.base o2 (by omega)
    clear o2 hb2 HP'
    generalize hn : eb.length = m at *
    go_wp2
    refine bodyPost_ret (v := .agg #[.int .i64 0, .slice p m q]) (by simp [results, Tryz.results12, go_sem, r0, r1, rf]) rfl ⟨_, F2, rfl, ?_, by (repeat (first | exact Below.refl _ _ | assumption | refine Below.drew ?_ | refine balloc ?_ _ | refine bset ?_ (by simp; omega) _ | refine bset ?_ (by simp) _ | refine bstep ?_ (by assumption)))⟩
    rw [HC.out]
    exact ⟨_, F2, rfl, bytesR.base (base := w.heap.size + 2) (bytesR.set (bytesR.set HO.out _ (by simp)) _ (by simp)) (by omega), fun b => Iff.rfl⟩
  · have HC : Hid (R = ⟨ef, []⟩) := H1.out hc
    have hc' : (ef != 0) = true := by simp [hc]
    obtain ⟨rf, rz⟩ := hrf
    clear H0 H1 HP hc
    go_wp2
    refine bodyPost_ret (v := .agg #[.int .i64 ef, .slice none 0 0]) (by simp [results, Tryz.results12, go_sem, r0, r1, rf]) rfl ⟨_, none_, rfl, ?_, by (repeat (first | exact Below.refl _ _ | assumption | refine Below.drew ?_ | refine balloc ?_ _ | refine bset ?_ (by simp; omega) _ | refine bset ?_ (by simp) _ | refine bstep ?_ (by assumption)))⟩
    rw [HC.out]
    exact bytesR_none _ _ _
end Go.Proofs.YtecfelacdapdgaaGreat

/-
  A map whose keys are three numbers: what it holds, key by key; looked up, written, struck.
-/
namespace Go.Proofs.YtecfelacdapdgaaGreat
open Go.RowKit Go.Maps

def kv (s a t : Int) : Value := .agg #[.int .i64 s, .int .i64 a, .int .i64 t]
def kwf (s a t : Int) : Prop := (Lit.int .i64 s).wf = true ∧ (Lit.int .i64 a).wf = true ∧ (Lit.int .i64 t).wf = true
set_option maxRecDepth 20000 in
theorem holdWide : (match Tryz.prog.underlying 220 with | some (.array _ _) | some (.struct _) => true | _ => false) = true := by rw [Tryz.underlying220]
set_option maxRecDepth 20000 in
theorem holdLaw : Keyed Tryz.prog 220 := Keyed.of_law (deep_law_laid laidOut (m := 2) (by omega) (of_decide_eq_true (by kernel_rfl)) (by kernel_rfl) holdWide)
theorem holdCells : Tryz.prog.cellsOf 220 = 3 := by kernel_rfl
theorem holdType : Tryz.prog.keyType 220 = true := by kernel_rfl
theorem holdDepth : ∃ d, Tryz.prog.types.size + 1 = d + 1 + 1 := ⟨Tryz.prog.types.size - 1, by have h : 0 < Tryz.prog.types.size := of_decide_eq_true (by kernel_rfl); omega⟩
theorem intLits (d : Nat) (n : Int) (h : (Lit.int .i64 n).wf = true) : Tryz.prog.keyLits (d + 1) 2 [.int .i64 n] = some [.int .i64 n] := by
  unfold Program.keyLits
  rw [Tryz.underlying2]
  simp [h]
theorem keyOf_kv {s a t : Int} (h : kwf s a t) : ∃ kl, keyOf Tryz.prog 220 (kv s a t) = some kl := by
  obtain ⟨d, hd⟩ := holdDepth
  obtain ⟨h0, h1, h2⟩ := h
  have hc : Tryz.prog.cellsOf 2 = 1 := by kernel_rfl
  have hf : (kv s a t).formed Tryz.prog 220 = true := by simp [kv, Value.formed, Tryz.underlying220, holdCells]
  have hl : Tryz.prog.keyLits (Tryz.prog.types.size + 1) 220 (kv s a t).cells.toList = some [.int .i64 s, .int .i64 a, .int .i64 t] := by
    rw [hd]
    unfold Program.keyLits
    rw [Tryz.underlying220]
    simp [kv, Value.cells, holdCells, hc, List.range, List.range.loop, intLits d s h0, intLits d a h1, intLits d t h2]
  unfold keyOf
  rw [Tryz.underlying220]
  dsimp only
  rw [if_pos (by rw [holdType, hf]; rfl), hl]
  exact ⟨_, rfl⟩
theorem kv_inj {s a t s' a' t' : Int} (h : kv s a t = kv s' a' t') : s = s' ∧ a = a' ∧ t = t' := by
  simpa [kv] using h
def Book (w : World) (b n : Nat) (f : Int → Int → Int → Option Int) : Prop :=
  ∃ D : DataW Unit, w.ownsMap Tryz.prog 220 (plainElem Tryz.prog 2) b n D ∧
    ∀ s a t kl, keyOf Tryz.prog 220 (kv s a t) = some kl → Maps.has D kl = (f s a t).isSome ∧ D.atKey kl (.lit (.int .i64 0)) = .lit (.int .i64 ((f s a t).getD 0))
def upd3 (f : Int → Int → Int → Option Int) (s a t : Int) (v : Option Int) : Int → Int → Int → Option Int := fun s' a' t' => if s' = s ∧ a' = a ∧ t' = t then v else f s' a' t'
theorem Book.lt {w : World} {b n : Nat} {f : Int → Int → Int → Option Int} (h : Book w b n f) : b < w.heap.size := by
  obtain ⟨D, hD, _⟩ := h; exact hD.lt
theorem Book.kept {w w' : World} {b n : Nat} {f : Int → Int → Int → Option Int} {row : Option Nat} (h : Book w b n f) (hg : w.grownBy w' row) (hne : some b ≠ row) : Book w' b n f := by
  obtain ⟨D, hD, h1⟩ := h; exact ⟨D, hD.kept hg hne, h1⟩
theorem Book.below {w w' : World} {b n : Nat} {f : Int → Int → Int → Option Int} (h : Book w b n f) (hb : Below w.heap.size w w') : Book w' b n f := h.kept (grown_of_below hb) (by simp)
theorem Book.mono {w : World} {b n n' : Nat} {f : Int → Int → Int → Option Int} (h : Book w b n f) (hn : n ≤ n') : Book w b n' f := by
  obtain ⟨D, hD, h1⟩ := h; exact ⟨D, hD.mono hn, h1⟩
theorem Book.put {w : World} {b n : Nat} {f : Int → Int → Int → Option Int} (h : Book w b n f) {s a t v : Int} (hw : kwf s a t) (hv : (Lit.int .i64 v).wf = true) (hn : n < maxLen) :
    ∃ w', (Instr.mapUpdate 188 (.map (some b)) (kv s a t) (.int .i64 v)).run Tryz.prog w = .ok () w' ∧ Book w' b (n + 1) (upd3 f s a t (some v)) ∧ w.grownBy w' (some b) := by
  obtain ⟨D, hD, h1⟩ := h
  obtain ⟨kl, hk⟩ := keyOf_kv hw
  obtain ⟨w', hrun, hD', hg⟩ := hD.update holdLaw Tryz.underlying188 hn hk (plainElem_int Tryz.underlying2 hv)
  refine ⟨w', hrun, ⟨_, hD', fun s' a' t' kl' hk' => ?_⟩, hg⟩
  unfold upd3
  by_cases e : kl' = kl
  · subst e
    have := holdLaw.inj hk' hk
    obtain ⟨rfl, rfl, rfl⟩ := kv_inj this
    rw [if_pos ⟨rfl, rfl, rfl⟩]
    exact ⟨has_put_same hD.isMap (holdLaw.key hk) _, atKey_put_same hD.isMap (holdLaw.key hk) _ _⟩
  · rw [if_neg (by
      rintro ⟨rfl, rfl, rfl⟩
      rw [hk] at hk'
      exact e (by simpa using hk'.symm)), has_put_other e, atKey_put_other e]
    exact h1 s' a' t' kl' hk'
end Go.Proofs.YtecfelacdapdgaaGreat

/-
  A row of a table: the law's own copy, comparison, count; RowFault on both sides.
-/
namespace Go.Proofs.YtecfelacdapdgaaGreat
open Go.RowKit
set_option linter.unusedSectionVars false
attribute [local go_sem ↓] Go.wp_at_zero Go.wp_at_succ
set_option linter.unusedSimpArgs false

structure Rw where
  key : ByteArray
  ver : Int
  val : ByteArray
  gone : Bool
variable [DecidableEq Rw] [Inhabited Rw]

end Go.Proofs.YtecfelacdapdgaaGreat


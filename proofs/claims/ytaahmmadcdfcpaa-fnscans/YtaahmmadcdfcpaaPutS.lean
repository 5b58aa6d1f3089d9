/-
  The specification's l5Put: where a row belongs.
-/
import Derived.Test.YtaahmmadcdfcpaaTabC
import Derived.Test.YtaahmmadcdfcpaaPutA
namespace Go.Proofs.Ytaahmmadcdfcpaa
open Go.RowKit
set_option linter.unusedSectionVars false
variable [DecidableEq Rw] [Inhabited Rw] [DecidableEq TabR] [Inhabited TabR]
set_option linter.unusedVariables false
set_option linter.unusedSimpArgs false
attribute [local go_sem ↓] Go.wp_at_zero Go.wp_at_succ

/-- k is where r belongs -/
def PutAt (ys : List Rw) (r : Rw) (k : Nat) : Prop := k ≤ ys.length ∧ (∀ j, j < k → ahead (ys.getD j default) r = true) ∧ (k < ys.length → ahead (ys.getD k default) r = false)
def putK (ys : List Rw) (r : Rw) (k : Nat) : List Rw := if k < ys.length ∧ ahead r (ys.getD k default) = false then ys else ys.take k ++ [r] ++ ys.drop k

theorem putKeep {w w' : World} {b o b' o' : Nat} {x y : Rw} (hb : Below w.heap.size w w') (h : rowCells w b o x) (h' : rowCells w b' o' y) :
    Below w.heap.size w w' ∧ (w'.cell? ⟨b, o, none⟩ = some (.string x.key) ∧ w'.cell? ⟨b, o + 1, none⟩ = some (.int .i64 x.ver) ∧ w'.cell? ⟨b, o + 2, none⟩ = some (.string x.val) ∧ w'.cell? ⟨b, o + 3, none⟩ = some (.bool x.gone)) ∧ (w'.cell? ⟨b', o', none⟩ = some (.string y.key) ∧ w'.cell? ⟨b', o' + 1, none⟩ = some (.int .i64 y.ver) ∧ w'.cell? ⟨b', o' + 2, none⟩ = some (.string y.val) ∧ w'.cell? ⟨b', o' + 3, none⟩ = some (.bool y.gone)) := rowKeep2 hb h h'

/-- what an answer of l5Put is -/
def PutR (ys : List Rw) (r : Rw) (x : Value) (w : World) (e : Ending) (w' : World) : Prop :=
  ∃ k, PutAt ys r k ∧ Below w.heap.size w w' ∧ ((putK ys r k = ys ∧ e = .returned x) ∨ ∃ v, e = .returned v ∧ w'.ownsRow w.heap.size 38 4 v (putK ys r k).length (rwsC (putK ys r k)))

set_option maxRecDepth 20000 in
set_option maxHeartbeats 8000000 in
theorem l5Put_any (x : Value) (ys : List Rw) (r : Rw) (w : World) (hx : RowsV w x ys) (hsome : ∃ b0 o0 c0, x = .slice (some ⟨b0, o0, none⟩) ys.length c0) (hn : ys.length ≤ 1048000) :
    Calls Try.prog 65 #[x, rowV r] w (PutR ys r x w) := by
  obtain ⟨ax, cx, rfl, hcx, hmx, hx⟩ := hx
  unfold maxLen at hmx
  have Hsome : Hid (∃ b0 o0, ax = some ⟨b0, o0, none⟩) := by
    obtain ⟨b0, o0, c0, h0⟩ := hsome
    simp only [Value.slice.injEq] at h0
    exact ⟨b0, o0, h0.1⟩
  clear hsome
  have HPA : Hid (∀ k, k ≤ ys.length → (∀ j, j < k → ahead (ys.getD j default) r = true) → (k < ys.length → ahead (ys.getD k default) r = false) → PutAt ys r k) := fun k h1 h2 h3 => ⟨h1, h2, h3⟩
  have HPK : Hid (∀ k, putK ys r k = if k < ys.length ∧ ahead r (ys.getD k default) = false then ys else ys.take k ++ [r] ++ ys.drop k) := fun k => rfl
  generalize hN : ys.length = n at *
  have HN : Hid (ys.length = n) := hN
  clear hN
  unfold rowV
  go_enter Try.func65, Try.ntmps65
  go_wp2
  go_loopw [5] (fun a W => ∃ k : Nat, k ≤ n ∧ a = .int .i64 k ∧ Hid (∀ j, j < k → ahead (ys.getD j default) r = true) ∧ rowCells W w.heap.size 0 r ∧ Below w.heap.size w W) (fun a _ => n - (intOf a).toNat)
  case atStart => exact ⟨0, Nat.zero_le _, rfl, fun j h => absurd h (Nat.not_lt_zero _), by unfold rowCells; simp [go_sem], balloc (Below.refl _ _) _⟩
  case round =>
    obtain ⟨k, hk, rfl, HA, hr, hbl⟩ := hrel
    have hi4 : (0 : Int) ≤ k := by omega
    by_cases hlt : k < n
    · obtain ⟨b, o, rfl, hc⟩ := hx k hlt
      have HX : Hid (∀ i, i < n → ∃ b' o', some (⟨b, o, none⟩ : Addr) = some ⟨b', o', none⟩ ∧ rowCells w b' (o' + i * 4) (ys.getD i default)) := hx
      obtain ⟨l, hl⟩ : ∃ l, l = ys.getD k default := ⟨_, rfl⟩
      rw [← hl] at hc
      have HL : Hid (l = ys.getD k default) := hl
      clear hl hx
      have r1 := rowCells_below hbl hc
      have hi5 : (k : Int) < n := by omega
      have hi6 : decide (k < n) = true := decide_eq_true hlt
      cases hah : ahead l r
      all_goals
        go_wp2
        go_region_held3 (fun W => Below wr.heap.size wr W ∧ (W.cell? ⟨b, o + k * 4, none⟩ = some (.string l.key) ∧ W.cell? ⟨b, o + k * 4 + 1, none⟩ = some (.int .i64 l.ver) ∧ W.cell? ⟨b, o + k * 4 + 2, none⟩ = some (.string l.val) ∧ W.cell? ⟨b, o + k * 4 + 3, none⟩ = some (.bool l.gone)) ∧ (W.cell? ⟨w.heap.size, 0, none⟩ = some (.string r.key) ∧ W.cell? ⟨w.heap.size, 0 + 1, none⟩ = some (.int .i64 r.ver) ∧ W.cell? ⟨w.heap.size, 0 + 2, none⟩ = some (.string r.val) ∧ W.cell? ⟨w.heap.size, 0 + 3, none⟩ = some (.bool r.gone))) ((refine putKeep ?_ r1 hr; repeat (first | exact Below.refl _ _ | assumption | refine Below.drew ?_ | refine balloc ?_ _ | refine bstep ?_ (by assumption))))
          (first | (go_at_call 74; refine (l5Ahead_any l r _).mono ?_; rintro e wa ⟨rfl, hb1⟩; rw [hah]))
        rename_i hH
        have hB := bstep hbl hH.1
        have hr2 : rowCells wa w.heap.size 0 r := rowCells_below hH.1 hr
        have r2 : rowCells wa b (o + k * 4) l := rowCells_below hH.1 r1
        clear hH
      · have HP : Hid (PutAt ys r k) := HPA.out k hk HA.out (fun _ => by rw [← HL.out]; exact hah)
        clear hr r1
        cases hah2 : ahead r l
        all_goals
          go_wp2
          go_region_held3 (fun W => Below wa.heap.size wa W ∧ (W.cell? ⟨b, o + k * 4, none⟩ = some (.string l.key) ∧ W.cell? ⟨b, o + k * 4 + 1, none⟩ = some (.int .i64 l.ver) ∧ W.cell? ⟨b, o + k * 4 + 2, none⟩ = some (.string l.val) ∧ W.cell? ⟨b, o + k * 4 + 3, none⟩ = some (.bool l.gone)) ∧ (W.cell? ⟨w.heap.size, 0, none⟩ = some (.string r.key) ∧ W.cell? ⟨w.heap.size, 0 + 1, none⟩ = some (.int .i64 r.ver) ∧ W.cell? ⟨w.heap.size, 0 + 2, none⟩ = some (.string r.val) ∧ W.cell? ⟨w.heap.size, 0 + 3, none⟩ = some (.bool r.gone))) ((refine putKeep ?_ r2 hr2; repeat (first | exact Below.refl _ _ | assumption | refine Below.drew ?_ | refine balloc ?_ _ | refine bstep ?_ (by assumption))))
            (first | (go_at_call 74; refine (l5Ahead_any r l _).mono ?_; rintro e wb ⟨rfl, hb2⟩; rw [hah2]))
          rename_i hH
          have hB2 := bstep hB hH.1
          have hr3 : rowCells wb w.heap.size 0 r := rowCells_below hH.1 hr2
          clear hH
        · go_wp2
          go_ret
          refine ⟨k, HP.out, hB2, .inl ⟨?_, rfl⟩⟩
          rw [HPK.out, if_pos ⟨hlt, by rw [← HL.out]; exact hah2⟩]
        · have HE : Hid (putK ys r k = ys.take k ++ [r] ++ ys.drop k) := by
            rw [Hid, HPK.out, if_neg (by rintro ⟨_, h⟩; rw [← HL.out, hah2] at h; cases h)]
          have hB2s := hB2.size
          have hzr := World.block_lt_of_cell? _ _ hr3.1
          dsimp only at hzr
          have hi7 : (k : Int) ≤ n := by omega
          have hi8 : (k : Int) ≤ cx := by omega
          have hck : ¬ cx = k := by omega
          go_wp2
          refine wp_region_noPanic ?_
          refine region_upto (fun W => Below wb.heap.size wb W ∧ W.cell? ⟨w.heap.size, 0, none⟩ = some (.string r.key) ∧ W.cell? ⟨w.heap.size, 0 + 1, none⟩ = some (.int .i64 r.ver) ∧ W.cell? ⟨w.heap.size, 0 + 2, none⟩ = some (.string r.val) ∧ W.cell? ⟨w.heap.size, 0 + 3, none⟩ = some (.bool r.gone)) 12 (by kernel_rfl) ⟨by (repeat (first | exact Below.refl _ _ | assumption | refine Below.drew ?_ | refine balloc ?_ _ | refine bset ?_ (by simp; omega) _ | refine bset ?_ (by simp) _ | refine bstep ?_ (by assumption))), rowCells_below (by (repeat (first | exact Below.refl _ _ | assumption | refine Below.drew ?_ | refine balloc ?_ _ | refine bset ?_ (by simp; omega) _ | refine bset ?_ (by simp) _ | refine bstep ?_ (by assumption)))) hr3⟩ (fun hS => ?_)
          refine upto_take (i := 1) (v := ?_) rfl (by kernel_rfl) (by kernel_rfl) (by kernel_rfl) (by kernel_rfl) (fun _ _ _ h => h) (by rfl) hS ?_ ?_
          rotate_left
          · intro wS hSw
            try dsimp only at hSw
            first | (go_simp; done) | (go_simp; with_reducible rfl)
          try simp only [Act.put, List.getElem_toArray, List.getElem_cons_zero, List.getElem_cons_succ, List.setIfInBounds_toArray, List.set_cons_zero, List.set_cons_succ]
          refine upto_take (i := 2) (v := ?_) rfl (by kernel_rfl) (by kernel_rfl) (by kernel_rfl) (by kernel_rfl) (fun _ _ _ h => h) (by rfl) hS ?_ ?_
          rotate_left
          · intro wS hSw
            try dsimp only at hSw
            first | (go_simp; done) | (go_simp; with_reducible rfl)
          try simp only [Act.put, List.getElem_toArray, List.getElem_cons_zero, List.getElem_cons_succ, List.setIfInBounds_toArray, List.set_cons_zero, List.set_cons_succ]
          refine upto_take (i := 3) (v := ?_) rfl (by kernel_rfl) (by kernel_rfl) (by kernel_rfl) (by kernel_rfl) (fun _ _ _ h => h) (by rfl) hS ?_ ?_
          rotate_left
          · intro wS hSw
            try dsimp only at hSw
            first | (go_simp; done) | (go_simp; with_reducible rfl)
          try simp only [Act.put, List.getElem_toArray, List.getElem_cons_zero, List.getElem_cons_succ, List.setIfInBounds_toArray, List.set_cons_zero, List.set_cons_succ]
          refine upto_take (i := 5) (v := ?_) rfl (by kernel_rfl) (by kernel_rfl) (by kernel_rfl) (by kernel_rfl) (fun _ _ _ h => h) (by rfl) hS ?_ ?_
          rotate_left
          · intro wS hSw
            try dsimp only at hSw
            first | (go_simp; done) | (go_simp; with_reducible rfl)
          try simp only [Act.put, List.getElem_toArray, List.getElem_cons_zero, List.getElem_cons_succ, List.setIfInBounds_toArray, List.set_cons_zero, List.set_cons_succ]
          refine upto_take (i := 8) (v := ?_) rfl (by kernel_rfl) (by kernel_rfl) (by kernel_rfl) (by kernel_rfl) (fun _ _ _ h => h) (by rfl) hS ?_ ?_
          rotate_left
          · intro wS hSw
            try dsimp only at hSw
            first | (go_simp; done) | (go_simp; with_reducible rfl)
          try simp only [Act.put, List.getElem_toArray, List.getElem_cons_zero, List.getElem_cons_succ, List.setIfInBounds_toArray, List.set_cons_zero, List.set_cons_succ]
          refine upto_take (i := 9) (v := ?_) rfl (by kernel_rfl) (by kernel_rfl) (by kernel_rfl) (by kernel_rfl) (fun _ _ _ h => h) (by rfl) hS ?_ ?_
          rotate_left
          · intro wS hSw
            try dsimp only at hSw
            first | (go_simp; done) | (go_simp; with_reducible rfl)
          try simp only [Act.put, List.getElem_toArray, List.getElem_cons_zero, List.getElem_cons_succ, List.setIfInBounds_toArray, List.set_cons_zero, List.set_cons_succ]
          refine upto_take (i := 10) (v := ?_) rfl (by kernel_rfl) (by kernel_rfl) (by kernel_rfl) (by kernel_rfl) (fun _ _ _ h => h) (by rfl) hS ?_ ?_
          rotate_left
          · intro wS hSw
            try dsimp only at hSw
            first | (go_simp; done) | (go_simp; with_reducible rfl)
          try simp only [Act.put, List.getElem_toArray, List.getElem_cons_zero, List.getElem_cons_succ, List.setIfInBounds_toArray, List.set_cons_zero, List.set_cons_succ]
          have hW0 : Below wb.heap.size wb wb.drew := Below.drew (Below.refl _ _)
          have hB3 : Below w.heap.size w wb.drew := Below.drew hB2
          have hzW : wb.drew.heap.size = wb.heap.size := rfl
          have HS1 : Hid (∀ W : World, Below w.heap.size w W → ∀ c, AppAny W (.slice (some ⟨b, o, none⟩) (ys.take k).length c) (ys.take k).length (rwsC (ys.take k))) := fun W hW c => rowsAny_at (fun i hi => by
            rw [List.length_take] at hi
            obtain ⟨b', o', e', h'⟩ := HX.out i (by omega)
            simp only [Option.some.injEq, Addr.mk.injEq, and_true] at e'
            obtain ⟨rfl, rfl⟩ := e'
            have e2 : (ys.take k).getD i default = ys.getD i default := by simp [List.getD, List.getElem?_take, show i < k by omega]
            rw [e2]
            exact rowCells_below hW h')
          have HS2 : Hid (∀ W : World, Below w.heap.size w W → ∀ c, AppAny W (.slice (some ⟨b, o + k * 4, none⟩) (ys.drop k).length c) (ys.drop k).length (rwsC (ys.drop k))) := fun W hW c => rowsAny_at (fun i hi => by
            rw [List.length_drop, HN.out] at hi
            obtain ⟨b', o', e', h'⟩ := HX.out (k + i) (by omega)
            simp only [Option.some.injEq, Addr.mk.injEq, and_true] at e'
            obtain ⟨rfl, rfl⟩ := e'
            have e2 : (ys.drop k).getD i default = ys.getD (k + i) default := by simp [List.getD, List.getElem?_drop]
            rw [e2, show o + k * 4 + i * 4 = o + (k + i) * 4 by omega]
            exact rowCells_below hW h')
          have HL1 : Hid ((ys.take k).length = k) := by rw [Hid, List.length_take, HN.out]; omega
          have HL2 : Hid ((ys.drop k).length = n - k) := by rw [Hid, List.length_drop, HN.out]
          generalize wb.drew = W0 at *
          obtain ⟨P1, hP1⟩ : ∃ P, ys.take k = P := ⟨_, rfl⟩
          obtain ⟨P2, hP2⟩ : ∃ P, ys.drop k = P := ⟨_, rfl⟩
          rw [hP1] at HS1 HL1 HE
          rw [hP2] at HS2 HL2 HE
          clear hP1 hP2
          refine upto_cons' [(0, 34), (4, 38), (6, 40), (7, 41), (11, 45)] putC (putG W0.heap.size P1 P2 r) (by kernel_rfl) hS ?_ ?_ ?_ ?_
          · intro F' W W' h hm hF
            obtain ⟨h1, h3, h4, h5, h6⟩ := h
            exact ⟨hm.below h1 h1.size (fun b hb => by have := hF b hb; omega), hm.cell h3 (fun e => by have := hF _ e; dsimp only at this; omega), hm.cell h4 (fun e => by have := hF _ e; dsimp only at this; omega), hm.cell h5 (fun e => by have := hF _ e; dsimp only at this; omega), hm.cell h6 (fun e => by have := hF _ e; dsimp only at this; omega)⟩
          · intro pp hp
            simp only [List.mem_cons, List.not_mem_nil, or_false] at hp
            rcases hp with rfl | rfl | rfl | rfl | rfl
            all_goals
              intro y y' F F' W W' h hi hm hap hF e _
              simp only [putG] at h ⊢
              rw [e]
              exact rowsF.mod h hm (fun b h1 h2 => hap b h2 h1)
          · intro pp hp
            simp only [List.mem_cons, List.not_mem_nil, or_false] at hp
            rcases hp with rfl | rfl | rfl | rfl | rfl
            all_goals
              refine ⟨_, rfl, rfl, ?_⟩
              intro y W Φ hSW hBW hd K hK
              have hBw : Below w.heap.size w W := bstep hB3 hBW
            · clear hd
              refine ⟨?_⟩
              simp only [over, Act.put, List.getElem_toArray, List.getElem_cons_zero, List.getElem_cons_succ, List.map_cons, List.map_nil, List.foldl_cons, List.foldl_nil, List.setIfInBounds_toArray, List.set_cons_zero, List.set_cons_succ] at hK ⊢
              go_simp
              refine hK _ _ (fun b => b = W.heap.size) (Mod.of_below (by (repeat (first | exact Below.refl _ _ | assumption | refine Below.drew ?_ | refine balloc ?_ _ | refine bset ?_ (by simp; omega) _ | refine bset ?_ (by simp) _ | refine bstep ?_ (by assumption))))) (fun b hb => .inr (by simp; omega)) ?_
              simp only [putG, updV]
              refine ⟨World.ownsRow_lit (base := W0.heap.size) (e := 38) (size := 4) W #[] 0 hBW.size (by unfold maxLen; omega) rfl, ?_⟩
              funext b
              simp [Value.ownBlock, eq_comm]
            · have g0 := (hd (0, 34) (by simp) (by kernel_rfl) (.inl (by simp [putC]))).2
              clear hd
              simp only [putG] at g0
              refine ⟨?_⟩
              have hsrc := HS1.out W hBw cx
              rw [HL1.out] at hsrc
              refine step_appRows W rfl (.tmp 34) (.tmp 37) rfl W0.heap.size (y 34) (Φ 0) [] rfl (.slice (some ⟨b, o, none⟩) k cx) P1 rfl g0 (by rw [HL1.out]; exact hsrc) (by rw [HL1.out]; simp; omega) hBW.size ?_
              intro v' w' hO hm hl
              refine hK _ _ (fun b => v'.ownBlock = some b) (hm.mono (fun b hb => ⟨0, by simp [putC], hb⟩)) (fun b hb => (hl b hb).imp (fun h => ⟨0, by simp [putC], h⟩) (fun h => h)) ?_
              simp only [putG, updV]
              simpa using hO
            · clear hd
              obtain ⟨h1, h3, h4, h5, h6⟩ := hSW
              refine ⟨?_⟩
              simp only [over, Act.put, List.getElem_toArray, List.getElem_cons_zero, List.getElem_cons_succ, List.map_cons, List.map_nil, List.foldl_cons, List.foldl_nil, List.setIfInBounds_toArray, List.set_cons_zero, List.set_cons_succ] at hK ⊢
              go_simp
              refine hK _ _ (fun b => b = W.heap.size) (Mod.of_below (by (repeat (first | exact Below.refl _ _ | assumption | refine Below.drew ?_ | refine balloc ?_ _ | refine bset ?_ (by simp; omega) _ | refine bset ?_ (by simp) _ | refine bstep ?_ (by assumption))))) (fun b hb => .inr (by simp; omega)) ?_
              simp only [putG, updV]
              refine ⟨World.ownsRow_lit (base := W0.heap.size) (e := 38) (size := 4) W #[.string r.key, .int .i64 r.ver, .string r.val, .bool r.gone] 1 hBW.size (by unfold maxLen; omega) rfl, ?_⟩
              funext b
              simp [Value.ownBlock, eq_comm]
            · have g0 := (hd (4, 38) (by simp) (by kernel_rfl) (.inl (by simp [putC]))).2
              have g1 := (hd (6, 40) (by simp) (by kernel_rfl) (.inr (by simp [putC]))).2
              clear hd
              simp only [putG] at g0 g1
              refine ⟨?_⟩
              refine step_appRows W rfl (.tmp 38) (.tmp 40) rfl W0.heap.size (y 38) (Φ 4) P1 rfl (y 40) [r] rfl g0 (rowsAny_own g1.1) (by rw [HL1.out]; simp; omega) hBW.size ?_
              intro v' w' hO hm hl
              refine hK _ _ (fun b => v'.ownBlock = some b) (hm.mono (fun b hb => ⟨4, by simp [putC], hb⟩)) (fun b hb => (hl b hb).imp (fun h => ⟨4, by simp [putC], h⟩) (fun h => h)) ?_
              simp only [putG, updV]
              simpa using hO
            · have g0 := (hd (7, 41) (by simp) (by kernel_rfl) (.inl (by simp [putC]))).2
              clear hd
              simp only [putG] at g0
              refine ⟨?_⟩
              have hsrc := HS2.out W hBw (cx - k)
              rw [HL2.out] at hsrc
              refine step_appRows W rfl (.tmp 41) (.tmp 44) rfl W0.heap.size (y 41) (Φ 7) (P1 ++ [r]) rfl (.slice (some ⟨b, o + k * 4, none⟩) (n - k) (cx - k)) P2 rfl g0 (by rw [HL2.out]; exact hsrc) (by rw [List.length_append, HL1.out, HL2.out]; simp; omega) hBW.size ?_
              intro v' w' hO hm hl
              refine hK _ _ (fun b => v'.ownBlock = some b) (hm.mono (fun b hb => ⟨7, by simp [putC], hb⟩)) (fun b hb => (hl b hb).imp (fun h => ⟨7, by simp [putC], h⟩) (fun h => h)) ?_
              simp only [putG, updV]
              simpa using hO
          · refine ⟨_, rfl, ?_⟩
            intro y W Φ hSW hBW hd hap K hK
            have g11 := (hd (11, 45) (by simp) (by simp [putC])).2
            clear hd hap
            simp only [putG] at g11
            have g11' := g11.1
            obtain ⟨N9, hN9⟩ : ∃ N9, (P1 ++ [r] ++ P2).length = N9 := ⟨_, rfl⟩
            have HN9 : Hid ((P1 ++ [r] ++ P2).length = N9) := hN9
            rw [hN9] at g11'
            clear g11 hN9
            obtain ⟨a9, c9, e9⟩ := owns_form g11'
            have hBw : Below w.heap.size w W := bstep hB3 hBW
            refine ⟨?_⟩
            simp only [over, Act.put, List.getElem_toArray, List.getElem_cons_zero, List.getElem_cons_succ, List.map_cons, List.map_nil, List.foldl_cons, List.foldl_nil, List.setIfInBounds_toArray, List.set_cons_zero, List.set_cons_succ]
            simp only [e9] at g11' ⊢
            go_simp
            refine hK _ _ ?_
            clear hK K
            refine NoPanic.normal ?_
            go_wp2
            go_ret
            refine ⟨k, HP.out, hBw, .inr ⟨_, rfl, ?_⟩⟩
            rw [HE.out, HN9.out]
            exact owns_base g11' (by have := hB3.size; omega)
      · have HA2 : Hid (∀ j, j < k + 1 → ahead (ys.getD j default) r = true) := fun j hj => by
          by_cases h : j < k
          · exact HA.out j h
          · have : j = k := by omega
            subst this
            rw [← HL.out]
            exact hah
        go_wp2
        exact ⟨⟨k + 1, by omega, by go_num, HA2, hr2, hB⟩, by simp [intOf]; omega⟩
    · obtain rfl : k = n := by omega
      obtain ⟨b, o, rfl⟩ := Hsome.out
      clear Hsome
      have hi5 : ¬ ((k : Int) < k) := by omega
      have hi6 : decide (k < k) = false := decide_eq_false hlt
      have HP : Hid (PutAt ys r k) := HPA.out k hk HA.out (fun h => absurd h hlt)
      have HE : Hid (putK ys r k = ys.take k ++ [r] ++ ys.drop k) := by
        rw [Hid, HPK.out, if_neg (by rintro ⟨h, _⟩; exact hlt h)]
      have hdr : ys.drop k = [] := List.drop_eq_nil_of_le (by have := HN.out; omega)
      have hi7 : (k : Int) ≤ cx := by omega
      go_wp2
      go_quiet (fail)
      have hB1 : Below w.heap.size w (wr.drewN nq) := bdrN hbl nq
      have hr2 : rowCells (wr.drewN nq) w.heap.size 0 r := hr
      clear hr hbl
      generalize wr.drewN nq = w1 at *
      clear nq
      go_wp2
      go_quiet (fail)
      have hB2 : Below w.heap.size w (w1.drewN nq) := bdrN hB1 nq
      have hr3 : rowCells (w1.drewN nq) w.heap.size 0 r := hr2
      have hB2s := hB2.size
      have hzr := World.block_lt_of_cell? _ _ hr3.1
      dsimp only at hzr
      clear hr2 hB1
      generalize w1.drewN nq = wb at *
      clear nq
      rcases Nat.eq_or_lt_of_le hcx with rfl | h0
      all_goals
        try (have hck : ¬ cx = k := by omega)
        go_wp2
        refine wp_region_noPanic ?_
        refine region_upto (fun W => Below wb.heap.size wb W ∧ W.cell? ⟨w.heap.size, 0, none⟩ = some (.string r.key) ∧ W.cell? ⟨w.heap.size, 0 + 1, none⟩ = some (.int .i64 r.ver) ∧ W.cell? ⟨w.heap.size, 0 + 2, none⟩ = some (.string r.val) ∧ W.cell? ⟨w.heap.size, 0 + 3, none⟩ = some (.bool r.gone)) 12 (by kernel_rfl) ⟨by (repeat (first | exact Below.refl _ _ | assumption | refine Below.drew ?_ | refine balloc ?_ _ | refine bset ?_ (by simp; omega) _ | refine bset ?_ (by simp) _ | refine bstep ?_ (by assumption))), rowCells_below (by (repeat (first | exact Below.refl _ _ | assumption | refine Below.drew ?_ | refine balloc ?_ _ | refine bset ?_ (by simp; omega) _ | refine bset ?_ (by simp) _ | refine bstep ?_ (by assumption)))) hr3⟩ (fun hS => ?_)
        refine upto_take (i := 1) (v := ?_) rfl (by kernel_rfl) (by kernel_rfl) (by kernel_rfl) (by kernel_rfl) (fun _ _ _ h => h) (by rfl) hS ?_ ?_
        rotate_left
        · intro wS hSw
          try dsimp only at hSw
          first | (go_simp; done) | (go_simp; with_reducible rfl)
        try simp only [Act.put, List.getElem_toArray, List.getElem_cons_zero, List.getElem_cons_succ, List.setIfInBounds_toArray, List.set_cons_zero, List.set_cons_succ]
        refine upto_take (i := 2) (v := ?_) rfl (by kernel_rfl) (by kernel_rfl) (by kernel_rfl) (by kernel_rfl) (fun _ _ _ h => h) (by rfl) hS ?_ ?_
        rotate_left
        · intro wS hSw
          try dsimp only at hSw
          first | (go_simp; done) | (go_simp; with_reducible rfl)
        try simp only [Act.put, List.getElem_toArray, List.getElem_cons_zero, List.getElem_cons_succ, List.setIfInBounds_toArray, List.set_cons_zero, List.set_cons_succ]
        refine upto_take (i := 3) (v := ?_) rfl (by kernel_rfl) (by kernel_rfl) (by kernel_rfl) (by kernel_rfl) (fun _ _ _ h => h) (by rfl) hS ?_ ?_
        rotate_left
        · intro wS hSw
          try dsimp only at hSw
          first | (go_simp; done) | (go_simp; with_reducible rfl)
        try simp only [Act.put, List.getElem_toArray, List.getElem_cons_zero, List.getElem_cons_succ, List.setIfInBounds_toArray, List.set_cons_zero, List.set_cons_succ]
        refine upto_take (i := 5) (v := ?_) rfl (by kernel_rfl) (by kernel_rfl) (by kernel_rfl) (by kernel_rfl) (fun _ _ _ h => h) (by rfl) hS ?_ ?_
        rotate_left
        · intro wS hSw
          try dsimp only at hSw
          first | (go_simp; done) | (go_simp; with_reducible rfl)
        try simp only [Act.put, List.getElem_toArray, List.getElem_cons_zero, List.getElem_cons_succ, List.setIfInBounds_toArray, List.set_cons_zero, List.set_cons_succ]
        refine upto_take (i := 8) (v := ?_) rfl (by kernel_rfl) (by kernel_rfl) (by kernel_rfl) (by kernel_rfl) (fun _ _ _ h => h) (by rfl) hS ?_ ?_
        rotate_left
        · intro wS hSw
          try dsimp only at hSw
          first | (go_simp; done) | (go_simp; with_reducible rfl)
        try simp only [Act.put, List.getElem_toArray, List.getElem_cons_zero, List.getElem_cons_succ, List.setIfInBounds_toArray, List.set_cons_zero, List.set_cons_succ]
        refine upto_take (i := 9) (v := ?_) rfl (by kernel_rfl) (by kernel_rfl) (by kernel_rfl) (by kernel_rfl) (fun _ _ _ h => h) (by rfl) hS ?_ ?_
        rotate_left
        · intro wS hSw
          try dsimp only at hSw
          first | (go_simp; done) | (go_simp; with_reducible rfl)
        try simp only [Act.put, List.getElem_toArray, List.getElem_cons_zero, List.getElem_cons_succ, List.setIfInBounds_toArray, List.set_cons_zero, List.set_cons_succ]
        refine upto_take (i := 10) (v := ?_) rfl (by kernel_rfl) (by kernel_rfl) (by kernel_rfl) (by kernel_rfl) (fun _ _ _ h => h) (by rfl) hS ?_ ?_
        rotate_left
        · intro wS hSw
          try dsimp only at hSw
          first | (go_simp; done) | (go_simp; with_reducible rfl)
        try simp only [Act.put, List.getElem_toArray, List.getElem_cons_zero, List.getElem_cons_succ, List.setIfInBounds_toArray, List.set_cons_zero, List.set_cons_succ]
        have hW0 : Below wb.heap.size wb wb.drew := Below.drew (Below.refl _ _)
        have hB3 : Below w.heap.size w wb.drew := Below.drew hB2
        have hzW : wb.drew.heap.size = wb.heap.size := rfl
        have HS1 : Hid (∀ W : World, Below w.heap.size w W → ∀ c, AppAny W (.slice (some ⟨b, o, none⟩) (ys.take k).length c) (ys.take k).length (rwsC (ys.take k))) := fun W hW c => rowsAny_at (fun i hi => by
          rw [List.length_take] at hi
          obtain ⟨b', o', e', h'⟩ := hx i (by omega)
          simp only [Option.some.injEq, Addr.mk.injEq, and_true] at e'
          obtain ⟨rfl, rfl⟩ := e'
          have e2 : (ys.take k).getD i default = ys.getD i default := by simp [List.getD, List.getElem?_take, show i < k by omega]
          rw [e2]
          exact rowCells_below hW h')
        have HS2 : Hid (∀ W : World, ∀ c a, AppAny W (.slice (some ⟨b, a, none⟩) 0 c) 0 (rwsC (ys.drop k))) := fun W c a => by
          have h := rowsAny_at (w := W) (b := b) (o := a) (c := c) (xs := []) (fun i hi => absurd hi (Nat.not_lt_zero _))
          rw [hdr]
          exact h
        have HL1 : Hid ((ys.take k).length = k) := by rw [Hid, List.length_take, HN.out]; omega
        have HL2 : Hid ((ys.drop k).length = 0) := by rw [hdr]; exact rfl
        clear hdr
        generalize wb.drew = W0 at *
        obtain ⟨P1, hP1⟩ : ∃ P, ys.take k = P := ⟨_, rfl⟩
        obtain ⟨P2, hP2⟩ : ∃ P, ys.drop k = P := ⟨_, rfl⟩
        rw [hP1] at HS1 HL1 HE
        rw [hP2] at HS2 HL2 HE
        clear hP1 hP2
        refine upto_cons' [(0, 34), (4, 38), (6, 40), (7, 41), (11, 45)] putC (putG W0.heap.size P1 P2 r) (by kernel_rfl) hS ?_ ?_ ?_ ?_
        · intro F' W W' h hm hF
          obtain ⟨h1, h3, h4, h5, h6⟩ := h
          exact ⟨hm.below h1 h1.size (fun b hb => by have := hF b hb; omega), hm.cell h3 (fun e => by have := hF _ e; dsimp only at this; omega), hm.cell h4 (fun e => by have := hF _ e; dsimp only at this; omega), hm.cell h5 (fun e => by have := hF _ e; dsimp only at this; omega), hm.cell h6 (fun e => by have := hF _ e; dsimp only at this; omega)⟩
        · intro pp hp
          simp only [List.mem_cons, List.not_mem_nil, or_false] at hp
          rcases hp with rfl | rfl | rfl | rfl | rfl
          all_goals
            intro y y' F F' W W' h hi hm hap hF e _
            simp only [putG] at h ⊢
            rw [e]
            exact rowsF.mod h hm (fun b h1 h2 => hap b h2 h1)
        · intro pp hp
          simp only [List.mem_cons, List.not_mem_nil, or_false] at hp
          rcases hp with rfl | rfl | rfl | rfl | rfl
          all_goals
            refine ⟨_, rfl, rfl, ?_⟩
            intro y W Φ hSW hBW hd K hK
            have hBw : Below w.heap.size w W := bstep hB3 hBW
          · clear hd
            refine ⟨?_⟩
            try simp only [over, Act.put, List.getElem_toArray, List.getElem_cons_zero, List.getElem_cons_succ, List.map_cons, List.map_nil, List.foldl_cons, List.foldl_nil, List.setIfInBounds_toArray, List.set_cons_zero, List.set_cons_succ] at hK
            try simp only [over, Act.put, List.getElem_toArray, List.getElem_cons_zero, List.getElem_cons_succ, List.map_cons, List.map_nil, List.foldl_cons, List.foldl_nil, List.setIfInBounds_toArray, List.set_cons_zero, List.set_cons_succ]
            go_simp
            refine hK _ _ (fun b => b = W.heap.size) (Mod.of_below (by (repeat (first | exact Below.refl _ _ | assumption | refine Below.drew ?_ | refine balloc ?_ _ | refine bset ?_ (by simp; omega) _ | refine bset ?_ (by simp) _ | refine bstep ?_ (by assumption))))) (fun b hb => .inr (by have hb' : b = W.heap.size := hb; first | omega | (simp; omega))) ?_
            simp only [putG, updV]
            refine ⟨World.ownsRow_lit (base := W0.heap.size) (e := 38) (size := 4) W #[] 0 hBW.size (by unfold maxLen; omega) rfl, ?_⟩
            funext b
            simp [Value.ownBlock, eq_comm]
          · have g0 := (hd (0, 34) (by simp) (by kernel_rfl) (.inl (by simp [putC]))).2
            clear hd
            simp only [putG] at g0
            refine ⟨?_⟩
            have hsrc := HS1.out W hBw
            rw [HL1.out] at hsrc
            refine step_appRows W rfl (.tmp 34) (.tmp 37) rfl W0.heap.size (y 34) (Φ 0) [] rfl _ P1 rfl g0 (by rw [HL1.out]; exact hsrc _) (by rw [HL1.out]; simp; omega) hBW.size ?_
            intro v' w' hO hm hl
            refine hK _ _ (fun b => v'.ownBlock = some b) (hm.mono (fun b hb => ⟨0, by simp [putC], hb⟩)) (fun b hb => (hl b hb).imp (fun h => ⟨0, by simp [putC], h⟩) (fun h => h)) ?_
            simp only [putG, updV]
            simpa using hO
          · clear hd
            obtain ⟨h1, h3, h4, h5, h6⟩ := hSW
            refine ⟨?_⟩
            try simp only [over, Act.put, List.getElem_toArray, List.getElem_cons_zero, List.getElem_cons_succ, List.map_cons, List.map_nil, List.foldl_cons, List.foldl_nil, List.setIfInBounds_toArray, List.set_cons_zero, List.set_cons_succ] at hK
            try simp only [over, Act.put, List.getElem_toArray, List.getElem_cons_zero, List.getElem_cons_succ, List.map_cons, List.map_nil, List.foldl_cons, List.foldl_nil, List.setIfInBounds_toArray, List.set_cons_zero, List.set_cons_succ]
            go_simp
            refine hK _ _ (fun b => b = W.heap.size) (Mod.of_below (by (repeat (first | exact Below.refl _ _ | assumption | refine Below.drew ?_ | refine balloc ?_ _ | refine bset ?_ (by simp; omega) _ | refine bset ?_ (by simp) _ | refine bstep ?_ (by assumption))))) (fun b hb => .inr (by have hb' : b = W.heap.size := hb; first | omega | (simp; omega))) ?_
            simp only [putG, updV]
            refine ⟨World.ownsRow_lit (base := W0.heap.size) (e := 38) (size := 4) W #[.string r.key, .int .i64 r.ver, .string r.val, .bool r.gone] 1 hBW.size (by unfold maxLen; omega) rfl, ?_⟩
            funext b
            simp [Value.ownBlock, eq_comm]
          · have g0 := (hd (4, 38) (by simp) (by kernel_rfl) (.inl (by simp [putC]))).2
            have g1 := (hd (6, 40) (by simp) (by kernel_rfl) (.inr (by simp [putC]))).2
            clear hd
            simp only [putG] at g0 g1
            refine ⟨?_⟩
            refine step_appRows W rfl (.tmp 38) (.tmp 40) rfl W0.heap.size (y 38) (Φ 4) P1 rfl (y 40) [r] rfl g0 (rowsAny_own g1.1) (by rw [HL1.out]; simp; omega) hBW.size ?_
            intro v' w' hO hm hl
            refine hK _ _ (fun b => v'.ownBlock = some b) (hm.mono (fun b hb => ⟨4, by simp [putC], hb⟩)) (fun b hb => (hl b hb).imp (fun h => ⟨4, by simp [putC], h⟩) (fun h => h)) ?_
            simp only [putG, updV]
            simpa using hO
          · have g0 := (hd (7, 41) (by simp) (by kernel_rfl) (.inl (by simp [putC]))).2
            clear hd
            simp only [putG] at g0
            refine ⟨?_⟩
            have hsrc := HS2.out W
            refine step_appRows W rfl (.tmp 41) (.tmp 44) rfl W0.heap.size (y 41) (Φ 7) (P1 ++ [r]) rfl _ P2 rfl g0 (by rw [HL2.out]; exact hsrc _ _) (by rw [List.length_append, HL1.out, HL2.out]; simp; omega) hBW.size ?_
            intro v' w' hO hm hl
            refine hK _ _ (fun b => v'.ownBlock = some b) (hm.mono (fun b hb => ⟨7, by simp [putC], hb⟩)) (fun b hb => (hl b hb).imp (fun h => ⟨7, by simp [putC], h⟩) (fun h => h)) ?_
            simp only [putG, updV]
            simpa using hO
        · refine ⟨_, rfl, ?_⟩
          intro y W Φ hSW hBW hd hap K hK
          have g11 := (hd (11, 45) (by simp) (by simp [putC])).2
          clear hd hap
          simp only [putG] at g11
          have g11' := g11.1
          obtain ⟨N9, hN9⟩ : ∃ N9, (P1 ++ [r] ++ P2).length = N9 := ⟨_, rfl⟩
          have HN9 : Hid ((P1 ++ [r] ++ P2).length = N9) := hN9
          rw [hN9] at g11'
          clear g11 hN9
          obtain ⟨a9, c9, e9⟩ := owns_form g11'
          have hBw : Below w.heap.size w W := bstep hB3 hBW
          refine ⟨?_⟩
          simp only [over, Act.put, List.getElem_toArray, List.getElem_cons_zero, List.getElem_cons_succ, List.map_cons, List.map_nil, List.foldl_cons, List.foldl_nil, List.setIfInBounds_toArray, List.set_cons_zero, List.set_cons_succ]
          simp only [e9] at g11' ⊢
          go_simp
          refine hK _ _ ?_
          clear hK K
          refine NoPanic.normal ?_
          go_wp2
          go_ret
          refine ⟨k, HP.out, hBw, .inr ⟨_, rfl, ?_⟩⟩
          rw [HE.out, HN9.out]
          exact owns_base g11' (by have := hB3.size; omega)

end Go.Proofs.Ytaahmmadcdfcpaa

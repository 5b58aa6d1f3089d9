import Derived.Test.YtdfapehonegeeaaGreatPrnFlushEngineLaw19
import Derived.Test.YtdfapehonegeeaaGreatPrnFlushEngineLaw14
import Derived.Test.YtdfapehonegeeaaGreatPrnFlushEngineLaw15

/-
  UnpackWrites: the specification's side.
-/
namespace Go.Proofs.YtdfapehonegeeaaGreat
open Go.RowKit
set_option linter.unusedSectionVars false
variable [DecidableEq Wri] [Inhabited Wri] [DecidableEq BytesR] [Inhabited BytesR] [DecidableEq Rw] [Inhabited Rw] [DecidableEq TabR] [Inhabited TabR]
set_option linter.unusedVariables false
set_option linter.unusedSimpArgs false
attribute [local go_sem ↓] Go.wp_at_zero Go.wp_at_succ

set_option maxHeartbeats 4000000 in
theorem l6Rows_any (v : Int) (x : Value) (ws : List Wri) (w : World) (hx : WrisV w x ws) (hn : ws.length ≤ 200) :
    Calls Tryz.prog 67 #[.int .i64 v, x] w fun e w' => ∃ r, e = .returned r ∧ w'.ownsRow w.heap.size 76 4 r ws.length (rwsC (ws.map (wrRow v))) ∧ Below w.heap.size w w' := by
  obtain ⟨ax, cx, rfl, hcx, hmx, hx⟩ := hx
  unfold maxLen at hmx
  have HT : Hid (∀ k, k < ws.length → (ws.take (k + 1)).map (wrRow v) = (ws.take k).map (wrRow v) ++ [wrRow v (ws.getD k default)]) := fun k hk => by
    rw [wri_take_eq ws k hk, List.map_append]
    rfl
  have HL : Hid (∀ k, k ≤ ws.length → ((ws.take k).map (wrRow v)).length = k) := fun k hk => by
    rw [List.length_map, List.length_take]
    omega
  have HA : Hid (ws.take ws.length = ws) := List.take_length
  generalize ws.length = n at *
  go_enter Tryz.func67, Tryz.ntmps67
  go_wp2
  go_loopw [5, 6] (fun r i W => ∃ k : Nat, k ≤ n ∧ i = .int .i64 k ∧ W.ownsRow w.heap.size 76 4 r ((ws.take k).map (wrRow v)).length (rwsC ((ws.take k).map (wrRow v))) ∧ Below w.heap.size w W) (fun _ i _ => n - (intOf i).toNat)
  case atStart => exact ⟨0, Nat.zero_le _, rfl, World.ownsRow_lit (base := w.heap.size) (e := 76) (size := 4) w #[] 0 (by simp) (by unfold maxLen; omega) rfl, balloc (Below.refl _ _) _⟩
  case round =>
    obtain ⟨k, hk, rfl, ho, hbl⟩ := hrel
    have hz : w.heap.size ≤ wr.heap.size := hbl.size
    by_cases hlt : k < n
    · obtain ⟨bx, ox, rfl, g1⟩ := hx k hlt
      have e1 := HT.out k hlt
      have hlen := HL.out k hk
      obtain ⟨l, hl⟩ : ∃ l, l = ws.getD k default := ⟨_, rfl⟩
      rw [← hl] at g1 e1
      clear hl hx
      have hrow := wriCells_below hbl g1
      have hzb := World.block_lt_of_cell? _ _ g1.1
      dsimp only at hzb
      have hti : (k : Int) < (n : Int) := by omega
      have hi1 : (0 : Int) ≤ (k : Int) := by omega
      have HE : Hid ((ws.take (k + 1)).map (wrRow v) = (ws.take k).map (wrRow v) ++ [wrRow v l]) := e1
      generalize (ws.take k).map (wrRow v) = out at *
      have hol : out.length ≤ 1048576 := by omega
      have HLen : Hid (out.length = k) := hlen
      obtain ⟨au, cu, rfl⟩ := owns_form ho
      clear e1 g1 hlen
      go_wp2
      refine wp_region_noPanic ?_
      refine region_upto (fun W' => W'.cell? ⟨bx, ox + k * 3, none⟩ = some (.string l.key) ∧ W'.cell? ⟨bx, ox + k * 3 + 1, none⟩ = some (.string l.val) ∧ W'.cell? ⟨bx, ox + k * 3 + 2, none⟩ = some (.bool l.gone)) 20 (by kernel_rfl) (wriCells_below (by (repeat (first | exact Below.refl _ _ | assumption | refine Below.drew ?_ | refine balloc ?_ _ | refine bset ?_ (by simp; omega) _ | refine bset ?_ (by simp) _ | refine bstep ?_ (by assumption)))) hrow) (fun hS => ?_)
      refine upto_take (i := 0) (v := ?_) rfl (by kernel_rfl) (by kernel_rfl) (by kernel_rfl) (by kernel_rfl) (fun _ _ _ h => h) (by rfl) hS ?_ ?_
      rotate_left
      · intro wS hSw
        try dsimp only at hSw
        first | (go_simp; done) | (go_simp; with_reducible rfl)
      try simp only [Act.put, List.getElem_toArray, List.getElem_cons_zero, List.getElem_cons_succ, List.setIfInBounds_toArray, List.set_cons_zero, List.set_cons_succ]
      refine upto_take (i := 1) (v := ?_) rfl (by kernel_rfl) (by kernel_rfl) (by kernel_rfl) (by kernel_rfl) (fun _ _ _ h => h) (by rfl) hS ?_ ?_
      rotate_left
      · intro wS hSw
        try dsimp only at hSw
        first | (go_simp; done) | (go_simp; with_reducible rfl)
      try simp only [Act.put, List.getElem_toArray, List.getElem_cons_zero, List.getElem_cons_succ, List.setIfInBounds_toArray, List.set_cons_zero, List.set_cons_succ]
      refine upto_take (i := 2) (v := ?_) rfl (by kernel_rfl) (by kernel_rfl) (by kernel_rfl) (by kernel_rfl) (fun _ _ _ h => h) (by rfl) hS ?_ ?_
      rotate_left
      · intro wS hSw
        try dsimp only at hSw
        first | (go_simp; done) | (go_simp; with_reducible rfl)
      try simp only [Act.put, List.getElem_toArray, List.getElem_cons_zero, List.getElem_cons_succ, List.setIfInBounds_toArray, List.set_cons_zero, List.set_cons_succ]
      refine upto_take (i := 3) (v := ?_) rfl (by kernel_rfl) (by kernel_rfl) (by kernel_rfl) (by kernel_rfl) (fun _ _ _ h => h) (by rfl) hS ?_ ?_
      rotate_left
      · intro wS hSw
        try dsimp only at hSw
        first | (go_simp; done) | (go_simp; with_reducible rfl)
      try simp only [Act.put, List.getElem_toArray, List.getElem_cons_zero, List.getElem_cons_succ, List.setIfInBounds_toArray, List.set_cons_zero, List.set_cons_succ]
      refine upto_take (i := 4) (v := ?_) rfl (by kernel_rfl) (by kernel_rfl) (by kernel_rfl) (by kernel_rfl) (fun _ _ _ h => h) (by rfl) hS ?_ ?_
      rotate_left
      · intro wS hSw
        try dsimp only at hSw
        first | (go_simp; done) | (go_simp; with_reducible rfl)
      try simp only [Act.put, List.getElem_toArray, List.getElem_cons_zero, List.getElem_cons_succ, List.setIfInBounds_toArray, List.set_cons_zero, List.set_cons_succ]
      refine upto_take (i := 5) (v := ?_) rfl (by kernel_rfl) (by kernel_rfl) (by kernel_rfl) (by kernel_rfl) (fun _ _ _ h => h) (by rfl) hS ?_ ?_
      rotate_left
      · intro wS hSw
        try dsimp only at hSw
        first | (go_simp; done) | (go_simp; with_reducible rfl)
      try simp only [Act.put, List.getElem_toArray, List.getElem_cons_zero, List.getElem_cons_succ, List.setIfInBounds_toArray, List.set_cons_zero, List.set_cons_succ]
      refine upto_take (i := 6) (v := ?_) rfl (by kernel_rfl) (by kernel_rfl) (by kernel_rfl) (by kernel_rfl) (fun _ _ _ h => h) (by rfl) hS ?_ ?_
      rotate_left
      · intro wS hSw
        try dsimp only at hSw
        first | (go_simp; done) | (go_simp; with_reducible rfl)
      try simp only [Act.put, List.getElem_toArray, List.getElem_cons_zero, List.getElem_cons_succ, List.setIfInBounds_toArray, List.set_cons_zero, List.set_cons_succ]
      refine upto_take (i := 7) (v := ?_) rfl (by kernel_rfl) (by kernel_rfl) (by kernel_rfl) (by kernel_rfl) (fun _ _ _ h => h) (by rfl) hS ?_ ?_
      rotate_left
      · intro wS hSw
        try dsimp only at hSw
        first | (go_simp; done) | (go_simp; with_reducible rfl)
      try simp only [Act.put, List.getElem_toArray, List.getElem_cons_zero, List.getElem_cons_succ, List.setIfInBounds_toArray, List.set_cons_zero, List.set_cons_succ]
      refine upto_take (i := 8) (v := ?_) rfl (by kernel_rfl) (by kernel_rfl) (by kernel_rfl) (by kernel_rfl) (fun _ _ _ h => h) (by rfl) hS ?_ ?_
      rotate_left
      · intro wS hSw
        try dsimp only at hSw
        first | (go_simp; done) | (go_simp; with_reducible rfl)
      try simp only [Act.put, List.getElem_toArray, List.getElem_cons_zero, List.getElem_cons_succ, List.setIfInBounds_toArray, List.set_cons_zero, List.set_cons_succ]
      refine upto_take (i := 9) (v := ?_) rfl (by kernel_rfl) (by kernel_rfl) (by kernel_rfl) (by kernel_rfl) (fun _ _ _ h => h) (by rfl) hS ?_ ?_
      rotate_left
      · intro wS hSw
        try dsimp only at hSw
        first | (go_simp; done) | (go_simp; with_reducible rfl)
      try simp only [Act.put, List.getElem_toArray, List.getElem_cons_zero, List.getElem_cons_succ, List.setIfInBounds_toArray, List.set_cons_zero, List.set_cons_succ]
      refine upto_take (i := 10) (v := ?_) rfl (by kernel_rfl) (by kernel_rfl) (by kernel_rfl) (by kernel_rfl) (fun _ _ _ h => h) (by rfl) hS ?_ ?_
      rotate_left
      · intro wS hSw
        try dsimp only at hSw
        first | (go_simp; done) | (go_simp; with_reducible rfl)
      try simp only [Act.put, List.getElem_toArray, List.getElem_cons_zero, List.getElem_cons_succ, List.setIfInBounds_toArray, List.set_cons_zero, List.set_cons_succ]
      refine upto_take (i := 11) (v := ?_) rfl (by kernel_rfl) (by kernel_rfl) (by kernel_rfl) (by kernel_rfl) (fun _ _ _ h => h) (by rfl) hS ?_ ?_
      rotate_left
      · intro wS hSw
        try dsimp only at hSw
        first | (go_simp; done) | (go_simp; with_reducible rfl)
      try simp only [Act.put, List.getElem_toArray, List.getElem_cons_zero, List.getElem_cons_succ, List.setIfInBounds_toArray, List.set_cons_zero, List.set_cons_succ]
      refine upto_take (i := 12) (v := ?_) rfl (by kernel_rfl) (by kernel_rfl) (by kernel_rfl) (by kernel_rfl) (fun _ _ _ h => h) (by rfl) hS ?_ ?_
      rotate_left
      · intro wS hSw
        try dsimp only at hSw
        first | (go_simp; done) | (go_simp; with_reducible rfl)
      try simp only [Act.put, List.getElem_toArray, List.getElem_cons_zero, List.getElem_cons_succ, List.setIfInBounds_toArray, List.set_cons_zero, List.set_cons_succ]
      refine upto_take (i := 13) (v := ?_) rfl (by kernel_rfl) (by kernel_rfl) (by kernel_rfl) (by kernel_rfl) (fun _ _ _ h => h) (by rfl) hS ?_ ?_
      rotate_left
      · intro wS hSw
        try dsimp only at hSw
        first | (go_simp; done) | (go_simp; with_reducible rfl)
      try simp only [Act.put, List.getElem_toArray, List.getElem_cons_zero, List.getElem_cons_succ, List.setIfInBounds_toArray, List.set_cons_zero, List.set_cons_succ]
      refine upto_take (i := 14) (v := ?_) rfl (by kernel_rfl) (by kernel_rfl) (by kernel_rfl) (by kernel_rfl) (fun _ _ _ h => h) (by rfl) hS ?_ ?_
      rotate_left
      · intro wS hSw
        try dsimp only at hSw
        first | (go_simp; done) | (go_simp; with_reducible rfl)
      try simp only [Act.put, List.getElem_toArray, List.getElem_cons_zero, List.getElem_cons_succ, List.setIfInBounds_toArray, List.set_cons_zero, List.set_cons_succ]
      refine upto_take (i := 15) (v := ?_) rfl (by kernel_rfl) (by kernel_rfl) (by kernel_rfl) (by kernel_rfl) (fun _ _ _ h => h) (by rfl) hS ?_ ?_
      rotate_left
      · intro wS hSw
        try dsimp only at hSw
        first | (go_simp; done) | (go_simp; with_reducible rfl)
      try simp only [Act.put, List.getElem_toArray, List.getElem_cons_zero, List.getElem_cons_succ, List.setIfInBounds_toArray, List.set_cons_zero, List.set_cons_succ]
      refine upto_take (i := 16) (v := ?_) rfl (by kernel_rfl) (by kernel_rfl) (by kernel_rfl) (by kernel_rfl) (fun _ _ _ h => h) (by rfl) hS ?_ ?_
      rotate_left
      · intro wS hSw
        try dsimp only at hSw
        first | (go_simp; done) | (go_simp; with_reducible rfl)
      try simp only [Act.put, List.getElem_toArray, List.getElem_cons_zero, List.getElem_cons_succ, List.setIfInBounds_toArray, List.set_cons_zero, List.set_cons_succ]
      refine upto_take (i := 17) (v := ?_) rfl (by kernel_rfl) (by kernel_rfl) (by kernel_rfl) (by kernel_rfl) (fun _ _ _ h => h) (by rfl) hS ?_ ?_
      rotate_left
      · intro wS hSw
        try dsimp only at hSw
        first | (go_simp; done) | (go_simp; with_reducible rfl)
      try simp only [Act.put, List.getElem_toArray, List.getElem_cons_zero, List.getElem_cons_succ, List.setIfInBounds_toArray, List.set_cons_zero, List.set_cons_succ]
      refine upto_step (i := 18) (by kernel_rfl) rfl ?_
      intro K hK
      go_simp
      refine hK _ _ (fun _ => wriCells_below (balloc (Below.refl _ _) _) hS) ?_
      clear hK K
      try simp only [Act.put, List.getElem_toArray, List.getElem_cons_zero, List.getElem_cons_succ, List.setIfInBounds_toArray, List.set_cons_zero, List.set_cons_succ]
      refine upto_step (i := 19) (by kernel_rfl) rfl ?_
      intro K hK
      refine step_pushRow _ rfl _ _ rfl w.heap.size _ out rfl (wrRow v l) _ rfl (owns_below ho (balloc (Below.drew (Below.refl _ _)) _)) ?_ hol ?_ ?_
      · exact .inr ⟨_, _, rfl, rowC_cells (b := wr.heap.size) (o := 0) ⟨by simp [go_sem, wrRow], by simp [go_sem, wrRow], by simp [go_sem, wrRow], by simp [go_sem, wrRow]⟩⟩
      · simp
        omega
      intro v5 w5 o5 hg5 hB5
      have hB : Below w.heap.size w w5 := hB5 w (by (repeat (first | exact Below.refl _ _ | assumption | refine Below.drew ?_ | refine balloc ?_ _ | refine bset ?_ (by simp; omega) _ | refine bset ?_ (by simp) _ | refine bstep ?_ (by assumption))))
      have hS5 : wriCells w5 bx (ox + k * 3) l := by
        have mg : Mod (fun b => (Value.slice au out.length cu).ownBlock = some b) wr w5 := (Mod.of_below (balloc (Below.drew (Below.refl _ _)) _)).trans (Mod.of_grown hg5)
        exact wriCells_mod mg (fun e => by have := (ho.lt bx e).1; omega) hrow
      refine hK _ _ (fun _ => hS5) ?_
      clear hK K
      try simp only [Act.put, List.getElem_toArray, List.getElem_cons_zero, List.getElem_cons_succ, List.setIfInBounds_toArray, List.set_cons_zero, List.set_cons_succ]
      refine upto_step (i := 20) (by kernel_rfl) rfl ?_
      intro K hK
      go_simp
      refine hK _ _ (fun h => absurd rfl h) ?_
      clear hK K
      refine upto_done (by kernel_rfl) ?_
      refine NoPanic.normal ?_
      have HO5 : Hid (World.ownsRow w5 w.heap.size 76 4 v5 (out ++ [wrRow v l]).length (rwsC (out ++ [wrRow v l]))) := by
        rw [Hid]
        simpa using o5
      clear hS hS5 hg5 hB5 o5 ho hrow
      go_wp2
      refine ⟨⟨k + 1, by omega, by go_num, ?_, hB⟩, by simp [intOf]; omega⟩
      rw [HE.out]
      exact HO5.out
    · obtain rfl : k = n := by omega
      have hti : ¬ (k : Int) < (k : Int) := by omega
      have hlen := HL.out k hk
      rw [hlen, HA.out] at ho
      clear hlen
      obtain ⟨au, cu, rfl⟩ := owns_form ho
      go_wp2
      go_ret
      exact ⟨_, rfl, ho, hbl⟩
def UwP (d : List Byte) (base : Nat) (w' : World) (e : Ending) : Prop :=
  if d.length < 8 then e = .returned (.tuple #[.int .i64 0, .slice none 0 0, .bool false]) else
  match writesL (d.drop 8) with
  | none => e = .returned (.tuple #[.int .i64 0, .slice none 0 0, .bool false])
  | some ws => ∃ v, e = .returned (.tuple #[.int .i64 (unwV d), v, .bool (decide ((packWD (unwV d) ws).code = 0))]) ∧ w'.ownsRow base 96 3 v ws.length (wrisC ws)
theorem uwP_short {d : List Byte} {base : Nat} {w' : World} {e : Ending} (h : d.length < 8) : UwP d base w' e = (e = .returned (.tuple #[.int .i64 0, .slice none 0 0, .bool false])) := by unfold UwP; rw [if_pos h]
theorem uwP_none {d : List Byte} {base : Nat} {w' : World} {e : Ending} (h8 : 8 ≤ d.length) (h : writesL (d.drop 8) = none) : UwP d base w' e = (e = .returned (.tuple #[.int .i64 0, .slice none 0 0, .bool false])) := by unfold UwP; rw [if_neg (by omega), h]
theorem uwP_some {d : List Byte} {base : Nat} {w' : World} {e : Ending} {ws : List Wri} (h8 : 8 ≤ d.length) (h : writesL (d.drop 8) = some ws) : UwP d base w' e = (∃ v, e = .returned (.tuple #[.int .i64 (unwV d), v, .bool (decide ((packWD (unwV d) ws).code = 0))]) ∧ w'.ownsRow base 96 3 v ws.length (wrisC ws)) := by unfold UwP; rw [if_neg (by omega), h]
theorem mset {F : Nat → Prop} {w w' : World} (h : Mod F w w') (a : Addr) (v : Value) (ha : F a.block) : Mod F w (w'.setCell a v) := h.trans ((Mod.of_set w' a v).mono (fun b e => by rw [e]; exact ha))
theorem bytesField0 (c : Int) (a : Option Addr) (n k : Nat) (w : World) : (Instr.field 146 (.agg #[.int .i64 c, .slice a n k]) 0).run Tryz.prog w = .ok (.int .i64 c) w := by kernel_rfl
theorem txS_some {d r : List Byte} {s : ByteArray} (h : textL d = some (s, r)) : txS d = s := by unfold txS; rw [h]
theorem txE_some {a : Nat} {d r : List Byte} {s : ByteArray} (h : textL d = some (s, r)) : txE a d = (a : Int) + 1 + s.size := by unfold txE; rw [h]
theorem txE_none {a : Nat} {d : List Byte} (h : textL d = none) : txE a d = -1 := by unfold txE; rw [h]
theorem txS_none {d : List Byte} (h : textL d = none) : txS d = ⟨#[]⟩ := by unfold txS; rw [h]
set_option maxHeartbeats 4000000 in
theorem l6Unpack_any (x : Value) (d : List Byte) (w : World) (hx : BytesV w x d) (hn : d.length ≤ 1048576) :
    Calls Tryz.prog 104 #[x] w fun e w' => UwP d w.heap.size w' e ∧ Below w.heap.size w w' := by
  have HX : Hid (BytesV w x d) := hx
  obtain ⟨ax, cx, rfl, hcx, hmx, hx⟩ := hx
  unfold maxLen at hmx
  by_cases hs : d.length < 8
  · have HD : Hid (∀ w' e, UwP d w.heap.size w' e = (e = .returned (.tuple #[.int .i64 0, .slice none 0 0, .bool false]))) := fun w' e => uwP_short hs
    have i1 : (d.length : Int) < 8 := by omega
    clear HX hx
    generalize d.length = n at *
    go_enter Tryz.func104, Tryz.ntmps104
    go_wp2
    refine bodyPost_ret (v := .tuple #[.int .i64 0, .slice none 0 0, .bool false]) (by simp [results, Tryz.results104, go_sem]) rfl ?_
    rw [HD.out]
    exact ⟨rfl, Below.refl _ _⟩
  have i1 : ¬ (d.length : Int) < 8 := by omega
  have H8 : Hid (8 ≤ d.length) := by rw [Hid]; omega
  have HLD : Hid ((d.drop 8).length = d.length - 8) := List.length_drop
  obtain ⟨a2, c2, run2, V2⟩ := cutH (a := ax) (n := d.length) (cap := cx) 8 (by omega) (by omega) hcx
  have HV2 : Hid (∀ W, Below w.heap.size w W → BytesV W (.slice a2 8 c2) (d.take 8)) := fun W hW => V2 W d rfl (BytesV_below HX.out hW)
  have run2' : ∀ w : World, (Instr.sliceAt 22 (.slice ax d.length cx) none (some (.int .i64 8)) none).run Tryz.prog w = .ok (.slice a2 8 c2) w := run2
  have HVV : Hid (IntKind.i64.wrap (hiN ((d.take 8).take 8)) = unwV d) := by rw [Hid, List.take_take]; rfl
  have HT8 : Hid (8 ≤ (d.take 8).length) := by rw [Hid, List.length_take]; omega
  have HTX : Hid (∀ (a : Nat) (i : Int) W, i = a → a ≤ d.length → Below w.heap.size w W → Calls Tryz.prog 146 #[.slice ax d.length cx, .int .i64 i] W fun e w' => e = .returned (.tuple #[.string (txS (d.drop a)), .int .i64 (txE a (d.drop a))]) ∧ w' = W) := fun a i W hi ha hW => by rw [hi]; exact l6Text_any _ d a W (BytesV_below HX.out hW) ha hn
  have hlo : 8 ≤ d.length := by omega
  clear run2 V2 HX
  obtain ⟨n, hnn⟩ : ∃ n, d.length = n := ⟨_, rfl⟩
  have HNN : Hid (d.length = n) := hnn
  rw [hnn] at run2' HTX i1 hcx hn hx hs hlo HLD ⊢
  clear hnn hs
  go_enter Tryz.func104, Tryz.ntmps104
  go_wp2_with fail
  refine (l3Number_any _ (d.take 8) _ (HV2.out _ (by (repeat (first | exact Below.refl _ _ | assumption | refine Below.drew ?_ | refine balloc ?_ _ | refine bset ?_ (by simp; omega) _ | refine bset ?_ (by simp) _ | refine bstep ?_ (by assumption))))) HT8.out).mono ?_
  rintro e W1 ⟨rfl, hEq⟩
  obtain rfl := hEq.symm
  rw [HVV.out]
  generalize hvr : unwV d = ver
  have HVR : Hid (unwV d = ver) := hvr
  clear hvr HVV HV2 HT8 run2'
  go_wp2
  go_loopw [6, 7] (fun r i W => ∃ (p : Nat) (out : List Wri), 8 ≤ p ∧ p ≤ n ∧ i = .int .i64 (p : Int) ∧ Hid (WrSo (d.drop 8) (p - 8) out) ∧ out.length ≤ n ∧ W.ownsRow w.heap.size 96 3 r out.length (wrisC out) ∧ Below w.heap.size w W) (fun _ i _ => n - (intOf i).toNat)
  case atStart => exact ⟨8, [], by omega, by omega, rfl, wrSo_start _, by simp, World.ownsRow_lit (base := w.heap.size) (e := 96) (size := 3) w #[] 0 (by simp) (by unfold maxLen; omega) rfl, balloc (Below.refl _ _) _⟩
  case round =>
    obtain ⟨p, out, h8p, hpn, rfl, HSo, hol, ho, hbl⟩ := hrel
    have hz : w.heap.size ≤ wr.heap.size := hbl.size
    by_cases hlt : p < n
    · obtain ⟨b, o, rfl, g⟩ := hx p (by omega)
      obtain ⟨m, hm⟩ : ∃ m, (d.getD p 0).val = m := ⟨_, rfl⟩
      have hm6 : m < 256 := by rw [← hm]; exact (d.getD p 0).isLt
      rw [hm] at g
      replace g := cell_keep hbl g
      have hzb := World.block_lt_of_cell? _ _ g
      dsimp only at hzb
      have HQ0 : Hid (((d.drop p).getD 0 0).val = m) := by
        rw [Hid, ← hm]
        simp [List.getD]
      have HQP : Hid (0 < (d.drop p).length) := by
        rw [Hid, List.length_drop, HNN.out]
        omega
      have HQ1 : Hid ((d.drop p).drop 1 = d.drop (p + 1)) := List.drop_drop
      have HQ8 : Hid ((d.drop 8).drop (p - 8) = d.drop p) := by
        rw [Hid, List.drop_drop, show 8 + (p - 8) = p by omega]
      have HKL : Hid (p - 8 < (d.drop 8).length) := by rw [Hid, HLD.out]; omega
      have HBad : Hid (writeL (d.drop p) = none → ∀ w' e, UwP d w.heap.size w' e = (e = .returned (.tuple #[.int .i64 0, .slice none 0 0, .bool false]))) := fun h w' e => uwP_none H8.out (wrSo_bad HSo.out HKL.out (by rw [HQ8.out]; exact h))
      have HGood : Hid (∀ y r, writeL (d.drop p) = some (y, r) → WrSo (d.drop 8) (p - 8 + wrN y) (out ++ [y])) := fun y r h => (wrSo_step HSo.out HKL.out (by rw [HQ8.out]; exact h)).2
      have v1 : IntKind.i64.wrap ((p : Int) + 1) = p + 1 := by rw [IntKind.wrap_i64]; omega
      have i2 : (p : Int) < (n : Int) := by omega
      clear hx hm
      by_cases hm1 : 1 < m
      · have HB : Hid (∀ w' e, UwP d w.heap.size w' e = (e = .returned (.tuple #[.int .i64 0, .slice none 0 0, .bool false]))) := HBad.out (by
          cases hT : textL ((d.drop p).drop 1) with
          | none => exact wl_none1 HQP.out hT
          | some q => exact wl_big HQP.out (k := q.1) (r := q.2) hT (by rw [HQ0.out]; exact hm1))
        have j1 : (1 : Int) < (m : Int) := by omega
        have j2 : ((m : Int) == 1) = false := by rw [beq_eq_false_iff_ne]; omega
        have j3 : ¬ (m : Int) = 1 := by omega
        go_wp2
        refine bodyPost_ret (v := .tuple #[.int .i64 0, .slice none 0 0, .bool false]) (by simp [results, Tryz.results104, go_sem]) rfl ?_
        rw [HB.out]
        exact ⟨rfl, by (repeat (first | exact Below.refl _ _ | assumption | refine Below.drew ?_ | refine balloc ?_ _ | refine bset ?_ (by simp; omega) _ | refine bset ?_ (by simp) _ | refine bstep ?_ (by assumption)))⟩
      · have hmm : m = 1 ∨ m = 0 := by omega
        rcases hmm with hmm | hmm
        · subst hmm
          clear hm1
          go_wp2_with fail
          refine (HTX.out (p + 1) _ _ (by push_cast; rfl) (by omega) (by (repeat (first | exact Below.refl _ _ | assumption | refine Below.drew ?_ | refine balloc ?_ _ | refine bset ?_ (by simp; omega) _ | refine bset ?_ (by simp) _ | refine bstep ?_ (by assumption))))).mono ?_
          rintro e W2 ⟨rfl, hEq⟩
          obtain rfl := hEq.symm
          clear hEq
          cases hT : textL (d.drop (p + 1)) with
          | none =>
            have HB : Hid (∀ w' e, UwP d w.heap.size w' e = (e = .returned (.tuple #[.int .i64 0, .slice none 0 0, .bool false]))) := HBad.out (wl_none1 HQP.out (by rw [HQ1.out]; exact hT))
            rw [txS_none hT, txE_none hT]
            clear hT
            go_wp2
            refine bodyPost_ret (v := .tuple #[.int .i64 0, .slice none 0 0, .bool false]) (by simp [results, Tryz.results104, go_sem]) rfl ?_
            rw [HB.out]
            exact ⟨rfl, by (repeat (first | exact Below.refl _ _ | assumption | refine Below.drew ?_ | refine balloc ?_ _ | refine bset ?_ (by simp; omega) _ | refine bset ?_ (by simp) _ | refine bstep ?_ (by assumption)))⟩
          | some q =>
            obtain ⟨ky, r⟩ := q
            have HT1 : Hid (textL ((d.drop p).drop 1) = some (ky, r)) := by rw [Hid, HQ1.out]; exact hT
            have hrl := (textL_len hT).1
            have hrd := textL_drop hT
            rw [List.length_drop, HNN.out] at hrl
            rw [List.drop_drop] at hrd
            obtain ⟨q, hq⟩ : ∃ q, p + 1 + (1 + ky.size) = q := ⟨_, rfl⟩
            rw [hq] at hrd
            have HRD : Hid (r = d.drop q) := hrd
            have hE : txE (p + 1) (d.drop (p + 1)) = (q : Int) := by rw [txE_some hT]; omega
            rw [txS_some hT, hE]
            have hqn : q ≤ n := by omega
            have HQQ : Hid (p + 1 + (1 + ky.size) = q) := hq
            clear hT hrl hrd hE hq
            have HW : Hid (writeL (d.drop p) = some (⟨ky, ⟨#[]⟩, true⟩, r)) := wl_gone HQP.out HT1.out HQ0.out
            have HS2 : Hid (WrSo (d.drop 8) (q - 8) (out ++ [⟨ky, ⟨#[]⟩, true⟩])) := by
              have h := HGood.out _ _ HW.out
              have e : p - 8 + wrN ⟨ky, ⟨#[]⟩, true⟩ = q - 8 := by
                have := HQQ.out
                dsimp only [wrN]
                rw [if_pos rfl]
                omega
              rw [e] at h
              exact h
            have hz2 : w.heap.size ≤ wr.heap.size := hz
            go_wp2_with (at_builtin; refine wpList_pushWri _ rfl _ _ rfl w.heap.size _ out rfl ⟨ky, ⟨#[]⟩, true⟩ _ rfl ?c0 ?c1 (by omega) ?c3 ?_)
            case c0 => exact Mod.owns (F := fun b => b = wr.heap.size) (by (repeat (first | exact Mod.refl _ _ | refine Mod.alloc ?_ _ | refine mset ?_ _ _ rfl))) ho (fun b hb e => by have := (ho.lt b hb).2; omega)
            case c1 => exact .inr ⟨_, _, rfl, wriC_cells (b := wr.heap.size + 1) (o := 0) ⟨by simp [go_sem], by simp [go_sem], by simp [go_sem]⟩⟩
            case c3 => simp; omega
            intro v4 w4 o4 hg hB
            have hB4 : Below w.heap.size w w4 := hB w (by (repeat (first | exact Below.refl _ _ | assumption | refine Below.drew ?_ | refine balloc ?_ _ | refine bset ?_ (by simp; omega) _ | refine bset ?_ (by simp) _ | refine bstep ?_ (by assumption))))
            have HO4 : Hid (World.ownsRow w4 w.heap.size 96 3 v4 (out ++ [(⟨ky, ⟨#[]⟩, true⟩ : Wri)]).length (wrisC (out ++ [(⟨ky, ⟨#[]⟩, true⟩ : Wri)]))) := by
              rw [Hid]
              simpa using o4
            have HOL : Hid ((out ++ [(⟨ky, ⟨#[]⟩, true⟩ : Wri)]).length ≤ n) := by
              have h1 := HS2.out.2.2.1
              rw [Hid]
              omega
            clear o4 hg hB ho
            go_wp2
            refine ⟨⟨q, _, ?_, ?_, rfl, HS2, HOL.out, HO4.out, hB4⟩, ?_⟩
            · have := HQQ.out
              omega
            · omega
            · have := HQQ.out
              simp [intOf]
              omega
        · subst hmm
          clear hm1
          go_wp2_with fail
          refine (HTX.out (p + 1) _ _ (by push_cast; rfl) (by omega) (by (repeat (first | exact Below.refl _ _ | assumption | refine Below.drew ?_ | refine balloc ?_ _ | refine bset ?_ (by simp; omega) _ | refine bset ?_ (by simp) _ | refine bstep ?_ (by assumption))))).mono ?_
          rintro e W2 ⟨rfl, hEq⟩
          obtain rfl := hEq.symm
          clear hEq
          cases hT : textL (d.drop (p + 1)) with
          | none =>
            have HB : Hid (∀ w' e, UwP d w.heap.size w' e = (e = .returned (.tuple #[.int .i64 0, .slice none 0 0, .bool false]))) := HBad.out (wl_none1 HQP.out (by rw [HQ1.out]; exact hT))
            rw [txS_none hT, txE_none hT]
            clear hT
            go_wp2
            refine bodyPost_ret (v := .tuple #[.int .i64 0, .slice none 0 0, .bool false]) (by simp [results, Tryz.results104, go_sem]) rfl ?_
            rw [HB.out]
            exact ⟨rfl, by (repeat (first | exact Below.refl _ _ | assumption | refine Below.drew ?_ | refine balloc ?_ _ | refine bset ?_ (by simp; omega) _ | refine bset ?_ (by simp) _ | refine bstep ?_ (by assumption)))⟩
          | some q =>
            obtain ⟨ky, r⟩ := q
            have HT1 : Hid (textL ((d.drop p).drop 1) = some (ky, r)) := by rw [Hid, HQ1.out]; exact hT
            have hrl := (textL_len hT).1
            have hrd := textL_drop hT
            rw [List.length_drop, HNN.out] at hrl
            rw [List.drop_drop] at hrd
            obtain ⟨q, hq⟩ : ∃ q, p + 1 + (1 + ky.size) = q := ⟨_, rfl⟩
            rw [hq] at hrd
            have HRD : Hid (r = d.drop q) := hrd
            have hE : txE (p + 1) (d.drop (p + 1)) = (q : Int) := by rw [txE_some hT]; omega
            rw [txS_some hT, hE]
            have hqn : q ≤ n := by omega
            have HQQ : Hid (p + 1 + (1 + ky.size) = q) := hq
            clear hT hrl hrd hE hq
            go_wp2_with fail
            refine (HTX.out q _ _ rfl hqn (by (repeat (first | exact Below.refl _ _ | assumption | refine Below.drew ?_ | refine balloc ?_ _ | refine bset ?_ (by simp; omega) _ | refine bset ?_ (by simp) _ | refine bstep ?_ (by assumption))))).mono ?_
            rintro e W2 ⟨rfl, hEq⟩
            obtain rfl := hEq.symm
            clear hEq
            cases hT : textL (d.drop q) with
            | none =>
              have HB : Hid (∀ w' e, UwP d w.heap.size w' e = (e = .returned (.tuple #[.int .i64 0, .slice none 0 0, .bool false]))) := HBad.out (wl_none2 HQP.out HT1.out HQ0.out (by rw [HRD.out]; exact hT))
              rw [txS_none hT, txE_none hT]
              clear hT
              go_wp2
              refine bodyPost_ret (v := .tuple #[.int .i64 0, .slice none 0 0, .bool false]) (by simp [results, Tryz.results104, go_sem]) rfl ?_
              rw [HB.out]
              exact ⟨rfl, by (repeat (first | exact Below.refl _ _ | assumption | refine Below.drew ?_ | refine balloc ?_ _ | refine bset ?_ (by simp; omega) _ | refine bset ?_ (by simp) _ | refine bstep ?_ (by assumption)))⟩
            | some q2 =>
              obtain ⟨vl, r2⟩ := q2
              have HW : Hid (writeL (d.drop p) = some (⟨ky, vl, false⟩, r2)) := wl_val HQP.out HT1.out HQ0.out (by rw [HRD.out]; exact hT)
              have hrl := (textL_len hT).1
              rw [List.length_drop, HNN.out] at hrl
              obtain ⟨s, hs⟩ : ∃ s, q + (1 + vl.size) = s := ⟨_, rfl⟩
              have hE : txE q (d.drop q) = (s : Int) := by rw [txE_some hT]; omega
              rw [txS_some hT, hE]
              have hsn : s ≤ n := by omega
              have HSS : Hid (q + (1 + vl.size) = s) := hs
              clear hT hrl hE hs
              have HS2 : Hid (WrSo (d.drop 8) (s - 8) (out ++ [⟨ky, vl, false⟩])) := by
                have h := HGood.out _ _ HW.out
                have e : p - 8 + wrN ⟨ky, vl, false⟩ = s - 8 := by
                  have := HQQ.out
                  have := HSS.out
                  dsimp only [wrN]
                  rw [if_neg (by decide)]
                  omega
                rw [e] at h
                exact h
              have hz2 : w.heap.size ≤ wr.heap.size := hz
              go_wp2_with (at_builtin; refine wpList_pushWri _ rfl _ _ rfl w.heap.size _ out rfl ⟨ky, vl, false⟩ _ rfl ?c0 ?c1 (by omega) ?c3 ?_)
              case c0 => exact Mod.owns (F := fun b => b = wr.heap.size) (by (repeat (first | exact Mod.refl _ _ | refine Mod.alloc ?_ _ | refine mset ?_ _ _ rfl))) ho (fun b hb e => by have := (ho.lt b hb).2; omega)
              case c1 => exact .inr ⟨_, _, rfl, wriC_cells (b := wr.heap.size + 1) (o := 0) ⟨by simp [go_sem], by simp [go_sem], by simp [go_sem]⟩⟩
              case c3 => simp; omega
              intro v4 w4 o4 hg hB
              have hB4 : Below w.heap.size w w4 := hB w (by (repeat (first | exact Below.refl _ _ | assumption | refine Below.drew ?_ | refine balloc ?_ _ | refine bset ?_ (by simp; omega) _ | refine bset ?_ (by simp) _ | refine bstep ?_ (by assumption))))
              have HO4 : Hid (World.ownsRow w4 w.heap.size 96 3 v4 (out ++ [(⟨ky, vl, false⟩ : Wri)]).length (wrisC (out ++ [(⟨ky, vl, false⟩ : Wri)]))) := by
                rw [Hid]
                simpa using o4
              have HOL : Hid ((out ++ [(⟨ky, vl, false⟩ : Wri)]).length ≤ n) := by
                have h1 := HS2.out.2.2.1
                rw [Hid]
                omega
              clear o4 hg hB ho
              go_wp2
              refine ⟨⟨s, _, ?_, ?_, rfl, HS2, HOL.out, HO4.out, hB4⟩, ?_⟩
              · have := HQQ.out
                have := HSS.out
                omega
              · omega
              · have := HQQ.out
                have := HSS.out
                simp [intOf]
                omega
    · obtain rfl : p = n := by omega
      have hti : ¬ (p : Int) < (p : Int) := by omega
      have HWS : Hid (writesL (d.drop 8) = some out) := by
        have h := HSo.out
        rw [show p - 8 = (d.drop 8).length from HLD.out.symm] at h
        exact wrSo_end h
      obtain ⟨-, hsz⟩ := writesL_len _ _ (Nat.lt_succ_self _) out HWS.out
      obtain ⟨au, cu, rfl⟩ := owns_form ho
      have hV : wrisR.V wr (.slice au out.length cu) out := ⟨WrisV_of_owns ho, fit_wri hsz⟩
      clear hx hsz
      go_wp2_with fail
      refine (specPackW_u ver _ out _ hV).mono ?_
      rintro e W2 ⟨r, F, rfl, o2, hb2⟩
      obtain ⟨u, F2, rfl, o3, -⟩ := o2
      obtain ⟨p2, r2, rfl⟩ := bytes_form (bytesR.ofO o3)
      have ho2 := owns_below ho hb2
      have hB2 := bstep hbl hb2
      have HC : Hid (UwP d w.heap.size = UwP d w.heap.size) := rfl
      clear o3 hb2 hV ho
      obtain ⟨c, hc⟩ : ∃ c, (packWD ver out).code = c := ⟨_, rfl⟩
      have HCC : Hid ((packWD ver out).code = c) := hc
      rw [hc]
      clear hc
      generalize (packWD ver out).bytes.length = L at *
      have hfd := bytesField0
      by_cases hc0 : c = 0
      · subst hc0
        go_wp2
        refine bodyPost_ret (v := .tuple #[.int .i64 ver, .slice au out.length cu, .bool true]) (by simp [results, Tryz.results104, go_sem]) rfl ?_
        rw [uwP_some H8.out HWS.out, HVR.out, HCC.out]
        exact ⟨⟨_, rfl, ho2⟩, hB2⟩
      · have hc1 : (c == 0) = false := by simpa using hc0
        go_wp2
        refine bodyPost_ret (v := .tuple #[.int .i64 ver, .slice au out.length cu, .bool false]) (by simp [results, Tryz.results104, go_sem]) rfl ?_
        rw [uwP_some H8.out HWS.out, HVR.out, HCC.out, decide_eq_false hc0]
        exact ⟨⟨_, rfl, ho2⟩, hB2⟩
theorem code_packWD (v : Int) (ws : List Wri) : ((packWD v ws).code = 0) ↔ (inR v 1 1000000 = true ∧ wrF ws = 0) := by
  unfold packWD
  cases h : inR v 1 1000000
  · simp
  · by_cases hf : wrF ws = 0
    · simp [hf]
    · simp [hf]
end Go.Proofs.YtdfapehonegeeaaGreat

/-
  A log: the program's parts.
-/
namespace Go.Proofs.YtdfapehonegeeaaGreat
open Go.RowKit
set_option linter.unusedSectionVars false
variable [DecidableEq Logg] [Inhabited Logg] [DecidableEq LoggR] [Inhabited LoggR] [DecidableEq BytesR] [Inhabited BytesR] [DecidableEq RecsR] [Inhabited RecsR] [DecidableEq Leg] [Inhabited Leg]
set_option linter.unusedSimpArgs false
attribute [local go_sem ↓] Go.wp_at_zero Go.wp_at_succ

set_option maxHeartbeats 2000000 in
theorem readerOf_any (x : Value) (d : Logg) (w : World) (hx : loggR.V w x d) (hn : wtLogg d ≤ 1048576) :
    Calls Tryz.prog 141 #[x] w fun e w' => ∃ v F, e = .returned (.agg #[v, .int .i64 d.synced.length]) ∧ bytesR.O w' w.heap.size F v (d.synced ++ d.loose) ∧ Below w.heap.size w w' := by
  have hX := hx
  obtain ⟨u1, u2, rfl, h1, h2⟩ := hx
  obtain ⟨a1, c1, rfl⟩ := bytes_form h1
  obtain ⟨a2, c2, rfl⟩ := bytes_form h2
  unfold wtLogg wtBytes at hn
  have u1 : IntKind.i64.wrap (d.synced.length : Int) = d.synced.length := by rw [IntKind.wrap_i64]; omega
  have HL : Hid ([d.synced, d.loose].flatten = d.synced ++ d.loose) := by simp [Hid]
  go_enter Tryz.func141, Tryz.ntmps141
  go_wp2
  refine wp_region_noPanic ?_
  refine region_upto (fun w' => Below w.heap.size w w' ∧ w'.cell? ⟨w.heap.size, 0, none⟩ = some (.slice a1 d.synced.length c1) ∧ w'.cell? ⟨w.heap.size, 1, none⟩ = some (.slice a2 d.loose.length c2)) 10 (by kernel_rfl) ⟨by (repeat (first | exact Below.refl _ _ | assumption | refine Below.drew ?_ | refine balloc ?_ _ | refine bset ?_ (by simp; omega) _ | refine bset ?_ (by simp) _ | refine bstep ?_ (by assumption))), by simp [go_sem], by simp [go_sem]⟩ (fun hS => ?_)
  refine upto_take (i := 0) (v := ?_) rfl (by kernel_rfl) (by kernel_rfl) (by kernel_rfl) (by kernel_rfl) (fun _ _ _ h => h) (by rfl) hS ?_ ?_
  rotate_left
  · intro wS hSw
    try dsimp only at hSw
    first | (go_simp; done) | (go_simp; with_reducible rfl)
  try simp only [Act.put, List.getElem_toArray, List.getElem_cons_zero, List.getElem_cons_succ, List.setIfInBounds_toArray, List.set_cons_zero, List.set_cons_succ]
  refine upto_take (i := 1) (v := ?_) rfl (by kernel_rfl) (by kernel_rfl) (by kernel_rfl) (by kernel_rfl) (fun _ _ _ h => h) (by rfl) hS ?_ ?_
  rotate_left
  · intro wS hSw
    try dsimp only at hSw
    first | (go_simp; done) | (go_simp; with_reducible rfl)
  try simp only [Act.put, List.getElem_toArray, List.getElem_cons_zero, List.getElem_cons_succ, List.setIfInBounds_toArray, List.set_cons_zero, List.set_cons_succ]
  refine upto_take (i := 2) (v := ?_) rfl (by kernel_rfl) (by kernel_rfl) (by kernel_rfl) (by kernel_rfl) (fun _ _ _ h => h) (by rfl) hS ?_ ?_
  rotate_left
  · intro wS hSw
    try dsimp only at hSw
    first | (go_simp; done) | (go_simp; with_reducible rfl)
  try simp only [Act.put, List.getElem_toArray, List.getElem_cons_zero, List.getElem_cons_succ, List.setIfInBounds_toArray, List.set_cons_zero, List.set_cons_succ]
  refine upto_take (i := 3) (v := ?_) rfl (by kernel_rfl) (by kernel_rfl) (by kernel_rfl) (by kernel_rfl) (fun _ _ _ h => h) (by rfl) hS ?_ ?_
  rotate_left
  · intro wS hSw
    try dsimp only at hSw
    first | (go_simp; done) | (go_simp; with_reducible rfl)
  try simp only [Act.put, List.getElem_toArray, List.getElem_cons_zero, List.getElem_cons_succ, List.setIfInBounds_toArray, List.set_cons_zero, List.set_cons_succ]
  refine upto_take (i := 6) (v := ?_) rfl (by kernel_rfl) (by kernel_rfl) (by kernel_rfl) (by kernel_rfl) (fun _ _ _ h => h) (by rfl) hS ?_ ?_
  rotate_left
  · intro wS hSw
    try dsimp only at hSw
    first | (go_simp; done) | (go_simp; with_reducible rfl)
  try simp only [Act.put, List.getElem_toArray, List.getElem_cons_zero, List.getElem_cons_succ, List.setIfInBounds_toArray, List.set_cons_zero, List.set_cons_succ]
  refine upto_take (i := 7) (v := ?_) rfl (by kernel_rfl) (by kernel_rfl) (by kernel_rfl) (by kernel_rfl) (fun _ _ _ h => h) (by rfl) hS ?_ ?_
  rotate_left
  · intro wS hSw
    try dsimp only at hSw
    first | (go_simp; done) | (go_simp; with_reducible rfl)
  try simp only [Act.put, List.getElem_toArray, List.getElem_cons_zero, List.getElem_cons_succ, List.setIfInBounds_toArray, List.set_cons_zero, List.set_cons_succ]
  refine upto_take (i := 8) (v := ?_) rfl (by kernel_rfl) (by kernel_rfl) (by kernel_rfl) (by kernel_rfl) (fun _ _ _ h => h) (by rfl) hS ?_ ?_
  rotate_left
  · intro wS hSw
    try dsimp only at hSw
    first | (go_simp; done) | (go_simp; with_reducible rfl)
  try simp only [Act.put, List.getElem_toArray, List.getElem_cons_zero, List.getElem_cons_succ, List.setIfInBounds_toArray, List.set_cons_zero, List.set_cons_succ]
  refine upto_step (i := 4) (by kernel_rfl) rfl ?_
  intro K hK
  go_simp
  refine hK _ _ (fun _ => ⟨by (repeat (first | exact Below.refl _ _ | assumption | refine Below.drew ?_ | refine balloc ?_ _ | refine bset ?_ (by simp; omega) _ | refine bset ?_ (by simp) _ | refine bstep ?_ (by assumption))), by simp [go_sem], by simp [go_sem]⟩) ?_
  clear hK K
  try simp only [Act.put, List.getElem_toArray, List.getElem_cons_zero, List.getElem_cons_succ, List.setIfInBounds_toArray, List.set_cons_zero, List.set_cons_succ]
  refine upto_step (i := 5) (by kernel_rfl) rfl ?_
  intro K hK
  go_simp
  refine (joined_any _ [d.synced, d.loose] _ (bytess2 (g := w.heap.size + 1 + 1) (by simp [go_sem]; done) (by simp [go_sem]; done) (bytesR.below h1 (by (repeat (first | exact Below.refl _ _ | assumption | refine Below.drew ?_ | refine balloc ?_ _ | refine bset ?_ (by simp; omega) _ | refine bset ?_ (by simp) _ | refine bstep ?_ (by assumption))))) (bytesR.below h2 (by (repeat (first | exact Below.refl _ _ | assumption | refine Below.drew ?_ | refine balloc ?_ _ | refine bset ?_ (by simp; omega) _ | refine bset ?_ (by simp) _ | refine bstep ?_ (by assumption)))))) (by rw [HL.out]; simp; omega)).mono ?_
  rintro e w3 ⟨v, F, rfl, o3, hb3⟩
  rw [HL.out] at o3
  obtain ⟨a3, c3, rfl⟩ := bytes_form (bytesR.ofO o3)
  have hS3 : (fun w' => Below w.heap.size w w' ∧ w'.cell? ⟨w.heap.size, 0, none⟩ = some (.slice a1 d.synced.length c1) ∧ w'.cell? ⟨w.heap.size, 1, none⟩ = some (.slice a2 d.loose.length c2)) w3 := ⟨by (repeat (first | exact Below.refl _ _ | assumption | refine Below.drew ?_ | refine balloc ?_ _ | refine bset ?_ (by simp; omega) _ | refine bset ?_ (by simp) _ | refine bstep ?_ (by assumption))), cell_keep hb3 (by simp [go_sem]), cell_keep hb3 (by simp [go_sem])⟩
  have r0 : w3.cell? ⟨w.heap.size + 1, 0, none⟩ = some (.slice none 0 0) := cell_keep hb3 (by simp [go_sem])
  have r1 : w3.cell? ⟨w.heap.size + 1, 1, none⟩ = some (.int .i64 0) := cell_keep hb3 (by simp [go_sem])
  have rf : ∀ o, w3.frozen? ⟨w.heap.size + 1, o, none⟩ = false := fun o => by rw [(bcell hb3).2 _ _ (by simp)]; simp [go_sem]
  have hB3 : Below w.heap.size w w3 := hS3.1
  have HO : Hid (bytesR.O w3 (w.heap.size + 2) F (.slice a3 (d.synced ++ d.loose).length c3) (d.synced ++ d.loose)) := bytesR.base o3 (by simp)
  refine hK _ _ (fun _ => hS3) ?_
  clear hK K o3 hb3
  try simp only [Act.put, List.getElem_toArray, List.getElem_cons_zero, List.getElem_cons_succ, List.setIfInBounds_toArray, List.set_cons_zero, List.set_cons_succ]
  refine upto_take (i := 9) (v := ?_) rfl (by kernel_rfl) (by kernel_rfl) (by kernel_rfl) (by kernel_rfl) (fun _ _ _ h => h) (by rfl) hS3 ?_ ?_
  rotate_left
  · intro wS hSw
    try dsimp only at hSw
    first | (go_simp; done) | (go_simp; with_reducible rfl)
  try simp only [Act.put, List.getElem_toArray, List.getElem_cons_zero, List.getElem_cons_succ, List.setIfInBounds_toArray, List.set_cons_zero, List.set_cons_succ]
  refine upto_step (i := 10) (by kernel_rfl) rfl ?_
  intro K hK
  go_simp
  refine hK _ _ (fun h => absurd rfl h) ?_
  clear hK K
  refine upto_done (by kernel_rfl) ?_
  refine NoPanic.normal ?_
  clear hS hS3
  go_wp2
  have ho : bytesR.O w3 (w.heap.size + 2) F (.slice a3 (d.synced.length + d.loose.length) c3) (d.synced ++ d.loose) := by have h := HO.out; simpa using h
  refine bodyPost_ret (v := .agg #[.slice a3 (d.synced.length + d.loose.length) c3, .int .i64 d.synced.length]) ?_ rfl ⟨_, F, rfl, bytesR.base (bytesR.set (bytesR.set ho _ (by simp)) _ (by simp)) (by omega), by (repeat (first | exact Below.refl _ _ | assumption | refine Below.drew ?_ | refine balloc ?_ _ | refine bset ?_ (by simp; omega) _ | refine bset ?_ (by simp) _ | refine bstep ?_ (by assumption)))⟩
  simp [results, Tryz.results141, go_sem, r0, r1]
set_option maxHeartbeats 1000000 in
theorem records_any (x : Value) (xs : List Byte) (w : World) (hx : bytesR.V w x xs) :
    Calls Tryz.prog 143 #[x] w fun e w' => ∃ v F, e = .returned v ∧ recsRR.O w' w.heap.size F v (recsD xs) ∧ Below w.heap.size w w' := by
  have hX := hx
  obtain ⟨ax, cx, rfl⟩ := bytes_form hx
  go_enter Tryz.func143, Tryz.ntmps143
  go_wp2_with fail
  refine (implUnframe_u _ xs _ (bytesR.below hX (by (repeat (first | exact Below.refl _ _ | assumption | refine Below.drew ?_ | refine balloc ?_ _ | refine bset ?_ (by simp; omega) _ | refine bset ?_ (by simp) _ | refine bstep ?_ (by assumption)))))).mono ?_
  rintro e w1 ⟨v, F, rfl, ho, hb⟩
  have fv := recsRR.ofO ho
  obtain ⟨a1, c1, rfl⟩ := recsR_form fv
  obtain ⟨c2, f2⟩ := bcell hb
  have ho' := recsRR.base (base' := w.heap.size + 1) ho (by simp)
  go_wp2
  refine bodyPost_ret (v := .agg #[.int .i64 (recsD xs).code, .int .i64 (recsD xs).used, .slice a1 (recsD xs).records.length c1]) ?_ rfl ⟨_, F, rfl, recsRR.base (recsRR.set (recsRR.set (recsRR.set ho' _ (by simp)) _ (by simp)) _ (by simp)) (by omega), by (repeat (first | exact Below.refl _ _ | assumption | refine Below.drew ?_ | refine balloc ?_ _ | refine bset ?_ (by simp; omega) _ | refine bset ?_ (by simp) _ | refine bstep ?_ (by assumption)))⟩
  simp [results, Tryz.results143, go_sem, c2]
end Go.Proofs.YtdfapehonegeeaaGreat

/-
  A log: what is told of it, on both sides.
-/
namespace Go.Proofs.YtdfapehonegeeaaGreat
open Go.RowKit
set_option linter.unusedSectionVars false
variable [DecidableEq Logg] [Inhabited Logg] [DecidableEq LoggR] [Inhabited LoggR] [DecidableEq BytesR] [Inhabited BytesR] [DecidableEq RecsR] [Inhabited RecsR] [DecidableEq Leg] [Inhabited Leg]
set_option linter.unusedSimpArgs false
attribute [local go_sem ↓] Go.wp_at_zero Go.wp_at_succ

def readD (d : Logg) : RecsR := if logF d = 0 then recsD (d.synced ++ d.loose) else ⟨2, 0, []⟩
theorem logF_cases (d : Logg) : (logF d = 0 ∧ d.synced.length + d.loose.length ≤ 6000) ∨ logF d = 2 := by
  unfold logF
  split
  · exact .inr rfl
  · exact .inl ⟨rfl, by omega⟩
set_option maxHeartbeats 2000000 in
theorem implRead_u (x : Value) (d : Logg) (w : World) (hx : loggR.V w x d) (hn : wtLogg d ≤ 1048576) :
    Calls Tryz.prog 150 #[x] w fun e w' => ∃ v F, e = .returned v ∧ recsRR.O w' w.heap.size F v (readD d) ∧ Below w.heap.size w w' := by
  have hX := hx
  obtain ⟨a1, a2, c1, c2, rfl⟩ := logg_form hx
  go_enter Tryz.func150, Tryz.ntmps150
  go_wp2_with fail
  refine (implLogF_any _ d _ (loggR.below hX (by (repeat (first | exact Below.refl _ _ | assumption | refine Below.drew ?_ | refine balloc ?_ _ | refine bset ?_ (by simp; omega) _ | refine bset ?_ (by simp) _ | refine bstep ?_ (by assumption))))) hn).mono ?_
  rintro e w1 ⟨rfl, hb1⟩
  have x0 : w1.cell? ⟨w.heap.size, 0, none⟩ = some (.slice a1 d.synced.length c1) := cell_keep hb1 (by simp [go_sem])
  have x1 : w1.cell? ⟨w.heap.size, 1, none⟩ = some (.slice a2 d.loose.length c2) := cell_keep hb1 (by simp [go_sem])
  have r0 : w1.cell? ⟨w.heap.size + 1, 0, none⟩ = some (.int .i64 0) := cell_keep hb1 (by simp [go_sem])
  have r1 : w1.cell? ⟨w.heap.size + 1, 1, none⟩ = some (.int .i64 0) := cell_keep hb1 (by simp [go_sem])
  have r2 : w1.cell? ⟨w.heap.size + 1, 2, none⟩ = some (.slice none 0 0) := cell_keep hb1 (by simp [go_sem])
  have rf : ∀ o, w1.frozen? ⟨w.heap.size + 1, o, none⟩ = false := fun o => by rw [(bcell hb1).2 _ _ (by simp)]; simp [go_sem]
  have s1 := hb1.size
  simp only [World.size_alloc] at s1
  have hB1 : Below w.heap.size w w1 := by (repeat (first | exact Below.refl _ _ | assumption | refine Below.drew ?_ | refine balloc ?_ _ | refine bset ?_ (by simp; omega) _ | refine bset ?_ (by simp) _ | refine bstep ?_ (by assumption)))
  clear hb1
  have z0 : w.heap.size < w1.heap.size := by omega
  have z1 : w.heap.size + 1 < w1.heap.size := by omega
  rcases logF_cases d with ⟨h0, hl⟩ | h0
  rotate_left
  · have HD : Hid (readD d = ⟨2, 0, []⟩) := by unfold Hid readD; rw [if_neg (by omega)]
    rw [h0]
    go_wp2
    refine bodyPost_ret (v := .agg #[.int .i64 2, .int .i64 0, .slice none 0 0]) ?_ rfl ?_
    · simp [results, Tryz.results150, go_sem, r0, r1, r2]
    · rw [HD.out]
      exact ⟨_, none_, rfl, recsR_nil _ _ _ _, by (repeat (first | exact Below.refl _ _ | assumption | refine Below.drew ?_ | refine balloc ?_ _ | refine bset ?_ (by simp; omega) _ | refine bset ?_ (by simp) _ | refine bstep ?_ (by assumption)))⟩
  rw [h0]
  have hXw := loggR.below hX hB1
  clear hX hx
  have HD : Hid (readD d = recsD (d.synced ++ d.loose)) := by unfold Hid readD; rw [if_pos h0]
  go_wp2_with fail
  refine (readerOf_any _ d _ hXw hn).mono ?_
  rintro e w2 ⟨v, F, rfl, ho, hb⟩
  have hB2 : Below w.heap.size w w2 := bstep hB1 hb
  have V3 := bytesR.ofO ho
  generalize d.synced ++ d.loose = bs at *
  obtain ⟨a3, c3, rfl⟩ := bytes_form V3
  have hfd : ∀ w : World, (Instr.field 164 (.agg #[.slice a3 bs.length c3, .int .i64 (d.synced.length : Int)]) 0).run Tryz.prog w = .ok (.slice a3 bs.length c3) w := fun _ => by kernel_rfl
  have qx0 := cell_keep hb x0
  have qx1 := cell_keep hb x1
  have qr0 := cell_keep hb r0
  have qr1 := cell_keep hb r1
  have qr2 := cell_keep hb r2
  have qrf := (boxKeep ⟨rf, z1⟩ hb).1
  have qz0 := Nat.lt_of_lt_of_le z0 hb.size
  have qz1 := Nat.lt_of_lt_of_le z1 hb.size
  clear x0 x1 r0 r1 r2 rf z0 z1
  clear ho hb hB1 hXw
  go_wp2_with fail
  refine (records_any _ bs _ V3).mono ?_
  rintro e w4 ⟨v, F4, rfl, ho, hb⟩
  have hB3 : Below w.heap.size w w4 := bstep hB2 hb
  have fv := recsRR.ofO ho
  obtain ⟨a5, c5, rfl⟩ := recsR_form fv
  have hz3 : w.heap.size + 2 ≤ w2.heap.size := qz1
  have px0 := cell_keep hb qx0
  have px1 := cell_keep hb qx1
  have pr0 := cell_keep hb qr0
  have pr1 := cell_keep hb qr1
  have pr2 := cell_keep hb qr2
  have prf := (boxKeep ⟨qrf, qz1⟩ hb).1
  have pz0 := Nat.lt_of_lt_of_le qz0 hb.size
  have pz1 := Nat.lt_of_lt_of_le qz1 hb.size
  clear qx0 qx1 qr0 qr1 qr2 qrf qz0 qz1
  have ho2 := recsRR.base (base' := w.heap.size + 2) ho hz3
  rw [← HD.out] at ho2 ⊢
  obtain ⟨D, hD⟩ : ∃ D, readD d = D := ⟨_, rfl⟩
  have ED : Hid (readD d = D) := hD
  rw [hD] at ho2 ⊢
  clear hD
  clear ho hb hB2 fv HD V3
  go_wp2
  refine bodyPost_ret (v := .agg #[.int .i64 D.code, .int .i64 D.used, .slice a5 D.records.length c5]) ?_ rfl ⟨_, F4, rfl, ?_, by (repeat (first | exact Below.refl _ _ | assumption | refine Below.drew ?_ | refine balloc ?_ _ | refine bset ?_ (by simp; omega) _ | refine bset ?_ (by simp) _ | refine bstep ?_ (by assumption)))⟩
  · simp [results, Tryz.results150, go_sem, pr0, pr1, pr2]
  · rw [ED.out]
    exact recsRR.base (base := w.heap.size + 2) (recsRR.set (recsRR.set (recsRR.set ho2 _ (by simp)) _ (by simp)) _ (by simp)) (by omega)
end Go.Proofs.YtdfapehonegeeaaGreat

/-
  The rows of a log's records: the specification's side.
-/
namespace Go.Proofs.YtdfapehonegeeaaGreat
open Go.RowKit
set_option linter.unusedSectionVars false
variable [DecidableEq Wri] [Inhabited Wri] [DecidableEq BytesR] [Inhabited BytesR] [DecidableEq Rw] [Inhabited Rw] [DecidableEq TabR] [Inhabited TabR] [DecidableEq Logg] [Inhabited Logg] [DecidableEq Engn] [Inhabited Engn] [DecidableEq LoggR] [Inhabited LoggR] [DecidableEq RecsR] [Inhabited RecsR] [DecidableEq Leg] [Inhabited Leg]
set_option linter.unusedVariables false
set_option linter.unusedSimpArgs false
attribute [local go_sem ↓] Go.wp_at_zero Go.wp_at_succ

theorem uwP_cases {d : List Byte} {base : Nat} {w' : World} {e : Ending} (h : UwP d base w' e) :
    ((unwD d).code ≠ 0 ∧ ∃ ver a n c, e = .returned (.tuple #[.int .i64 ver, .slice a n c, .bool false])) ∨
    ((unwD d).code = 0 ∧ ∃ (ws : List Wri) (a : Option Addr) (c : Nat), e = .returned (.tuple #[.int .i64 (unwV d), .slice a ws.length c, .bool true]) ∧ w'.ownsRow base 96 3 (.slice a ws.length c) ws.length (wrisC ws) ∧ ws.length ≤ 8 ∧ (unwD d).rows = ws.map (wrRow (unwV d))) := by
  by_cases h8 : d.length < 8
  · rw [uwP_short h8] at h
    refine .inl ⟨by rw [unwD_short h8]; decide, 0, none, 0, 0, h⟩
  · have H8 : 8 ≤ d.length := by omega
    cases hW : writesL (d.drop 8) with
    | none =>
      rw [uwP_none H8 hW] at h
      exact .inl ⟨by rw [unwD_none H8 hW]; decide, 0, none, 0, 0, h⟩
    | some ws =>
      rw [uwP_some H8 hW] at h
      obtain ⟨v, rfl, ho⟩ := h
      obtain ⟨av, cv, rfl⟩ := owns_form ho
      by_cases hc : (packWD (unwV d) ws).code = 0
      · rw [decide_eq_true hc]
        have hg := (code_packWD _ _).1 hc
        have hd := unwD_good H8 hW hg
        refine .inr ⟨by rw [hd], ws, av, cv, rfl, ho, (wrF_inv hg.2).2.1, by rw [hd]⟩
      · rw [decide_eq_false hc]
        refine .inl ⟨by rw [unwD_bad H8 hW (fun c => hc ((code_packWD _ _).2 c))]; decide, _, _, _, _, rfl⟩
theorem logField0 (a : Option Addr) (n c : Nat) (b : Option Addr) (m k : Nat) (w : World) : (Instr.field 31 (.agg #[.slice a n c, .slice b m k]) 0).run Tryz.prog w = .ok (.slice a n c) w := by kernel_rfl
def RepP (d : Logg) (next : Int) (base : Nat) (w' : World) (e : Ending) : Prop :=
  match replayL d next with
  | none => e = .returned (.tuple #[.slice none 0 0, .bool false])
  | some out => ∃ v, e = .returned (.tuple #[v, .bool true]) ∧ OutS w' base v out
theorem repP_none {d : Logg} {next : Int} {base : Nat} {w' : World} {e : Ending} (h : replayL d next = none) : RepP d next base w' e = (e = .returned (.tuple #[.slice none 0 0, .bool false])) := by unfold RepP; rw [h]
theorem repP_some {d : Logg} {next : Int} {base : Nat} {w' : World} {e : Ending} {out : List Rw} (h : replayL d next = some out) : RepP d next base w' e = (∃ v, e = .returned (.tuple #[v, .bool true]) ∧ OutS w' base v out) := by unfold RepP; rw [h]
theorem logF_small {d : Logg} (h : logF d = 0) : d.synced.length + d.loose.length ≤ 6000 := by
  rcases logF_cases d with h1 | h1
  · exact h1.2
  · rw [h] at h1; cases h1
theorem rec_small {xs : List Byte} {n i : Nat} (h : xs.length ≤ n) (hi : i < (recL xs).length) : ((recL xs).getD i default).length ≤ n := by
  have h1 := recL_wt xs
  have h2 := cntTo_getD List.length hi
  omega
set_option maxRecDepth 20000 in
set_option maxHeartbeats 8000000 in
theorem l6Replay_any (x : Value) (d : Logg) (next : Int) (w : World) (hx : loggR.V w x d) (hn : logF d = 0) :
    Calls Tryz.prog 46 #[x, .int .i64 next] w fun e w' => RepP d next w.heap.size w' e ∧ Below w.heap.size w w' := by
  have hX := hx
  obtain ⟨a1, a2, c1, c2, rfl⟩ := logg_form hx
  have hlen := logF_small hn
  have hul := recU_le (d.synced ++ d.loose)
  have hrl := recL_len (d.synced ++ d.loose)
  rw [List.length_append] at hul
  have HBY : Hid (recU (d.synced ++ d.loose) < d.synced.length + d.loose.length → replayL d next = none) := fun h => replayL_bytes (by omega)
  have HRE : Hid (¬ recU (d.synced ++ d.loose) < d.synced.length + d.loose.length → replayL d next = replayF next (recL (d.synced ++ d.loose)) 0 []) := fun h => replayL_recs (by omega)
  have HSM : Hid (∀ i, i < (recL (d.synced ++ d.loose)).length → ((recL (d.synced ++ d.loose)).getD i default).length ≤ 6000) := fun i hi => rec_small (by rw [List.length_append]; exact hlen) hi
  clear hx hn
  go_enter Tryz.func46, Tryz.ntmps46
  go_wp2_with fail
  refine (l4Sync_any _ d _ (loggR.below hX (by (repeat (first | exact Below.refl _ _ | assumption | refine Below.drew ?_ | refine balloc ?_ _ | refine bset ?_ (by simp; omega) _ | refine bset ?_ (by simp) _ | refine bstep ?_ (by assumption))))) (by unfold wtLogg wtBytes; omega)).mono ?_
  rintro e w1 ⟨v1, F1, rfl, o1, b1⟩
  obtain ⟨u1, u2, rfl, y1, y2⟩ := loggR.ofO o1
  dsimp only at y1 y2
  obtain ⟨x1, n1, rfl⟩ := bytes_form y1
  obtain ⟨x2, n2, rfl⟩ := bytes_form y2
  have r0 : w1.cell? ⟨w.heap.size, 0, none⟩ = some (.slice a1 d.synced.length c1) := cell_keep b1 (by simp [go_sem])
  have r1 : w1.cell? ⟨w.heap.size, 1, none⟩ = some (.slice a2 d.loose.length c2) := cell_keep b1 (by simp [go_sem])
  have hB1 : Below w.heap.size w w1 := by (repeat (first | exact Below.refl _ _ | assumption | refine Below.drew ?_ | refine balloc ?_ _ | refine bset ?_ (by simp; omega) _ | refine bset ?_ (by simp) _ | refine bstep ?_ (by assumption)))
  clear hX b1 y2 o1
  have hbl6 : (d.synced ++ d.loose).length ≤ 6000 := by rw [List.length_append]; exact hlen
  obtain ⟨bs, hbs⟩ : ∃ bs, bs = d.synced ++ d.loose := ⟨_, rfl⟩
  rw [← hbs] at y1 hbl6 HBY HRE HSM hul hrl ⊢
  clear hbs
  generalize d.synced.length = ls at *
  generalize d.loose.length = ll at *
  have HY : Hid (BytesV w1 (.slice x1 bs.length n1) bs) := y1
  have HC : Hid (∀ W, Below w1.heap.size w1 W → Calls Tryz.prog 103 #[.slice x1 bs.length n1] W fun e w' => ∃ v F, e = .returned (.tuple #[v, .int .i64 (recU bs)]) ∧ bytessR.O w' W.heap.size F v (recL bs) ∧ Below W.heap.size W w') := fun W hW => l3Records_any _ bs W (bytesR.below HY.out hW) hbl6
  clear y1 HY hbl6
  generalize bs.length = lb at *
  have hfd := logField0 x1 lb n1 x2 0 n2 w1
  go_wp2_with fail
  refine (HC.out _ (by (repeat (first | exact Below.refl _ _ | assumption | refine Below.drew ?_ | refine balloc ?_ _ | refine bset ?_ (by simp; omega) _ | refine bset ?_ (by simp) _ | refine bstep ?_ (by assumption))))).mono ?_
  rintro e w2 ⟨v2, F2, rfl, o2, b2⟩
  have hrec := bytessR.ofO o2
  obtain ⟨a3, c3, rfl, hc3, hm3, hrec⟩ := hrec
  replace r0 := cell_keep b2 (cell_keep (by (repeat (first | exact Below.refl _ _ | assumption | refine Below.drew ?_ | refine balloc ?_ _ | refine bset ?_ (by simp; omega) _ | refine bset ?_ (by simp) _ | refine bstep ?_ (by assumption)))) r0)
  replace r1 := cell_keep b2 (cell_keep (by (repeat (first | exact Below.refl _ _ | assumption | refine Below.drew ?_ | refine balloc ?_ _ | refine bset ?_ (by simp; omega) _ | refine bset ?_ (by simp) _ | refine bstep ?_ (by assumption)))) r1)
  have hB2 : Below w.heap.size w w2 := by (repeat (first | exact Below.refl _ _ | assumption | refine Below.drew ?_ | refine balloc ?_ _ | refine bset ?_ (by simp; omega) _ | refine bset ?_ (by simp) _ | refine bstep ?_ (by assumption)))
  clear o2 b2 HC hB1
  unfold maxLen at hm3
  generalize recU bs = ru at *
  generalize recL bs = recs at *
  by_cases hu : ru < ls + ll
  · have HN : Hid (replayL d next = none) := HBY.out hu
    have hu2 : (ru : Int) < (ls : Int) + (ll : Int) := by omega
    clear HBY HRE HSM hrec hu
    generalize recs.length = n at *
    go_wp2
    refine bodyPost_ret (v := .tuple #[.slice none 0 0, .bool false]) (by simp [results, Tryz.results46, go_sem]) rfl ⟨?_, by (repeat (first | exact Below.refl _ _ | assumption | refine Below.drew ?_ | refine balloc ?_ _ | refine bset ?_ (by simp; omega) _ | refine bset ?_ (by simp) _ | refine bstep ?_ (by assumption)))⟩
    rw [repP_none HN.out]
  have HRP : Hid (replayL d next = replayF next recs 0 []) := HRE.out hu
  have hu2 : ¬ (ru : Int) < (ls : Int) + (ll : Int) := by omega
  clear HBY HRE hu
  have HBAD : Hid (∀ k last out, RepSo next recs k last out → k < recs.length → ((unwD (recs.getD k default)).code ≠ 0 ∨ unwV (recs.getD k default) ≤ last ∨ next ≤ unwV (recs.getD k default)) → replayL d next = none) := fun k last out h1 h2 h3 => by rw [HRP.out]; exact repSo_bad h1 h2 h3
  have HEND : Hid (∀ last out, RepSo next recs recs.length last out → replayL d next = some out) := fun last out h => by rw [HRP.out]; exact repSo_end h
  have hn6 : recs.length ≤ 6000 := by omega
  clear HRP hrl hul
  generalize hN : recs.length = n at *
  have HNN : Hid (recs.length = n) := hN
  clear hN
  go_wp2
  go_loopw [8, 9, 10] (fun o la i W => ∃ (k : Nat) (last : Int), k ≤ n ∧ i = .int .i64 k ∧ la = .int .i64 last ∧ Hid (RepSo next recs k last (putsL [] (flatTo (rowsOf recs) k))) ∧ Hid (OutS W w.heap.size o (putsL [] (flatTo (rowsOf recs) k))) ∧ Below w2.heap.size w2 W) (fun _ _ i _ => n - (intOf i).toNat)
  case atStart =>
    refine ⟨0, 0, Nat.zero_le _, rfl, rfl, repSo_start _ _, ⟨⟨w2.heap.size, 0, rfl⟩, ?_⟩, by (repeat (first | exact Below.refl _ _ | assumption | refine Below.drew ?_ | refine balloc ?_ _ | refine bset ?_ (by simp; omega) _ | refine bset ?_ (by simp) _ | refine bstep ?_ (by assumption)))⟩
    exact World.ownsRow_lit (base := w.heap.size) (e := 76) (size := 4) _ #[] 0 hB2.size (by unfold maxLen; omega) rfl
  case round =>
    obtain ⟨k, last, hk, rfl, rfl, HR, HO, hbl⟩ := hrel
    have hi4 : (0 : Int) ≤ k := by omega
    by_cases hlt : k < n
    · obtain ⟨b, o, u, rfl, _, hc, hu⟩ := hrec k hlt
      have g0 : w2.cell? ⟨b, o + k, none⟩ = some u := cells1 hc
      have g1 := cell_keep hbl g0
      have hsm := HSM.out k hlt
      have hbad := HBAD.out k last _ HR.out hlt
      have hstep := repF_step (last := last) HR.out (by rw [HNN.out]; exact hlt)
      obtain ⟨r, hr⟩ : ∃ r, r = recs.getD k default := ⟨_, rfl⟩
      have hrr : rowsOf recs k = (unwD r).rows := by rw [hr]; rfl
      rw [← hr] at hu hsm hbad hstep
      have HBD : Hid (((unwD r).code ≠ 0 ∨ unwV r ≤ last ∨ next ≤ unwV r) → replayL d next = none) := hbad
      have HST : Hid ((unwD r).code = 0 → last < unwV r → unwV r < next → RepSo next recs (k + 1) (unwV r) (putsL [] (flatTo (rowsOf recs) (k + 1)))) := hstep
      have HRR : Hid (rowsOf recs k = (unwD r).rows) := hrr
      have HU : Hid (BytesV wr u r) := bytesR.below hu hbl
      obtain ⟨au, cu, rfl⟩ := bytes_form hu
      have hC := l6Unpack_any (.slice au r.length cu) r wr HU.out (by omega)
      have hi5 : (k : Int) < n := by omega
      clear hc g0 hr hbad hstep hrr hu hrec HU HSM HBAD
      generalize r.length = lr at *
      go_wp2_with fail
      refine hC.mono ?_
      rintro e W1 ⟨hw, hb1⟩
      have hB3 := bstep hbl hb1
      rcases uwP_cases hw with ⟨hcode, ver, av, nv, cv, rfl⟩ | ⟨hcode, ws, av, cv, rfl, ho, hw8, hrows⟩
      · have HN : Hid (replayL d next = none) := HBD.out (.inl hcode)
        clear hcode hw hC HST HBD HRR HEND
        go_wp2
        refine bodyPost_ret (v := .tuple #[.slice none 0 0, .bool false]) (by simp [results, Tryz.results46, go_sem]) rfl ⟨?_, bstep hB2 hB3⟩
        rw [repP_none HN.out]
      · have HRW : Hid (rowsOf recs k = ws.map (wrRow (unwV r))) := by rw [Hid, HRR.out, hrows]
        have HCD : Hid ((unwD r).code = 0) := hcode
        have hB := bstep hB2 hB3
        clear hw hC HRR hrows hcode
        generalize unwV r = ver at *
        by_cases h1 : ver ≤ last
        · have HN : Hid (replayL d next = none) := HBD.out (.inr (.inl h1))
          clear HST HBD HEND HRW ho
          generalize ws.length = lw at *
          go_wp2
          refine bodyPost_ret (v := .tuple #[.slice none 0 0, .bool false]) (by simp [results, Tryz.results46, go_sem]) rfl ⟨?_, hB⟩
          rw [repP_none HN.out]
        by_cases h2 : next ≤ ver
        · have HN : Hid (replayL d next = none) := HBD.out (.inr (.inr h2))
          clear HST HBD HEND HRW ho
          generalize ws.length = lw at *
          go_wp2
          refine bodyPost_ret (v := .tuple #[.slice none 0 0, .bool false]) (by simp [results, Tryz.results46, go_sem]) rfl ⟨?_, hB⟩
          rw [repP_none HN.out]
        have HRN : Hid (RepSo next recs (k + 1) ver (putsL [] (flatTo (rowsOf recs) (k + 1)))) := HST.out HCD.out (by omega) (by omega)
        have hC := l6Rows_any ver (.slice av ws.length cv) ws W1 (WrisV_of_owns ho) (by omega)
        clear HST HBD HCD ho
        generalize hlw : ws.length = lw at *
        have HLW : Hid (ws.length = lw) := hlw
        clear hlw
        go_wp2_with fail
        refine hC.mono ?_
        rintro e W2 ⟨rv, rfl, oR, hb2⟩
        have hB4 := bstep hB3 hb2
        have hFL : (flatTo (rowsOf recs) (k + 1)) = flatTo (rowsOf recs) k ++ ws.map (wrRow ver) := by
          show flatTo (rowsOf recs) k ++ rowsOf recs k = _
          rw [HRW.out]
        have HFL : Hid ((flatTo (rowsOf recs) (k + 1)) = flatTo (rowsOf recs) k ++ ws.map (wrRow ver)) := hFL
        have HO2 : Hid (OutS W2 w.heap.size u8 (putsL [] (flatTo (rowsOf recs) k))) := (HO.out.below hb1).below hb2
        have hln : (ws.map (wrRow ver)).length = lw := by rw [List.length_map]; exact HLW.out
        have HS : Hid (∀ j, (putsL [] (flatTo (rowsOf recs) k ++ (ws.map (wrRow ver)).take j)).length ≤ 1048000) := fun j => by
          have q1 := (length_putsL (flatTo (rowsOf recs) k ++ (ws.map (wrRow ver)).take j) []).2
          have q2 := flat_rows recs k
          simp only [List.length_nil, List.length_append, Nat.zero_add, List.length_take] at q1
          omega
        clear hC hFL HRW HLW hb1 hb2 HO
        generalize ws.map (wrRow ver) = l at *
        rw [← hln] at oR
        have hRV := RowsV_of_owns oR
        obtain ⟨ar, cr, rfl, hcr, hmr, hrow⟩ := hRV
        unfold maxLen at hmr
        rw [hln] at hcr hrow ⊢
        have HM : Hid (l.length = lw) := hln
        clear oR hln
        have hBB : Below w.heap.size w W2 := bstep hB2 hB4
        go_wp2
        go_loopw [8, 15] (fun o j W => ∃ q : Nat, q ≤ lw ∧ j = .int .i64 q ∧ Hid (OutS W w.heap.size o (putsL [] (flatTo (rowsOf recs) k ++ l.take q))) ∧ Below W2.heap.size W2 W) (fun _ j _ => lw - (intOf j).toNat)
        case atStart =>
          refine ⟨0, Nat.zero_le _, rfl, ?_, Below.refl _ _⟩
          rw [List.take_zero, List.append_nil]
          exact HO2
        case round =>
          obtain ⟨q, hq, rfl, HO3, hbl2⟩ := hrel
          have hj4 : (0 : Int) ≤ q := by omega
          by_cases hql : q < lw
          · obtain ⟨b', o', rfl, hcq⟩ := hrow q hql
            obtain ⟨c0, c1', c2', c3'⟩ := rowCells_below hbl2 hcq
            have hj5 : (q : Int) < lw := by omega
            have HP : Hid (putsL [] (flatTo (rowsOf recs) k ++ l.take (q + 1)) = putL (putsL [] (flatTo (rowsOf recs) k ++ l.take q)) (l.getD q default)) := by
              rw [Hid, ← take_snoc l (by rw [HM.out]; exact hql), ← List.append_assoc, putsL_snoc]
            have hsz := HS.out q
            have hbs := (bstep hBB hbl2).size
            obtain ⟨rr, hrr⟩ : ∃ rr, l.getD q default = rr := ⟨_, rfl⟩
            rw [hrr] at c0 c1' c2' c3' HP
            clear hrr
            have hO3 := HO3.out
            obtain ⟨⟨g, c, rfl⟩, _⟩ := hO3
            obtain ⟨ys, hys⟩ : ∃ ys, putsL [] (flatTo (rowsOf recs) k ++ l.take q) = ys := ⟨_, rfl⟩
            rw [hys] at HO3 HP hsz ⊢
            clear hys
            obtain ⟨N1, hN1⟩ : ∃ N1, ys.length = N1 := ⟨_, rfl⟩
            have hC := l5Put_L (.slice (some ⟨g, 0, none⟩) ys.length c) ys rr w.heap.size wr HO3.out hbs (by omega)
            rw [hN1] at hC ⊢
            clear hN1 hcq hrow
            unfold rowV at hC
            go_wp2_with fail
            refine hC.mono ?_
            rintro e w4 ⟨v4, rfl, HO4, hb4⟩
            have hO4 := HO4.1
            obtain ⟨g4, c4, rfl⟩ := hO4
            have HO5 : Hid (OutS w4 w.heap.size (.slice (some ⟨g4, 0, none⟩) (putL ys rr).length c4) (putL ys rr)) := HO4
            clear HO4
            obtain ⟨N4, hN4⟩ : ∃ N4, (putL ys rr).length = N4 := ⟨_, rfl⟩
            rw [hN4] at HO5 ⊢
            clear hN4 hC
            go_wp2
            refine ⟨⟨q + 1, by omega, by go_num, ?_, bstep hbl2 hb4⟩, by simp [intOf]; omega⟩
            rw [HP.out]
            exact HO5
          · obtain rfl : q = lw := by omega
            have hj5 : ¬ ((q : Int) < q) := by omega
            have HE : Hid (OutS wr w.heap.size u8 (putsL [] (flatTo (rowsOf recs) (k + 1)))) := by
              have h5 := HO3.out
              rw [List.take_of_length_le (by rw [HM.out]; exact Nat.le_refl _)] at h5
              rw [Hid, HFL.out]
              exact h5
            clear hrow HS
            go_wp2
            exact ⟨⟨k + 1, ver, by omega, by go_num, rfl, HRN, HE, bstep hB4 hbl2⟩, by simp [intOf]; omega⟩
    · obtain rfl : k = n := by omega
      have hi5 : ¬ ((k : Int) < k) := by omega
      have h1 := HO.out.1
      have HN : Hid (replayL d next = some (putsL [] (flatTo (rowsOf recs) k))) := HEND.out last _ HR.out
      obtain ⟨g, c, rfl⟩ := h1
      clear HEND HBAD HSM hrec
      obtain ⟨N4, hN4⟩ : ∃ N4, (putsL [] (flatTo (rowsOf recs) k)).length = N4 := ⟨_, rfl⟩
      rw [hN4] at HO ⊢
      clear hN4
      go_wp2
      refine bodyPost_ret (v := .tuple #[.slice (some ⟨g, 0, none⟩) N4 c, .bool true]) (by simp [results, Tryz.results46, go_sem]) rfl ⟨?_, bstep hB2 hbl⟩
      rw [repP_some HN.out]
      exact ⟨_, rfl, HO.out⟩
end Go.Proofs.YtdfapehonegeeaaGreat


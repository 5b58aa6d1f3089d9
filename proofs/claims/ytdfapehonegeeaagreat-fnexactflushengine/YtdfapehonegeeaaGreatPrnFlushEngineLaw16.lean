import Derived.Test.YtdfapehonegeeaaGreatPrnFlushEngineLaw15
import Derived.Test.YtdfapehonegeeaaGreatPrnFlushEngineLaw8
import Derived.Test.YtdfapehonegeeaaGreatPrnFlushEngineLaw2
import Derived.Test.YtdfapehonegeeaaGreatPrnFlushEngineLaw3

/-
  A text among bytes: the program's textIn.
-/
namespace Go.Proofs.YtdfapehonegeeaaGreat
open Go.RowKit
set_option linter.unusedSectionVars false
variable [DecidableEq Wri] [Inhabited Wri] [DecidableEq BytesR] [Inhabited BytesR] [DecidableEq Rw] [Inhabited Rw] [DecidableEq TabR] [Inhabited TabR]
set_option linter.unusedVariables false
set_option linter.unusedSimpArgs false
attribute [local go_sem ↓] Go.wp_at_zero Go.wp_at_succ

def TxtP (d : List Byte) (x : Value) (e : Ending) : Prop :=
  match textL d with
  | none => e = .returned (.tuple #[.string ⟨#[]⟩, .slice none 0 0, .bool false])
  | some p => ∃ a c, e = .returned (.tuple #[.string p.1, .slice a p.2.length c, .bool true]) ∧ ∀ W, BytesV W x d → BytesV W (.slice a p.2.length c) p.2
theorem txtP_none {d : List Byte} {x : Value} {e : Ending} (h : textL d = none) : TxtP d x e = (e = .returned (.tuple #[.string ⟨#[]⟩, .slice none 0 0, .bool false])) := by unfold TxtP; rw [h]
theorem txtP_some {d : List Byte} {x : Value} {e : Ending} {s : ByteArray} {r : List Byte} (h : textL d = some (s, r)) : TxtP d x e = (∃ a c, e = .returned (.tuple #[.string s, .slice a r.length c, .bool true]) ∧ ∀ W, BytesV W x d → BytesV W (.slice a r.length c) r) := by unfold TxtP; rw [h]
set_option maxHeartbeats 2000000 in
theorem textIn_any (x : Value) (d : List Byte) (w : World) (hx : BytesV w x d) (hn : d.length ≤ 1048576) :
    Calls Tryz.prog 182 #[x] w fun e w' => TxtP d x e ∧ Below w.heap.size w w' := by
  have hX := hx
  obtain ⟨ax, cx, rfl, hcx, hmx, hx⟩ := hx
  unfold maxLen at hmx
  by_cases hlt : 0 < d.length
  · obtain ⟨b, o, rfl, g⟩ := hx 0 hlt
    have hT := textL_at hlt
    rw [List.drop_zero] at hT
    obtain ⟨m, hm⟩ : ∃ m, (d.getD 0 0).val = m := ⟨_, rfl⟩
    have hm6 : m < 256 := by rw [← hm]; exact (d.getD 0 0).isLt
    rw [hm] at g hT
    rw [Nat.add_zero] at g
    have v1 : IntKind.i64.wrap (m : Int) = m := by rw [IntKind.wrap_i64]; omega
    have v3 : IntKind.i64.wrap (1 + (m : Int)) = 1 + m := by rw [IntKind.wrap_i64]; omega
    have i1 : ¬ (d.length : Int) = 0 := by omega
    have i2 : (0 : Int) < (d.length : Int) := by omega
    have i4 : ((d.length : Int) == 0) = false := by simpa using i1
    clear hx
    by_cases hh : m + (0 + 1) ≤ d.length
    · rw [if_pos hh] at hT
      obtain ⟨a2, c2, run2, V2⟩ := cutB (a := some ⟨b, o, none⟩) (n := d.length) (cap := cx) 1 (1 + m) (by omega) (by omega) (by omega) hcx
      obtain ⟨a3, c3, run3, V3⟩ := cutL (a := some ⟨b, o, none⟩) (n := d.length) (cap := cx) (1 + m) (by omega) (by omega) hcx
      have e1 : ((1 : Int)).toNat = 1 := rfl
      have e2 : (1 + (m : Int) - 1).toNat = m := by omega
      have e3 : (1 + (m : Int)).toNat = 1 + m := by omega
      have hcv : ∀ W, Below w.heap.size w W → (convert 22 9 (.slice a2 m c2)).run Tryz.prog W = .ok (.string (bstr ((d.drop 1).take m))) W := fun W hW => by
        have V := V2 W d rfl (BytesV_below hX hW)
        rw [e1, e2] at V
        exact conv_bytes V
      have V : ∀ W, BytesV W (.slice (some ⟨b, o, none⟩) d.length cx) d → BytesV W (.slice a3 (d.length - (1 + m)) c3) (d.drop (1 + m)) := fun W hW => by
        have V := V3 W d rfl hW
        rw [e3] at V
        exact V
      rw [e3] at run3
      rw [e2] at run2
      have HT : Hid (textL d = some (bstr ((d.drop 1).take m), d.drop (1 + m))) := by
        rw [Hid, hT, show (0 + 1 + m) = 1 + m by omega]
      have i3 : ¬ (d.length : Int) < 1 + m := by omega
      have hl3 : (d.drop (1 + m)).length = d.length - (1 + m) := List.length_drop
      have HL3 : Hid ((d.drop (1 + m)).length = d.length - (1 + m)) := hl3
      rw [← hl3] at V run3
      have HV : Hid (∀ W, BytesV W (.slice (some ⟨b, o, none⟩) d.length cx) d → BytesV W (.slice a3 (d.drop (1 + m)).length c3) (d.drop (1 + m))) := V
      clear V
      clear V2 V3 e1 e2 e3 hT hX hl3
      generalize bstr ((d.drop 1).take m) = S at *
      obtain ⟨D, hD⟩ : ∃ D, d.drop (1 + m) = D := ⟨_, rfl⟩
      rw [hD] at run3 HT HL3 HV
      clear hD
      generalize hn' : d.length = n at *
      have HX2 : Hid (d.length = n) := hn'
      clear hn'
      go_enter Tryz.func182, Tryz.ntmps182
      go_wp2
      refine wp_region_noPanic ?_
      refine region_upto (fun W => Below w.heap.size w W) 9 (by kernel_rfl) (Below.drew (Below.refl _ _)) (fun hS => ?_)
      refine upto_take (i := 0) (v := ?_) rfl (by kernel_rfl) (by kernel_rfl) (by kernel_rfl) (by kernel_rfl) (fun _ _ _ h => h) (by rfl) hS ?_ ?_
      rotate_left
      · intro wS hSw
        try dsimp only at hSw
        first | (go_simp; done) | (go_simp; with_reducible rfl)
      try simp only [Act.put, List.getElem_toArray, List.getElem_cons_zero, List.getElem_cons_succ, List.setIfInBounds_toArray, List.set_cons_zero, List.set_cons_succ]
      refine upto_take (i := 1) (v := ?_) rfl (by kernel_rfl) (by kernel_rfl) (by kernel_rfl) (by kernel_rfl) (fun _ _ _ h => h) (by rfl) hS ?_ ?_
      rotate_left
      · intro wS hSw
        try dsimp only at hSw
        first | (go_simp; done) | (go_simp; with_reducible rfl)
      try simp only [Act.put, List.getElem_toArray, List.getElem_cons_zero, List.getElem_cons_succ, List.setIfInBounds_toArray, List.set_cons_zero, List.set_cons_succ]
      refine upto_take (i := 2) (v := ?_) rfl (by kernel_rfl) (by kernel_rfl) (by kernel_rfl) (by kernel_rfl) (fun _ _ _ h => h) (by rfl) hS ?_ ?_
      rotate_left
      · intro wS hSw
        try dsimp only at hSw
        first | (go_simp; done) | (go_simp; with_reducible rfl)
      try simp only [Act.put, List.getElem_toArray, List.getElem_cons_zero, List.getElem_cons_succ, List.setIfInBounds_toArray, List.set_cons_zero, List.set_cons_succ]
      refine upto_take (i := 3) (v := ?_) rfl (by kernel_rfl) (by kernel_rfl) (by kernel_rfl) (by kernel_rfl) (fun _ _ _ h => h) (by rfl) hS ?_ ?_
      rotate_left
      · intro wS hSw
        try dsimp only at hSw
        first | (go_simp; done) | (go_simp; with_reducible rfl)
      try simp only [Act.put, List.getElem_toArray, List.getElem_cons_zero, List.getElem_cons_succ, List.setIfInBounds_toArray, List.set_cons_zero, List.set_cons_succ]
      refine upto_take (i := 4) (v := ?_) rfl (by kernel_rfl) (by kernel_rfl) (by kernel_rfl) (by kernel_rfl) (fun _ _ _ h => h) (by rfl) hS ?_ ?_
      rotate_left
      · intro wS hSw
        try dsimp only at hSw
        first | (go_simp; done) | (go_simp; with_reducible rfl)
      try simp only [Act.put, List.getElem_toArray, List.getElem_cons_zero, List.getElem_cons_succ, List.setIfInBounds_toArray, List.set_cons_zero, List.set_cons_succ]
      refine upto_take (i := 5) (v := ?_) rfl (by kernel_rfl) (by kernel_rfl) (by kernel_rfl) (by kernel_rfl) (fun _ _ _ h => h) (by rfl) hS ?_ ?_
      rotate_left
      · intro wS hSw
        try dsimp only at hSw
        first | (go_simp; done) | (go_simp; with_reducible rfl)
      try simp only [Act.put, List.getElem_toArray, List.getElem_cons_zero, List.getElem_cons_succ, List.setIfInBounds_toArray, List.set_cons_zero, List.set_cons_succ]
      refine upto_take (i := 6) (v := ?_) rfl (by kernel_rfl) (by kernel_rfl) (by kernel_rfl) (by kernel_rfl) (fun _ _ _ h => h) (by rfl) hS ?_ ?_
      rotate_left
      · intro wS hSw
        try dsimp only at hSw
        first | (go_simp; done) | (go_simp; with_reducible rfl)
      try simp only [Act.put, List.getElem_toArray, List.getElem_cons_zero, List.getElem_cons_succ, List.setIfInBounds_toArray, List.set_cons_zero, List.set_cons_succ]
      refine upto_step (i := 7) (by kernel_rfl) rfl ?_
      intro K hK
      go_simp
      refine hK _ _ (fun _ => hS) ?_
      clear hK K
      try simp only [Act.put, List.getElem_toArray, List.getElem_cons_zero, List.getElem_cons_succ, List.setIfInBounds_toArray, List.set_cons_zero, List.set_cons_succ]
      refine upto_step (i := 8) (by kernel_rfl) rfl ?_
      intro K hK
      go_simp
      refine hK _ _ (fun _ => hS) ?_
      clear hK K
      try simp only [Act.put, List.getElem_toArray, List.getElem_cons_zero, List.getElem_cons_succ, List.setIfInBounds_toArray, List.set_cons_zero, List.set_cons_succ]
      refine upto_step (i := 9) (by kernel_rfl) rfl ?_
      intro K hK
      go_simp
      refine hK _ _ (fun h => absurd rfl h) ?_
      clear hK K
      refine upto_done (by kernel_rfl) ?_
      refine NoPanic.normal ?_
      go_wp2
      refine bodyPost_ret (v := .tuple #[.string S, .slice a3 D.length c3, .bool true]) (by simp [results, Tryz.results182, go_sem]) rfl ?_
      rw [txtP_some HT.out]
      exact ⟨⟨a3, c3, rfl, HV.out⟩, hS⟩
    · rw [if_neg hh] at hT
      have HT : Hid (textL d = none) := hT
      have i3 : (d.length : Int) < 1 + m := by omega
      clear hT hX
      generalize d.length = n at *
      go_enter Tryz.func182, Tryz.ntmps182
      go_wp2
      refine bodyPost_ret (v := .tuple #[.string ⟨#[]⟩, .slice none 0 0, .bool false]) (by simp [results, Tryz.results182, go_sem]) rfl ?_
      rw [txtP_none HT.out]
      exact ⟨rfl, Below.refl _ _⟩
  · have e : d = [] := List.eq_nil_of_length_eq_zero (by omega)
    subst e
    clear hX hx
    go_enter Tryz.func182, Tryz.ntmps182
    go_wp2
    refine bodyPost_ret (v := .tuple #[.string ⟨#[]⟩, .slice none 0 0, .bool false]) (by simp [results, Tryz.results182, go_sem]) rfl ?_
    rw [txtP_none rfl]
    exact ⟨rfl, Below.refl _ _⟩
end Go.Proofs.YtdfapehonegeeaaGreat

/-
  One write among bytes: the program's writeIn.
-/
namespace Go.Proofs.YtdfapehonegeeaaGreat
open Go.RowKit
set_option linter.unusedSectionVars false
variable [DecidableEq Wri] [Inhabited Wri] [DecidableEq BytesR] [Inhabited BytesR] [DecidableEq Rw] [Inhabited Rw] [DecidableEq TabR] [Inhabited TabR]
set_option linter.unusedVariables false
set_option linter.unusedSimpArgs false
attribute [local go_sem ↓] Go.wp_at_zero Go.wp_at_succ

theorem wl_cons {d : List Byte} (h : 0 < d.length) : d = d.getD 0 0 :: d.drop 1 := by
  have e := drop_cons (a := 0) h
  simpa using e
theorem wl_none1 {d : List Byte} (h : 0 < d.length) (ht : textL (d.drop 1) = none) : writeL d = none := by
  rw [wl_cons h]
  unfold writeL
  dsimp only
  rw [ht]
theorem wl_big {d r : List Byte} {k : ByteArray} (h : 0 < d.length) (ht : textL (d.drop 1) = some (k, r)) (hm : 1 < (d.getD 0 0).val) : writeL d = none := by
  rw [wl_cons h]
  unfold writeL
  dsimp only
  rw [ht]
  dsimp only
  rw [if_pos hm]
theorem wl_gone {d r : List Byte} {k : ByteArray} (h : 0 < d.length) (ht : textL (d.drop 1) = some (k, r)) (hm : (d.getD 0 0).val = 1) : writeL d = some (⟨k, ⟨#[]⟩, true⟩, r) := by
  rw [wl_cons h]
  unfold writeL
  dsimp only
  rw [ht]
  dsimp only
  rw [if_neg (by omega), if_pos hm]
theorem wl_none2 {d r : List Byte} {k : ByteArray} (h : 0 < d.length) (ht : textL (d.drop 1) = some (k, r)) (hm : (d.getD 0 0).val = 0) (h2 : textL r = none) : writeL d = none := by
  rw [wl_cons h]
  unfold writeL
  dsimp only
  rw [ht]
  dsimp only
  rw [if_neg (by omega), if_neg (by omega), h2]
theorem wl_val {d r r2 : List Byte} {k v : ByteArray} (h : 0 < d.length) (ht : textL (d.drop 1) = some (k, r)) (hm : (d.getD 0 0).val = 0) (h2 : textL r = some (v, r2)) : writeL d = some (⟨k, v, false⟩, r2) := by
  rw [wl_cons h]
  unfold writeL
  dsimp only
  rw [ht]
  dsimp only
  rw [if_neg (by omega), if_neg (by omega), h2]
def WrtP (d : List Byte) (x : Value) (e : Ending) : Prop :=
  match writeL d with
  | none => ∃ k v g a n c, e = .returned (.tuple #[.agg #[.string k, .string v, .bool g], .slice a n c, .bool false])
  | some p => ∃ a c, e = .returned (.tuple #[.agg #[.string p.1.key, .string p.1.val, .bool p.1.gone], .slice a p.2.length c, .bool true]) ∧ ∀ W, BytesV W x d → BytesV W (.slice a p.2.length c) p.2
theorem wrtP_none {d : List Byte} {x : Value} {e : Ending} (h : writeL d = none) : WrtP d x e = (∃ k v g a n c, e = .returned (.tuple #[.agg #[.string k, .string v, .bool g], .slice a n c, .bool false])) := by unfold WrtP; rw [h]
theorem wrtP_some {d : List Byte} {v : Value} {e : Ending} {x : Wri} {r : List Byte} (h : writeL d = some (x, r)) : WrtP d v e = (∃ a c, e = .returned (.tuple #[.agg #[.string x.key, .string x.val, .bool x.gone], .slice a r.length c, .bool true]) ∧ ∀ W, BytesV W v d → BytesV W (.slice a r.length c) r) := by unfold WrtP; rw [h]
set_option maxHeartbeats 4000000 in
theorem writeIn_any (x : Value) (d : List Byte) (w : World) (hx : BytesV w x d) (hn : d.length ≤ 1048576) (hlt : 0 < d.length) :
    Calls Tryz.prog 178 #[x] w fun e w' => WrtP d x e ∧ Below w.heap.size w w' := by
  have hX := hx
  obtain ⟨ax, cx, rfl, hcx, hmx, hx⟩ := hx
  unfold maxLen at hmx
  obtain ⟨b, o, rfl, g⟩ := hx 0 hlt
  obtain ⟨m, hm⟩ : ∃ m, (d.getD 0 0).val = m := ⟨_, rfl⟩
  have hm6 : m < 256 := by rw [← hm]; exact (d.getD 0 0).isLt
  have HM : Hid ((d.getD 0 0).val = m) := hm
  have HLT : Hid (d ≠ []) := fun e => by rw [e] at hlt; exact absurd hlt (Nat.lt_irrefl 0)
  rw [hm] at g
  rw [Nat.add_zero] at g
  clear hm hx
  have i2 : (0 : Int) < (d.length : Int) := by omega
  obtain ⟨a3, c3, run3, V3⟩ := cutL (a := some ⟨b, o, none⟩) (n := d.length) (cap := cx) 1 (by omega) (by omega) hcx
  have V := fun W hW => V3 W d rfl hW
  have hl3 : (d.drop 1).length = d.length - 1 := List.length_drop
  rw [show (1 : Int).toNat = 1 from rfl] at V run3
  rw [← hl3] at V run3
  have hn3 : (d.drop 1).length ≤ 1048576 := by omega
  have hgk : ∀ W, Below w.heap.size w W → W.cell? ⟨b, o, none⟩ = some (.int .u8 m) := fun W hW => cell_keep hW g
  have HV : Hid (∀ W, BytesV W (.slice (some ⟨b, o, none⟩) d.length cx) d → BytesV W (.slice a3 (d.drop 1).length c3) (d.drop 1)) := V
  have HX : Hid (BytesV w (.slice (some ⟨b, o, none⟩) d.length cx) d) := hX
  have HN : Hid ((d.drop 1).length ≤ 1048576) := hn3
  clear V3 V hX hl3 hn3
  obtain ⟨D, hD⟩ : ∃ D, d.drop 1 = D := ⟨_, rfl⟩
  have HD : Hid (d.drop 1 = D) := hD
  rw [hD] at run3 HV HN
  clear hD
  generalize d.length = n at *
  go_enter Tryz.func178, Tryz.ntmps178
  go_wp2
  have hb0 : Below w.heap.size w (w.alloc (.cells #[.string ⟨#[]⟩, .string ⟨#[]⟩, .bool false] 96)) := balloc (Below.refl _ _) _
  have k0 : (w.alloc (.cells #[.string ⟨#[]⟩, .string ⟨#[]⟩, .bool false] 96)).cell? ⟨w.heap.size, 0, none⟩ = some (.string ⟨#[]⟩) := by simp [go_sem]
  have k1 : (w.alloc (.cells #[.string ⟨#[]⟩, .string ⟨#[]⟩, .bool false] 96)).cell? ⟨w.heap.size, 1, none⟩ = some (.string ⟨#[]⟩) := by simp [go_sem]
  have k2 : (w.alloc (.cells #[.string ⟨#[]⟩, .string ⟨#[]⟩, .bool false] 96)).cell? ⟨w.heap.size, 2, none⟩ = some (.bool false) := by simp [go_sem]
  have kf : (∀ q, (w.alloc (.cells #[.string ⟨#[]⟩, .string ⟨#[]⟩, .bool false] 96)).frozen? ⟨w.heap.size, q, none⟩ = false) ∧ w.heap.size < (w.alloc (.cells #[.string ⟨#[]⟩, .string ⟨#[]⟩, .bool false] 96)).heap.size := ⟨fun q => by simp [go_sem], by simp⟩
  generalize w.alloc (.cells #[.string ⟨#[]⟩, .string ⟨#[]⟩, .bool false] 96) = W at *
  refine wp_region_noPanic ?_
  refine region_upto (fun W' => W'.cell? ⟨b, o, none⟩ = some (.int .u8 m)) 6 (by kernel_rfl) (hgk _ (Below.drew hb0)) (fun hS => ?_)
  refine upto_take (i := 0) (v := ?_) rfl (by kernel_rfl) (by kernel_rfl) (by kernel_rfl) (by kernel_rfl) (fun _ _ _ h => h) (by rfl) hS ?_ ?_
  rotate_left
  · intro wS hSw
    try dsimp only at hSw
    first | (go_simp; done) | (go_simp; with_reducible rfl)
  try simp only [Act.put, List.getElem_toArray, List.getElem_cons_zero, List.getElem_cons_succ, List.setIfInBounds_toArray, List.set_cons_zero, List.set_cons_succ]
  refine upto_take (i := 1) (v := ?_) rfl (by kernel_rfl) (by kernel_rfl) (by kernel_rfl) (by kernel_rfl) (fun _ _ _ h => h) (by rfl) hS ?_ ?_
  rotate_left
  · intro wS hSw
    try dsimp only at hSw
    first | (go_simp; done) | (go_simp; with_reducible rfl)
  try simp only [Act.put, List.getElem_toArray, List.getElem_cons_zero, List.getElem_cons_succ, List.setIfInBounds_toArray, List.set_cons_zero, List.set_cons_succ]
  refine upto_take (i := 2) (v := ?_) rfl (by kernel_rfl) (by kernel_rfl) (by kernel_rfl) (by kernel_rfl) (fun _ _ _ h => h) (by rfl) hS ?_ ?_
  rotate_left
  · intro wS hSw
    try dsimp only at hSw
    first | (go_simp; done) | (go_simp; with_reducible rfl)
  try simp only [Act.put, List.getElem_toArray, List.getElem_cons_zero, List.getElem_cons_succ, List.setIfInBounds_toArray, List.set_cons_zero, List.set_cons_succ]
  refine upto_take (i := 3) (v := ?_) rfl (by kernel_rfl) (by kernel_rfl) (by kernel_rfl) (by kernel_rfl) (fun _ _ _ h => h) (by rfl) hS ?_ ?_
  rotate_left
  · intro wS hSw
    try dsimp only at hSw
    first | (go_simp; done) | (go_simp; with_reducible rfl)
  try simp only [Act.put, List.getElem_toArray, List.getElem_cons_zero, List.getElem_cons_succ, List.setIfInBounds_toArray, List.set_cons_zero, List.set_cons_succ]
  refine upto_take (i := 4) (v := ?_) rfl (by kernel_rfl) (by kernel_rfl) (by kernel_rfl) (by kernel_rfl) (fun _ _ _ h => h) (by rfl) hS ?_ ?_
  rotate_left
  · intro wS hSw
    try dsimp only at hSw
    first | (go_simp; done) | (go_simp; with_reducible rfl)
  try simp only [Act.put, List.getElem_toArray, List.getElem_cons_zero, List.getElem_cons_succ, List.setIfInBounds_toArray, List.set_cons_zero, List.set_cons_succ]
  refine upto_step (i := 5) (by kernel_rfl) rfl ?_
  intro K hK
  go_simp
  refine hK _ _ (fun _ => hS) ?_
  clear hK K
  try simp only [Act.put, List.getElem_toArray, List.getElem_cons_zero, List.getElem_cons_succ, List.setIfInBounds_toArray, List.set_cons_zero, List.set_cons_succ]
  refine upto_step (i := 6) (by kernel_rfl) rfl ?_
  intro K hK
  go_simp
  refine hK _ _ (fun h => absurd rfl h) ?_
  clear hK K
  refine upto_done (by kernel_rfl) ?_
  refine NoPanic.normal ?_
  have hbd : Below W.heap.size W W.drew := Below.drew (Below.refl _ _)
  have hB1 : Below w.heap.size w W.drew := Below.drew hb0
  replace k0 := cell_keep hbd k0
  replace k1 := cell_keep hbd k1
  replace k2 := cell_keep hbd k2
  replace kf := boxKeep kf hbd
  clear hb0 hbd hS hgk g
  generalize W.drew = W1 at *
  go_wp2_with fail
  refine (textIn_any _ D _ (BytesV_below (HV.out _ HX.out) hB1) HN.out).mono ?_
  rintro e W2 ⟨ht, hb2⟩
  have hB2 := bstep hB1 hb2
  replace k0 := cell_keep hb2 k0
  replace k1 := cell_keep hb2 k1
  replace k2 := cell_keep hb2 k2
  replace kf := boxKeep kf hb2
  obtain ⟨kf, kl⟩ := kf
  cases hT : textL D with
  | none =>
    rw [txtP_none hT] at ht
    obtain rfl := ht
    have HW : Hid (writeL d = none) := wl_none1 (List.length_pos_iff.2 HLT.out) (by rw [HD.out]; exact hT)
    clear hT hb2
    go_wp2
    refine bodyPost_ret (v := .tuple #[.agg #[.string ⟨#[]⟩, .string ⟨#[]⟩, .bool false], .slice none 0 0, .bool false]) (by simp [results, Tryz.results178, go_sem, k0, k1, k2]) rfl ?_
    rw [wrtP_none HW.out]
    exact ⟨⟨_, _, _, _, _, _, rfl⟩, by (repeat (first | exact Below.refl _ _ | assumption | refine Below.drew ?_ | refine balloc ?_ _ | refine bset ?_ (by simp; omega) _ | refine bset ?_ (by simp) _ | refine bstep ?_ (by assumption)))⟩
  | some p =>
    obtain ⟨ky, r⟩ := p
    rw [txtP_some hT] at ht
    obtain ⟨a4, c4, rfl, V4⟩ := ht
    have hT2 : textL (d.drop 1) = some (ky, r) := by rw [HD.out]; exact hT
    have hrl := (textL_len hT).1
    have HRL : Hid (r.length ≤ 1048576) := by have := HN.out; rw [Hid]; omega
    have HV4 : Hid (∀ W, BytesV W (.slice (some ⟨b, o, none⟩) n cx) d → BytesV W (.slice a4 r.length c4) r) := fun W hW => V4 W (HV.out W hW)
    clear hT hb2 V4 hrl
    by_cases hm1 : 1 < m
    · have HW : Hid (writeL d = none) := wl_big (List.length_pos_iff.2 HLT.out) hT2 (by rw [HM.out]; exact hm1)
      have j1 : (1 : Int) < (m : Int) := by omega
      clear hT2
      go_wp2
      refine bodyPost_ret (v := .tuple #[.agg #[.string ⟨#[]⟩, .string ⟨#[]⟩, .bool false], .slice none 0 0, .bool false]) (by simp [results, Tryz.results178, go_sem, k0, k1, k2]) rfl ?_
      rw [wrtP_none HW.out]
      exact ⟨⟨_, _, _, _, _, _, rfl⟩, by (repeat (first | exact Below.refl _ _ | assumption | refine Below.drew ?_ | refine balloc ?_ _ | refine bset ?_ (by simp; omega) _ | refine bset ?_ (by simp) _ | refine bstep ?_ (by assumption)))⟩
    · have j1 : ¬ (1 : Int) < (m : Int) := by omega
      by_cases hm2 : m = 1
      · have HW : Hid (writeL d = some (⟨ky, ⟨#[]⟩, true⟩, r)) := wl_gone (List.length_pos_iff.2 HLT.out) hT2 (by rw [HM.out]; exact hm2)
        clear hT2 hm1 j1 HM
        subst hm2
        go_wp2
        refine bodyPost_ret (v := .tuple #[.agg #[.string ky, .string ⟨#[]⟩, .bool true], .slice a4 r.length c4, .bool true]) (by simp [results, Tryz.results178, go_sem, k0, k1, k2]) rfl ?_
        rw [wrtP_some HW.out]
        exact ⟨⟨a4, c4, rfl, HV4.out⟩, by (repeat (first | exact Below.refl _ _ | assumption | refine Below.drew ?_ | refine balloc ?_ _ | refine bset ?_ (by simp; omega) _ | refine bset ?_ (by simp) _ | refine bstep ?_ (by assumption)))⟩
      · have hm0 : m = 0 := by omega
        have hT3 : Hid (textL (d.drop 1) = some (ky, r) ∧ (d.getD 0 0).val = 0) := ⟨hT2, by rw [HM.out]; exact hm0⟩
        clear hT2 hm1 hm2 j1 HM
        subst hm0
        go_wp2_with fail
        refine (textIn_any _ r _ (BytesV_below (HV4.out _ HX.out) hB2) HRL.out).mono ?_
        rintro e W3 ⟨ht, hb3⟩
        have hB3 := bstep hB2 hb3
        replace k0 := cell_keep hb3 k0
        replace k1 := cell_keep hb3 k1
        replace k2 := cell_keep hb3 k2
        obtain ⟨kf, kl⟩ := boxKeep ⟨kf, kl⟩ hb3
        clear hb3 hB2
        cases hR : textL r with
        | none =>
          rw [txtP_none hR] at ht
          obtain rfl := ht
          have HW : Hid (writeL d = none) := wl_none2 (List.length_pos_iff.2 HLT.out) hT3.out.1 hT3.out.2 hR
          clear hR
          go_wp2
          refine bodyPost_ret (v := .tuple #[.agg #[.string ky, .string ⟨#[]⟩, .bool false], .slice none 0 0, .bool false]) (by simp [results, Tryz.results178, go_sem, k0, k1, k2]) rfl ?_
          rw [wrtP_none HW.out]
          exact ⟨⟨_, _, _, _, _, _, rfl⟩, by (repeat (first | exact Below.refl _ _ | assumption | refine Below.drew ?_ | refine balloc ?_ _ | refine bset ?_ (by simp; omega) _ | refine bset ?_ (by simp) _ | refine bstep ?_ (by assumption)))⟩
        | some p =>
          obtain ⟨vl, r2⟩ := p
          rw [txtP_some hR] at ht
          obtain ⟨a5, c5, rfl, V5⟩ := ht
          have HW : Hid (writeL d = some (⟨ky, vl, false⟩, r2)) := wl_val (List.length_pos_iff.2 HLT.out) hT3.out.1 hT3.out.2 hR
          have HV5 : Hid (∀ W, BytesV W (.slice (some ⟨b, o, none⟩) n cx) d → BytesV W (.slice a5 r2.length c5) r2) := fun W hW => V5 W (HV4.out W hW)
          clear hR V5
          go_wp2
          refine bodyPost_ret (v := .tuple #[.agg #[.string ky, .string vl, .bool false], .slice a5 r2.length c5, .bool true]) (by simp [results, Tryz.results178, go_sem, k0, k1, k2]) rfl ?_
          rw [wrtP_some HW.out]
          exact ⟨⟨a5, c5, rfl, HV5.out⟩, by (repeat (first | exact Below.refl _ _ | assumption | refine Below.drew ?_ | refine balloc ?_ _ | refine bset ?_ (by simp; omega) _ | refine bset ?_ (by simp) _ | refine bstep ?_ (by assumption)))⟩
end Go.Proofs.YtdfapehonegeeaaGreat

/-
  All writes among bytes: the program's writesIn.
-/
namespace Go.Proofs.YtdfapehonegeeaaGreat
open Go.RowKit
set_option linter.unusedSectionVars false
variable [DecidableEq Wri] [Inhabited Wri] [DecidableEq BytesR] [Inhabited BytesR] [DecidableEq Rw] [Inhabited Rw] [DecidableEq TabR] [Inhabited TabR]
set_option linter.unusedVariables false
set_option linter.unusedSimpArgs false
attribute [local go_sem ↓] Go.wp_at_zero Go.wp_at_succ

theorem wrisC_snoc (xs : List Wri) (l : Wri) : wrisC (xs ++ [l]) = wrisC xs ++ wriC l := by simp [wrisC]
theorem wriC_one (l : Wri) : ∀ u ∈ wriC l, u.oneCell' = true := by
  intro u hu
  simp only [wriC, List.mem_cons, List.not_mem_nil, or_false] at hu
  rcases hu with rfl | rfl | rfl <;> rfl
theorem wriC_cells {w : World} {b o : Nat} {l : Wri} (h : wriCells w b o l) : ∀ j u, (wriC l)[j]? = some u → w.cell? ((⟨b, o, none⟩ : Addr).add j) = some u := by
  obtain ⟨h0, h1, h2⟩ := h
  intro j u hj
  match j, hj with
  | 0, hj => simp [wriC] at hj; subst hj; simpa [Addr.add] using h0
  | 1, hj => simp [wriC] at hj; subst hj; simpa [Addr.add] using h1
  | 2, hj => simp [wriC] at hj; subst hj; simpa [Addr.add] using h2
  | j + 3, hj => simp [wriC] at hj
theorem wpList_pushWri (Y : World) {ops : Array Oper} {rest : List Oper} {o : Oper} {a : Act} {Q : Exit → Act → World → Prop} (hgd : o.guard = none) (s x : Operand)
    (ho : o.op = .call { callee := .builtin .append, args := #[s, x], argTypes := #[44, 44] })
    (base : Nat) (v : Value) (out : List Wri) (hs : a.eval s = v) (l : Wri) (u : Value) (hx : a.eval x = u) (hown : Y.ownsRow base 96 3 v out.length (wrisC out)) (hsrc : AppAny Y u 1 (wriC l)) (hlen : out.length ≤ 1048576) (hbase : base ≤ Y.heap.size)
    (h : ∀ v' w', w'.ownsRow base 96 3 v' (out ++ [l]).length (wrisC (out ++ [l])) → Y.grownBy w' v.ownBlock → (∀ W : World, Below base W Y → Below base W w') → wpList Tryz.prog ops Q rest (a.put o.dst v') w') :
    wpList Tryz.prog ops Q (o :: rest) a Y := by
  obtain ⟨i0, hi, hz0, hz1, hz2⟩ := info_parts infoWri
  refine wpList_appAny Y hgd s x 44 ho base 96 i0 _ 3 40 Tryz.underlying44 hi hz0 hz1 hz2 rfl (by decide) v out.length (wrisC out) hs u 1 (wriC l) hx hown hsrc rfl (wriC_one l) (by unfold maxLen; omega) (by omega) hbase ?_
  intro v' w' h1 h2 h3
  refine h v' w' ?_ h2 h3
  rw [List.length_append, wrisC_snoc]
  exact h1
def slLen (v : Value) : Nat := match v with | .slice _ n _ => n | _ => 0
def WsP (d : List Byte) (base : Nat) (w' : World) (e : Ending) : Prop :=
  match writesL d with
  | none => e = .returned (.tuple #[.slice none 0 0, .bool false])
  | some ws => ∃ v, e = .returned (.tuple #[v, .bool true]) ∧ w'.ownsRow base 96 3 v ws.length (wrisC ws)
theorem wsP_none {d : List Byte} {base : Nat} {w' : World} {e : Ending} (h : writesL d = none) : WsP d base w' e = (e = .returned (.tuple #[.slice none 0 0, .bool false])) := by unfold WsP; rw [h]
theorem wsP_some {d : List Byte} {base : Nat} {w' : World} {e : Ending} {ws : List Wri} (h : writesL d = some ws) : WsP d base w' e = (∃ v, e = .returned (.tuple #[v, .bool true]) ∧ w'.ownsRow base 96 3 v ws.length (wrisC ws)) := by unfold WsP; rw [h]
set_option maxHeartbeats 4000000 in
theorem writesIn_any (x : Value) (d : List Byte) (w : World) (hx : BytesV w x d) (hn : d.length ≤ 1048576) :
    Calls Tryz.prog 168 #[x] w fun e w' => WsP d w.heap.size w' e ∧ Below w.heap.size w w' := by
  have HX : Hid (BytesV w x d) := hx
  obtain ⟨ax, cx, rfl, hcx, hmx, -⟩ := hx
  unfold maxLen at hmx
  have HN : Hid (d.length ≤ 1048576) := hn
  go_enter Tryz.func168, Tryz.ntmps168
  go_wp2
  go_loopw [0, 4] (fun r v W => ∃ (k : Nat) (out : List Wri) (a : Option Addr) (c : Nat), r = .slice a (d.length - k) c ∧ d.length - k ≤ c ∧ c ≤ 9223372036854775807 ∧ Hid (BytesV w (.slice a (d.length - k) c) (d.drop k)) ∧ Hid (WrSo d k out) ∧ W.ownsRow w.heap.size 96 3 v out.length (wrisC out) ∧ Below w.heap.size w W) (fun r _ _ => slLen r)
  case atStart => exact ⟨0, [], ax, cx, by simp, by omega, by omega, by simpa using HX, wrSo_start d, World.ownsRow_nil _ _ _ _, Below.refl _ _⟩
  case round =>
    obtain ⟨k, out, a, c, rfl, hc1, hc2, HV, HSo, ho, hbl⟩ := hrel
    have hkn := HSo.out.1
    have hok := HSo.out.2.2.1
    by_cases hlt : k < d.length
    · have hD : (d.drop k).length = d.length - k := List.length_drop
      have HCall : Hid (∀ W, Below w.heap.size w W → Calls Tryz.prog 178 #[.slice a (d.length - k) c] W fun e w' => WrtP (d.drop k) (.slice a (d.length - k) c) e ∧ Below W.heap.size W w') := fun W hW => writeIn_any _ (d.drop k) W (BytesV_below HV.out hW) (by omega) (by omega)
      clear hD
      obtain ⟨m, hm⟩ : ∃ m, d.length - k = m := ⟨_, rfl⟩
      have HM : Hid (d.length - k = m) := hm
      rw [hm] at HCall hc1 HV ⊢
      have i1 : (0 : Int) < (m : Int) := by omega
      have hout : out.length ≤ 1048576 := by omega
      clear hm
      go_wp2_with fail
      refine (HCall.out _ hbl).mono ?_
      rintro e W2 ⟨ht, hb2⟩
      have hB2 := bstep hbl hb2
      have ho2 := owns_below ho hb2
      have hz2 := hB2.size
      clear ho hb2
      cases hT : writeL (d.drop k) with
      | none =>
        rw [wrtP_none hT] at ht
        obtain ⟨ky, vl, g, a3, n3, c3, rfl⟩ := ht
        have HW : Hid (writesL d = none) := wrSo_bad HSo.out hlt hT
        clear hT HCall
        go_wp2
        refine bodyPost_ret (v := .tuple #[.slice none 0 0, .bool false]) (by simp [results, Tryz.results168, go_sem]) rfl ?_
        rw [wsP_none HW.out]
        exact ⟨rfl, by (repeat (first | exact Below.refl _ _ | assumption | refine Below.drew ?_ | refine balloc ?_ _ | refine bset ?_ (by simp; omega) _ | refine bset ?_ (by simp) _ | refine bstep ?_ (by assumption)))⟩
      | some p =>
        obtain ⟨y, r⟩ := p
        rw [wrtP_some hT] at ht
        obtain ⟨a3, c3, rfl, V3⟩ := ht
        obtain ⟨hr, hso⟩ := wrSo_step HSo.out hlt hT
        have hp : 0 < wrN y := by unfold wrN; omega
        have HSo2 : Hid (WrSo d (k + wrN y) (out ++ [y])) := hso
        have hle := hso.1
        have hrl : r.length = d.length - (k + wrN y) := by rw [hr, List.length_drop]
        have hV := V3 w HV.out
        have hcc : r.length ≤ c3 ∧ c3 ≤ 9223372036854775807 := by
          obtain ⟨_, _, e, q1, q2, _⟩ := hV
          simp only [Value.slice.injEq, true_and] at e
          unfold maxLen at q2
          omega
        have HV2 : Hid (BytesV w (.slice a3 (d.length - (k + wrN y)) c3) (d.drop (k + wrN y))) := by
          rw [Hid, ← hrl, ← hr]
          exact hV
        rw [hrl] at hcc
        have HRL : Hid (r.length = d.length - (k + wrN y)) := hrl
        obtain ⟨hc3, hc4⟩ := hcc
        clear hV V3 hT HCall hso hr hrl
        go_wp2_with (at_builtin; refine wpList_pushWri _ rfl _ _ rfl w.heap.size _ out rfl y _ rfl ((ho2.alloc _).alloc _) ?c1 hout ?c3 ?_)
        case c1 => exact .inr ⟨_, _, rfl, wriC_cells (b := W2.heap.size + 1) (o := 0) ⟨by simp [go_sem], by simp [go_sem], by simp [go_sem]⟩⟩
        case c3 => simp; omega
        intro v4 w4 o4 hg hB
        have hB4 : Below w.heap.size w w4 := hB w (by (repeat (first | exact Below.refl _ _ | assumption | refine Below.drew ?_ | refine balloc ?_ _ | refine bset ?_ (by simp; omega) _ | refine bset ?_ (by simp) _ | refine bstep ?_ (by assumption))))
        have HO4 : Hid (World.ownsRow w4 w.heap.size 96 3 v4 (out ++ [y]).length (wrisC (out ++ [y]))) := by
          rw [Hid]
          simpa using o4
        clear o4 hg hB ho2
        go_wp2
        rw [HRL.out]
        refine ⟨⟨k + wrN y, out ++ [y], a3, c3, rfl, hc3, hc4, HV2, HSo2, HO4.out, hB4⟩, ?_⟩
        have := HM.out
        simp [slLen]
        omega
    · have e : k = d.length := by omega
      have HW : Hid (writesL d = some out) := by
        have h := HSo.out
        rw [e] at h
        exact wrSo_end h
      obtain ⟨m, hm⟩ : ∃ m, d.length - k = m := ⟨_, rfl⟩
      rw [hm]
      have hm0 : m = 0 := by omega
      subst hm0
      clear hm e HV HSo
      obtain ⟨av, cv, rfl⟩ := owns_form ho
      go_wp2
      refine bodyPost_ret (v := .tuple #[.slice av out.length cv, .bool true]) (by simp [results, Tryz.results168, go_sem]) rfl ?_
      rw [wsP_some HW.out]
      exact ⟨⟨_, rfl, ho⟩, hbl⟩
end Go.Proofs.YtdfapehonegeeaaGreat

/-
  PackNumber and UnpackNumber in the uniform form.
-/
namespace Go.Proofs.YtdfapehonegeeaaGreat
open Go.RowKit
attribute [local go_sem ↓] Go.wp_at_zero Go.wp_at_succ

theorem specPack_u (n : Int) (w : World) :
    Calls Tryz.prog 117 #[.int .i64 n] w fun e w' => ∃ v F, e = .returned v ∧ bytesR.O w' w.heap.size F v (hiB n 8) ∧ Below w.heap.size w w' := by
  refine (specPack_any n w).mono ?_
  rintro e w' ⟨v, rfl, ho, hb⟩
  exact ⟨v, _, rfl, ⟨by rw [length_hiB]; exact ho, rfl⟩, hb⟩
theorem implPack_u (n : Int) (w : World) :
    Calls Tryz.prog 122 #[.int .i64 n] w fun e w' => ∃ v F, e = .returned v ∧ bytesR.O w' w.heap.size F v (hiB n 8) ∧ Below w.heap.size w w' := by
  refine (implPack_any n w).mono ?_
  rintro e w' ⟨v, rfl, ho, hb⟩
  exact ⟨v, _, rfl, ⟨by rw [length_hiB]; exact ho, rfl⟩, hb⟩
end Go.Proofs.YtdfapehonegeeaaGreat


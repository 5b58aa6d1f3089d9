import Derived.Test.YtdfapehonegeeaaBndUnpackWritesLaw10
import Derived.Test.YtdfapehonegeeaaBndUnpackWritesLaw3
import Derived.Test.YtdfapehonegeeaaBndUnpackWritesLaw1
import Derived.RangeFuncNested
import Derived.RangeFuncBound
import Derived.RangeFuncCalls
import Derived.RangeFuncLeaves
import Derived.Shelf.Abstract

/-
  One write among bytes: the program's writeIn.
-/
namespace Go.Proofs.Ytdfapehonegeeaa
open Go.RowKit
set_option linter.unusedSectionVars false
variable [DecidableEq Wri] [Inhabited Wri] [DecidableEq BytesR] [Inhabited BytesR] [DecidableEq Rw] [Inhabited Rw] [DecidableEq TabR] [Inhabited TabR]
set_option linter.unusedVariables false
set_option linter.unusedSimpArgs false
attribute [local go_sem ↓] Go.wp_at_zero Go.wp_at_succ

theorem wl_cons {d : List Byte} (h : 0 < d.length) : d = d.getD 0 0 :: d.drop 1 := by
  have e := drop_cons (a := 0) h
  simpa using e
theorem wl_none1 {d : List Byte} (h : 0 < d.length) (ht : textL (d.drop 1) = none) : writeL d = none := by
  rw [wl_cons h]
  unfold writeL
  dsimp only
  rw [ht]
theorem wl_big {d r : List Byte} {k : ByteArray} (h : 0 < d.length) (ht : textL (d.drop 1) = some (k, r)) (hm : 1 < (d.getD 0 0).val) : writeL d = none := by
  rw [wl_cons h]
  unfold writeL
  dsimp only
  rw [ht]
  dsimp only
  rw [if_pos hm]
theorem wl_gone {d r : List Byte} {k : ByteArray} (h : 0 < d.length) (ht : textL (d.drop 1) = some (k, r)) (hm : (d.getD 0 0).val = 1) : writeL d = some (⟨k, ⟨#[]⟩, true⟩, r) := by
  rw [wl_cons h]
  unfold writeL
  dsimp only
  rw [ht]
  dsimp only
  rw [if_neg (by omega), if_pos hm]
theorem wl_none2 {d r : List Byte} {k : ByteArray} (h : 0 < d.length) (ht : textL (d.drop 1) = some (k, r)) (hm : (d.getD 0 0).val = 0) (h2 : textL r = none) : writeL d = none := by
  rw [wl_cons h]
  unfold writeL
  dsimp only
  rw [ht]
  dsimp only
  rw [if_neg (by omega), if_neg (by omega), h2]
theorem wl_val {d r r2 : List Byte} {k v : ByteArray} (h : 0 < d.length) (ht : textL (d.drop 1) = some (k, r)) (hm : (d.getD 0 0).val = 0) (h2 : textL r = some (v, r2)) : writeL d = some (⟨k, v, false⟩, r2) := by
  rw [wl_cons h]
  unfold writeL
  dsimp only
  rw [ht]
  dsimp only
  rw [if_neg (by omega), if_neg (by omega), h2]

/-- what writeIn answers -/
def WrtP (d : List Byte) (x : Value) (e : Ending) : Prop :=
  match writeL d with
  | none => ∃ k v g a n c, e = .returned (.tuple #[.agg #[.string k, .string v, .bool g], .slice a n c, .bool false])
  | some p => ∃ a c, e = .returned (.tuple #[.agg #[.string p.1.key, .string p.1.val, .bool p.1.gone], .slice a p.2.length c, .bool true]) ∧ ∀ W, BytesV W x d → BytesV W (.slice a p.2.length c) p.2
theorem wrtP_none {d : List Byte} {x : Value} {e : Ending} (h : writeL d = none) : WrtP d x e = (∃ k v g a n c, e = .returned (.tuple #[.agg #[.string k, .string v, .bool g], .slice a n c, .bool false])) := by unfold WrtP; rw [h]
theorem wrtP_some {d : List Byte} {v : Value} {e : Ending} {x : Wri} {r : List Byte} (h : writeL d = some (x, r)) : WrtP d v e = (∃ a c, e = .returned (.tuple #[.agg #[.string x.key, .string x.val, .bool x.gone], .slice a r.length c, .bool true]) ∧ ∀ W, BytesV W v d → BytesV W (.slice a r.length c) r) := by unfold WrtP; rw [h]

set_option maxHeartbeats 4000000 in
theorem writeIn_any (x : Value) (d : List Byte) (w : World) (hx : BytesV w x d) (hn : d.length ≤ 1048576) (hlt : 0 < d.length) :
    Calls Try.prog 116 #[x] w fun e w' => WrtP d x e ∧ Below w.heap.size w w' := by
  have hX := hx
  obtain ⟨ax, cx, rfl, hcx, hmx, hx⟩ := hx
  unfold maxLen at hmx
  obtain ⟨b, o, rfl, g⟩ := hx 0 hlt
  obtain ⟨m, hm⟩ : ∃ m, (d.getD 0 0).val = m := ⟨_, rfl⟩
  have hm6 : m < 256 := by rw [← hm]; exact (d.getD 0 0).isLt
  have HM : Hid ((d.getD 0 0).val = m) := hm
  have HLT : Hid (d ≠ []) := fun e => by rw [e] at hlt; exact absurd hlt (Nat.lt_irrefl 0)
  rw [hm] at g
  rw [Nat.add_zero] at g
  clear hm hx
  have i2 : (0 : Int) < (d.length : Int) := by omega
  obtain ⟨a3, c3, run3, V3⟩ := cutL (a := some ⟨b, o, none⟩) (n := d.length) (cap := cx) 1 (by omega) (by omega) hcx
  have V := fun W hW => V3 W d rfl hW
  have hl3 : (d.drop 1).length = d.length - 1 := List.length_drop
  rw [show (1 : Int).toNat = 1 from rfl] at V run3
  rw [← hl3] at V run3
  have hn3 : (d.drop 1).length ≤ 1048576 := by omega
  have hgk : ∀ W, Below w.heap.size w W → W.cell? ⟨b, o, none⟩ = some (.int .u8 m) := fun W hW => cell_keep hW g
  have HV : Hid (∀ W, BytesV W (.slice (some ⟨b, o, none⟩) d.length cx) d → BytesV W (.slice a3 (d.drop 1).length c3) (d.drop 1)) := V
  have HX : Hid (BytesV w (.slice (some ⟨b, o, none⟩) d.length cx) d) := hX
  have HN : Hid ((d.drop 1).length ≤ 1048576) := hn3
  clear V3 V hX hl3 hn3
  obtain ⟨D, hD⟩ : ∃ D, d.drop 1 = D := ⟨_, rfl⟩
  have HD : Hid (d.drop 1 = D) := hD
  rw [hD] at run3 HV HN
  clear hD
  generalize d.length = n at *
  go_enter Try.func116, Try.ntmps116
  go_wp2
  have hb0 : Below w.heap.size w (w.alloc (.cells #[.string ⟨#[]⟩, .string ⟨#[]⟩, .bool false] 111)) := balloc (Below.refl _ _) _
  have k0 : (w.alloc (.cells #[.string ⟨#[]⟩, .string ⟨#[]⟩, .bool false] 111)).cell? ⟨w.heap.size, 0, none⟩ = some (.string ⟨#[]⟩) := by simp [go_sem]
  have k1 : (w.alloc (.cells #[.string ⟨#[]⟩, .string ⟨#[]⟩, .bool false] 111)).cell? ⟨w.heap.size, 1, none⟩ = some (.string ⟨#[]⟩) := by simp [go_sem]
  have k2 : (w.alloc (.cells #[.string ⟨#[]⟩, .string ⟨#[]⟩, .bool false] 111)).cell? ⟨w.heap.size, 2, none⟩ = some (.bool false) := by simp [go_sem]
  have kf : (∀ q, (w.alloc (.cells #[.string ⟨#[]⟩, .string ⟨#[]⟩, .bool false] 111)).frozen? ⟨w.heap.size, q, none⟩ = false) ∧ w.heap.size < (w.alloc (.cells #[.string ⟨#[]⟩, .string ⟨#[]⟩, .bool false] 111)).heap.size := ⟨fun q => by simp [go_sem], by simp⟩
  generalize w.alloc (.cells #[.string ⟨#[]⟩, .string ⟨#[]⟩, .bool false] 111) = W at *
  refine wp_region_noPanic ?_
  refine region_upto (fun W' => W'.cell? ⟨b, o, none⟩ = some (.int .u8 m)) 6 (by kernel_rfl) (hgk _ (Below.drew hb0)) (fun hS => ?_)
  refine upto_take (i := 0) (v := ?_) rfl (by kernel_rfl) (by kernel_rfl) (by kernel_rfl) (by kernel_rfl) (fun _ _ _ h => h) (by rfl) hS ?_ ?_
  rotate_left
  · intro wS hSw
    try dsimp only at hSw
    first | (go_simp; done) | (go_simp; with_reducible rfl)
  try simp only [Act.put, List.getElem_toArray, List.getElem_cons_zero, List.getElem_cons_succ, List.setIfInBounds_toArray, List.set_cons_zero, List.set_cons_succ]
  refine upto_take (i := 1) (v := ?_) rfl (by kernel_rfl) (by kernel_rfl) (by kernel_rfl) (by kernel_rfl) (fun _ _ _ h => h) (by rfl) hS ?_ ?_
  rotate_left
  · intro wS hSw
    try dsimp only at hSw
    first | (go_simp; done) | (go_simp; with_reducible rfl)
  try simp only [Act.put, List.getElem_toArray, List.getElem_cons_zero, List.getElem_cons_succ, List.setIfInBounds_toArray, List.set_cons_zero, List.set_cons_succ]
  refine upto_take (i := 2) (v := ?_) rfl (by kernel_rfl) (by kernel_rfl) (by kernel_rfl) (by kernel_rfl) (fun _ _ _ h => h) (by rfl) hS ?_ ?_
  rotate_left
  · intro wS hSw
    try dsimp only at hSw
    first | (go_simp; done) | (go_simp; with_reducible rfl)
  try simp only [Act.put, List.getElem_toArray, List.getElem_cons_zero, List.getElem_cons_succ, List.setIfInBounds_toArray, List.set_cons_zero, List.set_cons_succ]
  refine upto_take (i := 3) (v := ?_) rfl (by kernel_rfl) (by kernel_rfl) (by kernel_rfl) (by kernel_rfl) (fun _ _ _ h => h) (by rfl) hS ?_ ?_
  rotate_left
  · intro wS hSw
    try dsimp only at hSw
    first | (go_simp; done) | (go_simp; with_reducible rfl)
  try simp only [Act.put, List.getElem_toArray, List.getElem_cons_zero, List.getElem_cons_succ, List.setIfInBounds_toArray, List.set_cons_zero, List.set_cons_succ]
  refine upto_take (i := 4) (v := ?_) rfl (by kernel_rfl) (by kernel_rfl) (by kernel_rfl) (by kernel_rfl) (fun _ _ _ h => h) (by rfl) hS ?_ ?_
  rotate_left
  · intro wS hSw
    try dsimp only at hSw
    first | (go_simp; done) | (go_simp; with_reducible rfl)
  try simp only [Act.put, List.getElem_toArray, List.getElem_cons_zero, List.getElem_cons_succ, List.setIfInBounds_toArray, List.set_cons_zero, List.set_cons_succ]
  refine upto_step (i := 5) (by kernel_rfl) rfl ?_
  intro K hK
  go_simp
  refine hK _ _ (fun _ => hS) ?_
  clear hK K
  try simp only [Act.put, List.getElem_toArray, List.getElem_cons_zero, List.getElem_cons_succ, List.setIfInBounds_toArray, List.set_cons_zero, List.set_cons_succ]
  refine upto_step (i := 6) (by kernel_rfl) rfl ?_
  intro K hK
  go_simp
  refine hK _ _ (fun h => absurd rfl h) ?_
  clear hK K
  refine upto_done (by kernel_rfl) ?_
  refine NoPanic.normal ?_
  have hbd : Below W.heap.size W W.drew := Below.drew (Below.refl _ _)
  have hB1 : Below w.heap.size w W.drew := Below.drew hb0
  replace k0 := cell_keep hbd k0
  replace k1 := cell_keep hbd k1
  replace k2 := cell_keep hbd k2
  replace kf := boxKeep kf hbd
  clear hb0 hbd hS hgk g
  generalize W.drew = W1 at *
  go_wp2_with fail
  refine (textIn_any _ D _ (BytesV_below (HV.out _ HX.out) hB1) HN.out).mono ?_
  rintro e W2 ⟨ht, hb2⟩
  have hB2 := bstep hB1 hb2
  replace k0 := cell_keep hb2 k0
  replace k1 := cell_keep hb2 k1
  replace k2 := cell_keep hb2 k2
  replace kf := boxKeep kf hb2
  obtain ⟨kf, kl⟩ := kf
  cases hT : textL D with
  | none =>
    rw [txtP_none hT] at ht
    obtain rfl := ht
    have HW : Hid (writeL d = none) := wl_none1 (List.length_pos_iff.2 HLT.out) (by rw [HD.out]; exact hT)
    clear hT hb2
    go_wp2
    refine bodyPost_ret (v := .tuple #[.agg #[.string ⟨#[]⟩, .string ⟨#[]⟩, .bool false], .slice none 0 0, .bool false]) (by simp [results, Try.results116, go_sem, k0, k1, k2]) rfl ?_
    rw [wrtP_none HW.out]
    exact ⟨⟨_, _, _, _, _, _, rfl⟩, by (repeat (first | exact Below.refl _ _ | assumption | refine Below.drew ?_ | refine balloc ?_ _ | refine bset ?_ (by simp; omega) _ | refine bset ?_ (by simp) _ | refine bstep ?_ (by assumption)))⟩
  | some p =>
    obtain ⟨ky, r⟩ := p
    rw [txtP_some hT] at ht
    obtain ⟨a4, c4, rfl, V4⟩ := ht
    have hT2 : textL (d.drop 1) = some (ky, r) := by rw [HD.out]; exact hT
    have hrl := (textL_len hT).1
    have HRL : Hid (r.length ≤ 1048576) := by have := HN.out; rw [Hid]; omega
    have HV4 : Hid (∀ W, BytesV W (.slice (some ⟨b, o, none⟩) n cx) d → BytesV W (.slice a4 r.length c4) r) := fun W hW => V4 W (HV.out W hW)
    clear hT hb2 V4 hrl
    by_cases hm1 : 1 < m
    · have HW : Hid (writeL d = none) := wl_big (List.length_pos_iff.2 HLT.out) hT2 (by rw [HM.out]; exact hm1)
      have j1 : (1 : Int) < (m : Int) := by omega
      clear hT2
      go_wp2
      refine bodyPost_ret (v := .tuple #[.agg #[.string ⟨#[]⟩, .string ⟨#[]⟩, .bool false], .slice none 0 0, .bool false]) (by simp [results, Try.results116, go_sem, k0, k1, k2]) rfl ?_
      rw [wrtP_none HW.out]
      exact ⟨⟨_, _, _, _, _, _, rfl⟩, by (repeat (first | exact Below.refl _ _ | assumption | refine Below.drew ?_ | refine balloc ?_ _ | refine bset ?_ (by simp; omega) _ | refine bset ?_ (by simp) _ | refine bstep ?_ (by assumption)))⟩
    · have j1 : ¬ (1 : Int) < (m : Int) := by omega
      by_cases hm2 : m = 1
      · have HW : Hid (writeL d = some (⟨ky, ⟨#[]⟩, true⟩, r)) := wl_gone (List.length_pos_iff.2 HLT.out) hT2 (by rw [HM.out]; exact hm2)
        clear hT2 hm1 j1 HM
        subst hm2
        go_wp2
        refine bodyPost_ret (v := .tuple #[.agg #[.string ky, .string ⟨#[]⟩, .bool true], .slice a4 r.length c4, .bool true]) (by simp [results, Try.results116, go_sem, k0, k1, k2]) rfl ?_
        rw [wrtP_some HW.out]
        exact ⟨⟨a4, c4, rfl, HV4.out⟩, by (repeat (first | exact Below.refl _ _ | assumption | refine Below.drew ?_ | refine balloc ?_ _ | refine bset ?_ (by simp; omega) _ | refine bset ?_ (by simp) _ | refine bstep ?_ (by assumption)))⟩
      · have hm0 : m = 0 := by omega
        have hT3 : Hid (textL (d.drop 1) = some (ky, r) ∧ (d.getD 0 0).val = 0) := ⟨hT2, by rw [HM.out]; exact hm0⟩
        clear hT2 hm1 hm2 j1 HM
        subst hm0
        go_wp2_with fail
        refine (textIn_any _ r _ (BytesV_below (HV4.out _ HX.out) hB2) HRL.out).mono ?_
        rintro e W3 ⟨ht, hb3⟩
        have hB3 := bstep hB2 hb3
        replace k0 := cell_keep hb3 k0
        replace k1 := cell_keep hb3 k1
        replace k2 := cell_keep hb3 k2
        obtain ⟨kf, kl⟩ := boxKeep ⟨kf, kl⟩ hb3
        clear hb3 hB2
        cases hR : textL r with
        | none =>
          rw [txtP_none hR] at ht
          obtain rfl := ht
          have HW : Hid (writeL d = none) := wl_none2 (List.length_pos_iff.2 HLT.out) hT3.out.1 hT3.out.2 hR
          clear hR
          go_wp2
          refine bodyPost_ret (v := .tuple #[.agg #[.string ky, .string ⟨#[]⟩, .bool false], .slice none 0 0, .bool false]) (by simp [results, Try.results116, go_sem, k0, k1, k2]) rfl ?_
          rw [wrtP_none HW.out]
          exact ⟨⟨_, _, _, _, _, _, rfl⟩, by (repeat (first | exact Below.refl _ _ | assumption | refine Below.drew ?_ | refine balloc ?_ _ | refine bset ?_ (by simp; omega) _ | refine bset ?_ (by simp) _ | refine bstep ?_ (by assumption)))⟩
        | some p =>
          obtain ⟨vl, r2⟩ := p
          rw [txtP_some hR] at ht
          obtain ⟨a5, c5, rfl, V5⟩ := ht
          have HW : Hid (writeL d = some (⟨ky, vl, false⟩, r2)) := wl_val (List.length_pos_iff.2 HLT.out) hT3.out.1 hT3.out.2 hR
          have HV5 : Hid (∀ W, BytesV W (.slice (some ⟨b, o, none⟩) n cx) d → BytesV W (.slice a5 r2.length c5) r2) := fun W hW => V5 W (HV4.out W hW)
          clear hR V5
          go_wp2
          refine bodyPost_ret (v := .tuple #[.agg #[.string ky, .string vl, .bool false], .slice a5 r2.length c5, .bool true]) (by simp [results, Try.results116, go_sem, k0, k1, k2]) rfl ?_
          rw [wrtP_some HW.out]
          exact ⟨⟨a5, c5, rfl, HV5.out⟩, by (repeat (first | exact Below.refl _ _ | assumption | refine Below.drew ?_ | refine balloc ?_ _ | refine bset ?_ (by simp; omega) _ | refine bset ?_ (by simp) _ | refine bstep ?_ (by assumption)))⟩

end Go.Proofs.Ytdfapehonegeeaa

/-
  All writes among bytes: the program's writesIn.
-/
namespace Go.Proofs.Ytdfapehonegeeaa
open Go.RowKit
set_option linter.unusedSectionVars false
variable [DecidableEq Wri] [Inhabited Wri] [DecidableEq BytesR] [Inhabited BytesR] [DecidableEq Rw] [Inhabited Rw] [DecidableEq TabR] [Inhabited TabR]
set_option linter.unusedVariables false
set_option linter.unusedSimpArgs false
attribute [local go_sem ↓] Go.wp_at_zero Go.wp_at_succ

theorem wrisC_snoc (xs : List Wri) (l : Wri) : wrisC (xs ++ [l]) = wrisC xs ++ wriC l := by simp [wrisC]
theorem wriC_one (l : Wri) : ∀ u ∈ wriC l, u.oneCell' = true := by
  intro u hu
  simp only [wriC, List.mem_cons, List.not_mem_nil, or_false] at hu
  rcases hu with rfl | rfl | rfl <;> rfl
theorem wriC_cells {w : World} {b o : Nat} {l : Wri} (h : wriCells w b o l) : ∀ j u, (wriC l)[j]? = some u → w.cell? ((⟨b, o, none⟩ : Addr).add j) = some u := by
  obtain ⟨h0, h1, h2⟩ := h
  intro j u hj
  match j, hj with
  | 0, hj => simp [wriC] at hj; subst hj; simpa [Addr.add] using h0
  | 1, hj => simp [wriC] at hj; subst hj; simpa [Addr.add] using h1
  | 2, hj => simp [wriC] at hj; subst hj; simpa [Addr.add] using h2
  | j + 3, hj => simp [wriC] at hj

theorem wpList_pushWri (Y : World) {ops : Array Oper} {rest : List Oper} {o : Oper} {a : Act} {Q : Exit → Act → World → Prop} (hgd : o.guard = none) (s x : Operand)
    (ho : o.op = .call { callee := .builtin .append, args := #[s, x], argTypes := #[56, 56] })
    (base : Nat) (v : Value) (out : List Wri) (hs : a.eval s = v) (l : Wri) (u : Value) (hx : a.eval x = u) (hown : Y.ownsRow base 111 3 v out.length (wrisC out)) (hsrc : AppAny Y u 1 (wriC l)) (hlen : out.length ≤ 1048576) (hbase : base ≤ Y.heap.size)
    (h : ∀ v' w', w'.ownsRow base 111 3 v' (out ++ [l]).length (wrisC (out ++ [l])) → Y.grownBy w' v.ownBlock → (∀ W : World, Below base W Y → Below base W w') → wpList Try.prog ops Q rest (a.put o.dst v') w') :
    wpList Try.prog ops Q (o :: rest) a Y := by
  obtain ⟨i0, hi, hz0, hz1, hz2⟩ := info_parts infoWri
  refine wpList_appAny Y hgd s x 56 ho base 111 i0 _ 3 40 Try.underlying56 hi hz0 hz1 hz2 rfl (by decide) v out.length (wrisC out) hs u 1 (wriC l) hx hown hsrc rfl (wriC_one l) (by unfold maxLen; omega) (by omega) hbase ?_
  intro v' w' h1 h2 h3
  refine h v' w' ?_ h2 h3
  rw [List.length_append, wrisC_snoc]
  exact h1

def slLen (v : Value) : Nat := match v with | .slice _ n _ => n | _ => 0

/-- what writesIn answers -/
def WsP (d : List Byte) (base : Nat) (w' : World) (e : Ending) : Prop :=
  match writesL d with
  | none => e = .returned (.tuple #[.slice none 0 0, .bool false])
  | some ws => ∃ v, e = .returned (.tuple #[v, .bool true]) ∧ w'.ownsRow base 111 3 v ws.length (wrisC ws)
theorem wsP_none {d : List Byte} {base : Nat} {w' : World} {e : Ending} (h : writesL d = none) : WsP d base w' e = (e = .returned (.tuple #[.slice none 0 0, .bool false])) := by unfold WsP; rw [h]
theorem wsP_some {d : List Byte} {base : Nat} {w' : World} {e : Ending} {ws : List Wri} (h : writesL d = some ws) : WsP d base w' e = (∃ v, e = .returned (.tuple #[v, .bool true]) ∧ w'.ownsRow base 111 3 v ws.length (wrisC ws)) := by unfold WsP; rw [h]

set_option maxHeartbeats 4000000 in
theorem writesIn_any (x : Value) (d : List Byte) (w : World) (hx : BytesV w x d) (hn : d.length ≤ 1048576) :
    Calls Try.prog 86 #[x] w fun e w' => WsP d w.heap.size w' e ∧ Below w.heap.size w w' := by
  have HX : Hid (BytesV w x d) := hx
  obtain ⟨ax, cx, rfl, hcx, hmx, -⟩ := hx
  unfold maxLen at hmx
  have HN : Hid (d.length ≤ 1048576) := hn
  go_enter Try.func86, Try.ntmps86
  go_wp2
  go_loopw [0, 4] (fun r v W => ∃ (k : Nat) (out : List Wri) (a : Option Addr) (c : Nat), r = .slice a (d.length - k) c ∧ d.length - k ≤ c ∧ c ≤ 9223372036854775807 ∧ Hid (BytesV w (.slice a (d.length - k) c) (d.drop k)) ∧ Hid (WrSo d k out) ∧ W.ownsRow w.heap.size 111 3 v out.length (wrisC out) ∧ Below w.heap.size w W) (fun r _ _ => slLen r)
  case atStart => exact ⟨0, [], ax, cx, by simp, by omega, by omega, by simpa using HX, wrSo_start d, World.ownsRow_nil _ _ _ _, Below.refl _ _⟩
  case round =>
    obtain ⟨k, out, a, c, rfl, hc1, hc2, HV, HSo, ho, hbl⟩ := hrel
    have hkn := HSo.out.1
    have hok := HSo.out.2.2.1
    by_cases hlt : k < d.length
    · have hD : (d.drop k).length = d.length - k := List.length_drop
      have HCall : Hid (∀ W, Below w.heap.size w W → Calls Try.prog 116 #[.slice a (d.length - k) c] W fun e w' => WrtP (d.drop k) (.slice a (d.length - k) c) e ∧ Below W.heap.size W w') := fun W hW => writeIn_any _ (d.drop k) W (BytesV_below HV.out hW) (by omega) (by omega)
      clear hD
      obtain ⟨m, hm⟩ : ∃ m, d.length - k = m := ⟨_, rfl⟩
      have HM : Hid (d.length - k = m) := hm
      rw [hm] at HCall hc1 HV ⊢
      have i1 : (0 : Int) < (m : Int) := by omega
      have hout : out.length ≤ 1048576 := by omega
      clear hm
      go_wp2_with fail
      refine (HCall.out _ hbl).mono ?_
      rintro e W2 ⟨ht, hb2⟩
      have hB2 := bstep hbl hb2
      have ho2 := owns_below ho hb2
      have hz2 := hB2.size
      clear ho hb2
      cases hT : writeL (d.drop k) with
      | none =>
        rw [wrtP_none hT] at ht
        obtain ⟨ky, vl, g, a3, n3, c3, rfl⟩ := ht
        have HW : Hid (writesL d = none) := wrSo_bad HSo.out hlt hT
        clear hT HCall
        go_wp2
        refine bodyPost_ret (v := .tuple #[.slice none 0 0, .bool false]) (by simp [results, Try.results86, go_sem]) rfl ?_
        rw [wsP_none HW.out]
        exact ⟨rfl, by (repeat (first | exact Below.refl _ _ | assumption | refine Below.drew ?_ | refine balloc ?_ _ | refine bset ?_ (by simp; omega) _ | refine bset ?_ (by simp) _ | refine bstep ?_ (by assumption)))⟩
      | some p =>
        obtain ⟨y, r⟩ := p
        rw [wrtP_some hT] at ht
        obtain ⟨a3, c3, rfl, V3⟩ := ht
        obtain ⟨hr, hso⟩ := wrSo_step HSo.out hlt hT
        have hp : 0 < wrN y := by unfold wrN; omega
        have HSo2 : Hid (WrSo d (k + wrN y) (out ++ [y])) := hso
        have hle := hso.1
        have hrl : r.length = d.length - (k + wrN y) := by rw [hr, List.length_drop]
        have hV := V3 w HV.out
        have hcc : r.length ≤ c3 ∧ c3 ≤ 9223372036854775807 := by
          obtain ⟨_, _, e, q1, q2, _⟩ := hV
          simp only [Value.slice.injEq, true_and] at e
          unfold maxLen at q2
          omega
        have HV2 : Hid (BytesV w (.slice a3 (d.length - (k + wrN y)) c3) (d.drop (k + wrN y))) := by
          rw [Hid, ← hrl, ← hr]
          exact hV
        rw [hrl] at hcc
        have HRL : Hid (r.length = d.length - (k + wrN y)) := hrl
        obtain ⟨hc3, hc4⟩ := hcc
        clear hV V3 hT HCall hso hr hrl
        go_wp2_with (at_builtin; refine wpList_pushWri _ rfl _ _ rfl w.heap.size _ out rfl y _ rfl ((ho2.alloc _).alloc _) ?c1 hout ?c3 ?_)
        case c1 => exact .inr ⟨_, _, rfl, wriC_cells (b := W2.heap.size + 1) (o := 0) ⟨by simp [go_sem], by simp [go_sem], by simp [go_sem]⟩⟩
        case c3 => simp; omega
        intro v4 w4 o4 hg hB
        have hB4 : Below w.heap.size w w4 := hB w (by (repeat (first | exact Below.refl _ _ | assumption | refine Below.drew ?_ | refine balloc ?_ _ | refine bset ?_ (by simp; omega) _ | refine bset ?_ (by simp) _ | refine bstep ?_ (by assumption))))
        have HO4 : Hid (World.ownsRow w4 w.heap.size 111 3 v4 (out ++ [y]).length (wrisC (out ++ [y]))) := by
          rw [Hid]
          simpa using o4
        clear o4 hg hB ho2
        go_wp2
        rw [HRL.out]
        refine ⟨⟨k + wrN y, out ++ [y], a3, c3, rfl, hc3, hc4, HV2, HSo2, HO4.out, hB4⟩, ?_⟩
        have := HM.out
        simp [slLen]
        omega
    · have e : k = d.length := by omega
      have HW : Hid (writesL d = some out) := by
        have h := HSo.out
        rw [e] at h
        exact wrSo_end h
      obtain ⟨m, hm⟩ : ∃ m, d.length - k = m := ⟨_, rfl⟩
      rw [hm]
      have hm0 : m = 0 := by omega
      subst hm0
      clear hm e HV HSo
      obtain ⟨av, cv, rfl⟩ := owns_form ho
      go_wp2
      refine bodyPost_ret (v := .tuple #[.slice av out.length cv, .bool true]) (by simp [results, Try.results86, go_sem]) rfl ?_
      rw [wsP_some HW.out]
      exact ⟨⟨_, rfl, ho⟩, hbl⟩

end Go.Proofs.Ytdfapehonegeeaa

/-
  Ranges over functions whose iterators change memory of their own, and call other rounds: contracts with the set of blocks that the iterator may change.
-/
namespace Go.Proofs.Ytdfapehonegeeaa
open Go.RowKit

/-- what is said stands while only blocks of X turn, and X comes to have new blocks alone -/
def Stb {β : Type} (J : β → World → (Nat → Prop) → Prop) : Prop :=
  ∀ s W W' X X', J s W X → Mod X W W' → (∀ b, X b → X' b) → (∀ b, X' b → (X b ∨ W.heap.size ≤ b) ∧ b < W'.heap.size) → J s W' X'

/-- what a round keeps: all that the iterator leans on (R) and its own (X) -/
abbrev Kp (R X : Nat → Prop) (W W' : World) : Prop := Mod (fun k => ¬ (R k ∨ X k)) W W'

/-- an iterator: at whatever loop's yield it tells xs, one behind the other, until it is told to stop -/
def Seqx {α : Type} (P : Program) (g : Nat) (lb : Array Value) (enc : α → Value) (xs : List α) (R : Nat → Prop) (w : World) : Prop :=
  ∀ (l : Nat) (J Jx : List α → World → (Nat → Prop) → Prop) (W : World) (X : Nat → Prop), Mod (fun k => ¬ R k) w W → (∀ b, X b → b < W.heap.size) → Stb J → Stb Jx →
    (∀ pre x W1 X1, J pre W1 X1 → (∀ b, X b → X1 b) → (∀ b, X1 b → b < W1.heap.size) → pre ++ [x] <+: xs → YieldAt Fence.wide 0 P l #[enc x] W1 fun e W' =>
      (e = .returned (.bool true) ∧ J (pre ++ [x]) W' X1 ∧ Kp R X1 W1 W') ∨ (e = .returned (.bool false) ∧ Jx (pre ++ [x]) W' X1 ∧ Kp R X1 W1 W')) →
    J [] W X →
    CallsIn Fence.wide 0 P g (#[.func (.yield l) #[] #[]] ++ lb) W fun e W' => (∃ v, e = .returned v) ∧ ∃ X', (∀ b, X b → X' b) ∧ (J xs W' X' ∨ ∃ pre, pre <+: xs ∧ Jx pre W' X')

/-- how the body of a round may be left -/
def postX {α : Type} (R X : Nat → Prop) (I : List α → World → (Nat → Prop) → Prop) (Ix : Code → List α → World → (Nat → Prop) → Prop) (ys : List α) (W : World) : Exit → Act → World → Prop
  | .normal, _, W' => Kp R X W W' ∧ I ys W' X
  | .ret, _, W' => Kp R X W W' ∧ Ix .ret ys W' X
  | .exit id, _, W' => Kp R X W W' ∧ Ix (.exit id) ys W' X
  | .goto t, _, W' => Kp R X W W' ∧ Ix (.goto t) ys W' X
  | .panic _, _, _ => False
  | .outgrown, _, _ => False

theorem mod_put (W : World) (l : Nat) (o : Obj) : Mod (fun b => b = l) W (W.putObj l o) :=
  ⟨rfl, rfl, rfl, by simp [World.putObj], fun _ _ hn => World.putObj_heap_other hn⟩
theorem mod_alloc (F : Nat → Prop) (W : World) (o : Obj) : Mod F W (W.alloc o) := (Mod.refl F W).alloc o

set_option maxHeartbeats 1000000 in
theorem wp_rangeX {α : Type} {P : Program} {g : Operand} {p : Tmp} {assign body : Code} {Q : Exit → Act → World → Prop} {a : Act} {w : World}
    {gf : Nat} {lb : Array Value} (hg : a.eval g = .func (.func gf) #[] lb) (eg : ∀ args w, (callFunc gf args).run P w = .ok (.enter gf args) w)
    {enc : α → Value} {xs : List α} {R : Nat → Prop} (hseq : Seqx P gf lb enc xs R w) (hR : ∀ b, R b → b < w.heap.size)
    (I : List α → World → (Nat → Prop) → Prop) (Ix : Code → List α → World → (Nat → Prop) → Prop) (hI : Stb I) (hIx : ∀ c, Stb (Ix c)) (X0 : Nat → Prop) (hX0 : ∀ b, X0 b → b < w.heap.size) (h0 : I [] w X0)
    (Ax : α → Act → World → (Nat → Prop) → Prop) (hAx : ∀ x a', Stb (fun (_ : Unit) => Ax x a'))
    (hassign : ∀ (l : Nat) (pre : List α) (x : α) (W : World) (X : Nat → Prop) (K : Act → World → Prop), I pre W X → X l → (∀ b, X b → b < W.heap.size) → (∀ a' W', Mod (fun _ => False) W W' → Ax x a' W' X → K a' W') →
      assign.wpIn (Fence.wide.inRound l) 0 P (Exit.then K (fun _ _ _ => False)) { tmps := (#[p].zip #[enc x]).foldl (fun t (p, v) => t.setIfInBounds p v) a.tmps, defers := [] } W)
    (hbody : ∀ (l : Nat) (pre : List α) (x : α) (a' : Act) (W : World) (X : Nat → Prop), X l → (∀ b, X b → b < W.heap.size) → I pre W X → Ax x a' W X → pre ++ [x] <+: xs → body.wpIn (Fence.wide.inRound l) 0 P (postX R X I Ix (pre ++ [x]) W) a' W)
    (hdone : ∀ (D : Nat) (W : World) (X : Nat → Prop), w.heap.size ≤ D → X D → I xs W X → W.heap[D]? = some (.deferred (some [])) → Q .normal { a with defers := { target := .collected D, args := #[] } :: a.defers } W)
    (hstop : ∀ (D : Nat) (c : Code) (pre : List α) (W : World) (X : Nat → Prop), w.heap.size ≤ D → X D → pre <+: xs → Ix c pre W X → W.heap[D]? = some (.deferred (some [])) → c.wpIn Fence.wide 0 P Q { a with defers := { target := .collected D, args := #[] } :: a.defers } W) :
    (Code.rangeFunc g #[p] assign body).wpIn Fence.wide 0 P Q a w := by
  refine wpIn_rangeFunc ?_
  intro fn hfn
  rw [show Fence.wide.round = none from rfl]
  obtain ⟨rec, hrec⟩ : ∃ rec : LoopState → Option Code → Loop, rec = fun st pe => { state := st, pending := pe, fn, tmps := a.tmps, params := #[p], assign, body, defers := w.heap.size } := ⟨_, rfl⟩
  obtain ⟨W1, hW1⟩ : ∃ W1, (w.alloc (.deferred (some []))).alloc (.loop (rec .ready none)) = W1 := ⟨_, rfl⟩
  have hz1 : W1.heap.size = w.heap.size + 2 := by rw [← hW1]; simp
  have hL1 : W1.heap[w.heap.size + 1]? = some (.loop (rec .ready none)) := by
    rw [← hW1]
    have h := World.alloc_heap_new (w.alloc (.deferred (some []))) (.loop (rec .ready none))
    rwa [World.size_alloc] at h
  have hK1 : W1.heap[w.heap.size]? = some (.deferred (some [])) := by
    rw [← hW1]
    exact (Below.heap_alloc _ _ _ (by simp)).trans (World.alloc_heap_new w _)
  have hM1 : ∀ F, Mod F w W1 := fun F => by rw [← hW1]; exact (mod_alloc F w _).alloc _
  refine ⟨w.heap.size + 1, [{ target := .collected w.heap.size, args := #[] }], W1, { target := .fn (.func gf) lb, args := #[.func (.yield (w.heap.size + 1)) #[] #[]] }, W1, gf,
    #[.func (.yield (w.heap.size + 1)) #[] #[]] ++ lb, W1, ?_, ?_, ?_, ?_, (fun h => (by cases h)), ?_⟩
  · rw [← hW1, hrec]
    exact run_enterLoop_outer _ _ _ _ _
  · simp only [resolve, hg]
    simp [go_sem]
  · intro f' _
    trivial
  · simp [invoke, go_sem, eg]
  obtain ⟨N, hN⟩ : ∃ N, N = w.heap.size := ⟨_, rfl⟩
  rw [← hN] at hL1 hK1 hz1 ⊢
  have key : ∀ (st : LoopState) (pe : Option Code) (G : World → (Nat → Prop) → Prop), (∀ W W' X X', G W X → Mod X W W' → (∀ b, X b → X' b) → (∀ b, X' b → (X b ∨ W.heap.size ≤ b) ∧ b < W'.heap.size) → G W' X') →
      ∀ (W W' : World) (X X' : Nat → Prop), ((∃ Y, G W Y ∧ (∀ b, X b → Y b) ∧ (∀ b, Y b → b < W.heap.size) ∧ Y (N + 1) ∧ Y N) ∧ W.heap[N + 1]? = some (.loop (rec st pe)) ∧ W.heap[N]? = some (.deferred (some [])) ∧ ¬ X (N + 1) ∧ ¬ X N) →
        Mod X W W' → (∀ b, X b → X' b) → (∀ b, X' b → (X b ∨ W.heap.size ≤ b) ∧ b < W'.heap.size) →
        ((∃ Y, G W' Y ∧ (∀ b, X' b → Y b) ∧ (∀ b, Y b → b < W'.heap.size) ∧ Y (N + 1) ∧ Y N) ∧ W'.heap[N + 1]? = some (.loop (rec st pe)) ∧ W'.heap[N]? = some (.deferred (some [])) ∧ ¬ X' (N + 1) ∧ ¬ X' N) := by
    rintro st pe G hG W W' X X' ⟨⟨Y, hg0, hXY, hYa, hYl, hYd⟩, hl, hk, hnl, hnd⟩ hm hXX hXn
    have hlt : N + 1 < W.heap.size := (Array.getElem?_eq_some_iff.1 hl).1
    have hsz := hm.size
    refine ⟨⟨fun b => Y b ∨ X' b, hG W W' Y _ hg0 (hm.mono hXY) (fun b h => .inl h) (fun b h => ?_), fun b h => .inr h, fun b h => ?_, .inl hYl, .inl hYd⟩,
      (hm.block _ hlt hnl).trans hl, (hm.block _ (by omega) hnd).trans hk, fun h => ?_, fun h => ?_⟩
    · rcases h with h | h
      · exact ⟨.inl h, by have := hYa b h; omega⟩
      · have h2 := hXn b h
        exact ⟨h2.1.imp (hXY b) id, h2.2⟩
    · rcases h with h | h
      · have := hYa b h
        omega
      · exact (hXn b h).2
    · rcases (hXn _ h).1 with h | h
      · exact hnl h
      · omega
    · rcases (hXn _ h).1 with h | h
      · exact hnd h
      · omega
  refine (hseq (N + 1)
    (fun pre W X => (∃ Y, I pre W Y ∧ (∀ b, X b → Y b) ∧ (∀ b, Y b → b < W.heap.size) ∧ Y (N + 1) ∧ Y N) ∧ W.heap[N + 1]? = some (.loop (rec .ready none)) ∧ W.heap[N]? = some (.deferred (some [])) ∧ ¬ X (N + 1) ∧ ¬ X N)
    (fun pre W X => ∃ c, (∃ Y, Ix c pre W Y ∧ (∀ b, X b → Y b) ∧ (∀ b, Y b → b < W.heap.size) ∧ Y (N + 1) ∧ Y N) ∧ W.heap[N + 1]? = some (.loop (rec .done (some c))) ∧ W.heap[N]? = some (.deferred (some [])) ∧ ¬ X (N + 1) ∧ ¬ X N)
    W1 (fun _ => False) (hM1 _) (fun _ h => h.elim) (fun s W W' X X' h => key .ready none (I s) (hI s) W W' X X' h)
    (fun s W W' X X' ⟨c, h⟩ hm h1 h2 => ⟨c, key .done (some c) (Ix c s) (hIx c s) W W' X X' h hm h1 h2⟩)
    ?_ ⟨⟨fun b => X0 b ∨ b = N ∨ b = N + 1, hI _ _ _ X0 _ h0 (hM1 _) (fun b h => .inl h) (fun b h => ?_), fun _ h => h.elim, fun b h => ?_, .inr (.inr rfl), .inr (.inl rfl)⟩, hL1, hK1, fun h => h, fun h => h⟩).mono ?_
  rotate_left
  · rw [hz1]
    rcases h with h | rfl | rfl
    · exact ⟨.inl h, by have := hX0 b h; omega⟩
    · exact ⟨.inr (by omega), by omega⟩
    · exact ⟨.inr (by omega), by omega⟩
  · rw [hz1]
    rcases h with h | rfl | rfl
    · have := hX0 b h
      omega
    · omega
    · omega
  · rintro e W2 ⟨⟨v, rfl⟩, X', _, (⟨⟨Y, hi, hXY, hYa, hYl, hYd⟩, hl, hk, hnl, hnd⟩ | ⟨pre, hpre, c, ⟨Y, hi, hXY, hYa, hYl, hYd⟩, hl, hk, hnl, hnd⟩)⟩
    all_goals
      have hlt : N + 1 < W2.heap.size := (Array.getElem?_eq_some_iff.1 hl).1
      have hput : ∀ o, Mod Y W2 (W2.putObj (N + 1) o) := fun o => (mod_put W2 (N + 1) o).mono (fun b h => by rw [h]; exact hYl)
      have hal : ∀ o b, Y b → (Y b ∨ W2.heap.size ≤ b) ∧ b < (W2.putObj (N + 1) o).heap.size := fun o b h => ⟨.inl h, by have := hYa b h; have := (hput o).size; omega⟩
    · refine ⟨none, _, by have := run_endLoop (P := P) hl (by rw [hrec]; simp); rw [hrec] at this; exact this, ?_⟩
      exact hdone N _ Y (by omega) hYd (hI _ _ _ _ _ hi (hput _) (fun _ h => h) (hal _)) ((World.putObj_heap_other (by omega)).trans hk)
    · refine ⟨some c, _, by have := run_endLoop (P := P) hl (by rw [hrec]; simp); rw [hrec] at this; exact this, ?_⟩
      exact hstop N c pre _ Y (by omega) hYd hpre (hIx c _ _ _ _ _ hi (hput _) (fun _ h => h) (hal _)) ((World.putObj_heap_other (by omega)).trans hk)
  · rintro pre x W X1 ⟨⟨Y, hi, hXY, hYa, hYl, hYd⟩, hl, hk, hnl, hnd⟩ _ _ hpre
    have hy := run_yield (P := P) (args := #[enc x]) hl (by rw [hrec]; rfl)
    rw [hrec] at hy
    refine ⟨fn, _, assign, body, hy, roundIn_of_wpIn hfn (hassign _ pre x W Y _ hi hYl hYa ?_)⟩
    clear hy
    intro a' Wa hma hax
    have hsa := hma.size
    have hlt0 : N + 1 < W.heap.size := (Array.getElem?_eq_some_iff.1 hl).1
    have hla : Wa.heap[N + 1]? = some (.loop (rec .ready none)) := (hma.block _ hlt0 (fun h => h)).trans hl
    have hka : Wa.heap[N]? = some (.deferred (some [])) := (hma.block _ (by omega) (fun h => h)).trans hk
    have hia : I pre Wa Y := hI _ _ _ _ _ hi (hma.mono (fun _ h => h.elim)) (fun _ h => h) (fun b h => ⟨.inl h, by have := hYa b h; omega⟩)
    refine ⟨_, run_beginRound hla (by rw [hrec]), ?_⟩
    obtain ⟨Wb, hWb⟩ : ∃ Wb, Wa.putObj (N + 1) (.loop { rec .ready none with state := .busy }) = Wb := ⟨_, rfl⟩
    have hmb : Mod (fun b => b = N + 1) Wa Wb := by rw [← hWb]; exact mod_put _ _ _
    have hsb := hmb.size
    have hlb : Wb.heap[N + 1]? = some (.loop { rec .ready none with state := .busy }) := by rw [← hWb]; exact World.putObj_heap_same (by omega)
    have hkb : Wb.heap[N]? = some (.deferred (some [])) := (hmb.block _ (by omega) (by omega)).trans hka
    have hmY : Mod Y Wa Wb := hmb.mono (fun b h => by rw [h]; exact hYl)
    have halb : ∀ b, Y b → (Y b ∨ Wa.heap.size ≤ b) ∧ b < Wb.heap.size := fun b h => ⟨.inl h, by have := hYa b h; omega⟩
    rw [hWb]
    refine wpIn_mono (hbody _ pre x a' Wb Y hYl (fun b h => (halb b h).2) (hI _ _ _ _ _ hia hmY (fun _ h => h) halb) (hAx x a' () _ _ _ _ hax hmY (fun _ h => h) halb) hpre) ?_
    have fin : ∀ (G : World → (Nat → Prop) → Prop), (∀ W W' X X', G W X → Mod X W W' → (∀ b, X b → X' b) → (∀ b, X' b → (X b ∨ W.heap.size ≤ b) ∧ b < W'.heap.size) → G W' X') → ∀ (jump : Option Code) (W3 : World), Kp R Y Wb W3 → G W3 Y →
        ∃ W4, (Instr.endRound (N + 1) jump).run P W3 = .ok (.bool jump.isNone) W4 ∧ Kp R X1 W W4 ∧
          ((∃ Y, G W4 Y ∧ (∀ b, X1 b → Y b) ∧ (∀ b, Y b → b < W4.heap.size) ∧ Y (N + 1) ∧ Y N) ∧ W4.heap[N + 1]? = some (.loop (rec (if jump.isNone then .ready else .done) jump)) ∧ W4.heap[N]? = some (.deferred (some [])) ∧ ¬ X1 (N + 1) ∧ ¬ X1 N) := by
      intro G hG jump W3 hk3 hg3
      have hs3 := hk3.size
      have hl3 : W3.heap[N + 1]? = some (.loop { rec .ready none with state := .busy }) := (hk3.block _ (by omega) (fun h => h (.inr hYl))).trans hlb
      have hkd3 : W3.heap[N]? = some (.deferred (some [])) := (hk3.block _ (by omega) (fun h => h (.inr hYd))).trans hkb
      have hrun := run_endRound (P := P) jump hl3
      obtain ⟨W4, hW4⟩ : ∃ W4, W3.putObj (N + 1) (.loop (rec (if jump.isNone then .ready else .done) jump)) = W4 := ⟨_, rfl⟩
      have hm4 : Mod (fun b => b = N + 1) W3 W4 := by rw [← hW4]; exact mod_put _ _ _
      have hs4 := hm4.size
      have hnR : ¬ (R (N + 1) ∨ X1 (N + 1)) := by
        rintro (h | h)
        · have := hR _ h
          omega
        · exact hnl h
      refine ⟨W4, by rw [← hW4, hrec]; rw [hrec] at hrun; exact hrun, ?_, ⟨Y, hG _ _ _ _ hg3 (hm4.mono (fun b h => by rw [h]; exact hYl)) (fun _ h => h) (fun b h => ⟨.inl h, by have := hYa b h; omega⟩), hXY, fun b h => by have := hYa b h; omega, hYl, hYd⟩, by rw [← hW4]; exact World.putObj_heap_same (by omega), (hm4.block _ (by omega) (by omega)).trans hkd3, hnl, hnd⟩
      have k1 : Kp R X1 W Wa := hma.mono (fun _ h => h.elim)
      have k2 : Kp R X1 Wa Wb := hmb.mono (fun b h => by rw [h]; exact hnR)
      have k3 : Kp R X1 Wb W3 := hk3.mono (fun b h => fun hn => h (Or.imp id (hXY b) hn))
      have k4 : Kp R X1 W3 W4 := hm4.mono (fun b h => by rw [h]; exact hnR)
      exact ((k1.trans k2).trans k3).trans k4
    rintro e a3 W3 hp
    cases e with
    | normal =>
      obtain ⟨hk3, hi3⟩ := hp
      obtain ⟨W4, hr, hkp, hj⟩ := fin (I (pre ++ [x])) (hI _) none W3 hk3 hi3
      exact ⟨_, W4, hr, .inl ⟨rfl, hj, hkp⟩⟩
    | ret =>
      obtain ⟨hk3, hi3⟩ := hp
      obtain ⟨W4, hr, hkp, hj⟩ := fin (Ix .ret (pre ++ [x])) (hIx _ _) (some .ret) W3 hk3 hi3
      exact ⟨_, W4, hr, .inr ⟨rfl, ⟨_, hj⟩, hkp⟩⟩
    | exit id =>
      obtain ⟨hk3, hi3⟩ := hp
      obtain ⟨W4, hr, hkp, hj⟩ := fin (Ix (.exit id) (pre ++ [x])) (hIx _ _) (some (.exit id)) W3 hk3 hi3
      exact ⟨_, W4, hr, .inr ⟨rfl, ⟨_, hj⟩, hkp⟩⟩
    | goto t =>
      obtain ⟨hk3, hi3⟩ := hp
      obtain ⟨W4, hr, hkp, hj⟩ := fin (Ix (.goto t) (pre ++ [x])) (hIx _ _) (some (.goto t)) W3 hk3 hi3
      exact ⟨_, W4, hr, .inr ⟨rfl, ⟨_, hj⟩, hkp⟩⟩
    | panic ch => exact hp.elim
    | outgrown => exact hp.elim

end Go.Proofs.Ytdfapehonegeeaa


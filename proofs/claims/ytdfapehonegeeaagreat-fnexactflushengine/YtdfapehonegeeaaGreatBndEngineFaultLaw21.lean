import Derived.Test.YtdfapehonegeeaaGreatBndEngineFaultLaw11
import Derived.Test.YtdfapehonegeeaaGreatBndEngineFaultLaw9
import Derived.Test.YtdfapehonegeeaaGreatBndEngineFaultLaw16
import Derived.Test.YtdfapehonegeeaaGreatBndEngineFaultLaw5
import Derived.Deep.QuietTactic

/-
  A region that draws its order, none of whose operations breaks what is asked of the world.
-/
namespace Go.Proofs.YtdfapehonegeeaaGreat
open Go.RowKit

section
variable {P : Program} {ops : Array Oper} {Q : Exit → Act → World → Prop} {md : Region.Mode} {S : World → Prop} {t : Nat}

theorem upto_firstN {i : Nat} {oi : Oper} {v : Value} (hi : ops[i]? = some oi) (hsel : Region.noSelect ops = true) (ht : ops[t]? = none)
    (hQ : ∀ c a w, Q (.panic c) (a.put oi.dst v) w → Q (.panic c) a w) :
    ∀ (f : Nat) (listed : Array Bool) (a : Act) (w : World),
      (∀ j oj, ops[j]? = some oj → j ≠ i → listed.getD j true = false → (∀ e ∈ oj.after, Region.binds md e = true → e.on ≠ i) → oi.apart ops oj = true) →
      i ∈ Region.ready md ops listed → YieldsIf P ops S oi v a → S w →
      wpUpto P md ops Q S t f (listed.setIfInBounds i true) (a.put oi.dst v) w → wpUpto P md ops Q S t (f + 1) listed a w := by
  intro f
  induction f with
  | zero =>
    intro listed a w _ hr hy hS H
    refine ⟨fun h => (by rw [h] at hr; cases hr), fun j hj => ?_⟩
    by_cases hji : j = i
    · subst hji
      exact hy.wpOp hi hS ⟨fun _ => hS, H⟩
    · have hm := ready_mono hj hji
      rw [H.1] at hm
      cases hm
  | succ f ih =>
    intro listed a w hfree hr hy hS H
    refine ⟨fun h => (by rw [h] at hr; cases hr), fun j hj => ?_⟩
    by_cases hji : j = i
    · subst hji
      exact hy.wpOp hi hS ⟨fun _ => hS, H⟩
    · obtain ⟨hjun, oj, hoj, hall⟩ := mem_ready.1 hj
      have hun := (mem_ready.1 hr).1
      have hnl : ¬ listed.getD i false = true := by
        intro h1
        rcases Nat.lt_or_ge i listed.size with h' | h'
        · simp [h'] at hun h1
          rw [hun] at h1
          cases h1
        · simp [Array.getElem?_eq_none h'] at h1
      have hnot : ∀ e ∈ oj.after, Region.binds md e = true → e.on ≠ i := fun e he hb heq => hnl (by rw [← heq]; exact hall e he hb)
      have hjt : j ≠ t := by
        rintro rfl
        rw [ht] at hoj
        cases hoj
      have h1 := H.2 j (ready_mono hj hji)
      have h2 := wpOp_putIf hoj (hfree j oj hoj hji hjun hnot) (fun cs b => Region.noSelect_spec hsel i oi cs b hi) (fun cs b => Region.noSelect_spec hsel j oj cs b hoj) hQ hy h1
      refine wpOp_mono (fun a' w' h3 => ⟨h3.2.1, ih (listed.setIfInBounds j true) a' w' ?_ (ready_mono hr (Ne.symm hji)) h3.1 (h3.2.1 hjt) ?_⟩) h2
      · intro k ok hk hki hunk hno
        refine hfree k ok hk hki ?_ hno
        by_cases hjk : j = k
        · subst hjk; exact hjun
        · rw [getD_set_ne true hjk] at hunk; exact hunk
      · rw [Array.setIfInBounds_comm _ _ hji]
        exact h3.2.2

/-- number i is taken first -/
theorem upto_takeN {i : Nat} {oi : Oper} {v : Value} {f : Nat} {listed : Array Bool} {a : Act} {w : World} (hi : ops[i]? = some oi) (hsel : Region.noSelect ops = true) (ht : ops[t]? = none)
    (hf : Region.free md ops listed i = true) (hr : (Region.ready md ops listed).contains i = true) (hQ : ∀ c a w, Q (.panic c) (a.put oi.dst v) w → Q (.panic c) a w)
    (hwd : Region.wanted oi (yielded ops a.tmps) = true) (hS : S w) (hy : ∀ w, S w → (execOp a.eval oi).run P w = .ok (.value v) w)
    (h : wpUpto P md ops Q S t f (listed.setIfInBounds i true) (a.put oi.dst v) w) : wpUpto P md ops Q S t (f + 1) listed a w :=
  upto_firstN hi hsel ht hQ f listed a w (Region.free_spec hi hf) (by simpa using hr) (Or.inl ⟨hwd, hy⟩) hS h
/-- number i is guarded, and not asked for -/
theorem upto_skipN {i : Nat} {oi : Oper} {f : Nat} {listed : Array Bool} {a : Act} {w : World} (hi : ops[i]? = some oi) (hsel : Region.noSelect ops = true) (ht : ops[t]? = none)
    (hf : Region.free md ops listed i = true) (hr : (Region.ready md ops listed).contains i = true) (hQ : ∀ c a w, Q (.panic c) (a.put oi.dst undef) w → Q (.panic c) a w)
    (hwd : Region.wanted oi (yielded ops a.tmps) = false) (hS : S w)
    (h : ∀ u : Value, wpUpto P md ops Q S t f (listed.setIfInBounds i true) (a.put oi.dst u) w) : wpUpto P md ops Q S t (f + 1) listed a w :=
  upto_firstN hi hsel ht hQ f listed a w (Region.free_spec hi hf) (by simpa using hr) (Or.inr ⟨hwd, rfl⟩) hS (h undef)
end

end Go.Proofs.YtdfapehonegeeaaGreat

/-
  A text among bytes: l6Text and textIn.
-/
namespace Go.Proofs.YtdfapehonegeeaaGreat
open Go.RowKit
set_option linter.unusedSectionVars false
variable [DecidableEq Wri] [Inhabited Wri] [DecidableEq BytesR] [Inhabited BytesR] [DecidableEq Rw] [Inhabited Rw] [DecidableEq TabR] [Inhabited TabR]
set_option linter.unusedVariables false
set_option linter.unusedSimpArgs false
attribute [local go_sem ↓] Go.wp_at_zero Go.wp_at_succ

def txS (d : List Byte) : ByteArray := match textL d with | some p => p.1 | none => ⟨#[]⟩
def txE (a : Nat) (d : List Byte) : Int := match textL d with | some p => (a : Int) + 1 + p.1.size | none => -1
theorem drop_cons {d : List Byte} {a : Nat} (h : a < d.length) : d.drop a = d.getD a 0 :: d.drop (a + 1) := by
  rw [List.drop_eq_getElem_cons h]
  simp [List.getD, h]
theorem textL_at {d : List Byte} {a : Nat} (h : a < d.length) : textL (d.drop a) = if (d.getD a 0).val + (a + 1) ≤ d.length then some (bstr ((d.drop (a + 1)).take (d.getD a 0).val), d.drop (a + 1 + (d.getD a 0).val)) else none := by
  rw [drop_cons h]
  unfold textL
  dsimp only
  rw [List.length_drop, List.drop_drop]
  by_cases hh : (d.getD a 0).val + (a + 1) ≤ d.length
  · rw [if_pos hh, if_pos (by omega)]
  · rw [if_neg hh, if_neg (by omega)]

set_option maxHeartbeats 2000000 in
theorem l6Text_any (x : Value) (d : List Byte) (a : Nat) (w : World) (hx : BytesV w x d) (ha : a ≤ d.length) (hn : d.length ≤ 1048576) :
    Calls Tryz.prog 146 #[x, .int .i64 a] w fun e w' => e = .returned (.tuple #[.string (txS (d.drop a)), .int .i64 (txE a (d.drop a))]) ∧ w' = w := by
  have hX := hx
  obtain ⟨ax, cx, rfl, hcx, hmx, hx⟩ := hx
  unfold maxLen at hmx
  by_cases hlt : a < d.length
  · obtain ⟨b, o, rfl, g⟩ := hx a hlt
    have hT := textL_at hlt
    obtain ⟨m, hm⟩ : ∃ m, (d.getD a 0).val = m := ⟨_, rfl⟩
    have hm6 : m < 256 := by rw [← hm]; exact (d.getD a 0).isLt
    rw [hm] at g hT
    have v1 : IntKind.i64.wrap (m : Int) = m := by rw [IntKind.wrap_i64]; omega
    have v2 : IntKind.i64.wrap ((a : Int) + 1) = a + 1 := by rw [IntKind.wrap_i64]; omega
    have v3 : IntKind.i64.wrap ((a : Int) + 1 + m) = a + 1 + m := by rw [IntKind.wrap_i64]; omega
    have i1 : ¬ (d.length : Int) ≤ (a : Int) := by omega
    have i2 : (a : Int) < (d.length : Int) := by omega
    clear hx
    by_cases hh : m + (a + 1) ≤ d.length
    · rw [if_pos hh] at hT
      have HS : Hid (txS (d.drop a) = bstr ((d.drop (a + 1)).take m)) := by unfold Hid txS; rw [hT]
      have HE : Hid (txE a (d.drop a) = (a : Int) + 1 + m) := by
        unfold Hid txE
        rw [hT]
        dsimp only
        rw [size_bstr, List.length_take, List.length_drop, Nat.min_eq_left (by omega)]
      obtain ⟨a2, c2, run2, V2⟩ := cutB (a := some ⟨b, o, none⟩) (n := d.length) (cap := cx) ((a : Int) + 1) ((a : Int) + 1 + m) (by omega) (by omega) (by omega) hcx
      have V := V2 w d rfl hX
      have e1 : ((a : Int) + 1).toNat = a + 1 := by omega
      have e2 : ((a : Int) + 1 + m - ((a : Int) + 1)).toNat = m := by omega
      rw [e1, e2] at V
      rw [e2] at run2
      have hcv := conv_bytes V
      have i3 : ¬ (d.length : Int) < (a : Int) + 1 + m := by omega
      clear V2 V e1 e2 hT hX
      generalize bstr ((d.drop (a + 1)).take m) = S at *
      generalize d.length = n at *
      go_enter Tryz.func146, Tryz.ntmps146
      go_wp2
      refine bodyPost_ret (v := .tuple #[.string S, .int .i64 ((a : Int) + 1 + m)]) (by simp [results, Tryz.results146, go_sem]) rfl ?_
      exact ⟨by rw [HS.out, HE.out], rfl⟩
    · rw [if_neg hh] at hT
      have HS : Hid (txS (d.drop a) = ⟨#[]⟩) := by unfold Hid txS; rw [hT]
      have HE : Hid (txE a (d.drop a) = -1) := by unfold Hid txE; rw [hT]
      have i3 : (d.length : Int) < (a : Int) + 1 + m := by omega
      clear hT hX
      generalize d.length = n at *
      go_enter Tryz.func146, Tryz.ntmps146
      go_wp2
      refine bodyPost_ret (v := .tuple #[.string ⟨#[]⟩, .int .i64 (-1)]) (by simp [results, Tryz.results146, go_sem]) rfl ?_
      exact ⟨by rw [HS.out, HE.out], rfl⟩
  · have e : a = d.length := by omega
    subst e
    have HS : Hid (txS (d.drop d.length) = ⟨#[]⟩) := by rw [Hid, List.drop_length]; rfl
    have HE : Hid (txE d.length (d.drop d.length) = -1) := by rw [Hid, List.drop_length]; rfl
    have i1 : (d.length : Int) ≤ (d.length : Int) := by omega
    clear hX hx
    generalize d.length = n at *
    go_enter Tryz.func146, Tryz.ntmps146
    go_wp2
    refine bodyPost_ret (v := .tuple #[.string ⟨#[]⟩, .int .i64 (-1)]) (by simp [results, Tryz.results146, go_sem]) rfl ?_
    exact ⟨by rw [HS.out, HE.out], rfl⟩

end Go.Proofs.YtdfapehonegeeaaGreat

/-
  A text among bytes: the program's textIn.
-/
namespace Go.Proofs.YtdfapehonegeeaaGreat
open Go.RowKit
set_option linter.unusedSectionVars false
variable [DecidableEq Wri] [Inhabited Wri] [DecidableEq BytesR] [Inhabited BytesR] [DecidableEq Rw] [Inhabited Rw] [DecidableEq TabR] [Inhabited TabR]
set_option linter.unusedVariables false
set_option linter.unusedSimpArgs false
attribute [local go_sem ↓] Go.wp_at_zero Go.wp_at_succ

/-- what textIn answers -/
def TxtP (d : List Byte) (x : Value) (e : Ending) : Prop :=
  match textL d with
  | none => e = .returned (.tuple #[.string ⟨#[]⟩, .slice none 0 0, .bool false])
  | some p => ∃ a c, e = .returned (.tuple #[.string p.1, .slice a p.2.length c, .bool true]) ∧ ∀ W, BytesV W x d → BytesV W (.slice a p.2.length c) p.2
theorem txtP_none {d : List Byte} {x : Value} {e : Ending} (h : textL d = none) : TxtP d x e = (e = .returned (.tuple #[.string ⟨#[]⟩, .slice none 0 0, .bool false])) := by unfold TxtP; rw [h]
theorem txtP_some {d : List Byte} {x : Value} {e : Ending} {s : ByteArray} {r : List Byte} (h : textL d = some (s, r)) : TxtP d x e = (∃ a c, e = .returned (.tuple #[.string s, .slice a r.length c, .bool true]) ∧ ∀ W, BytesV W x d → BytesV W (.slice a r.length c) r) := by unfold TxtP; rw [h]

set_option maxHeartbeats 2000000 in
theorem textIn_any (x : Value) (d : List Byte) (w : World) (hx : BytesV w x d) (hn : d.length ≤ 1048576) :
    Calls Tryz.prog 182 #[x] w fun e w' => TxtP d x e ∧ Below w.heap.size w w' := by
  have hX := hx
  obtain ⟨ax, cx, rfl, hcx, hmx, hx⟩ := hx
  unfold maxLen at hmx
  by_cases hlt : 0 < d.length
  · obtain ⟨b, o, rfl, g⟩ := hx 0 hlt
    have hT := textL_at hlt
    rw [List.drop_zero] at hT
    obtain ⟨m, hm⟩ : ∃ m, (d.getD 0 0).val = m := ⟨_, rfl⟩
    have hm6 : m < 256 := by rw [← hm]; exact (d.getD 0 0).isLt
    rw [hm] at g hT
    rw [Nat.add_zero] at g
    have v1 : IntKind.i64.wrap (m : Int) = m := by rw [IntKind.wrap_i64]; omega
    have v3 : IntKind.i64.wrap (1 + (m : Int)) = 1 + m := by rw [IntKind.wrap_i64]; omega
    have i1 : ¬ (d.length : Int) = 0 := by omega
    have i2 : (0 : Int) < (d.length : Int) := by omega
    have i4 : ((d.length : Int) == 0) = false := by simpa using i1
    clear hx
    by_cases hh : m + (0 + 1) ≤ d.length
    · rw [if_pos hh] at hT
      obtain ⟨a2, c2, run2, V2⟩ := cutB (a := some ⟨b, o, none⟩) (n := d.length) (cap := cx) 1 (1 + m) (by omega) (by omega) (by omega) hcx
      obtain ⟨a3, c3, run3, V3⟩ := cutL (a := some ⟨b, o, none⟩) (n := d.length) (cap := cx) (1 + m) (by omega) (by omega) hcx
      have e1 : ((1 : Int)).toNat = 1 := rfl
      have e2 : (1 + (m : Int) - 1).toNat = m := by omega
      have e3 : (1 + (m : Int)).toNat = 1 + m := by omega
      have hcv : ∀ W, Below w.heap.size w W → (convert 22 9 (.slice a2 m c2)).run Tryz.prog W = .ok (.string (bstr ((d.drop 1).take m))) W := fun W hW => by
        have V := V2 W d rfl (BytesV_below hX hW)
        rw [e1, e2] at V
        exact conv_bytes V
      have V : ∀ W, BytesV W (.slice (some ⟨b, o, none⟩) d.length cx) d → BytesV W (.slice a3 (d.length - (1 + m)) c3) (d.drop (1 + m)) := fun W hW => by
        have V := V3 W d rfl hW
        rw [e3] at V
        exact V
      rw [e3] at run3
      rw [e2] at run2
      have HT : Hid (textL d = some (bstr ((d.drop 1).take m), d.drop (1 + m))) := by
        rw [Hid, hT, show (0 + 1 + m) = 1 + m by omega]
      have i3 : ¬ (d.length : Int) < 1 + m := by omega
      have hl3 : (d.drop (1 + m)).length = d.length - (1 + m) := List.length_drop
      have HL3 : Hid ((d.drop (1 + m)).length = d.length - (1 + m)) := hl3
      rw [← hl3] at V run3
      have HV : Hid (∀ W, BytesV W (.slice (some ⟨b, o, none⟩) d.length cx) d → BytesV W (.slice a3 (d.drop (1 + m)).length c3) (d.drop (1 + m))) := V
      clear V
      clear V2 V3 e1 e2 e3 hT hX hl3
      generalize bstr ((d.drop 1).take m) = S at *
      obtain ⟨D, hD⟩ : ∃ D, d.drop (1 + m) = D := ⟨_, rfl⟩
      rw [hD] at run3 HT HL3 HV
      clear hD
      generalize hn' : d.length = n at *
      have HX2 : Hid (d.length = n) := hn'
      clear hn'
      go_enter Tryz.func182, Tryz.ntmps182
      go_wp2
      refine wp_region_noPanic ?_
      refine region_upto (fun W => Below w.heap.size w W) 9 (by kernel_rfl) (Below.drew (Below.refl _ _)) (fun hS => ?_)
      refine upto_take (i := 0) (v := ?_) rfl (by kernel_rfl) (by kernel_rfl) (by kernel_rfl) (by kernel_rfl) (fun _ _ _ h => h) (by rfl) hS ?_ ?_
      rotate_left
      · intro wS hSw
        try dsimp only at hSw
        first | (go_simp; done) | (go_simp; with_reducible rfl)
      try simp only [Act.put, List.getElem_toArray, List.getElem_cons_zero, List.getElem_cons_succ, List.setIfInBounds_toArray, List.set_cons_zero, List.set_cons_succ]
      refine upto_take (i := 1) (v := ?_) rfl (by kernel_rfl) (by kernel_rfl) (by kernel_rfl) (by kernel_rfl) (fun _ _ _ h => h) (by rfl) hS ?_ ?_
      rotate_left
      · intro wS hSw
        try dsimp only at hSw
        first | (go_simp; done) | (go_simp; with_reducible rfl)
      try simp only [Act.put, List.getElem_toArray, List.getElem_cons_zero, List.getElem_cons_succ, List.setIfInBounds_toArray, List.set_cons_zero, List.set_cons_succ]
      refine upto_take (i := 2) (v := ?_) rfl (by kernel_rfl) (by kernel_rfl) (by kernel_rfl) (by kernel_rfl) (fun _ _ _ h => h) (by rfl) hS ?_ ?_
      rotate_left
      · intro wS hSw
        try dsimp only at hSw
        first | (go_simp; done) | (go_simp; with_reducible rfl)
      try simp only [Act.put, List.getElem_toArray, List.getElem_cons_zero, List.getElem_cons_succ, List.setIfInBounds_toArray, List.set_cons_zero, List.set_cons_succ]
      refine upto_take (i := 3) (v := ?_) rfl (by kernel_rfl) (by kernel_rfl) (by kernel_rfl) (by kernel_rfl) (fun _ _ _ h => h) (by rfl) hS ?_ ?_
      rotate_left
      · intro wS hSw
        try dsimp only at hSw
        first | (go_simp; done) | (go_simp; with_reducible rfl)
      try simp only [Act.put, List.getElem_toArray, List.getElem_cons_zero, List.getElem_cons_succ, List.setIfInBounds_toArray, List.set_cons_zero, List.set_cons_succ]
      refine upto_take (i := 4) (v := ?_) rfl (by kernel_rfl) (by kernel_rfl) (by kernel_rfl) (by kernel_rfl) (fun _ _ _ h => h) (by rfl) hS ?_ ?_
      rotate_left
      · intro wS hSw
        try dsimp only at hSw
        first | (go_simp; done) | (go_simp; with_reducible rfl)
      try simp only [Act.put, List.getElem_toArray, List.getElem_cons_zero, List.getElem_cons_succ, List.setIfInBounds_toArray, List.set_cons_zero, List.set_cons_succ]
      refine upto_take (i := 5) (v := ?_) rfl (by kernel_rfl) (by kernel_rfl) (by kernel_rfl) (by kernel_rfl) (fun _ _ _ h => h) (by rfl) hS ?_ ?_
      rotate_left
      · intro wS hSw
        try dsimp only at hSw
        first | (go_simp; done) | (go_simp; with_reducible rfl)
      try simp only [Act.put, List.getElem_toArray, List.getElem_cons_zero, List.getElem_cons_succ, List.setIfInBounds_toArray, List.set_cons_zero, List.set_cons_succ]
      refine upto_take (i := 6) (v := ?_) rfl (by kernel_rfl) (by kernel_rfl) (by kernel_rfl) (by kernel_rfl) (fun _ _ _ h => h) (by rfl) hS ?_ ?_
      rotate_left
      · intro wS hSw
        try dsimp only at hSw
        first | (go_simp; done) | (go_simp; with_reducible rfl)
      try simp only [Act.put, List.getElem_toArray, List.getElem_cons_zero, List.getElem_cons_succ, List.setIfInBounds_toArray, List.set_cons_zero, List.set_cons_succ]
      refine upto_step (i := 7) (by kernel_rfl) rfl ?_
      intro K hK
      go_simp
      refine hK _ _ (fun _ => hS) ?_
      clear hK K
      try simp only [Act.put, List.getElem_toArray, List.getElem_cons_zero, List.getElem_cons_succ, List.setIfInBounds_toArray, List.set_cons_zero, List.set_cons_succ]
      refine upto_step (i := 8) (by kernel_rfl) rfl ?_
      intro K hK
      go_simp
      refine hK _ _ (fun _ => hS) ?_
      clear hK K
      try simp only [Act.put, List.getElem_toArray, List.getElem_cons_zero, List.getElem_cons_succ, List.setIfInBounds_toArray, List.set_cons_zero, List.set_cons_succ]
      refine upto_step (i := 9) (by kernel_rfl) rfl ?_
      intro K hK
      go_simp
      refine hK _ _ (fun h => absurd rfl h) ?_
      clear hK K
      refine upto_done (by kernel_rfl) ?_
      refine NoPanic.normal ?_
      go_wp2
      refine bodyPost_ret (v := .tuple #[.string S, .slice a3 D.length c3, .bool true]) (by simp [results, Tryz.results182, go_sem]) rfl ?_
      rw [txtP_some HT.out]
      exact ⟨⟨a3, c3, rfl, HV.out⟩, hS⟩
    · rw [if_neg hh] at hT
      have HT : Hid (textL d = none) := hT
      have i3 : (d.length : Int) < 1 + m := by omega
      clear hT hX
      generalize d.length = n at *
      go_enter Tryz.func182, Tryz.ntmps182
      go_wp2
      refine bodyPost_ret (v := .tuple #[.string ⟨#[]⟩, .slice none 0 0, .bool false]) (by simp [results, Tryz.results182, go_sem]) rfl ?_
      rw [txtP_none HT.out]
      exact ⟨rfl, Below.refl _ _⟩
  · have e : d = [] := List.eq_nil_of_length_eq_zero (by omega)
    subst e
    clear hX hx
    go_enter Tryz.func182, Tryz.ntmps182
    go_wp2
    refine bodyPost_ret (v := .tuple #[.string ⟨#[]⟩, .slice none 0 0, .bool false]) (by simp [results, Tryz.results182, go_sem]) rfl ?_
    rw [txtP_none rfl]
    exact ⟨rfl, Below.refl _ _⟩

end Go.Proofs.YtdfapehonegeeaaGreat


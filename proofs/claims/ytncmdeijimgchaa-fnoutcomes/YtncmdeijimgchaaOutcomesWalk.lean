import Derived.Test.YtncmdeijimgchaaPrnOutcomesLaw23
import Derived.Test.YtncmdeijimgchaaPrnOutcomesLaw25
import Derived.Test.YtncmdeijimgchaaPrnOutcomesLaw27
import Derived.Test.YtncmdeijimgchaaPrnOutcomesLaw28
import Derived.Test.YtncmdeijimgchaaPrnOutcomesLaw29
import Derived.Test.YtncmdeijimgchaaPrnOutcomesLaw16
import Derived.Test.YtncmdeijimgchaaPrnOutcomesLaw17
import Derived.Test.YtncmdeijimgchaaPrnOutcomesLaw19
import Derived.Deep.DeepCutAuto
import Derived.BigQuiet
import Derived.Deep.QuietTactic
import Derived.Deep.RegionHeld3

/-
  An outcome that is clear stays so: the walk.
-/
set_option linter.unusedSimpArgs false
set_option linter.unusedVariables false
namespace Go.Proofs.Ytncmdeijimgchaa
open Go.RowKit
set_option linter.unusedSectionVars false
variable [DecidableEq Vot] [Inhabited Vot] [DecidableEq Slt] [Inhabited Slt] [DecidableEq SltR] [Inhabited SltR] [DecidableEq Bal] [Inhabited Bal] [DecidableEq Ledg] [Inhabited Ledg] [DecidableEq Leg] [Inhabited Leg] [DecidableEq Acc] [Inhabited Acc] [DecidableEq AccR] [Inhabited AccR] [DecidableEq AccsR] [Inhabited AccsR] [DecidableEq SltsR] [Inhabited SltsR] [DecidableEq Cont] [Inhabited Cont] [DecidableEq Logg] [Inhabited Logg] [DecidableEq LoggR] [Inhabited LoggR] [DecidableEq BytesR] [Inhabited BytesR] [DecidableEq RecsR] [Inhabited RecsR]
attribute [local go_sem ↓] Go.wp_at_zero Go.wp_at_succ

theorem makeAccs (w : World) : (Instr.makeSlice 32 (.int .i64 3) (.int .i64 3)).run Try.prog w = .ok (.slice (some ⟨w.heap.size, 0, none⟩) 3 3) (w.alloc (.cells #[.slice none 0 0, .slice none 0 0, .slice none 0 0] 57)) := by kernel_rfl
theorem intsField (u : Int) (v : Value) (w : World) : (Instr.field 30 (.agg #[.int .i64 u, v]) 1).run Try.prog w = .ok v w := by kernel_rfl
theorem news_V (w : World) : accsR.V (w.alloc (.cells #[.slice none 0 0, .slice none 0 0, .slice none 0 0] 57)) (.slice (some ⟨w.heap.size, 0, none⟩) 3 3) news := by
  refine ⟨some ⟨w.heap.size, 0, none⟩, 3, rfl, Nat.le_refl _, by decide, fun i hi => ?_⟩
  have e0 : sltsR.V (w.alloc (.cells #[.slice none 0 0, .slice none 0 0, .slice none 0 0] 57)) (.slice none 0 0) [] := ⟨none, 0, rfl, Nat.le_refl _, by decide, fun i hi => absurd hi (Nat.not_lt_zero _)⟩
  match i, hi with
  | 0, _ => exact ⟨w.heap.size, 0, .agg #[.slice none 0 0], rfl, rfl, fun j hj => by obtain rfl : j = 0 := by omega
                                                                                     simp [go_sem, lvAcc]; rfl, ⟨_, rfl, e0⟩⟩
  | 1, _ => exact ⟨w.heap.size, 0, .agg #[.slice none 0 0], rfl, rfl, fun j hj => by obtain rfl : j = 0 := by omega
                                                                                     simp [go_sem, lvAcc]; rfl, ⟨_, rfl, e0⟩⟩
  | 2, _ => exact ⟨w.heap.size, 0, .agg #[.slice none 0 0], rfl, rfl, fun j hj => by obtain rfl : j = 0 := by omega
                                                                                     simp [go_sem, lvAcc]; rfl, ⟨_, rfl, e0⟩⟩
theorem keepShs {w w' : World} {a0 : Addr} {x0 : Value} {bs os ns : Nat} {shs : List Int} (hb : Below w.heap.size w w') (g0 : w.cell? a0 = some x0) (g1 : ∀ i : Nat, (i : Int) < ns → w.cell? ⟨bs, os + i, none⟩ = some (.int .i64 (shs.getD i 0))) :
    Below w.heap.size w w' ∧ w'.cell? a0 = some x0 ∧ ∀ i : Nat, (i : Int) < ns → w'.cell? ⟨bs, os + i, none⟩ = some (.int .i64 (shs.getD i 0)) :=
  ⟨hb, cell_keep hb g0, fun i hi => cell_keep hb (g1 i hi)⟩
def outG (ns bs os : Nat) (shs : List Int) (l : List Acc) (k : Nat) : Nat → (Nat → Value) → Nat → Nat → World → Prop
  | 3, y, _, _, w => ∃ (R : List Int) (a : Option Addr) (c : Nat), y 28 = .slice a R.length c ∧ Rch R 3 ∧ IntsV w (.slice a R.length c) R
  | 12, y, _, _, _ => ∃ r : Nat, y 37 = .int .i64 r ∧ (r : Int) < ns
  | 13, y, _, _, _ => ∃ r : Nat, (r : Int) < ns ∧ y 38 = .pointer (some ⟨bs, os + r, none⟩)
  | 14, y, _, _, _ => ∃ sh : Int, y 39 = .int .i64 sh ∧ sh ∈ shs
  | 19, y, _, _, _ => ∃ r : Nat, y 44 = .int .i64 r ∧ (r : Int) < 4
  | 20, y, _, _, _ => ∃ q : Nat, y 45 = .int .i64 q ∧ q ≤ 1
  | 21, y, _, _, _ => ∃ ow : Int, y 46 = .int .i64 ow ∧ 1 ≤ ow ∧ ow ≤ 2
  | 22, y, lo, hi, w => ∃ (R : List Int) (sh ow : Int) (F : Nat → Prop) (a : Option Addr) (c : Nat), Rch R 3 ∧ sh ∈ shs ∧ (1 ≤ ow ∧ ow ≤ 2) ∧ y 47 = .agg #[.int .i64 (runD l R 9 sh k ow).code, .int .i64 (runD l R 9 sh k ow).value, .slice a (runD l R 9 sh k ow).accs.length c] ∧ accsR.O w lo F (.slice a (runD l R 9 sh k ow).accs.length c) (runD l R 9 sh k ow).accs ∧ ∀ b, F b → b < hi
  | 23, y, lo, hi, w => y 8 = .pointer (some ⟨lo, 0, none⟩) ∧ lo < hi ∧ (w.cell? ⟨lo, 0, none⟩ = some (.int .i64 0) ∧ w.cell? ⟨lo, 1, none⟩ = some (.int .i64 0) ∧ w.cell? ⟨lo, 2, none⟩ = some (.slice none 0 0)) ∧ ∀ o, w.frozen? ⟨lo, o, none⟩ = false
  | _, _, _, _, _ => True
def WasE (l : List Acc) (shs : List Int) (wv : Int) : Prop := wv = 0 ∨ ∃ ysf : Int → List Vot, (∀ s, s ∈ shs → Chs (slotsL l 9 s) (ysf s)) ∧ wv = outV (fun s => hdV (ysf s)) shs
theorem was_stays {l l' : List Acc} {shs : List Int} {wv : Int} {ysf : Int → List Vot} (h : WasE l shs wv) (h0 : ¬ wv = 0) (hys : ∀ s, s ∈ shs → Chs (slotsL l' 9 s) (ysf s)) (hid : ∀ s, s ∈ shs → idOk 9 s = true) (hs : ∀ s, idOk 9 s = true → Safe (slotsL l' 9 s)) (hm : ∀ s, idOk 9 s = true → ∀ u, isCh (slotsL l 9 s) u → isCh (slotsL l' 9 s) u) : outV (fun s => hdV (ysf s)) shs = wv := by
  rcases h with h | ⟨y, hy, e⟩
  · exact absurd h h0
  · rw [e] at h0 ⊢
    exact outV_stays (f := fun s => hdV (y s)) (fun s hs' hn => hdV_stays (hy s hs') (hys s hs') (hs s (hid s hs')) (hm s (hid s hs')) hn) h0
namespace outcomesLaw
set_option maxRecDepth 20000 in
set_option maxHeartbeats 16000000 in
theorem walk (x0 : Value) (d0 : List Byte) (w : World) (hx0 : bytesR.V w x0 d0) :
    Calls Try.prog 3 #[x0] w fun e w' => e = .returned (.bool true) ∧ Below w.heap.size w w' := by
  have hX0 := hx0
  obtain ⟨ax, cx, rfl⟩ := bytes_form hx0
  have hmk := makeAccs
  have hfl := intsField
  go_enter Try.func3, Try.ntmps3
  go_wp2_with fail
  refine (lwBig_any _ d0 _ hX0).mono ?_
  rintro e w' ⟨rfl, hw⟩
  obtain rfl : w = w' := hw.symm
  by_cases hbig : 1048576 < d0.length
  · rw [decide_eq_true hbig]
    go_wp2
    go_ret
    exact ⟨rfl, Below.refl _ _⟩
  rw [decide_eq_false hbig]
  have HX : Hid (bytesR.V w (.slice ax d0.length cx) d0) := hX0
  have hd0 : d0.length ≤ 1048576 := by omega
  clear hx0 hX0 hbig hw
  go_wp2_with fail
  refine (drawRight_any _ d0 _ HX.out hd0).mono ?_
  rintro e w1 ⟨v1, F1, ls, rfl, o1, hcf, hl1, hl4, hb1⟩
  have hV1 : legsR.V w1 v1 ls := legsR.ofO o1
  obtain ⟨al, cl, rfl⟩ := legs_form hV1
  have HV1 : Hid (legsR.V w1 (.slice al ls.length cl) ls) := hV1
  have HCf : Hid (contractFault 9 ls = 0) := hcf
  have HShs : Hid (1 ≤ (shardsL ls).length) := shards_some hcf hl1
  have hsl : shList 9 ls = shardsL ls := by unfold shList; rw [if_pos hcf]
  have hsc : shCode 9 ls = 0 := hcf
  have HSh : Hid (∀ W, Below w1.heap.size w1 W → Calls Try.prog 10 #[.agg #[.int .i64 9, .slice al ls.length cl]] W fun e w' => ∃ v, e = .returned (.agg #[.int .i64 0, v]) ∧ w'.ownsRow W.heap.size 2 1 v (shardsL ls).length (intsC (shardsL ls)) ∧ Below W.heap.size W w') := fun W hW => by
    have h := implShardsOf_any 9 (.slice al ls.length cl) ls W (legsR.below hV1 hW)
    rw [hsl, hsc] at h
    exact h
  have hsh3 : (shardsL ls).length ≤ 3 := sl_le _ _ _
  have HID : Hid (∀ s, s ∈ shardsL ls → idOk 9 s = true) := fun s hs => cf_id hcf hs
  clear hV1 o1 hcf hsl hsc hl1 hl4
  generalize ls.length = ll at *
  go_wp2_with fail
  refine (HSh.out _ (by (repeat (first | exact Below.refl _ _ | assumption | refine Below.drew ?_ | refine balloc ?_ _ | refine bset ?_ (by simp; omega) _ | refine bset ?_ (by simp) _ | refine bstep ?_ (by assumption))))).mono ?_
  rintro e w2 ⟨v2, rfl, o2, hb2⟩
  obtain ⟨a2, c2, rfl⟩ := owns_form o2
  have hz2 := hb2.size
  simp at hz2
  have b0 : w2.cell? ⟨w1.heap.size, 0, none⟩ = some (.int .i64 9) := cell_keep hb2 (by simp [go_sem])
  have b1 : w2.cell? ⟨w1.heap.size, 1, none⟩ = some (.slice al ll cl) := cell_keep hb2 (by simp [go_sem])
  have hB2 : Below w1.heap.size w1 w2 := by (repeat (first | exact Below.refl _ _ | assumption | refine Below.drew ?_ | refine balloc ?_ _ | refine bset ?_ (by simp; omega) _ | refine bset ?_ (by simp) _ | refine bstep ?_ (by assumption)))
  have HIV : Hid (IntsV w2 (.slice a2 (shardsL ls).length c2) (shardsL ls)) := IntsV_of_owns o2
  obtain ⟨_, _, hve, hsc2, hsm2, hsx⟩ := HIV.out
  simp only [Value.slice.injEq, true_and] at hve
  obtain ⟨rfl, rfl⟩ := hve
  unfold maxLen at hsm2
  have HSx : Hid (∀ i, i < (shardsL ls).length → ∃ bb o, a2 = some ⟨bb, o, none⟩ ∧ w2.cell? ⟨bb, o + i, none⟩ = some (.int .i64 ((shardsL ls).getD i 0))) := hsx
  clear o2 hb2 hsx HIV HSh
  obtain ⟨shs, hshs⟩ : ∃ shs, shs = shardsL ls := ⟨_, rfl⟩
  have HSS : Hid (shs = shardsL ls) := hshs
  rw [← hshs] at HShs hsh3 HID hsc2 HSx ⊢
  clear hshs
  obtain ⟨ns, hns⟩ : ∃ ns, ns = shs.length := ⟨_, rfl⟩
  have HNs : Hid (shs.length = ns) := hns.symm
  rw [← hns] at HShs hsh3 hsc2 HSx ⊢
  clear hns
  have hn1 : 1 ≤ ns := HShs.out
  have hn0 : ¬ ns = 0 := by omega
  have hnb : ((ns : Int) == 0) = false := by simp; omega
  have hV3 := news_V w2
  have hb3 : Below w2.heap.size w2 (w2.alloc (.cells #[.slice none 0 0, .slice none 0 0, .slice none 0 0] 57)) := balloc (Below.refl _ _) _
  have HV3 : Hid (accsR.V (w2.alloc (.cells #[.slice none 0 0, .slice none 0 0, .slice none 0 0] 57)) (.slice (some ⟨w2.heap.size, 0, none⟩) 3 3) news) := hV3
  go_wp2
  obtain ⟨w3, hw3⟩ : ∃ w3, w3 = w2.alloc (.cells #[.slice none 0 0, .slice none 0 0, .slice none 0 0] 57) := ⟨_, rfl⟩
  rw [← hw3] at HV3 hb3 ⊢
  clear hw3 hV3
  have hB3 : Below w1.heap.size w1 w3 := bstep hB2 hb3
  have hBw3 : Below w.heap.size w w3 := bstep hb1 hB3
  replace b0 := cell_keep hb3 b0
  replace b1 := cell_keep hb3 b1
  obtain ⟨bs, os, rfl, _⟩ := HSx.out 0 (by omega)
  have HSc : Hid (∀ i, i < ns → w3.cell? ⟨bs, os + i, none⟩ = some (.int .i64 (shs.getD i 0))) := fun i hi => by
    obtain ⟨bb, o, e, hc⟩ := HSx.out i hi
    simp only [Option.some.injEq, Addr.mk.injEq, and_true] at e
    obtain ⟨rfl, rfl⟩ := e
    exact cell_keep hb3 hc
  clear HSx hb3 hB2 hz2 hmk hfl
  go_loopw [5, 6, 7] (fun vl vw vk w' => ∃ (k : Nat) (l : List Acc) (av : Option Addr) (cv : Nat) (wv : Int), k ≤ 12 ∧ vl = .slice av 3 cv ∧ vw = .int .i64 wv ∧ vk = .int .i64 k ∧ Hid (accsR.V w' (.slice av 3 cv) l) ∧ Hid (l.length = 3) ∧ Hid (Inv l 9 k) ∧ Hid (WasE l shs wv) ∧ Below w3.heap.size w3 w') (fun _ _ vk _ => 12 - (intOf vk).toNat)
  case atStart => exact ⟨0, news, _, _, 0, by omega, rfl, rfl, rfl, HV3, rfl, inv_new 9, .inl rfl, Below.refl _ _⟩
  case round =>
    clear HV3
    obtain ⟨k, l, av, cv, wv, hk, rfl, rfl, rfl, HV, HL, HI, HW, hbl⟩ := hrel
    by_cases hlt : k < 12
    · have hlt' : (k : Int) < 12 := by omega
      have hBr : Below w.heap.size w wr := bstep hBw3 hbl
      have h1r : Below w1.heap.size w1 wr := bstep hB3 hbl
      have HRe : Hid (∀ W, Below wr.heap.size wr W → Calls Try.prog 12 #[.slice ax d0.length cx, .int .i64 k, .int .i64 3] W fun e w' => ∃ R v, e = .returned v ∧ w'.ownsRow W.heap.size 2 1 v R.length (intsC R) ∧ Rch R 3 ∧ Below W.heap.size W w') := fun W hW => reached_any _ d0 k 3 W (bytesR.below HX.out (bstep hBr hW)) hd0 (by omega) (by omega)
      have HA3 : Hid (∀ W, Below wr.heap.size wr W → Calls Try.prog 13 #[.slice ax d0.length cx, .int .i64 ((k : Int) + 30), .int .i64 ns] W fun e w' => ∃ r : Nat, e = .returned (.int .i64 r) ∧ (r : Int) < ns ∧ Below W.heap.size W w') := fun W hW => by
        have h := lwAtK_any _ d0 W (k + 30) ns (bytesR.below HX.out (bstep hBr hW)) hd0 (by omega) (by omega) (by omega)
        rw [show ((k + 30 : Nat) : Int) = (k : Int) + 30 by omega] at h
        exact h
      have HA6 : Hid (∀ W, Below wr.heap.size wr W → Calls Try.prog 13 #[.slice ax d0.length cx, .int .i64 ((k : Int) + 60), .int .i64 4] W fun e w' => ∃ r : Nat, e = .returned (.int .i64 r) ∧ (r : Int) < 4 ∧ Below W.heap.size W w') := fun W hW => by
        have h := lwAtK_any _ d0 W (k + 60) 4 (bytesR.below HX.out (bstep hBr hW)) hd0 (by omega) (by omega) (by omega)
        rw [show ((k + 60 : Nat) : Int) = (k : Int) + 60 by omega] at h
        exact h
      have HRun : Hid (∀ W R vR sh ow, Below wr.heap.size wr W → IntsV W vR R → Calls Try.prog 11 #[.slice av 3 cv, vR, .int .i64 9, .int .i64 sh, .int .i64 k, .int .i64 ow] W (RunE (runD l R 9 sh k ow) W)) := fun W R vR sh ow hW hR => implRun_u _ _ l R 9 sh k ow W (accsR.below HV.out hW) hR
      have HSr : Hid (∀ i, i < ns → wr.cell? ⟨bs, os + i, none⟩ = some (.int .i64 (shs.getD i 0))) := fun i hi => cell_keep hbl (HSc.out i hi)
      replace b0 := cell_keep hbl b0
      replace b1 := cell_keep hbl b1
      have hw30 : IntKind.i64.wrap ((k : Int) + 30) = (k : Int) + 30 := wrapId (by omega) (by omega)
      have hw60 : IntKind.i64.wrap ((k : Int) + 60) = (k : Int) + 60 := wrapId (by omega) (by omega)
      have zq : w1.heap.size < wr.heap.size := World.block_lt_of_cell? wr _ b0
      have zs : bs < wr.heap.size := World.block_lt_of_cell? wr _ (HSr.out 0 (by omega))
      generalize d0.length = dl at *
      have HSq : ∀ i : Nat, (i : Int) < ns → wr.cell? ⟨bs, os + i, none⟩ = some (.int .i64 (shs.getD i 0)) := fun i hi => HSr.out i (by omega)
      go_wp2_with fail
      refine wp_region_noPanic ?_
      refine region_upto (fun W => Below wr.heap.size wr W ∧ W.cell? ⟨w1.heap.size, 0, none⟩ = some (.int .i64 9) ∧ ∀ i : Nat, (i : Int) < ns → W.cell? ⟨bs, os + i, none⟩ = some (.int .i64 (shs.getD i 0))) 24 (by kernel_rfl) (keepShs (by (repeat (first | exact Below.refl _ _ | assumption | refine Below.drew ?_ | refine balloc ?_ _ | refine bset ?_ (by simp; omega) _ | refine bset ?_ (by simp) _ | refine bstep ?_ (by assumption)))) b0 HSq) (fun hS => ?_)
      refine upto_take (i := 0) (v := ?_) rfl (by kernel_rfl) (by kernel_rfl) (by kernel_rfl) (by kernel_rfl) (fun _ _ _ h => h) (by rfl) hS ?_ ?_
      rotate_left
      · intro wS hSw
        try dsimp only at hSw
        first | (go_simp; done) | (go_simp; with_reducible rfl)
      try simp only [Act.put, List.getElem_toArray, List.getElem_cons_zero, List.getElem_cons_succ, List.setIfInBounds_toArray, List.set_cons_zero, List.set_cons_succ]
      refine upto_take (i := 1) (v := ?_) rfl (by kernel_rfl) (by kernel_rfl) (by kernel_rfl) (by kernel_rfl) (fun _ _ _ h => h) (by rfl) hS ?_ ?_
      rotate_left
      · intro wS hSw
        try dsimp only at hSw
        first | (go_simp; done) | (go_simp; with_reducible rfl)
      try simp only [Act.put, List.getElem_toArray, List.getElem_cons_zero, List.getElem_cons_succ, List.setIfInBounds_toArray, List.set_cons_zero, List.set_cons_succ]
      refine upto_take (i := 2) (v := ?_) rfl (by kernel_rfl) (by kernel_rfl) (by kernel_rfl) (by kernel_rfl) (fun _ _ _ h => h) (by rfl) hS ?_ ?_
      rotate_left
      · intro wS hSw
        try dsimp only at hSw
        first | (go_simp; done) | (go_simp; with_reducible rfl)
      try simp only [Act.put, List.getElem_toArray, List.getElem_cons_zero, List.getElem_cons_succ, List.setIfInBounds_toArray, List.set_cons_zero, List.set_cons_succ]
      refine upto_take (i := 4) (v := ?_) rfl (by kernel_rfl) (by kernel_rfl) (by kernel_rfl) (by kernel_rfl) (fun _ _ _ h => h) (by rfl) hS ?_ ?_
      rotate_left
      · intro wS hSw
        try dsimp only at hSw
        first | (go_simp; done) | (go_simp; with_reducible rfl)
      try simp only [Act.put, List.getElem_toArray, List.getElem_cons_zero, List.getElem_cons_succ, List.setIfInBounds_toArray, List.set_cons_zero, List.set_cons_succ]
      refine upto_take (i := 5) (v := ?_) rfl (by kernel_rfl) (by kernel_rfl) (by kernel_rfl) (by kernel_rfl) (fun _ _ _ h => h) (by rfl) hS ?_ ?_
      rotate_left
      · intro wS hSw
        try dsimp only at hSw
        first | (go_simp; done) | (go_simp; with_reducible rfl)
      try simp only [Act.put, List.getElem_toArray, List.getElem_cons_zero, List.getElem_cons_succ, List.setIfInBounds_toArray, List.set_cons_zero, List.set_cons_succ]
      refine upto_take (i := 6) (v := ?_) rfl (by kernel_rfl) (by kernel_rfl) (by kernel_rfl) (by kernel_rfl) (fun _ _ _ h => h) (by rfl) hS ?_ ?_
      rotate_left
      · intro wS hSw
        try dsimp only at hSw
        first | (go_simp; done) | (go_simp; with_reducible rfl)
      try simp only [Act.put, List.getElem_toArray, List.getElem_cons_zero, List.getElem_cons_succ, List.setIfInBounds_toArray, List.set_cons_zero, List.set_cons_succ]
      refine upto_take (i := 7) (v := ?_) rfl (by kernel_rfl) (by kernel_rfl) (by kernel_rfl) (by kernel_rfl) (fun _ _ _ h => h) (by rfl) hS ?_ ?_
      rotate_left
      · intro wS hSw
        try dsimp only at hSw
        first | (go_simp; done) | (go_simp; with_reducible rfl)
      try simp only [Act.put, List.getElem_toArray, List.getElem_cons_zero, List.getElem_cons_succ, List.setIfInBounds_toArray, List.set_cons_zero, List.set_cons_succ]
      refine upto_take (i := 8) (v := ?_) rfl (by kernel_rfl) (by kernel_rfl) (by kernel_rfl) (by kernel_rfl) (fun _ _ _ h => h) (by rfl) hS ?_ ?_
      rotate_left
      · intro wS hSw
        try dsimp only at hSw
        first | (go_simp; done) | (go_simp; with_reducible rfl)
      try simp only [Act.put, List.getElem_toArray, List.getElem_cons_zero, List.getElem_cons_succ, List.setIfInBounds_toArray, List.set_cons_zero, List.set_cons_succ]
      refine upto_take (i := 9) (v := ?_) rfl (by kernel_rfl) (by kernel_rfl) (by kernel_rfl) (by kernel_rfl) (fun _ _ _ h => h) (by rfl) hS ?_ ?_
      rotate_left
      · intro wS hSw
        try dsimp only at hSw
        first | (go_simp; done) | (go_simp; with_reducible rfl)
      try simp only [Act.put, List.getElem_toArray, List.getElem_cons_zero, List.getElem_cons_succ, List.setIfInBounds_toArray, List.set_cons_zero, List.set_cons_succ]
      refine upto_take (i := 10) (v := ?_) rfl (by kernel_rfl) (by kernel_rfl) (by kernel_rfl) (by kernel_rfl) (fun _ _ _ h => h) (by rfl) hS ?_ ?_
      rotate_left
      · intro wS hSw
        try dsimp only at hSw
        first | (go_simp; done) | (go_simp; with_reducible rfl)
      try simp only [Act.put, List.getElem_toArray, List.getElem_cons_zero, List.getElem_cons_succ, List.setIfInBounds_toArray, List.set_cons_zero, List.set_cons_succ]
      refine upto_take (i := 11) (v := ?_) rfl (by kernel_rfl) (by kernel_rfl) (by kernel_rfl) (by kernel_rfl) (fun _ _ _ h => h) (by rfl) hS ?_ ?_
      rotate_left
      · intro wS hSw
        try dsimp only at hSw
        first | (go_simp; done) | (go_simp; with_reducible rfl)
      try simp only [Act.put, List.getElem_toArray, List.getElem_cons_zero, List.getElem_cons_succ, List.setIfInBounds_toArray, List.set_cons_zero, List.set_cons_succ]
      refine upto_take (i := 15) (v := ?_) rfl (by kernel_rfl) (by kernel_rfl) (by kernel_rfl) (by kernel_rfl) (fun _ _ _ h => h) (by rfl) hS ?_ ?_
      rotate_left
      · intro wS hSw
        try dsimp only at hSw
        first | (go_simp; done) | (go_simp; with_reducible rfl)
      try simp only [Act.put, List.getElem_toArray, List.getElem_cons_zero, List.getElem_cons_succ, List.setIfInBounds_toArray, List.set_cons_zero, List.set_cons_succ]
      refine upto_take (i := 16) (v := ?_) rfl (by kernel_rfl) (by kernel_rfl) (by kernel_rfl) (by kernel_rfl) (fun _ _ _ h => h) (by rfl) hS ?_ ?_
      rotate_left
      · intro wS hSw
        try dsimp only at hSw
        first | (go_simp; done) | (go_simp; with_reducible rfl)
      try simp only [Act.put, List.getElem_toArray, List.getElem_cons_zero, List.getElem_cons_succ, List.setIfInBounds_toArray, List.set_cons_zero, List.set_cons_succ]
      refine upto_take (i := 17) (v := ?_) rfl (by kernel_rfl) (by kernel_rfl) (by kernel_rfl) (by kernel_rfl) (fun _ _ _ h => h) (by rfl) hS ?_ ?_
      rotate_left
      · intro wS hSw
        try dsimp only at hSw
        first | (go_simp; done) | (go_simp; with_reducible rfl)
      try simp only [Act.put, List.getElem_toArray, List.getElem_cons_zero, List.getElem_cons_succ, List.setIfInBounds_toArray, List.set_cons_zero, List.set_cons_succ]
      refine upto_take (i := 18) (v := ?_) rfl (by kernel_rfl) (by kernel_rfl) (by kernel_rfl) (by kernel_rfl) (fun _ _ _ h => h) (by rfl) hS ?_ ?_
      rotate_left
      · intro wS hSw
        try dsimp only at hSw
        first | (go_simp; done) | (go_simp; with_reducible rfl)
      try simp only [Act.put, List.getElem_toArray, List.getElem_cons_zero, List.getElem_cons_succ, List.setIfInBounds_toArray, List.set_cons_zero, List.set_cons_succ]
      have hs0 : wr.drew.heap.size = wr.heap.size := by simp
      have hb0 : Below wr.heap.size wr wr.drew := hS.1
      generalize wr.drew = W0 at *
      have HS0 : Hid (W0.heap.size = wr.heap.size) := hs0
      clear hs0
      refine upto_stable' [(3, 28), (12, 37), (13, 38), (14, 39), (19, 44), (20, 45), (21, 46), (22, 47), (23, 8)] (outG ns bs os shs l k) (by kernel_rfl) hS (fun W W' h hb => ⟨bstep h.1 hb, cell_keep hb h.2.1, fun i hi => cell_keep hb (h.2.2 i hi)⟩) ?_ ?_ ?_
      · intro p hp
        simp only [List.mem_cons, List.not_mem_nil, or_false] at hp
        rcases hp with rfl | rfl | rfl | rfl | rfl | rfl | rfl | rfl | rfl
        all_goals
          intro y y' lo hi W W' h hi' hb e _
          simp only [outG] at h ⊢
          rw [e]
        · obtain ⟨R, a, c, h1, h2, h3⟩ := h
          exact ⟨R, a, c, h1, h2, IntsV_below h3 hb⟩
        · exact h
        · exact h
        · exact h
        · exact h
        · exact h
        · exact h
        · obtain ⟨R, sh, ow, F, a, c, h1, h2, h3, h4, h5, h6⟩ := h
          exact ⟨R, sh, ow, F, a, c, h1, h2, h3, h4, accsR.keep h5 hb, h6⟩
        · obtain ⟨h1, h2, ⟨g0, g1, g2⟩, h4⟩ := h
          exact ⟨h1, h2, ⟨cell_keep hb g0, cell_keep hb g1, cell_keep hb g2⟩, fun o => by rw [(bcell hb).2 _ _ (Nat.lt_of_lt_of_le h2 hi'.2.2)]; exact h4 o⟩
      · intro p hp
        simp only [List.mem_cons, List.not_mem_nil, or_false] at hp
        rcases hp with rfl | rfl | rfl | rfl | rfl | rfl | rfl | rfl | rfl
        all_goals
          refine ⟨_, rfl, rfl, ?_⟩
          intro y W lo hi hSW hBW hd hap K hK
          clear hap
        · clear hd
          refine ⟨?_⟩
          simp only [over, Act.put, List.getElem_toArray, List.getElem_cons_zero, List.getElem_cons_succ, List.map_cons, List.map_nil, List.foldl_cons, List.foldl_nil, List.setIfInBounds_toArray, List.set_cons_zero, List.set_cons_succ] at hK ⊢
          go_simp
          refine (HRe.out _ hSW.1).mono ?_
          rintro e w' ⟨R, v, rfl, oR, hR, hb⟩
          refine hK _ _ hb ?_
          simp only [outG, updV]
          obtain ⟨a, c, rfl⟩ := owns_form oR
          exact ⟨R, a, c, by simp, hR, IntsV_of_owns oR⟩
        · clear hd
          refine ⟨?_⟩
          simp only [over, Act.put, List.getElem_toArray, List.getElem_cons_zero, List.getElem_cons_succ, List.map_cons, List.map_nil, List.foldl_cons, List.foldl_nil, List.setIfInBounds_toArray, List.set_cons_zero, List.set_cons_succ] at hK ⊢
          go_simp
          refine (HA3.out _ hSW.1).mono ?_
          rintro e w' ⟨r, rfl, hr, hb⟩
          refine hK _ _ hb ?_
          simp only [outG, updV]
          exact ⟨r, by simp, hr⟩
        · have g := (hd (12, 37) (by simp) (by kernel_rfl)).2
          clear hd
          simp only [outG] at g
          obtain ⟨r, e1, hr⟩ := g
          have hr0 : (0 : Int) ≤ r := by omega
          refine ⟨?_⟩
          simp only [over, Act.put, List.getElem_toArray, List.getElem_cons_zero, List.getElem_cons_succ, List.map_cons, List.map_nil, List.foldl_cons, List.foldl_nil, List.setIfInBounds_toArray, List.set_cons_zero, List.set_cons_succ] at hK ⊢
          simp only [e1] at hK ⊢
          go_simp
          refine hK _ _ (Below.refl _ _) ?_
          simp only [outG, updV]
          exact ⟨r, hr, by simp⟩
        · have g := (hd (13, 38) (by simp) (by kernel_rfl)).2
          clear hd
          simp only [outG] at g
          obtain ⟨r, hr, e1⟩ := g
          have hc := hSW.2.2 r hr
          refine ⟨?_⟩
          simp only [over, Act.put, List.getElem_toArray, List.getElem_cons_zero, List.getElem_cons_succ, List.map_cons, List.map_nil, List.foldl_cons, List.foldl_nil, List.setIfInBounds_toArray, List.set_cons_zero, List.set_cons_succ] at hK ⊢
          simp only [e1] at hK ⊢
          go_simp
          refine hK _ _ (Below.refl _ _) ?_
          simp only [outG, updV]
          refine ⟨shs.getD r 0, by simp, ?_⟩
          have hlt : r < shs.length := by rw [HNs.out]; omega
          simp [List.getD, hlt]
        · clear hd
          refine ⟨?_⟩
          simp only [over, Act.put, List.getElem_toArray, List.getElem_cons_zero, List.getElem_cons_succ, List.map_cons, List.map_nil, List.foldl_cons, List.foldl_nil, List.setIfInBounds_toArray, List.set_cons_zero, List.set_cons_succ] at hK ⊢
          go_simp
          refine (HA6.out _ hSW.1).mono ?_
          rintro e w' ⟨r, rfl, hr, hb⟩
          refine hK _ _ hb ?_
          simp only [outG, updV]
          exact ⟨r, by simp, hr⟩
        · have g := (hd (19, 44) (by simp) (by kernel_rfl)).2
          clear hd
          simp only [outG] at g
          obtain ⟨r, e1, hr⟩ := g
          obtain ⟨q, hq, hq1⟩ : ∃ q : Nat, Int.tdiv (r : Int) 3 = (q : Int) ∧ q ≤ 1 := ⟨r / 3, by rw [Int.tdiv_eq_ediv_of_nonneg (by omega)]; omega, by omega⟩
          have hqw : IntKind.i64.wrap (q : Int) = (q : Int) := wrapId (by omega) (by omega)
          refine ⟨?_⟩
          simp only [over, Act.put, List.getElem_toArray, List.getElem_cons_zero, List.getElem_cons_succ, List.map_cons, List.map_nil, List.foldl_cons, List.foldl_nil, List.setIfInBounds_toArray, List.set_cons_zero, List.set_cons_succ] at hK ⊢
          simp only [e1] at hK ⊢
          go_simp
          refine hK _ _ (Below.refl _ _) ?_
          simp only [outG, updV]
          exact ⟨q, by simp [hq, hqw], hq1⟩
        · have g := (hd (20, 45) (by simp) (by kernel_rfl)).2
          clear hd
          simp only [outG] at g
          obtain ⟨q, e1, hq⟩ := g
          have hqw : IntKind.i64.wrap (1 + (q : Int)) = 1 + (q : Int) := wrapId (by omega) (by omega)
          refine ⟨?_⟩
          simp only [over, Act.put, List.getElem_toArray, List.getElem_cons_zero, List.getElem_cons_succ, List.map_cons, List.map_nil, List.foldl_cons, List.foldl_nil, List.setIfInBounds_toArray, List.set_cons_zero, List.set_cons_succ] at hK ⊢
          simp only [e1] at hK ⊢
          go_simp
          refine hK _ _ (Below.refl _ _) ?_
          simp only [outG, updV]
          exact ⟨1 + (q : Int), by simp [hqw], by omega, by omega⟩
        · have g3 := (hd (3, 28) (by simp) (by kernel_rfl)).2
          have g14 := (hd (14, 39) (by simp) (by kernel_rfl)).2
          have g21 := (hd (21, 46) (by simp) (by kernel_rfl)).2
          clear hd
          simp only [outG] at g3 g14 g21
          obtain ⟨R, aR, cR, e3, hR, hIV⟩ := g3
          obtain ⟨sh, e14, hsh⟩ := g14
          obtain ⟨ow, e21, how⟩ := g21
          have HRR : Hid (Calls Try.prog 11 #[.slice av 3 cv, .slice aR R.length cR, .int .i64 9, .int .i64 sh, .int .i64 k, .int .i64 ow] W (RunE (runD l R 9 sh k ow) W)) := HRun.out W R _ sh ow hSW.1 hIV
          refine ⟨?_⟩
          simp only [over, Act.put, List.getElem_toArray, List.getElem_cons_zero, List.getElem_cons_succ, List.map_cons, List.map_nil, List.foldl_cons, List.foldl_nil, List.setIfInBounds_toArray, List.set_cons_zero, List.set_cons_succ] at hK ⊢
          simp only [e3, e14, e21] at hK ⊢
          go_simp
          refine HRR.out.mono ?_
          rintro e w' ⟨v, F, rfl, o4, hb⟩
          refine hK _ _ hb ?_
          simp only [outG, updV]
          obtain ⟨u, F', rfl, o5, hF⟩ := o4
          obtain ⟨a4, c4, rfl⟩ := accs_form (accsR.ofO o5)
          exact ⟨R, sh, ow, F', a4, c4, hR, hsh, how, by simp, o5, fun b hb' => (accsR.rng o5 b hb').2⟩
        · clear hd
          refine ⟨?_⟩
          simp only [over, Act.put, List.getElem_toArray, List.getElem_cons_zero, List.getElem_cons_succ, List.map_cons, List.map_nil, List.foldl_cons, List.foldl_nil, List.setIfInBounds_toArray, List.set_cons_zero, List.set_cons_succ] at hK ⊢
          go_simp
          refine hK _ _ (by (repeat (first | exact Below.refl _ _ | assumption | refine Below.drew ?_ | refine balloc ?_ _ | refine bset ?_ (by simp; omega) _ | refine bset ?_ (by simp) _ | refine bstep ?_ (by assumption)))) ?_
          simp only [outG, updV]
          exact ⟨rfl, by simp, ⟨by simp [go_sem], by simp [go_sem], by simp [go_sem]⟩, fun o => by simp [go_sem]⟩
      · refine ⟨_, rfl, ?_⟩
        intro y W lo hi hSW hBW hd hap K hK
        have g22 := hd (22, 47) (by simp)
        have g23 := hd (23, 8) (by simp)
        have ap := hap (22, 47) (by simp) (23, 8) (by simp) (by simp)
        clear hd hap
        simp only [outG, ApartB, InB] at g22 g23 ap
        obtain ⟨b22, R, sh, ow, F, a4, c4, hR, hsh, how, e47, o4, f4⟩ := g22
        obtain ⟨b23, e8, hlh, ⟨k0, k1, k2⟩, kf⟩ := g23
        have hnF : ¬ F (lo 23) := fun h => by have h1 := f4 _ h; have h2 := (accsR.rng o4 _ h).1; omega
        have hB0 : W0.heap.size ≤ lo 23 := b23.1
        have hB1 : lo 23 < W.heap.size := by omega
        have hbW : Below wr.heap.size wr W := hSW.1
        have HR : Hid (Rch R 3) := hR
        have HSm : Hid (sh ∈ shs) := hsh
        have HVl : Hid (accsR.O W (lo 22) F (.slice a4 (runD l R 9 sh k ow).accs.length c4) (runD l R 9 sh k ow).accs) := o4
        have HNF : Hid (¬ F (lo 23)) := hnF
        clear o4 hnF f4 hR hsh ap b22 b23
        generalize lo 23 = B at *
        refine ⟨?_⟩
        simp only [over, Act.put, List.getElem_toArray, List.getElem_cons_zero, List.getElem_cons_succ, List.map_cons, List.map_nil, List.foldl_cons, List.foldl_nil, List.setIfInBounds_toArray, List.set_cons_zero, List.set_cons_succ]
        simp only [e47, e8]
        clear e47 e8 hSW
        go_simp
        refine hK _ _ ?_
        clear hK K hlh
        refine NoPanic.normal ?_
        have hvb : votB ⟨(k : Int), ow⟩ = true := by
          show (inB (k : Int) 0 1000 && inB ow 1 2) = true
          rw [Bool.and_eq_true, inBi, inBi]
          omega
        have hbal : balF R l.length k ow = 0 := by rw [HL.out]; exact bal_rch HR.out hvb
        have hid := HID.out sh HSm.out
        obtain ⟨hlen, hinv, hst⟩ := run_inv HI.out (Int.le_refl _) hid hbal
        rw [HL.out] at hlen
        obtain ⟨r, hr⟩ : ∃ r, r = runD l R 9 sh k ow := ⟨_, rfl⟩
        rw [← hr] at hlen hinv hst HVl ⊢
        clear hr hvb hbal hid
        rw [hlen] at HVl ⊢
        have HL5 : Hid (r.accs.length = 3) := hlen
        have HI5 : Hid (Inv r.accs 9 ((k : Int) + 1)) := hinv
        have HSt : Hid (∀ s, idOk 9 s = true → ∀ u, isCh (slotsL l 9 s) u → isCh (slotsL r.accs 9 s) u) := hst
        clear hlen hinv hst
        have hwr := HS0.out
        have c5 : (((W.setCell ⟨B, 0, none⟩ (.int .i64 r.code)).setCell ⟨B, 1, none⟩ (.int .i64 r.value)).setCell ⟨B, 2, none⟩ (.slice a4 3 c4)).cell? ⟨B, 2, none⟩ = some (.slice a4 3 c4) := set_same ((set_other (by simp)).trans ((set_other (by simp)).trans k2))
        have hb5 : Below wr.heap.size wr (((W.setCell ⟨B, 0, none⟩ (.int .i64 r.code)).setCell ⟨B, 1, none⟩ (.int .i64 r.value)).setCell ⟨B, 2, none⟩ (.slice a4 3 c4)) := bset (bset (bset hbW (by dsimp only; omega) _) (by dsimp only; omega) _) (by dsimp only; omega) _
        have HV5 : Hid (accsR.V (((W.setCell ⟨B, 0, none⟩ (.int .i64 r.code)).setCell ⟨B, 1, none⟩ (.int .i64 r.value)).setCell ⟨B, 2, none⟩ (.slice a4 3 c4)) (.slice a4 3 c4) r.accs) := accsR.ofO (Rep.setN _ (Rep.setN _ (Rep.setN _ HVl.out _ HNF.out) _ HNF.out) _ HNF.out)
        clear HVl k0 k1 k2 kf hbW hBW
        generalize ((W.setCell ⟨B, 0, none⟩ (.int .i64 r.code)).setCell ⟨B, 1, none⟩ (.int .i64 r.value)).setCell ⟨B, 2, none⟩ (.slice a4 3 c4) = W5 at *
        replace b0 := cell_keep hb5 b0
        replace b1 := cell_keep hb5 b1
        obtain ⟨ysf, hys⟩ := out_ex r.accs ⟨9, ls⟩
        have hoC : outC r.accs ⟨9, ls⟩ = 0 := by unfold outC; rw [if_pos (listF_ok HI5.out.ok)]; exact HCf.out
        have hoR : outR r.accs ⟨9, ls⟩ ysf = outV (fun s => hdV (ysf s)) shs := by unfold outR; rw [if_pos hoC, HSS.out]
        have HYs : Hid (∀ s, s ∈ shs → Chs (slotsL r.accs 9 s) (ysf s)) := fun s hs => hys hoC s (by rw [← HSS.out]; exact hs)
        obtain ⟨ov, hov⟩ : ∃ ov, ov = outV (fun s => hdV (ysf s)) shs := ⟨_, rfl⟩
        have HOv : Hid (ov = outV (fun s => hdV (ysf s)) shs) := hov
        have h15 : Below w1.heap.size w1 W5 := bstep h1r hb5
        have HOut : Hid (∀ W', Below W5.heap.size W5 W' → Calls Try.prog 14 #[.slice a4 3 c4, .agg #[.int .i64 9, .slice al ll cl]] W' fun e w' => e = .returned (.agg #[.int .i64 0, .int .i64 ov]) ∧ Below W'.heap.size W' w') := fun W' hW => by
          have h := implOutcome_any sortsV (.slice a4 3 c4) (.agg #[.int .i64 9, .slice al ll cl]) r.accs ⟨9, ls⟩ ysf W' (accsR.below HV5.out hW) ⟨_, rfl, legsR.below HV1.out (bstep h15 hW)⟩ hys
          rw [hoC, hoR, ← hov] at h
          exact h
        have HW5 : Hid (WasE r.accs shs ov) := .inr ⟨ysf, HYs.out, HOv.out⟩
        have HSame : Hid (¬ wv = 0 → ov = wv) := fun h0 => by rw [HOv.out]; exact was_stays HW.out h0 HYs.out HID.out (fun s hs => HI5.out.safe s hs) HSt.out
        have hz5 : B < W5.heap.size := World.block_lt_of_cell? W5 _ c5
        have zq5 : w1.heap.size < W5.heap.size := World.block_lt_of_cell? W5 _ b0
        have hBw5 : Below w3.heap.size w3 W5 := bstep hbl hb5
        clear hys hoC hoR hov h15 hb5 h1r hBr HRe HA3 HA6 HRun HSr HSq HSt
        by_cases hw0 : wv = 0
        · subst hw0
          clear HSame
          go_wp2_with fail
          refine (HOut.out _ (by (repeat (first | exact Below.refl _ _ | assumption | refine Below.drew ?_ | refine balloc ?_ _ | refine bset ?_ (by simp; omega) _ | refine bset ?_ (by simp) _ | refine bstep ?_ (by assumption))))).mono ?_
          rintro e w6 ⟨rfl, hb6⟩
          have hB6 : Below w3.heap.size w3 w6 := bstep hBw5 (bstep (by (repeat (first | exact Below.refl _ _ | assumption | refine Below.drew ?_ | refine balloc ?_ _ | refine bset ?_ (by simp; omega) _ | refine bset ?_ (by simp) _ | refine bstep ?_ (by assumption)))) hb6)
          have HV6 : Hid (accsR.V w6 (.slice a4 3 c4) r.accs) := accsR.below HV5.out (bstep (by (repeat (first | exact Below.refl _ _ | assumption | refine Below.drew ?_ | refine balloc ?_ _ | refine bset ?_ (by simp; omega) _ | refine bset ?_ (by simp) _ | refine bstep ?_ (by assumption)))) hb6)
          clear hb6
          go_wp2
          refine ⟨⟨k + 1, r.accs, a4, c4, ov, by omega, rfl, rfl, by go_num, ?_, HL5, ?_, HW5, by (repeat (first | exact Below.refl _ _ | assumption | refine Below.drew ?_ | refine balloc ?_ _ | refine bset ?_ (by simp; omega) _ | refine bset ?_ (by simp) _ | refine bstep ?_ (by assumption)))⟩, by simp [intOf]; omega⟩
          · exact accsR.below HV6.out (by (repeat (first | exact Below.refl _ _ | assumption | refine Below.drew ?_ | refine balloc ?_ _ | refine bset ?_ (by simp; omega) _ | refine bset ?_ (by simp) _ | refine bstep ?_ (by assumption))))
          · exact HI5
        · have hov := HSame.out hw0
          rw [hov] at HOut HW5
          have hw1 : (wv != 0) = true := by simp [hw0]
          clear HSame hov
          go_wp2_with fail
          refine (HOut.out _ (by (repeat (first | exact Below.refl _ _ | assumption | refine Below.drew ?_ | refine balloc ?_ _ | refine bset ?_ (by simp; omega) _ | refine bset ?_ (by simp) _ | refine bstep ?_ (by assumption))))).mono ?_
          rintro e w6 ⟨rfl, hb6⟩
          have hB6 : Below w3.heap.size w3 w6 := bstep hBw5 (bstep (by (repeat (first | exact Below.refl _ _ | assumption | refine Below.drew ?_ | refine balloc ?_ _ | refine bset ?_ (by simp; omega) _ | refine bset ?_ (by simp) _ | refine bstep ?_ (by assumption)))) hb6)
          have HV6 : Hid (accsR.V w6 (.slice a4 3 c4) r.accs) := accsR.below HV5.out (bstep (by (repeat (first | exact Below.refl _ _ | assumption | refine Below.drew ?_ | refine balloc ?_ _ | refine bset ?_ (by simp; omega) _ | refine bset ?_ (by simp) _ | refine bstep ?_ (by assumption)))) hb6)
          clear hb6
          go_wp2
          refine ⟨⟨k + 1, r.accs, a4, c4, wv, by omega, rfl, rfl, by go_num, ?_, HL5, ?_, HW5, by (repeat (first | exact Below.refl _ _ | assumption | refine Below.drew ?_ | refine balloc ?_ _ | refine bset ?_ (by simp; omega) _ | refine bset ?_ (by simp) _ | refine bstep ?_ (by assumption)))⟩, by simp [intOf]; omega⟩
          · exact accsR.below HV6.out (by (repeat (first | exact Below.refl _ _ | assumption | refine Below.drew ?_ | refine balloc ?_ _ | refine bset ?_ (by simp; omega) _ | refine bset ?_ (by simp) _ | refine bstep ?_ (by assumption))))
          · exact HI5
    · have hkm : k = 12 := by omega
      subst hkm
      go_wp2
      go_ret
      exact ⟨rfl, bstep hBw3 hbl⟩
end outcomesLaw
end Go.Proofs.Ytncmdeijimgchaa


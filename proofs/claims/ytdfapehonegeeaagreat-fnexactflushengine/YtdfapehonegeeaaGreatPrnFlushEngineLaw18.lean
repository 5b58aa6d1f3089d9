import Derived.Test.YtdfapehonegeeaaGreatPrnFlushEngineLaw5
import Derived.Test.YtdfapehonegeeaaGreatPrnFlushEngineLaw4
import Derived.Deep.RegionHeld3
import Derived.Shelf.Abstract
import Derived.Test.YtdfapehonegeeaaGreatPrnFlushEngineLaw17
import Derived.Test.YtdfapehonegeeaaGreatPrnFlushEngineLaw7
import Derived.Test.YtdfapehonegeeaaGreatPrnFlushEngineLaw8
import Derived.Test.YtdfapehonegeeaaGreatPrnFlushEngineLaw9
import Derived.Maps.OwnIn
import Derived.Maps.AppendAt

/-
  Is a key among writes?
-/
namespace Go.Proofs.YtdfapehonegeeaaGreat
open Go.RowKit
set_option linter.unusedSectionVars false
variable [DecidableEq Wri] [Inhabited Wri] [DecidableEq BytesR] [Inhabited BytesR] [DecidableEq Rw] [Inhabited Rw]
set_option linter.unusedVariables false
set_option linter.unusedSimpArgs false
attribute [local go_sem ↓] Go.wp_at_zero Go.wp_at_succ

set_option maxHeartbeats 400000 in
theorem keyIs_any (x : Wri) (s : ByteArray) (B : Nat) (w : World) (hc : w.cell? ⟨B, 0, none⟩ = some (.string s)) :
    Calls Tryz.prog 171 #[.agg #[.string x.key, .string x.val, .bool x.gone], .pointer (some ⟨B, 0, none⟩)] w fun e w' => e = .returned (.bool (decide (x.key = s))) ∧ Below w.heap.size w w' := by
  have hlt := World.block_lt_of_cell? _ _ hc
  dsimp only at hlt
  by_cases h : x.key = s
  · rw [decide_eq_true h]
    have h1 : (x.key.toList == s.toList) = true := by rw [h]; simp
    have h2 : x.key.toList = s.toList := by rw [h]
    have HH : Hid (x.key = s) := h
    clear h
    go_enter Tryz.func171, Tryz.ntmps171
    go_wp2
    go_ret
    exact ⟨rfl, balloc (Below.refl _ _) _⟩
  · rw [decide_eq_false h]
    have h1 : (x.key.toList == s.toList) = false := by rw [beq_eq_false_iff_ne, Ne, tl_inj]; exact h
    have h2 : ¬ x.key.toList = s.toList := by rw [tl_inj]; exact h
    go_enter Tryz.func171, Tryz.ntmps171
    go_wp2
    go_ret
    exact ⟨rfl, balloc (Below.refl _ _) _⟩
set_option maxHeartbeats 1000000 in
theorem indexKey_any (x : Value) (xs : List Wri) (s : ByteArray) (B : Nat) (w : World) (hx : WrisV w x xs) (hc : w.cell? ⟨B, 0, none⟩ = some (.string s)) :
    Calls Tryz.prog 180 #[x, .func (.func 171) #[] #[.pointer (some ⟨B, 0, none⟩)]] w fun e w' => (∃ r : Int, e = .returned (.int .i64 r) ∧ ((r = -1 ∧ hasK xs xs.length s = false) ∨ (0 ≤ r ∧ hasK xs xs.length s = true))) ∧ Below w.heap.size w w' := by
  obtain ⟨ax, cx, rfl, hcx, hmx, hx⟩ := hx
  unfold maxLen at hmx
  generalize hn' : xs.length = n at *
  clear hn'
  go_enter Tryz.func180, Tryz.ntmps180
  go_wp2
  go_loopw [8] (fun i w' => ∃ k : Nat, k ≤ n ∧ i = .int .i64 k ∧ Hid (∀ j, j < k → (xs.getD j default).key ≠ s) ∧ Below w.heap.size w w') (fun i _ => n - (intOf i).toNat)
  case atStart => exact ⟨0, Nat.zero_le _, rfl, fun j hj => absurd hj (Nat.not_lt_zero _), Below.refl _ _⟩
  case round =>
    obtain ⟨k, hk, rfl, HP, hbl⟩ := hrel
    by_cases hlt : k < n
    · obtain ⟨bx, ox, rfl, g1⟩ := hx k hlt
      obtain ⟨l, hl⟩ : ∃ l, l = xs.getD k default := ⟨_, rfl⟩
      rw [← hl] at g1
      have HLE : Hid (l = xs.getD k default) := hl
      clear hl hx
      obtain ⟨a1, a2, a3⟩ := wriCells_below hbl g1
      have hc2 := cell_keep hbl hc
      have hti : (k : Int) < (n : Int) := by omega
      have eg : ∀ args w, (callFunc 171 args).run Tryz.prog w = .ok (.enter 171 args) w := enters_of Tryz.func171 (by kernel_rfl) rfl
      clear g1
      go_wp2_with fail
      refine (keyIs_any l s B _ hc2).mono ?_
      rintro e w1 ⟨rfl, hb1⟩
      have hB := bstep hbl hb1
      clear eg hb1 a1 a2 a3
      by_cases hq : l.key = s
      · rw [decide_eq_true hq]
        have HQ : Hid (hasK xs n s = true) := hasK_of hlt (by rw [← HLE.out]; exact hq)
        clear hq
        go_wp2
        go_ret
        exact ⟨⟨k, rfl, .inr ⟨by omega, HQ.out⟩⟩, hB⟩
      · rw [decide_eq_false hq]
        have HQ : Hid (∀ j, j < k + 1 → (xs.getD j default).key ≠ s) := fun j hj => by
          by_cases e : j = k
          · rw [e, ← HLE.out]; exact hq
          · exact HP.out j (by omega)
        clear hq
        go_wp2
        exact ⟨⟨k + 1, by omega, by go_num, HQ, hB⟩, by simp [intOf]; omega⟩
    · obtain rfl : k = n := by omega
      have hti : ¬ (k : Int) < (k : Int) := by omega
      go_wp2
      go_ret
      exact ⟨⟨-1, rfl, .inl ⟨rfl, hasK_none HP.out⟩⟩, hbl⟩
set_option maxHeartbeats 1000000 in
theorem containsKey_any (x : Value) (xs : List Wri) (s : ByteArray) (B : Nat) (w : World) (hx : WrisV w x xs) (hc : w.cell? ⟨B, 0, none⟩ = some (.string s)) :
    Calls Tryz.prog 170 #[x, .func (.func 171) #[] #[.pointer (some ⟨B, 0, none⟩)]] w fun e w' => e = .returned (.bool (hasK xs xs.length s)) ∧ Below w.heap.size w w' := by
  have hX := hx
  obtain ⟨ax, cx, rfl, _⟩ := hx
  go_enter Tryz.func170, Tryz.ntmps170
  go_wp2_with fail
  refine (indexKey_any _ xs s B _ hX hc).mono ?_
  rintro e w1 ⟨⟨r, rfl, hr⟩, hb1⟩
  rcases hr with ⟨rfl, hr⟩ | ⟨hr0, hr⟩
  · have HR : Hid (_ = _) := hr
    clear hr
    go_wp2
    go_ret
    exact ⟨by rw [HR.out]; rfl, hb1⟩
  · have HR : Hid (_ = _) := hr
    clear hr
    go_wp2
    go_ret
    exact ⟨by rw [HR.out]; rfl, hb1⟩
set_option maxHeartbeats 1000000 in
theorem hasKey_any (x : Value) (xs : List Wri) (s : ByteArray) (w : World) (hx : WrisV w x xs) :
    Calls Tryz.prog 154 #[x, .string s] w fun e w' => e = .returned (.bool (hasK xs xs.length s)) ∧ Below w.heap.size w w' := by
  have hX := hx
  obtain ⟨ax, cx, rfl, _⟩ := hx
  go_enter Tryz.func154, Tryz.ntmps154
  go_wp2_with fail
  refine (containsKey_any _ xs s w.heap.size _ (WrisV_below hX (by (repeat (first | exact Below.refl _ _ | assumption | refine Below.drew ?_ | refine balloc ?_ _ | refine bset ?_ (by simp; omega) _ | refine bset ?_ (by simp) _ | refine bstep ?_ (by assumption))))) (by simp [go_sem])).mono ?_
  rintro e w1 ⟨rfl, hb1⟩
  go_wp2
  go_ret
  exact ⟨rfl, by (repeat (first | exact Below.refl _ _ | assumption | refine Below.drew ?_ | refine balloc ?_ _ | refine bset ?_ (by simp; omega) _ | refine bset ?_ (by simp) _ | refine bstep ?_ (by assumption)))⟩
theorem wris_takeV {w : World} {a : Option Addr} {n c k : Nat} {xs : List Wri} (h : WrisV w (.slice a n c) xs) (hk : k ≤ xs.length) : WrisV w (.slice a k c) (xs.take k) := by
  obtain ⟨a', c', e, h1, h2, h3⟩ := h
  simp only [Value.slice.injEq] at e
  obtain ⟨rfl, rfl, rfl⟩ := e
  have hl : (xs.take k).length = k := by rw [List.length_take]; omega
  refine ⟨a, c, by rw [hl], by omega, h2, fun i hi => ?_⟩
  rw [hl] at hi
  obtain ⟨b, o, e, g⟩ := h3 i (by omega)
  refine ⟨b, o, e, ?_⟩
  have e2 : (xs.take k).getD i default = xs.getD i default := by simp [List.getD, hi]
  rw [e2]
  exact g
theorem hasK_take {xs : List Wri} {k : Nat} {s : ByteArray} (hk : k ≤ xs.length) : hasK (xs.take k) (xs.take k).length s = hasK xs k s := by
  have hl : (xs.take k).length = k := by rw [List.length_take]; omega
  rw [hl]
  unfold hasK
  rw [Bool.eq_iff_iff, List.any_eq_true, List.any_eq_true]
  have e2 : ∀ i, i < k → (xs.take k).getD i default = xs.getD i default := fun i hi => by simp [List.getD, hi]
  constructor
  · rintro ⟨j, hj, h⟩
    rw [e2 j (List.mem_range.1 hj)] at h
    exact ⟨j, hj, h⟩
  · rintro ⟨j, hj, h⟩
    refine ⟨j, hj, ?_⟩
    rw [e2 j (List.mem_range.1 hj)]
    exact h
end Go.Proofs.YtdfapehonegeeaaGreat

/-
  The fault of writes: the program's side.
-/
namespace Go.Proofs.YtdfapehonegeeaaGreat
open Go.RowKit
set_option linter.unusedSectionVars false
variable [DecidableEq Wri] [Inhabited Wri] [DecidableEq BytesR] [Inhabited BytesR] [DecidableEq Rw] [Inhabited Rw]
set_option linter.unusedVariables false
set_option linter.unusedSimpArgs false
attribute [local go_sem ↓] Go.wp_at_zero Go.wp_at_succ

set_option maxHeartbeats 400000 in
theorem rowAt_any (v : Int) (l : Wri) (w : World) :
    Calls Tryz.prog 131 #[.int .i64 v, .agg #[.string l.key, .string l.val, .bool l.gone]] w fun e w' => e = .returned (.agg #[.string l.key, .int .i64 v, .string l.val, .bool l.gone]) ∧ Below w.heap.size w w' := by
  go_enter Tryz.func131, Tryz.ntmps131
  go_wp2
  exact bodyPost_ret (v := .agg #[.string l.key, .int .i64 v, .string l.val, .bool l.gone]) (by simp [results, Tryz.results131, go_sem]) rfl ⟨rfl, by (repeat (first | exact Below.refl _ _ | assumption | refine Below.drew ?_ | refine balloc ?_ _ | refine bset ?_ (by simp; omega) _ | refine bset ?_ (by simp) _ | refine bstep ?_ (by assumption)))⟩
theorem boxKey {w w' : World} {a : Addr} {v : Value} (hb : Below w.heap.size w w') (h : w.cell? a = some v) : Below w.heap.size w w' ∧ w'.cell? a = some v := ⟨hb, cell_keep hb h⟩
set_option maxHeartbeats 4000000 in
theorem implWf_any (x : Value) (ws : List Wri) (w : World) (hx : wrisR.V w x ws) :
    Calls Tryz.prog 119 #[x] w fun e w' => e = .returned (.int .i64 (wrF ws)) ∧ Below w.heap.size w w' := by
  have HX : Hid (wrisR.V w x ws) := hx
  obtain ⟨hx, -⟩ := hx
  have HV : Hid (WrisV w x ws) := hx
  obtain ⟨ax, cx, rfl, hcx, hmx, hx⟩ := hx
  unfold maxLen at hmx
  by_cases hn : ws.length < 1 ∨ 8 < ws.length
  · rw [wrF_many hn]
    clear hx HX HV
    generalize ws.length = n at *
    rcases hn with hn | hn
    · have h1 : (n : Int) < 1 := by omega
      go_enter Tryz.func119, Tryz.ntmps119
      go_wp2
      go_ret
      exact ⟨rfl, Below.refl _ _⟩
    · have h1 : ¬ (n : Int) < 1 := by omega
      have h2 : (8 : Int) < n := by omega
      go_enter Tryz.func119, Tryz.ntmps119
      go_wp2
      go_ret
      exact ⟨rfl, Below.refl _ _⟩
  have HC : Hid (∀ k, k < ws.length → (∀ j, j < k → wrAt ws j = 0) → wrAt ws k ≠ 0 → wrF ws = wrAt ws k) := fun k hk h hc => wrF_at hn hk h hc
  have HZ : Hid ((∀ j, j < ws.length → wrAt ws j = 0) → wrF ws = if 500 < (packB 1 ws).length then 2 else 0) := wrF_end hn
  have HPK : Hid (∀ W, Below w.heap.size w W → Calls Tryz.prog 72 #[.int .i64 1, .slice ax ws.length cx] W fun e w' => ∃ r F, e = .returned r ∧ bytesR.O w' W.heap.size F r (packB 1 ws) ∧ Below W.heap.size W w') := fun W hb => bytesOf_any 1 _ ws W (wrisR.below HX.out hb) (by omega)
  have HKC : Hid (∀ k s W, k ≤ ws.length → Below w.heap.size w W → Calls Tryz.prog 154 #[.slice ax k cx, .string s] W fun e w' => e = .returned (.bool (hasK ws k s)) ∧ Below W.heap.size W w') := fun k s W hk hb => by
    have h := hasKey_any (.slice ax k cx) (ws.take k) s W (WrisV_below (wris_takeV HV.out hk) hb)
    rw [hasK_take hk] at h
    exact h
  have HB : Hid ((packB 1 ws).length ≤ 3300) := by
    have := packB_len 1 ws
    rw [Hid]
    omega
  clear HX HV
  generalize ws.length = n at *
  have h1 : ¬ (n : Int) < 1 := by omega
  have h2 : ¬ (8 : Int) < n := by omega
  have hn8 : n ≤ 8 := by omega
  clear hn
  go_enter Tryz.func119, Tryz.ntmps119
  go_wp2
  go_loopw [16] (fun i w' => ∃ k : Nat, k ≤ n ∧ i = .int .i64 k ∧ Hid (∀ j, j < k → wrAt ws j = 0) ∧ Below w.heap.size w w') (fun i _ => n - (intOf i).toNat)
  case atStart => exact ⟨0, Nat.zero_le _, rfl, fun j h => absurd h (Nat.not_lt_zero _), Below.refl _ _⟩
  case round =>
    obtain ⟨k, hk, rfl, HP, hbl⟩ := hrel
    by_cases hlt : k < n
    · obtain ⟨bx, ox, rfl, g1⟩ := hx k hlt
      have HC2 : Hid (wrAt ws k ≠ 0 → wrF ws = wrAt ws k) := fun hc => HC.out k hlt HP.out hc
      have HK : Hid (wrAt ws k = if rowFault (wrRow 1 (ws.getD k default)) ≠ 0 then rowFault (wrRow 1 (ws.getD k default)) else if hasK ws k (ws.getD k default).key = true then 7 else 0) := rfl
      have hKC := fun s W hb => HKC.out k s W hk hb
      obtain ⟨l, hl⟩ : ∃ l, l = ws.getD k default := ⟨_, rfl⟩
      rw [← hl] at g1 HK
      clear hl hx HC HKC
      obtain ⟨a1, a2, a3⟩ := wriCells_below hbl g1
      have hti : (k : Int) < (n : Int) := by omega
      clear g1
      have HKK : Hid (∀ s W, Below w.heap.size w W → Calls Tryz.prog 154 #[.slice (some ⟨bx, ox, none⟩) k cx, .string s] W fun e w' => e = .returned (.bool (hasK ws k s)) ∧ Below W.heap.size W w') := hKC
      clear hKC
      go_wp2_with fail
      refine (rowAt_any 1 l _).mono ?_
      rintro e wz ⟨rfl, hbz⟩
      have q0 : wz.cell? ⟨wr.heap.size, 0, none⟩ = some (.string l.key) := cell_keep hbz (by simp [go_sem])
      have hBz : Below w.heap.size w wz := by (repeat (first | exact Below.refl _ _ | assumption | refine Below.drew ?_ | refine balloc ?_ _ | refine bset ?_ (by simp; omega) _ | refine bset ?_ (by simp) _ | refine bstep ?_ (by assumption)))
      clear hbz
      go_wp2_with fail
      refine (implRowFault_any (wrRow 1 l) _).mono ?_
      rintro e wa ⟨rfl, hba⟩
      replace q0 := cell_keep hba q0
      have hB : Below w.heap.size w wa := bstep hBz hba
      have hzb := World.block_lt_of_cell? _ _ q0
      dsimp only at hzb
      clear hba a1 a2 a3 hbl hBz
      generalize wr.heap.size = N at *
      by_cases hf : rowFault (wrRow 1 l) = 0
      · rw [hf]
        have HK2 : Hid (wrAt ws k = if hasK ws k l.key = true then 7 else 0) := by
          rw [Hid, HK.out, if_neg (by simp [hf])]
        have hi5 : (0 : Int) ≤ k := by omega
        have hi6 : (k : Int) ≤ cx := by omega
        clear hf HK
        go_wp2
        obtain ⟨q, hq⟩ : ∃ q, hasK ws k l.key = q := ⟨_, rfl⟩
        have HQ : Hid (hasK ws k l.key = q) := hq
        have hcall := fun W hb => HKK.out l.key W hb
        rw [hq] at hcall
        clear hq
        have HCALL : Hid (∀ W, Below w.heap.size w W → Calls Tryz.prog 154 #[.slice (some ⟨bx, ox, none⟩) k cx, .string l.key] W fun e w' => e = .returned (.bool q) ∧ Below W.heap.size W w') := hcall
        clear hcall HKK
        go_region_held3 (fun w' => Below wa.heap.size wa w' ∧ w'.cell? ⟨N, 0, none⟩ = some (.string l.key)) ((refine boxKey ?_ q0; repeat (first | exact Below.refl _ _ | assumption | refine Below.drew ?_ | refine balloc ?_ _ | refine bstep ?_ (by assumption))))
          (first | (go_at_call 154; refine (HCALL.out _ ?_).mono ?_; (focus (repeat (first | exact Below.refl _ _ | assumption | refine Below.drew ?_ | refine balloc ?_ _ | refine bstep ?_ (by assumption)))); rintro e w' ⟨rfl, hb1⟩))
        rename_i hH
        have hB2 := bstep hB hH.1
        clear hH
        cases q
        · have HQ2 : Hid (∀ j, j < k + 1 → wrAt ws j = 0) := fun j hj => by
            by_cases e : j = k
            · rw [e, HK2.out, if_neg (by rw [HQ.out]; decide)]
            · exact HP.out j (by omega)
          go_wp2
          exact ⟨⟨k + 1, by omega, by go_num, HQ2, hB2⟩, by simp [intOf]; omega⟩
        · have HQ2 : Hid (wrF ws = 7) := by
            have hh : wrAt ws k = 7 := by rw [HK2.out, if_pos HQ.out]
            rw [Hid, HC2.out (by rw [hh]; decide), hh]
          go_wp2
          go_ret
          exact ⟨by rw [HQ2.out]; rfl, hB2⟩
      · have HQ : Hid (wrF ws = rowFault (wrRow 1 l)) := by
          have hh : wrAt ws k = rowFault (wrRow 1 l) := by rw [HK.out, if_pos hf]
          rw [Hid, HC2.out (by rw [hh]; exact hf), hh]
        clear HK HC2
        generalize rowFault (wrRow 1 l) = c at *
        have hf2 : (c == 0) = false := by simpa using hf
        go_wp2
        go_ret
        exact ⟨by rw [HQ.out]; rfl, hB⟩
    · obtain rfl : k = n := by omega
      have hti : ¬ (k : Int) < (k : Int) := by omega
      have HE := HZ.out HP.out
      have HEE : Hid (wrF ws = if 500 < (packB 1 ws).length then 2 else 0) := HE
      clear HE HZ HC hx HKC
      go_wp2_with fail
      refine (HPK.out _ hbl).mono ?_
      rintro e w1 ⟨r, F, rfl, o1, hb1⟩
      obtain ⟨p, q, rfl⟩ := bytes_form (bytesR.ofO o1)
      have hB := bstep hbl hb1
      have hbb := HB.out
      clear o1 hb1 HPK HB
      generalize (packB 1 ws).length = L at *
      by_cases h5 : 500 < L
      · have h6 : (500 : Int) < (L : Int) := by omega
        go_wp2
        go_ret
        exact ⟨by rw [HEE.out, if_pos h5]; rfl, hB⟩
      · have h6 : ¬ (500 : Int) < (L : Int) := by omega
        go_wp2
        go_ret
        exact ⟨by rw [HEE.out, if_neg h5]; rfl, hB⟩
end Go.Proofs.YtdfapehonegeeaaGreat

/-
  Writes as rows of one version: the program's iterator rowsAt.
-/
namespace Go.Proofs.YtdfapehonegeeaaGreat
open Go.RowKit Go.Shelf
set_option linter.unusedSectionVars false
variable [DecidableEq Wri] [Inhabited Wri] [DecidableEq BytesR] [Inhabited BytesR] [DecidableEq Rw] [Inhabited Rw]
set_option linter.unusedVariables false
set_option linter.unusedSimpArgs false
attribute [local go_sem] Oper.semAt_some

def WriAt (R : Nat → Prop) (W : World) (v : Value) (ws : List Wri) : Prop :=
  ∃ a cap, v = .slice a ws.length cap ∧ ws.length ≤ cap ∧ cap ≤ maxLen ∧ ∀ i, i < ws.length → ∃ b o, a = some ⟨b, o, none⟩ ∧ R b ∧ wriCells W b (o + i * 3) (ws.getD i default)
theorem wriCells_mod {F : Nat → Prop} {w w' : World} {b o : Nat} {x : Wri} (hm : Mod F w w') (hb : ¬ F b) (h : wriCells w b o x) : wriCells w' b o x :=
  ⟨hm.cell h.1 hb, hm.cell h.2.1 hb, hm.cell h.2.2 hb⟩
theorem WriAt.mod {R F : Nat → Prop} {w w' : World} {v : Value} {ws : List Wri} (h : WriAt R w v ws) (hm : Mod F w w') (hF : ∀ b, R b → ¬ F b) : WriAt R w' v ws := by
  obtain ⟨a, cap, e, h1, h2, h3⟩ := h
  refine ⟨a, cap, e, h1, h2, fun i hi => ?_⟩
  obtain ⟨b, o, ha, hb, hc⟩ := h3 i hi
  exact ⟨b, o, ha, hb, wriCells_mod hm (hF b hb) hc⟩
theorem WriAt.of {R : Nat → Prop} {w : World} {v : Value} {ws : List Wri} (h : WrisV w v ws) (hR : ∀ b, b < w.heap.size → R b) : WriAt R w v ws := by
  obtain ⟨a, cap, e, h1, h2, h3⟩ := h
  refine ⟨a, cap, e, h1, h2, fun i hi => ?_⟩
  obtain ⟨b, o, ha, hc⟩ := h3 i hi
  exact ⟨b, o, ha, hR b (World.block_lt_of_cell? _ _ hc.1), hc⟩
set_option maxHeartbeats 1000000 in
theorem rowsAt_any (v : Int) (a : Option Addr) (n c : Nat) (w : World) :
    Calls Tryz.prog 78 #[.int .i64 v, .slice a n c] w fun e w' => e = .returned (.func (.func 130) #[] #[.pointer (some ⟨w.heap.size + 1, 0, none⟩), .pointer (some ⟨w.heap.size, 0, none⟩)]) ∧ w' = (w.alloc (.cells #[.int .i64 v] 2)).alloc (.cells #[.slice a n c] 44) := by
  go_enter Tryz.func78, Tryz.ntmps78
  go_wp2
  go_ret
  exact ⟨by simp, rfl⟩
set_option maxRecDepth 100000 in
set_option maxHeartbeats 2000000 in
theorem rowsAt_seq (Bl Bv : Nat) (lv : Value) (ws : List Wri) (ver : Int) (R : Nat → Prop) (w : World) (hB : w.cell? ⟨Bl, 0, none⟩ = some lv) (hV : w.cell? ⟨Bv, 0, none⟩ = some (.int .i64 ver)) (hRB : R Bl) (hRV : R Bv) (hT : WriAt R w lv ws) (hn : ws.length ≤ 200) :
    Seqx Tryz.prog 130 #[.pointer (some ⟨Bl, 0, none⟩), .pointer (some ⟨Bv, 0, none⟩)] rowV (ws.map (wrRow ver)) R w := by
  intro l J Jx W X hm hXa hJ hJx hY h0
  have hBW := hm.cell hB (fun h => h hRB)
  have hVW := hm.cell hV (fun h => h hRV)
  have hTW := hT.mod hm (fun b hb h => h hb)
  clear hB hT hV
  obtain ⟨a, cap, rfl, hc1, hc2, hrow⟩ := hTW
  unfold maxLen at hc2
  have HQ : Hid (∀ k, k < ws.length → (ws.map (wrRow ver)).getD k default = wrRow ver (ws.getD k default)) := fun k hk => by simp [List.getD, hk]
  have HNN : Hid ((ws.map (wrRow ver)).length = ws.length) := List.length_map _
  obtain ⟨xs, hxs⟩ : ∃ xs, ws.map (wrRow ver) = xs := ⟨_, rfl⟩
  rw [hxs] at HQ HNN hY ⊢
  have HP : Hid (∀ k, k < ws.length → xs.take k ++ [xs.getD k default] = xs.take (k + 1)) := fun k hk => take_snoc xs (by rw [HNN.out]; exact hk)
  have HA : Hid (∀ k, xs.take k <+: xs) := fun k => List.take_prefix _ _
  have HE : Hid (xs.take ws.length = xs) := by rw [Hid, ← HNN.out]; exact List.take_length
  clear hxs HNN
  generalize ws.length = n at *
  refine callsIn_of_wp Tryz.func130 rfl trivial ?_ rfl
  simp only [Tryz.ntmps130, List.size_toArray, List.length_cons, List.length_nil, Nat.reduceAdd, Nat.reduceSub, Array.replicate_succ, Array.replicate_zero, List.push_toArray, List.append_toArray, List.nil_append, List.cons_append]
  gi_wp2
  gi_loopw [8] (fun i wr => ∃ k : Nat, k ≤ n ∧ i = .int .i64 k ∧ Hid (J (xs.take k) wr X) ∧ Hid (∀ b, X b → b < wr.heap.size) ∧ Mod (fun b => ¬ R b) W wr) (fun i _ => n - (intOf i).toNat)
  case atStart => exact ⟨0, Nat.zero_le _, rfl, (show J [] W X from h0), hXa, Mod.refl _ _⟩
  case round =>
    obtain ⟨k, hk, rfl, HJ, HXa, hmr⟩ := hrel
    by_cases hlt : k < n
    · obtain ⟨b, o, rfl, hRb, hc⟩ := hrow k hlt
      obtain ⟨q, hq⟩ : ∃ q, q = ws.getD k default := ⟨_, rfl⟩
      have hP := HP.out k hlt
      have hQ := HQ.out k hlt
      rw [← hq] at hc hQ
      rw [hQ] at hP
      have HPk : Hid (xs.take k ++ [wrRow ver q] = xs.take (k + 1)) := hP
      obtain ⟨c0, c1, c2⟩ := wriCells_mod hmr (fun h => h hRb) hc
      have hvr := hmr.cell hVW (fun h => h hRV)
      have zb := World.block_lt_of_cell? _ _ c0
      have zv := World.block_lt_of_cell? _ _ hvr
      dsimp only at zb zv
      clear hP hq hrow hc hQ
      gi_wp2
      refine ⟨trivial, rfl, (callsIn_wide.2 (rowAt_any ver q _)).mono ?_⟩
      rintro e W2 ⟨rfl, hb2⟩
      have hm2 : ∀ F, Mod F wr W2 := fun F => (mod_alloc F _ _).trans (Mod.of_below hb2)
      have hs2 := (hm2 (fun _ => False)).size
      have hJ2 : J (xs.take k) W2 X := hJ _ _ _ _ _ HJ.out (hm2 _) (fun _ h => h) (fun b h => ⟨.inl h, by have := HXa.out b h; omega⟩)
      obtain ⟨fn, tmps, assign, body, hy, hR2⟩ := hY _ (wrRow ver q) W2 X hJ2 (fun _ h => h) (fun b h => by have := HXa.out b h; omega) (by rw [HPk.out]; exact HA.out _)
      unfold rowV wrRow at hy
      dsimp only at hy
      clear hb2
      gi_wp2
      refine ⟨rfl, hR2.mono ?_⟩
      rintro e W3 (⟨rfl, hJ3, hk3⟩ | ⟨rfl, hJx3, hk3⟩)
      · gi_wp2
        go_roundw
        case rel =>
          have hs := hk3.size
          refine ⟨k + 1, by omega, by simp, ?_, fun b h => ?_, (hmr.trans (hm2 _)).trans (hk3.mono (fun b h hr => h (.inl hr)))⟩
          · rw [Hid, ← HPk.out]
            exact hJ3
          · have := HXa.out b h
            omega
        case measure => simp [intOf]; omega
      · gi_wp2
        refine bodyPost_ret (results_none rfl _ _ _) rfl ?_
        exact ⟨⟨_, rfl⟩, X, fun _ h => h, .inr ⟨_, by rw [HPk.out]; exact HA.out _, hJx3⟩⟩
    · obtain rfl : k = n := by omega
      gi_wp2
      go_end0
      refine ⟨⟨_, rfl⟩, X, fun _ h => h, .inl ?_⟩
      have hj := HJ.out
      rw [HE.out] at hj
      exact hj
end Go.Proofs.YtdfapehonegeeaaGreat

/-
  slices.Collect and slices.AppendSeq over iterators of rows.
-/
namespace Go.Proofs.YtdfapehonegeeaaGreat
open Go.RowKit Go.Shelf
set_option linter.unusedSectionVars false
variable [DecidableEq Rw] [Inhabited Rw] [DecidableEq TabR] [Inhabited TabR]
set_option linter.unusedVariables false
set_option linter.unusedSimpArgs false
attribute [local go_sem] Oper.semAt_some
attribute [local go_sem] run_store_func

def CltC (C : List Value) (k T L0 : Nat) (w W : World) (Y : Nat → Prop) (v : Value) : Prop :=
  W.cell? ⟨T, 0, none⟩ = some v ∧ W.ownsRow L0 76 4 v k C ∧ (∀ b, v.ownBlock = some b → ¬ Y b) ∧ (∀ b, b ≤ T → ¬ Y b) ∧ L0 ≤ W.heap.size ∧ W.frozen? ⟨T, 0, none⟩ = false ∧ Below T w W
theorem CltC_mod {C : List Value} {k T L0 : Nat} {w W W' : World} {Y Y' F : Nat → Prop} {v : Value} (hTL : T < L0) (h : CltC C k T L0 w W Y v) (hm : Mod F W W') (hF : ∀ b, b ≤ T → ¬ F b) (hFv : ∀ b, v.ownBlock = some b → ¬ F b)
    (hY : ∀ b, b ≤ T → ¬ Y' b) (hYv : ∀ b, v.ownBlock = some b → ¬ Y' b) : CltC C k T L0 w W' Y' v := by
  obtain ⟨h1, h2, h3, h4, h5, h9, h10⟩ := h
  have hs := hm.size
  refine ⟨hm.cell h1 (hF _ (Nat.le_refl _)), hm.owns h2 hFv, hYv, hY, by omega, (hm.frozen (a := ⟨T, 0, none⟩) (by dsimp only; omega) (hF _ (by dsimp only; omega))).trans h9, ?_⟩
  exact ⟨hm.os.trans h10.os, hm.tape.trans h10.tape, hm.output.trans h10.output, Nat.le_trans h10.size hs, fun b hb => (hm.block b (by omega) (hF b (by omega))).trans (h10.block b hb)⟩
def CltI (T L0 : Nat) (w : World) (pre : List Rw) (W : World) (Y : Nat → Prop) : Prop := ∃ v, CltC (rwsC pre) pre.length T L0 w W Y v
theorem CltI_stb {T L0 : Nat} {w : World} (hTL : T < L0) : Stb (CltI T L0 w) := by
  rintro pre W W' Y Y' ⟨v, h⟩ hm hYY hYn
  have h' := h
  obtain ⟨h1, h2, h3, h4, h5, h9, h10⟩ := h'
  refine ⟨v, CltC_mod hTL h hm h4 h3 (fun b hb h2 => ?_) (fun b hb hy => ?_)⟩
  · rcases (hYn b h2).1 with h3 | h3
    · exact h4 b hb h3
    · omega
  · rcases (hYn b hy).1 with h | h
    · exact h3 b hb h
    · have := (h2.lt b hb).2
      omega
theorem CltC_mid {C : List Value} {k T L0 : Nat} {w W w5 : World} {Y : Nat → Prop} {v : Value} {o : Obj} (hTL : T < L0) (h : CltC C k T L0 w W Y v) (hg : (W.alloc o).grownBy w5 v.ownBlock) :
    w5.cell? ⟨T, 0, none⟩ = some v ∧ w5.frozen? ⟨T, 0, none⟩ = false ∧ Mod (fun b => v.ownBlock = some b) W w5 := by
  obtain ⟨h1, h2, h3, h4, h5, h9, h10⟩ := h
  have hm : Mod (fun b => v.ownBlock = some b) W w5 := (mod_alloc _ W o).trans (Mod.of_grown hg)
  have hn : ¬ v.ownBlock = some T := fun e => by have := (h2.lt T e).1; omega
  exact ⟨hm.cell h1 hn, (hm.frozen (a := ⟨T, 0, none⟩) (by dsimp only; omega) hn).trans h9, hm⟩
theorem CltC_app {C news : List Value} {k m T L0 : Nat} {w W w5 : World} {Y : Nat → Prop} {v v' : Value} {o : Obj} (hTL : T < L0) (h : CltC C k T L0 w W Y v) (hg : (W.alloc o).grownBy w5 v.ownBlock)
    (ho : w5.ownsRow L0 76 4 v' (k + m) (C ++ news)) (hv : v'.ownBlock = v.ownBlock ∨ v'.ownBlock = some (W.alloc o).heap.size) (hYa : ∀ b, Y b → b < W.heap.size) :
    CltC (C ++ news) (k + m) T L0 w (w5.setCell ⟨T, 0, none⟩ v') Y v' ∧ Mod (fun b => b = T ∨ v.ownBlock = some b) W (w5.setCell ⟨T, 0, none⟩ v') := by
  obtain ⟨c1, c2, hm⟩ := CltC_mid hTL h hg
  obtain ⟨h1, h2, h3, h4, h5, h9, h10⟩ := h
  have hset : Mod (fun b => b = T) w5 (w5.setCell ⟨T, 0, none⟩ v') := Mod.of_set w5 ⟨T, 0, none⟩ v'
  have hM : Mod (fun b => b = T ∨ v.ownBlock = some b) W (w5.setCell ⟨T, 0, none⟩ v') := (hm.mono (fun b h => .inr h)).trans (hset.mono (fun b h => .inl h))
  have hlow : ∀ b, b < T → ¬ (b = T ∨ v.ownBlock = some b) := by
    rintro b hb (h | h)
    · omega
    · have := (h2.lt b h).1
      omega
  have hs := hM.size
  refine ⟨⟨set_same c1, owns_setCell ho (by dsimp only; exact hTL) _, fun b hb hy => ?_, h4, by omega, by rw [World.frozen?_setCell]; exact c2,
    ⟨hM.os.trans h10.os, hM.tape.trans h10.tape, hM.output.trans h10.output, Nat.le_trans h10.size hs, fun b hb => (hM.block b (by omega) (hlow b (by omega))).trans (h10.block b hb)⟩⟩, hM⟩
  rcases hv with hv | hv
  · rw [hv] at hb
    exact h3 b hb hy
  · rw [hv] at hb
    cases hb
    have := hYa _ hy
    simp at this
    omega
def NoR (c : Code) (pre : List Rw) (W : World) (Y : Nat → Prop) : Prop := False
theorem NoR_stb (c : Code) : Stb (NoR c) := fun _ _ _ _ _ h _ _ _ => h
theorem seqx_mod {α : Type} {P : Program} {g : Nat} {lb : Array Value} {enc : α → Value} {xs : List α} {R : Nat → Prop} {w w' : World} (h : Seqx P g lb enc xs R w) (hm : Mod (fun k => ¬ R k) w w') : Seqx P g lb enc xs R w' :=
  fun l J Jx W X h1 h2 h3 h4 h5 h6 => h l J Jx W X (hm.trans h1) h2 h3 h4 h5 h6
set_option maxRecDepth 100000 in
set_option maxHeartbeats 4000000 in
theorem appendSeq_any (gf : Nat) (lb : Array Value) (xs : List Rw) (R : Nat → Prop) (w : World) (eg : ∀ args w, (callFunc gf args).run Tryz.prog w = .ok (.enter gf args) w) (hseq : Seqx Tryz.prog gf lb rowV xs R w) (hR : ∀ b, R b → b < w.heap.size) (hlen : xs.length ≤ 200) :
    Calls Tryz.prog 179 #[.slice none 0 0, .func (.func gf) #[] lb] w fun e w' => ∃ v, e = .returned v ∧ w'.ownsRow w.heap.size 76 4 v xs.length (rwsC xs) ∧ Below w.heap.size w w' := by
  obtain ⟨i0, hi, hz0, hz1, hz2⟩ := info_parts infoRw
  refine (callsIn_wide (n := 0)).1 ?_
  refine callsIn_of_wp_marks Tryz.func179 rfl trivial ?_ rfl
  simp only [Tryz.ntmps179, List.size_toArray, List.length_cons, List.length_nil, Nat.reduceAdd, Nat.reduceSub, Array.replicate_succ, Array.replicate_zero, List.push_toArray, List.append_toArray, List.nil_append, List.cons_append]
  gi_wp2
  have acc : CltC (rwsC []) 0 w.heap.size (w.heap.size + 1) w (w.alloc (.cells #[.slice none 0 0] 32)) (fun _ => False) (.slice none 0 0) :=
    ⟨by simp [go_sem], World.ownsRow_nil _ _ _ _, fun _ _ h => h, fun _ _ h => h, by simp, by simp [go_sem], by (repeat (first | exact Below.refl _ _ | assumption | refine Below.drew ?_ | refine balloc ?_ _ | refine bset ?_ (by simp; omega) _ | refine bset ?_ (by simp) _ | refine bstep ?_ (by assumption)))⟩
  have hseq2 := seqx_mod hseq (mod_alloc (fun k => ¬ R k) w (.cells #[.slice none 0 0] 32))
  have hRa : ∀ b, R b → b < (w.alloc (.cells #[.slice none 0 0] 32)).heap.size := fun b h => by have := hR b h; simp; omega
  have HR : Hid (∀ b, R b → b < w.heap.size) := hR
  have HLE : Hid (∀ ys, ys <+: xs → ys.length ≤ 200) := fun ys hy => Nat.le_trans hy.length_le hlen
  have hsz : (w.alloc (.cells #[.slice none 0 0] 32)).heap.size = w.heap.size + 1 := by simp
  have HSZ : Hid ((w.alloc (.cells #[.slice none 0 0] 32)).heap.size = w.heap.size + 1) := hsz
  clear hsz hR hseq
  generalize w.alloc (.cells #[.slice none 0 0] 32) = W0 at *
  obtain ⟨T, hTT⟩ : ∃ T, w.heap.size = T := ⟨_, rfl⟩
  have HTT : Hid (w.heap.size = T) := hTT
  rw [hTT] at acc HR HSZ ⊢
  clear hTT
  obtain ⟨L0, hL0⟩ : ∃ L, T + 1 = L := ⟨_, rfl⟩
  rw [hL0] at acc HSZ
  have hTL : T < L0 := by omega
  refine wp_rangeX (gf := gf) rfl eg hseq2 hRa (CltI T L0 w) NoR (CltI_stb hTL) NoR_stb (fun _ => False) (fun _ h => h.elim) ⟨_, acc⟩
    (fun x => RowBox L0 (fun B => { tmps := #[.slice none 0 0, .func (.func gf) #[] lb, .pointer (some ⟨T, 0, none⟩), undef, .slice none 0 0, .pointer (some ⟨B, 0, none⟩), .func (.func gf) #[] lb, .agg #[.string x.key, .int .i64 x.ver, .string x.val, .bool x.gone], undef, undef, undef, undef, undef], defers := [] }) x)
    (fun x a' => RowBox_stb _ _ x a') ?assign ?body ?done ?stop
  case assign =>
    rintro l2 pre x W3 Y K ⟨_, ha⟩ hYl hYa hK
    unfold rowV
    gi_wp2
    refine hK _ _ (mod_alloc _ _ _) ⟨W3.heap.size, ha.2.2.2.2.1, by simp, by unfold rowCells; simp [go_sem], fun h => ?_, rfl⟩
    have := hYa _ h
    omega
  case body =>
    rintro l2 pre x a' W3 Y hYl hYa ⟨vv, ha⟩ ⟨B, hlo, hB, hr, hYB, rfl⟩ hpre
    have hle : pre.length ≤ 200 := HLE.out pre ((List.prefix_append pre [x]).trans hpre)
    obtain ⟨r0, r1, r2, r3⟩ := hr
    simp only [Nat.zero_add] at r1 r2 r3
    have HP : Hid ((pre ++ [x]).length = pre.length + 1 ∧ rwsC (pre ++ [x]) = rwsC pre ++ rowC x) := ⟨by simp, rwsC_snoc _ _⟩
    have ha' := ha
    obtain ⟨a1, a2, a3, a4, a5, a9, a10⟩ := ha
    obtain ⟨ys, hys⟩ : ∃ ys, rwsC pre = ys := ⟨_, rfl⟩
    obtain ⟨m, hm⟩ : ∃ m, pre.length = m := ⟨_, rfl⟩
    rw [hys, hm] at a2 HP ha'
    rw [hm] at hle
    clear hys hm
    obtain ⟨av, cv, rfl⟩ := owns_form a2
    have hzT := World.block_lt_of_cell? _ _ a1
    dsimp only at hzT
    gi_wp2_with (gi_at_builtin; refine wpListIn_append_own_at _ rfl _ _ 32 rfl L0 76 i0 _ 4 48 Tryz.underlying32 hi hz0 hz1 hz2 rfl (by decide) _ _ _ rfl (a2.alloc _) ⟨W3.heap.size, 0, none⟩ 1 1 (rowC x) rfl rfl ?c1 (rowC_one x) ?c3 ?c4 ?c5 ?_)
    case c1 => exact rowC_cells (b := W3.heap.size) (o := 0) ⟨by simp [go_sem], by simp [go_sem], by simp [go_sem], by simp [go_sem]⟩
    case c3 => unfold maxLen; omega
    case c4 => omega
    case c5 => simp; omega
    intro v' w5 hown' hgrow _ hown
    obtain ⟨g', cap', rfl⟩ := ownsRow_succ hown'
    obtain ⟨b1, b9, _⟩ := CltC_mid hTL ha' hgrow
    obtain ⟨hnew, hM⟩ := CltC_app hTL ha' hgrow hown' (by rw [World.size_alloc]; exact hown) hYa
    gi_wp2
    refine ⟨hM.mono (fun b h => ?_), .slice (some ⟨g', 0, none⟩) (m + 1) cap', ?_⟩
    · rcases h with rfl | h
      · rintro (h2 | h2)
        · have := HR.out _ h2
          omega
        · exact a4 _ (Nat.le_refl _) h2
      · have := (a2.lt b h).1
        rintro (h2 | h2)
        · have := HR.out _ h2
          omega
        · exact a3 b h h2
    · rw [HP.out.1, HP.out.2]
      exact hnew
  case done =>
    rintro D W3 Y hD hYD ⟨vv, ha⟩ hdef
    obtain ⟨a1, a2, a3, a4, a5, a9, a10⟩ := ha
    obtain ⟨av, cv, rfl⟩ := owns_form a2
    have hsD := HSZ.out
    gi_wp2
    refine ⟨by simp, .inl ⟨_, _, rfl, run_takeDeferred hdef, ?_⟩⟩
    refine ⟨.slice av xs.length cv, by simp [results, Tryz.results179, go_sem], ?_⟩
    have mp : Mod (fun b => b = D) W3 (W3.putObj D (.deferred none)) := mod_put _ _ _
    have hTT := HTT.out
    rw [hTT]
    refine ⟨_, rfl, owns_base (mp.owns a2 (fun b hb e => a3 b hb (by rw [e]; exact hYD))) (by omega), ?_⟩
    exact ⟨mp.os.trans a10.os, mp.tape.trans a10.tape, mp.output.trans a10.output, Nat.le_trans a10.size mp.size, fun b hb => (mp.block b (by have := a10.size; omega) (by omega)).trans (a10.block b hb)⟩
  case stop =>
    rintro D c pre W3 Y hD hYD hpre h hdef
    exact h.elim
set_option maxHeartbeats 1000000 in
theorem collect_any (gf : Nat) (lb : Array Value) (xs : List Rw) (R : Nat → Prop) (w : World) (eg : ∀ args w, (callFunc gf args).run Tryz.prog w = .ok (.enter gf args) w) (hseq : Seqx Tryz.prog gf lb rowV xs R w) (hR : ∀ b, R b → b < w.heap.size) (hlen : xs.length ≤ 200) :
    Calls Tryz.prog 169 #[.func (.func gf) #[] lb] w fun e w' => ∃ v, e = .returned v ∧ w'.ownsRow w.heap.size 76 4 v xs.length (rwsC xs) ∧ Below w.heap.size w w' := by
  have hc := appendSeq_any gf lb xs R w eg hseq hR hlen
  clear eg hseq
  go_enter Tryz.func169, Tryz.ntmps169
  go_wp2_with fail
  refine hc.mono ?_
  rintro e w1 ⟨v, rfl, ho, hb⟩
  obtain ⟨av, cv, rfl⟩ := owns_form ho
  clear hc
  go_wp2
  go_ret
  exact ⟨_, rfl, ho, hb⟩
end Go.Proofs.YtdfapehonegeeaaGreat


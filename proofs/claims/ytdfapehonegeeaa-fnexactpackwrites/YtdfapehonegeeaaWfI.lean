/-
  The fault of writes: the program's side.
-/
import Derived.Test.YtdfapehonegeeaaPkI
import Derived.Test.YtdfapehonegeeaaHasK
namespace Go.Proofs.Ytdfapehonegeeaa
open Go.RowKit
set_option linter.unusedSectionVars false
variable [DecidableEq Wri] [Inhabited Wri] [DecidableEq BytesR] [Inhabited BytesR] [DecidableEq Rw] [Inhabited Rw]
set_option linter.unusedVariables false
set_option linter.unusedSimpArgs false
attribute [local go_sem ↓] Go.wp_at_zero Go.wp_at_succ

set_option maxHeartbeats 400000 in
theorem rowAt_any (v : Int) (l : Wri) (w : World) :
    Calls Try.prog 76 #[.int .i64 v, .agg #[.string l.key, .string l.val, .bool l.gone]] w fun e w' => e = .returned (.agg #[.string l.key, .int .i64 v, .string l.val, .bool l.gone]) ∧ Below w.heap.size w w' := by
  go_enter Try.func76, Try.ntmps76
  go_wp2
  exact bodyPost_ret (v := .agg #[.string l.key, .int .i64 v, .string l.val, .bool l.gone]) (by simp [results, Try.results76, go_sem]) rfl ⟨rfl, by (repeat (first | exact Below.refl _ _ | assumption | refine Below.drew ?_ | refine balloc ?_ _ | refine bset ?_ (by simp; omega) _ | refine bset ?_ (by simp) _ | refine bstep ?_ (by assumption)))⟩

theorem boxKey {w w' : World} {a : Addr} {v : Value} (hb : Below w.heap.size w w') (h : w.cell? a = some v) : Below w.heap.size w w' ∧ w'.cell? a = some v := ⟨hb, cell_keep hb h⟩

set_option maxHeartbeats 4000000 in
theorem implWf_any (x : Value) (ws : List Wri) (w : World) (hx : wrisR.V w x ws) :
    Calls Try.prog 34 #[x] w fun e w' => e = .returned (.int .i64 (wrF ws)) ∧ Below w.heap.size w w' := by
  have HX : Hid (wrisR.V w x ws) := hx
  obtain ⟨hx, -⟩ := hx
  have HV : Hid (WrisV w x ws) := hx
  obtain ⟨ax, cx, rfl, hcx, hmx, hx⟩ := hx
  unfold maxLen at hmx
  by_cases hn : ws.length < 1 ∨ 8 < ws.length
  · rw [wrF_many hn]
    clear hx HX HV
    generalize ws.length = n at *
    rcases hn with hn | hn
    · have h1 : (n : Int) < 1 := by omega
      go_enter Try.func34, Try.ntmps34
      go_wp2
      go_ret
      exact ⟨rfl, Below.refl _ _⟩
    · have h1 : ¬ (n : Int) < 1 := by omega
      have h2 : (8 : Int) < n := by omega
      go_enter Try.func34, Try.ntmps34
      go_wp2
      go_ret
      exact ⟨rfl, Below.refl _ _⟩
  have HC : Hid (∀ k, k < ws.length → (∀ j, j < k → wrAt ws j = 0) → wrAt ws k ≠ 0 → wrF ws = wrAt ws k) := fun k hk h hc => wrF_at hn hk h hc
  have HZ : Hid ((∀ j, j < ws.length → wrAt ws j = 0) → wrF ws = if 500 < (packB 1 ws).length then 2 else 0) := wrF_end hn
  have HPK : Hid (∀ W, Below w.heap.size w W → Calls Try.prog 78 #[.int .i64 1, .slice ax ws.length cx] W fun e w' => ∃ r F, e = .returned r ∧ bytesR.O w' W.heap.size F r (packB 1 ws) ∧ Below W.heap.size W w') := fun W hb => bytesOf_any 1 _ ws W (wrisR.below HX.out hb) (by omega)
  have HKC : Hid (∀ k s W, k ≤ ws.length → Below w.heap.size w W → Calls Try.prog 77 #[.slice ax k cx, .string s] W fun e w' => e = .returned (.bool (hasK ws k s)) ∧ Below W.heap.size W w') := fun k s W hk hb => by
    have h := hasKey_any (.slice ax k cx) (ws.take k) s W (WrisV_below (wris_takeV HV.out hk) hb)
    rw [hasK_take hk] at h
    exact h
  have HB : Hid ((packB 1 ws).length ≤ 3300) := by
    have := packB_len 1 ws
    rw [Hid]
    omega
  clear HX HV
  generalize ws.length = n at *
  have h1 : ¬ (n : Int) < 1 := by omega
  have h2 : ¬ (8 : Int) < n := by omega
  have hn8 : n ≤ 8 := by omega
  clear hn
  go_enter Try.func34, Try.ntmps34
  go_wp2
  go_loopw [16] (fun i w' => ∃ k : Nat, k ≤ n ∧ i = .int .i64 k ∧ Hid (∀ j, j < k → wrAt ws j = 0) ∧ Below w.heap.size w w') (fun i _ => n - (intOf i).toNat)
  case atStart => exact ⟨0, Nat.zero_le _, rfl, fun j h => absurd h (Nat.not_lt_zero _), Below.refl _ _⟩
  case round =>
    obtain ⟨k, hk, rfl, HP, hbl⟩ := hrel
    by_cases hlt : k < n
    · obtain ⟨bx, ox, rfl, g1⟩ := hx k hlt
      have HC2 : Hid (wrAt ws k ≠ 0 → wrF ws = wrAt ws k) := fun hc => HC.out k hlt HP.out hc
      have HK : Hid (wrAt ws k = if rowFault (wrRow 1 (ws.getD k default)) ≠ 0 then rowFault (wrRow 1 (ws.getD k default)) else if hasK ws k (ws.getD k default).key = true then 7 else 0) := rfl
      have hKC := fun s W hb => HKC.out k s W hk hb
      obtain ⟨l, hl⟩ : ∃ l, l = ws.getD k default := ⟨_, rfl⟩
      rw [← hl] at g1 HK
      clear hl hx HC HKC
      obtain ⟨a1, a2, a3⟩ := wriCells_below hbl g1
      have hti : (k : Int) < (n : Int) := by omega
      clear g1
      have HKK : Hid (∀ s W, Below w.heap.size w W → Calls Try.prog 77 #[.slice (some ⟨bx, ox, none⟩) k cx, .string s] W fun e w' => e = .returned (.bool (hasK ws k s)) ∧ Below W.heap.size W w') := hKC
      clear hKC
      go_wp2_with fail
      refine (rowAt_any 1 l _).mono ?_
      rintro e wz ⟨rfl, hbz⟩
      have q0 : wz.cell? ⟨wr.heap.size, 0, none⟩ = some (.string l.key) := cell_keep hbz (by simp [go_sem])
      have hBz : Below w.heap.size w wz := by (repeat (first | exact Below.refl _ _ | assumption | refine Below.drew ?_ | refine balloc ?_ _ | refine bset ?_ (by simp; omega) _ | refine bset ?_ (by simp) _ | refine bstep ?_ (by assumption)))
      clear hbz
      go_wp2_with fail
      refine (implRowFault_any (wrRow 1 l) _).mono ?_
      rintro e wa ⟨rfl, hba⟩
      replace q0 := cell_keep hba q0
      have hB : Below w.heap.size w wa := bstep hBz hba
      have hzb := World.block_lt_of_cell? _ _ q0
      dsimp only at hzb
      clear hba a1 a2 a3 hbl hBz
      generalize wr.heap.size = N at *
      by_cases hf : rowFault (wrRow 1 l) = 0
      · rw [hf]
        have HK2 : Hid (wrAt ws k = if hasK ws k l.key = true then 7 else 0) := by
          rw [Hid, HK.out, if_neg (by simp [hf])]
        have hi5 : (0 : Int) ≤ k := by omega
        have hi6 : (k : Int) ≤ cx := by omega
        clear hf HK
        go_wp2
        obtain ⟨q, hq⟩ : ∃ q, hasK ws k l.key = q := ⟨_, rfl⟩
        have HQ : Hid (hasK ws k l.key = q) := hq
        have hcall := fun W hb => HKK.out l.key W hb
        rw [hq] at hcall
        clear hq
        have HCALL : Hid (∀ W, Below w.heap.size w W → Calls Try.prog 77 #[.slice (some ⟨bx, ox, none⟩) k cx, .string l.key] W fun e w' => e = .returned (.bool q) ∧ Below W.heap.size W w') := hcall
        clear hcall HKK
        go_region_held3 (fun w' => Below wa.heap.size wa w' ∧ w'.cell? ⟨N, 0, none⟩ = some (.string l.key)) ((refine boxKey ?_ q0; repeat (first | exact Below.refl _ _ | assumption | refine Below.drew ?_ | refine balloc ?_ _ | refine bstep ?_ (by assumption))))
          (first | (go_at_call 77; refine (HCALL.out _ ?_).mono ?_; (focus (repeat (first | exact Below.refl _ _ | assumption | refine Below.drew ?_ | refine balloc ?_ _ | refine bstep ?_ (by assumption)))); rintro e w' ⟨rfl, hb1⟩))
        rename_i hH
        have hB2 := bstep hB hH.1
        clear hH
        cases q
        · have HQ2 : Hid (∀ j, j < k + 1 → wrAt ws j = 0) := fun j hj => by
            by_cases e : j = k
            · rw [e, HK2.out, if_neg (by rw [HQ.out]; decide)]
            · exact HP.out j (by omega)
          go_wp2
          exact ⟨⟨k + 1, by omega, by go_num, HQ2, hB2⟩, by simp [intOf]; omega⟩
        · have HQ2 : Hid (wrF ws = 7) := by
            have hh : wrAt ws k = 7 := by rw [HK2.out, if_pos HQ.out]
            rw [Hid, HC2.out (by rw [hh]; decide), hh]
          go_wp2
          go_ret
          exact ⟨by rw [HQ2.out]; rfl, hB2⟩
      · have HQ : Hid (wrF ws = rowFault (wrRow 1 l)) := by
          have hh : wrAt ws k = rowFault (wrRow 1 l) := by rw [HK.out, if_pos hf]
          rw [Hid, HC2.out (by rw [hh]; exact hf), hh]
        clear HK HC2
        generalize rowFault (wrRow 1 l) = c at *
        have hf2 : (c == 0) = false := by simpa using hf
        go_wp2
        go_ret
        exact ⟨by rw [HQ.out]; rfl, hB⟩
    · obtain rfl : k = n := by omega
      have hti : ¬ (k : Int) < (k : Int) := by omega
      have HE := HZ.out HP.out
      have HEE : Hid (wrF ws = if 500 < (packB 1 ws).length then 2 else 0) := HE
      clear HE HZ HC hx HKC
      go_wp2_with fail
      refine (HPK.out _ hbl).mono ?_
      rintro e w1 ⟨r, F, rfl, o1, hb1⟩
      obtain ⟨p, q, rfl⟩ := bytes_form (bytesR.ofO o1)
      have hB := bstep hbl hb1
      have hbb := HB.out
      clear o1 hb1 HPK HB
      generalize (packB 1 ws).length = L at *
      by_cases h5 : 500 < L
      · have h6 : (500 : Int) < (L : Int) := by omega
        go_wp2
        go_ret
        exact ⟨by rw [HEE.out, if_pos h5]; rfl, hB⟩
      · have h6 : ¬ (500 : Int) < (L : Int) := by omega
        go_wp2
        go_ret
        exact ⟨by rw [HEE.out, if_neg h5]; rfl, hB⟩

end Go.Proofs.Ytdfapehonegeeaa

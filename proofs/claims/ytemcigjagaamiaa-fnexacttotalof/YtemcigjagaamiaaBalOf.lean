/-
  BalanceOf on both sides.
-/
import Derived.Test.YtemcigjagaamiaaBookOf
import Derived.Test.YtemcigjagaamiaaLedFault
namespace Go.Proofs.Ytemcigjagaamiaa
open Go.RowKit
set_option linter.unusedSectionVars false
variable [DecidableEq Bal] [Inhabited Bal] [DecidableEq Ledg] [Inhabited Ledg] [DecidableEq Leg] [Inhabited Leg]
attribute [local go_sem ↓] Go.wp_at_zero Go.wp_at_succ

set_option maxHeartbeats 1000000 in
theorem l2Has_any (x : Value) (xs : List Bal) (a s : Int) (w : World) (hx : balsR.V w x xs) :
    Calls Try.prog 40 #[x, .int .i64 a, .int .i64 s] w fun e w' => e = .returned (.int .i64 (hasB a s xs)) ∧ w' = w := by
  obtain ⟨ax, cx, rfl, hcx, hmx, hx⟩ := hx
  unfold maxLen at hmx
  generalize hn' : xs.length = n at *
  have HN : Hid (xs.length = n) := hn'
  clear hn'
  go_enter Try.func40, Try.ntmps40
  go_wp2
  go_loopw [7] (fun i w' => ∃ k : Nat, k ≤ n ∧ i = .int .i64 k ∧ hasB a s (xs.drop k) = hasB a s xs ∧ w' = w) (fun i _ => n - (intOf i).toNat)
  case atStart => exact ⟨0, Nat.zero_le _, rfl, rfl, rfl⟩
  case round =>
    obtain ⟨k, hk, rfl, hs, rfl⟩ := hrel
    have HS : Hid (hasB a s (xs.drop k) = hasB a s xs) := hs
    clear hs
    by_cases hlt : k < n
    · obtain ⟨bx, ox, rfl, g1⟩ := hx k hlt
      have HD : Hid (hasB a s (xs.drop k) = if (xs.getD k default).ac = a ∧ (xs.getD k default).ast = s then (xs.getD k default).am else hasB a s (xs.drop (k + 1))) := hasB_drop (by rw [HN.out]; exact hlt)
      obtain ⟨l, hl⟩ : ∃ l, l = xs.getD k default := ⟨_, rfl⟩
      rw [← hl] at g1 HD
      clear hl hx
      obtain ⟨a1, a2, a3⟩ := g1
      go_wp2
      · rename_i e1 e2
        go_ret
        refine ⟨?_, rfl⟩
        rw [← HS.out, HD.out, if_pos ⟨e1, by simpa using e2⟩]
        rfl
      · rename_i e1 e2
        refine ⟨⟨k + 1, by omega, by go_num, ?_, trivial⟩, by simp [intOf]; omega⟩
        rw [← HS.out, HD.out, if_neg (fun h => by simp_all)]
      · rename_i e1
        refine ⟨⟨k + 1, by omega, by go_num, ?_, trivial⟩, by simp [intOf]; omega⟩
        rw [← HS.out, HD.out, if_neg (fun h => by simp_all)]
    · go_wp2
      go_ret
      refine ⟨?_, rfl⟩
      rw [← HS.out, List.drop_eq_nil_of_le (by rw [HN.out]; omega)]
      rfl

set_option maxHeartbeats 2000000 in
theorem specBalOf_any (x : Value) (g : Ledg) (s a t : Int) (w : World) (hx : ledgR.V w x g) :
    Calls Try.prog 19 #[x, .int .i64 s, .int .i64 a, .int .i64 t] w fun e w' => e = .returned (.agg #[.int .i64 (balCode g s a t), .int .i64 (balVal g s a t)]) ∧ Below w.heap.size w w' := by
  have hX := hx
  obtain ⟨u, rfl, ax, cx, rfl, hcx, hmx, hxx⟩ := hx
  unfold maxLen at hmx
  go_enter Try.func19, Try.ntmps19
  go_wp2_with fail
  refine (specLedFault_any _ g _ (ledgR.below hX (by (repeat (first | exact Below.refl _ _ | assumption | refine Below.drew ?_ | refine balloc ?_ _ | refine bset ?_ (by simp; omega) _ | refine bset ?_ (by simp) _ | refine bstep ?_ (by assumption)))))).mono ?_
  rintro e w1 ⟨rfl, hb1⟩
  have hB1 : Below w.heap.size w w1 := by (repeat (first | exact Below.refl _ _ | assumption | refine Below.drew ?_ | refine balloc ?_ _ | refine bset ?_ (by simp; omega) _ | refine bset ?_ (by simp) _ | refine bstep ?_ (by assumption)))
  have b0 : w1.cell? ⟨w.heap.size, 0, none⟩ = some (.slice ax g.shards.length cx) := cell_keep hb1 (by simp [go_sem])
  have r0 : w1.cell? ⟨w.heap.size + 1, 0, none⟩ = some (.int .i64 0) := cell_keep hb1 (by simp [go_sem])
  have r1 : w1.cell? ⟨w.heap.size + 1, 1, none⟩ = some (.int .i64 0) := cell_keep hb1 (by simp [go_sem])
  have hrf : ∀ o, w1.frozen? ⟨w.heap.size + 1, o, none⟩ = false := fun o => by rw [(bcell hb1).2 _ _ (by simp)]; simp [go_sem]
  clear hb1
  by_cases hf : ledFault g = 0
  · obtain ⟨hl1, hl3, _⟩ := ledOk_of hf
    have HF : Hid (ledFault g = 0) := hf
    rw [hf]
    clear hf
    have v1 : IntKind.i64.wrap ((g.shards.length : Int) - 1) = g.shards.length - 1 := wrapId (by omega) (by omega)
    cases h1 : inB s 0 ((g.shards.length : Int) - 1)
    · go_wp2_with (first | (go_at_call 32; refine (l1In_any _ _ _ _).mono ?_; rintro e w' ⟨rfl, rfl⟩) | (go_at_call 31; refine (l2Key_any _ _ _).mono ?_; rintro e w' ⟨rfl, rfl⟩))
      refine bodyPost_ret (v := .agg #[.int .i64 3, .int .i64 0]) ?_ rfl ⟨?_, by (repeat (first | exact Below.refl _ _ | assumption | refine Below.drew ?_ | refine balloc ?_ _ | refine bset ?_ (by simp; omega) _ | refine bset ?_ (by simp) _ | refine bstep ?_ (by assumption)))⟩
      · simp [results, Try.results19, go_sem, r0, r1]
      · simp [balCode, balVal, HF.out, h1]
    cases h2 : keyOk a t
    · go_wp2_with (first | (go_at_call 32; refine (l1In_any _ _ _ _).mono ?_; rintro e w' ⟨rfl, rfl⟩) | (go_at_call 31; refine (l2Key_any _ _ _).mono ?_; rintro e w' ⟨rfl, rfl⟩))
      refine bodyPost_ret (v := .agg #[.int .i64 3, .int .i64 0]) ?_ rfl ⟨?_, by (repeat (first | exact Below.refl _ _ | assumption | refine Below.drew ?_ | refine balloc ?_ _ | refine bset ?_ (by simp; omega) _ | refine bset ?_ (by simp) _ | refine bstep ?_ (by assumption)))⟩
      · simp [results, Try.results19, go_sem, r0, r1]
      · simp [balCode, balVal, HF.out, h1, h2]
    obtain ⟨i1, i2⟩ := inBi.1 h1
    have i3 : s < (g.shards.length : Int) := by omega
    obtain ⟨k, rfl⟩ : ∃ k : Nat, s = k := ⟨s.toNat, by omega⟩
    have hk : k < g.shards.length := by omega
    obtain ⟨bx, ox, u, rfl, _, hc, hu⟩ := hxx k hk
    have c1 := cell_keep hB1 (cells1 hc)
    have hu1 := balsR.below hu hB1
    clear hu hc hxx hX
    obtain ⟨l, hl⟩ : ∃ l, l = g.shards.getD k default := ⟨_, rfl⟩
    rw [← hl] at hu1
    have HL : Hid (l = g.shards.getD k default) := hl
    clear hl
    obtain ⟨a', c', rfl⟩ := bals_form hu1
    go_wp2_with (first | (go_at_call 32; refine (l1In_any _ _ _ _).mono ?_; rintro e w' ⟨rfl, rfl⟩) | (go_at_call 31; refine (l2Key_any _ _ _).mono ?_; rintro e w' ⟨rfl, rfl⟩) | (go_at_call 40; refine (l2Has_any _ l a t _ hu1).mono ?_; rintro e w' ⟨rfl, rfl⟩))
    refine bodyPost_ret (v := .agg #[.int .i64 0, .int .i64 (hasB a t l)]) ?_ rfl ⟨?_, by (repeat (first | exact Below.refl _ _ | assumption | refine Below.drew ?_ | refine balloc ?_ _ | refine bset ?_ (by simp; omega) _ | refine bset ?_ (by simp) _ | refine bstep ?_ (by assumption)))⟩
    · simp [results, Try.results19, go_sem, r0, r1]
    · simp only [balCode, balVal, HF.out, h1, h2, HL.out]
      simp
  · go_wp2
    refine bodyPost_ret (v := .agg #[.int .i64 (ledFault g), .int .i64 0]) ?_ rfl ⟨?_, by (repeat (first | exact Below.refl _ _ | assumption | refine Below.drew ?_ | refine balloc ?_ _ | refine bset ?_ (by simp; omega) _ | refine bset ?_ (by simp) _ | refine bstep ?_ (by assumption)))⟩
    · simp [results, Try.results19, go_sem, r0, r1]
    · simp [balCode, balVal, hf]

set_option maxHeartbeats 2000000 in
theorem implBalOf_any (x : Value) (g : Ledg) (s a t : Int) (w : World) (hx : ledgR.V w x g) :
    Calls Try.prog 20 #[x, .int .i64 s, .int .i64 a, .int .i64 t] w fun e w' => e = .returned (.agg #[.int .i64 (balCode g s a t), .int .i64 (balVal g s a t)]) ∧ Below w.heap.size w w' := by
  have hX := hx
  obtain ⟨u, rfl, hu⟩ := hx
  obtain ⟨ax, cx, rfl⟩ := balss_form hu
  clear hu
  go_enter Try.func20, Try.ntmps20
  go_wp2_with fail
  refine (implLedFault_any _ g _ (ledgR.below hX (by (repeat (first | exact Below.refl _ _ | assumption | refine Below.drew ?_ | refine balloc ?_ _ | refine bset ?_ (by simp; omega) _ | refine bset ?_ (by simp) _ | refine bstep ?_ (by assumption)))))).mono ?_
  rintro e w1 ⟨rfl, hb1⟩
  have hB1 : Below w.heap.size w w1 := by (repeat (first | exact Below.refl _ _ | assumption | refine Below.drew ?_ | refine balloc ?_ _ | refine bset ?_ (by simp; omega) _ | refine bset ?_ (by simp) _ | refine bstep ?_ (by assumption)))
  have b0 : w1.cell? ⟨w.heap.size, 0, none⟩ = some (.slice ax g.shards.length cx) := cell_keep hb1 (by simp [go_sem])
  have r0 : w1.cell? ⟨w.heap.size + 1, 0, none⟩ = some (.int .i64 0) := cell_keep hb1 (by simp [go_sem])
  have r1 : w1.cell? ⟨w.heap.size + 1, 1, none⟩ = some (.int .i64 0) := cell_keep hb1 (by simp [go_sem])
  have hrf : ∀ o, w1.frozen? ⟨w.heap.size + 1, o, none⟩ = false := fun o => by rw [(bcell hb1).2 _ _ (by simp)]; simp [go_sem]
  clear hb1
  by_cases hf : ledFault g = 0
  · obtain ⟨hl1, hl3, _⟩ := ledOk_of hf
    have HF : Hid (ledFault g = 0) := hf
    rw [hf]
    clear hf
    go_wp2_with fail
    refine (bookOf_any _ g _ (ledgR.below hX (by (repeat (first | exact Below.refl _ _ | assumption | refine Below.drew ?_ | refine balloc ?_ _ | refine bset ?_ (by simp; omega) _ | refine bset ?_ (by simp) _ | refine bstep ?_ (by assumption))))) HF.out).mono ?_
    rintro e w2 ⟨b, rfl, hbb, hK, hb2⟩
    have hB2 : Below w.heap.size w w2 := by (repeat (first | exact Below.refl _ _ | assumption | refine Below.drew ?_ | refine balloc ?_ _ | refine bset ?_ (by simp; omega) _ | refine bset ?_ (by simp) _ | refine bstep ?_ (by assumption)))
    replace hrf : ∀ o, w2.frozen? ⟨w.heap.size + 1, o, none⟩ = false := fun o => by rw [(bcell hb2).2 _ _ (World.block_lt_of_cell? _ _ r0)]; exact hrf o
    replace b0 := cell_keep hb2 b0
    replace r0 := cell_keep hb2 r0
    replace r1 := cell_keep hb2 r1
    have hz : w.heap.size + 1 < w2.heap.size := World.block_lt_of_cell? _ _ r0
    have hbz : w.heap.size ≤ b := by have := hB1.size; omega
    clear hb2 hB1 hbb
    go_wp2_with fail
    refine (hasShard_any g.shards.length _ s _ hl3 ⟨_, rfl⟩).mono ?_
    rintro e w3 ⟨rfl, hb3⟩
    have hB3 : Below w.heap.size w w3 := by (repeat (first | exact Below.refl _ _ | assumption | refine Below.drew ?_ | refine balloc ?_ _ | refine bset ?_ (by simp; omega) _ | refine bset ?_ (by simp) _ | refine bstep ?_ (by assumption)))
    have q1 : w3.cell? ⟨w2.heap.size, 1, none⟩ = some (.map (some b)) := cell_keep hb3 (by simp [go_sem])
    replace hrf : ∀ o, w3.frozen? ⟨w.heap.size + 1, o, none⟩ = false := fun o => by rw [(bcell hb3).2 _ _ (by simp; omega)]; simp [go_sem, hz, hrf]
    replace r0 := cell_keep hb3 (cell_keep (balloc (Below.refl _ _) _) r0)
    replace r1 := cell_keep hb3 (cell_keep (balloc (Below.refl _ _) _) r1)
    have hK3 := (hK.below (balloc (Below.refl _ _) _)).below hb3
    clear hb3 hB2 hK b0
    cases h1 : inB s 0 ((g.shards.length : Int) - 1)
    · go_wp2_with (first | (go_at_call 43; refine (isAccount_any _ _).mono ?_; rintro e w' ⟨rfl, rfl⟩) | (go_at_call 44; refine (isAsset_any _ _).mono ?_; rintro e w' ⟨rfl, rfl⟩))
      refine bodyPost_ret (v := .agg #[.int .i64 3, .int .i64 0]) ?_ rfl ⟨?_, by (repeat (first | exact Below.refl _ _ | assumption | refine Below.drew ?_ | refine balloc ?_ _ | refine bset ?_ (by simp; omega) _ | refine bset ?_ (by simp) _ | refine bstep ?_ (by assumption)))⟩
      · simp [results, Try.results20, go_sem, r0, r1]
      · simp [balCode, balVal, HF.out, h1]
    cases h2 : inB a 0 5
    · go_wp2_with (first | (go_at_call 43; refine (isAccount_any _ _).mono ?_; rintro e w' ⟨rfl, rfl⟩) | (go_at_call 44; refine (isAsset_any _ _).mono ?_; rintro e w' ⟨rfl, rfl⟩))
      refine bodyPost_ret (v := .agg #[.int .i64 3, .int .i64 0]) ?_ rfl ⟨?_, by (repeat (first | exact Below.refl _ _ | assumption | refine Below.drew ?_ | refine balloc ?_ _ | refine bset ?_ (by simp; omega) _ | refine bset ?_ (by simp) _ | refine bstep ?_ (by assumption)))⟩
      · simp [results, Try.results20, go_sem, r0, r1]
      · simp [balCode, balVal, HF.out, h1, keyOk, h2]
    cases h3 : inB t 0 2
    · go_wp2_with (first | (go_at_call 43; refine (isAccount_any _ _).mono ?_; rintro e w' ⟨rfl, rfl⟩) | (go_at_call 44; refine (isAsset_any _ _).mono ?_; rintro e w' ⟨rfl, rfl⟩))
      refine bodyPost_ret (v := .agg #[.int .i64 3, .int .i64 0]) ?_ rfl ⟨?_, by (repeat (first | exact Below.refl _ _ | assumption | refine Below.drew ?_ | refine balloc ?_ _ | refine bset ?_ (by simp; omega) _ | refine bset ?_ (by simp) _ | refine bstep ?_ (by assumption)))⟩
      · simp [results, Try.results20, go_sem, r0, r1]
      · simp [balCode, balVal, HF.out, h1, keyOk, h2, h3]
    have hall : (inB s 0 (g.shards.length - 1) && keyOk a t) = true := by simp [keyOk, h1, h2, h3]
    have HV : Hid (balVal g s a t = (bookF g.shards s a t).getD 0) := balVal_get g s a t HF.out hall
    obtain ⟨i1, i2⟩ := inBi.1 h1
    obtain ⟨i3, i4⟩ := inBi.1 h2
    obtain ⟨i5, i6⟩ := inBi.1 h3
    have hw : kwf s a t := ⟨wf_of (by omega) (by omega), wf_of (by omega) (by omega), wf_of (by omega) (by omega)⟩
    have h0 : Below w.heap.size w w3 ∧ w3.cell? ⟨w2.heap.size, 1, none⟩ = some (.map (some b)) := ⟨hB3, q1⟩
    have hne : ∀ o : Nat, (⟨w.heap.size + 1, o, none⟩ : Addr) ≠ ⟨w2.heap.size, 1, none⟩ := fun o e => by
      simp only [Addr.mk.injEq] at e
      omega
    have hz1 : w.heap.size ≤ w.heap.size + 1 := by omega
    obtain ⟨c, hcc⟩ : ∃ c, c = (bookF g.shards s a t).getD 0 := ⟨_, rfl⟩
    have hlk : ∀ W, Below w3.heap.size w3 W → (Instr.lookup 71 (.map (some b)) (kv s a t) false).run Try.prog W = .ok (.int .i64 c) W := fun W hW => by rw [hcc]; exact ((hK3.below hW).look hw).1
    rw [← hcc] at HV
    clear hcc hK3
    have hfr : ∀ W, Below w3.heap.size w3 W → ∀ o, W.frozen? ⟨w.heap.size + 1, o, none⟩ = false := fun W hW o => by rw [(bcell hW).2 _ _ (World.block_lt_of_cell? _ _ r0)]; exact hrf o
    go_wp2_with (first | (go_at_call 43; refine (isAccount_any _ _).mono ?_; rintro e w' ⟨rfl, rfl⟩) | (go_at_call 44; refine (isAsset_any _ _).mono ?_; rintro e w' ⟨rfl, rfl⟩))
    go_region_held3 (fun w' => Below w.heap.size w w' ∧ w'.cell? ⟨w2.heap.size, 1, none⟩ = some (.map (some b)))
      ((first | exact keepS1 h0 (Below.drew (Below.refl _ _)) | exact hS3 | (refine ⟨bset (bset hS3.1 hz1 _) hz1 _, ?_⟩; rw [set_other (hne _), set_other (hne _)]; exact hS3.2)))
      (first | (go_at_call 45; refine (keyOf_any _ _ _ _).mono ?_; rintro e w5 ⟨rfl, hb5⟩; have hS3 := keepS1 (keepS1 h0 (Below.drew (Below.refl _ _))) hb5; have hb6 := bstep (Below.drew (Below.refl _ _)) hb5; have hl5 := hlk _ hb6; have hf5 := hfr _ hb6; have r05 := cell_keep hb6 r0; have r15 := cell_keep hb6 r1))
    rename_i hH
    have hBZ := hH.1
    clear hH hS3
    go_wp2
    refine bodyPost_ret (v := .agg #[.int .i64 0, .int .i64 c]) ?_ rfl ⟨?_, hBZ⟩
    · simp [results, Try.results20, go_sem, r05, r15]
    · rw [HV.out, balCode, if_pos HF.out, if_pos hall]
  · go_wp2
    refine bodyPost_ret (v := .agg #[.int .i64 (ledFault g), .int .i64 0]) ?_ rfl ⟨?_, by (repeat (first | exact Below.refl _ _ | assumption | refine Below.drew ?_ | refine balloc ?_ _ | refine bset ?_ (by simp; omega) _ | refine bset ?_ (by simp) _ | refine bstep ?_ (by assumption)))⟩
    · simp [results, Try.results20, go_sem, r0, r1]
    · simp [balCode, balVal, hf]

end Go.Proofs.Ytemcigjagaamiaa

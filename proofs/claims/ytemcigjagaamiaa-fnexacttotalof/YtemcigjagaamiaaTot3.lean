/-
  TotalOf: the specification's side.
-/
import Derived.Test.YtemcigjagaamiaaTot2
namespace Go.Proofs.Ytemcigjagaamiaa
open Go.RowKit
set_option linter.unusedSectionVars false
variable [DecidableEq Bal] [Inhabited Bal] [DecidableEq Ledg] [Inhabited Ledg] [DecidableEq Leg] [Inhabited Leg] [DecidableEq Cont] [Inhabited Cont]
attribute [local go_sem ↓] Go.wp_at_zero Go.wp_at_succ

set_option maxHeartbeats 4000000 in
theorem specTot_any (x : Value) (g : Ledg) (t : Int) (w : World) (hx : ledgR.V w x g) :
    Calls Try.prog 22 #[x, .int .i64 t] w fun e w' => e = .returned (.agg #[.int .i64 (totCode g t), .int .i64 (totVal g t)]) ∧ Below w.heap.size w w' := by
  have hX := hx
  obtain ⟨u, rfl, ax, cx, rfl, hcx, hmx, hxx⟩ := hx
  unfold maxLen at hmx
  go_enter Try.func22, Try.ntmps22
  go_wp2_with fail
  refine (specLedFault_any _ g _ (ledgR.below hX (by (repeat (first | exact Below.refl _ _ | assumption | refine Below.drew ?_ | refine balloc ?_ _ | refine bset ?_ (by simp; omega) _ | refine bset ?_ (by simp) _ | refine bstep ?_ (by assumption)))))).mono ?_
  rintro e w1 ⟨rfl, hb1⟩
  have hB1 : Below w.heap.size w w1 := by (repeat (first | exact Below.refl _ _ | assumption | refine Below.drew ?_ | refine balloc ?_ _ | refine bset ?_ (by simp; omega) _ | refine bset ?_ (by simp) _ | refine bstep ?_ (by assumption)))
  have b0 : w1.cell? ⟨w.heap.size, 0, none⟩ = some (.slice ax g.shards.length cx) := cell_keep hb1 (by simp [go_sem])
  have r0 : w1.cell? ⟨w.heap.size + 1, 0, none⟩ = some (.int .i64 0) := cell_keep hb1 (by simp [go_sem])
  have r1 : w1.cell? ⟨w.heap.size + 1, 1, none⟩ = some (.int .i64 0) := cell_keep hb1 (by simp [go_sem])
  have hrf : ∀ o, w1.frozen? ⟨w.heap.size + 1, o, none⟩ = false := fun o => by rw [(bcell hb1).2 _ _ (by simp)]; simp [go_sem]
  clear hb1
  by_cases hf : ledFault g = 0
  · have HF : Hid (ledFault g = 0) := hf
    obtain ⟨hl1, hl3, hok⟩ := ledOk_of hf
    have HOK : Hid (∀ k, k < g.shards.length → BalsOk (g.shards.getD k default)) := hok
    rw [hf]
    clear hf hok
    cases h1 : inB t 0 2
    · go_wp2_with (first | (go_at_call 32; refine (l1In_any _ _ _ _).mono ?_; rintro e w' ⟨rfl, rfl⟩))
      refine bodyPost_ret (v := .agg #[.int .i64 3, .int .i64 0]) ?_ rfl ⟨?_, by (repeat (first | exact Below.refl _ _ | assumption | refine Below.drew ?_ | refine balloc ?_ _ | refine bset ?_ (by simp; omega) _ | refine bset ?_ (by simp) _ | refine bstep ?_ (by assumption)))⟩
      · simp [results, Try.results22, go_sem, r0, r1]
      · simp [totCode, totVal, HF.out, h1]
    have HX : Hid (balssR.V w1 (.slice ax g.shards.length cx) g.shards) := by
      obtain ⟨u', e, h⟩ := ledgR.below hX hB1
      simp only [Value.agg.injEq, Array.mk.injEq, List.cons.injEq, and_true] at e
      subst e
      exact h
    clear hxx hX
    generalize hn' : g.shards.length = n at *
    have HN : Hid (g.shards.length = n) := hn'
    clear hn'
    go_wp2_with (first | (go_at_call 32; refine (l1In_any _ _ _ _).mono ?_; rintro e w' ⟨rfl, rfl⟩))
    obtain ⟨ax', cx', e, _, _, hxx⟩ := HX.out
    rw [HN.out] at e hxx
    simp only [Value.slice.injEq, true_and] at e
    obtain ⟨rfl, rfl⟩ := e
    clear HX
    go_loopw [6, 7] (fun s i wr => ∃ k : Nat, k ≤ n ∧ i = .int .i64 k ∧ s = .int .i64 (sumG t (g.shards.take k)) ∧ wr = w') (fun _ i _ => n - (intOf i).toNat)
    case atStart => exact ⟨0, Nat.zero_le _, rfl, by simp [sumG], rfl⟩
    case round =>
      obtain ⟨k, hk, rfl, rfl, rfl⟩ := hrel
      have hgl := sumG_le (t := t) (sh := g.shards) (by rw [HN.out]; exact HOK.out) k (by rw [HN.out]; exact hk)
      obtain ⟨sg, hsg⟩ : ∃ sg, sg = sumG t (g.shards.take k) := ⟨_, rfl⟩
      have HSG : Hid (sg = sumG t (g.shards.take k)) := hsg
      rw [← hsg] at hgl ⊢
      clear hsg
      by_cases hlt : k < n
      · obtain ⟨bx, ox, u, rfl, _, hc, hu⟩ := hxx k hlt
        have c1 := cells1 hc
        have hb := HOK.out k hlt
        clear hc hxx
        have HSN : Hid (sumG t (g.shards.take (k + 1)) = sg + sumB t (g.shards.getD k default)) := by show _ = _; rw [sumG_snoc t (by rw [HN.out]; exact hlt), HSG.out]
        obtain ⟨l, hl⟩ : ∃ l, l = g.shards.getD k default := ⟨_, rfl⟩
        rw [← hl] at hu hb HSN
        clear hl
        have hlen := hb.len
        have HBO : Hid (∀ j, j < l.length → balOk (l.getD j default) = true) := hb.ok
        clear hb
        obtain ⟨a', c', rfl, hcc, hmc, hu⟩ := hu
        unfold maxLen at hmc
        generalize hm' : l.length = m at *
        have HM : Hid (l.length = m) := hm'
        clear hm'
        go_wp2
        go_loopw [6, 8] (fun s i w2 => ∃ p : Nat, p ≤ m ∧ i = .int .i64 p ∧ s = .int .i64 (sg + sumB t (l.take p)) ∧ w2 = wr) (fun _ i _ => m - (intOf i).toNat)
        case atStart => exact ⟨0, Nat.zero_le _, rfl, by simp [sumB], rfl⟩
        case round =>
          obtain ⟨p, hp, rfl, rfl, rfl⟩ := hrel
          have hbl := sumB_le (t := t) (xs := l) (by rw [HM.out]; exact HBO.out) p (by rw [HM.out]; exact hp)
          obtain ⟨sb, hsb⟩ : ∃ sb, sb = sumB t (l.take p) := ⟨_, rfl⟩
          have HSB : Hid (sb = sumB t (l.take p)) := hsb
          rw [← hsb] at hbl ⊢
          clear hsb
          by_cases hlt3 : p < m
          · obtain ⟨b5, o5, rfl, g1⟩ := hu p hlt3
            have hq := (balOk_iff.1 (HBO.out p hlt3)).2
            have HPN : Hid (sumB t (l.take (p + 1)) = sb + if (l.getD p default).ast = t then (l.getD p default).am else 0) := by show _ = _; rw [sumB_snoc t (by rw [HM.out]; exact hlt3), HSB.out]
            obtain ⟨q, hqq⟩ : ∃ q, q = l.getD p default := ⟨_, rfl⟩
            rw [← hqq] at g1 hq HPN
            clear hqq hu
            obtain ⟨e1, e2, e3⟩ := g1
            have v1 : IntKind.i64.wrap (sg + sb + q.am) = sg + sb + q.am := wrapId (by omega) (by omega)
            go_wp2
            · rename_i ee
              refine ⟨⟨p + 1, by omega, by go_num, ?_, trivial⟩, by simp [intOf]; omega⟩
              rw [HPN.out, if_pos (by simpa using ee), Int.add_assoc]
            · rename_i ee
              refine ⟨⟨p + 1, by omega, by go_num, ?_, trivial⟩, by simp [intOf]; omega⟩
              rw [HPN.out, if_neg (by simpa using ee), Int.add_zero]
          · have hpm : p = m := by omega
            subst hpm
            go_wp2
            refine ⟨⟨k + 1, by omega, by go_num, ?_, trivial⟩, by simp [intOf]; omega⟩
            rw [HSN.out, HSB.out, ← HM.out, List.take_length]
      · have hkn : k = n := by omega
        subst hkn
        have HE : Hid (sg = sumG t g.shards) := by show _ = _; rw [HSG.out, ← HN.out, List.take_length]
        go_wp2
        refine bodyPost_ret (v := .agg #[.int .i64 0, .int .i64 sg]) ?_ rfl ⟨?_, by (repeat (first | exact Below.refl _ _ | assumption | refine Below.drew ?_ | refine balloc ?_ _ | refine bset ?_ (by simp; omega) _ | refine bset ?_ (by simp) _ | refine bstep ?_ (by assumption)))⟩
        · simp [results, Try.results22, go_sem, r0, r1]
        · rw [totCode, if_pos HF.out, if_pos h1, totVal, if_pos ⟨HF.out, h1⟩, HE.out]
  · go_wp2
    refine bodyPost_ret (v := .agg #[.int .i64 (ledFault g), .int .i64 0]) ?_ rfl ⟨?_, by (repeat (first | exact Below.refl _ _ | assumption | refine Below.drew ?_ | refine balloc ?_ _ | refine bset ?_ (by simp; omega) _ | refine bset ?_ (by simp) _ | refine bstep ?_ (by assumption)))⟩
    · simp [results, Try.results22, go_sem, r0, r1]
    · simp [totCode, totVal, hf]

end Go.Proofs.Ytemcigjagaamiaa

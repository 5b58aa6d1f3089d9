/-
  TotalOf on both sides.
-/
import Derived.Test.YtemcigjagaamiaaTot
namespace Go.Proofs.Ytemcigjagaamiaa
open Go.RowKit Go.Maps
set_option linter.unusedSectionVars false
variable [DecidableEq Bal] [Inhabited Bal] [DecidableEq Ledg] [Inhabited Ledg] [DecidableEq Leg] [Inhabited Leg] [DecidableEq Cont] [Inhabited Cont]
attribute [local go_sem ↓] Go.wp_at_zero Go.wp_at_succ

theorem invV64 (v : Value) (y : DataW Unit × List MemPlace) (h : plainElem Try.prog 2 v = some y) : ∃ c : Int, v = (fun c => Value.int .i64 c) c := by
  obtain ⟨c, rfl, _⟩ := plainElem_int_inv Try.underlying2 h
  exact ⟨c, rfl⟩
theorem invKh (key : Value) (kl : Lit) (h : keyOf Try.prog 77 key = some kl) : ∃ x : Int × Int × Int, key = (fun x : Int × Int × Int => Value.agg #[.int .i64 x.1, .int .i64 x.2.1, .int .i64 x.2.2]) x := by
  obtain ⟨s, a, t, rfl, _⟩ := kv_of_key h
  exact ⟨(s, a, t), rfl⟩

set_option maxHeartbeats 2000000 in
set_option maxRecDepth 20000 in
theorem total_any (n b m : Nat) (f : Int → Int → Int → Option Int) (t : Int) (w : World) (hb : Book w b m f) (hs : smallF f) (hd : domF f) (ht : 0 ≤ t ∧ t ≤ 2) :
    Calls Try.prog 46 #[.agg #[.int .i64 n, .map (some b)], .int .i64 t] w fun e w' => e = .returned (.int .i64 (sumD (fun s a => (f s a t).getD 0))) ∧ Below w.heap.size w w' := by
  obtain ⟨D, hD, h1⟩ := hb
  have HS : Hid (smallF f) := hs
  have HD : Hid (domF f) := hd
  have H1 : Hid (∀ s a t kl, keyOf Try.prog 77 (kv s a t) = some kl → Maps.has D kl = (f s a t).isSome ∧ D.atKey kl (.lit (.int .i64 0)) = .lit (.int .i64 ((f s a t).getD 0))) := h1
  clear hs hd h1
  have hD0 := hD.alloc (.cells #[.int .i64 n, .map (some b)] 73)
  go_enter Try.func46, Try.ntmps46
  go_wp2_with (first
    | (at_range; refine wpList_range_own _ rfl _ 71 rfl 77 2 holdLaw Try.underlying71 _ b m D rfl hD0 ?_; intro w0 hrg0 hg0 hs0)
    | go_in)
  go_frame
  have e1 : (w.alloc (.cells #[.int .i64 n, .map (some b)] 73)).heap.size = w.heap.size + 1 := by simp
  rw [e1] at hrg0 hs0 ⊢
  have hB0 : Below w.heap.size w w0 := (balloc (Below.refl _ _) _).grown hg0 (by simp) (fun k e => by cases e)
  clear hg0 hs0 e1 hD hD0
  go_loopw [5] (fun v wr => ∃ (left : Lit → Bool) (cnt : Nat), v = .int .i64 (came (keyOf Try.prog 77) f left t) ∧ wr.ranges (H := Unit) Try.prog 77 (plainElem Try.prog 2) b (w.heap.size + 1) m D left cnt ∧ Below w.heap.size w wr) (fun _ wr => wr.rangeLeft b (w.heap.size + 1))
  case atStart => exact ⟨_, _, by rw [came_start H1.out ht], hrg0, hB0⟩
  case round =>
    obtain ⟨left, cnt, rfl, hrg, hbl⟩ := hrel
    obtain ⟨sm, hsm⟩ : ∃ sm, sm = came (keyOf Try.prog 77) f left t := ⟨_, rfl⟩
    have HSM : Hid (sm = came (keyOf Try.prog 77) f left t) := hsm
    have hle := came_le HS.out left t
    rw [← hsm] at hle ⊢
    clear hsm
    go_wp2_with (first
      | (at_next; refine wpList_next_ranges _ rfl _ rfl 77 holdLaw _ (fun x : Int × Int × Int => Value.agg #[.int .i64 x.1, .int .i64 x.2.1, .int .i64 x.2.2]) (fun c : Int => Value.int .i64 c) invKh invV64 b (w.heap.size + 1) m D left cnt rfl hrg ?_ ?_)
      | go_in)
    · intro _ hl0
      go_wp2
      go_ret
      refine ⟨?_, hbl⟩
      rw [← came_end hl0 t, ← HSM.out]
      rfl
    · intro s a t' c kl y1 y2 w1 cnt1 hk hlk hv hat hrg1 hlt hg1 hs1 hen
      obtain ⟨c', ec, ey, hwc⟩ := plainElem_int_inv Try.underlying2 hv
      simp only [Value.int.injEq, true_and] at ec
      subst ec
      simp only [Prod.mk.injEq] at ey
      obtain ⟨rfl, rfl⟩ := ey
      have hat0 := hat (.lit (.int .i64 0))
      obtain ⟨q1, q2⟩ := H1.out s a t' kl hk
      rw [hat0] at q2
      simp only [DataW.lit.injEq, Lit.int.injEq, true_and] at q2
      have hsome : (f s a t').isSome = true := by rw [← q1]; exact has_true_of_atKey hat
      have hdm := HD.out s a t' hsome
      have hcl := HS.out s a t'
      rw [← q2] at hcl
      have HST : Hid (came (keyOf Try.prog 77) f (fun z => left z && !z.sameKey kl) t = sm + if t' = t then c else 0) := by show _ = _; rw [came_step hk hlk ⟨hdm.1, hdm.2.1⟩ t, ← HSM.out, ← q2]
      have hB1 : Below w.heap.size w w1 := hbl.grown hg1 hbl.size (fun k e => by cases e; omega)
      clear hk hat hat0 q1 q2 hsome hdm hv hg1
      have v1 : IntKind.i64.wrap (sm + c) = sm + c := wrapId (by omega) (by omega)
      go_wp2
      · rename_i e1
        refine ⟨⟨_, cnt1, ?_, hrg1.alloc _, by (repeat (first | exact Below.refl _ _ | assumption | refine Below.drew ?_ | refine balloc ?_ _ | refine bset ?_ (by simp; omega) _ | refine bset ?_ (by simp) _ | refine bstep ?_ (by assumption)))⟩, by rw [(hrg1.alloc _).left_eq, hrg.left_eq]; exact hlt⟩
        rw [HST.out, if_pos (by simpa using e1)]
      · rename_i e1
        refine ⟨⟨_, cnt1, ?_, hrg1.alloc _, by (repeat (first | exact Below.refl _ _ | assumption | refine Below.drew ?_ | refine balloc ?_ _ | refine bset ?_ (by simp; omega) _ | refine bset ?_ (by simp) _ | refine bstep ?_ (by assumption)))⟩, by rw [(hrg1.alloc _).left_eq, hrg.left_eq]; exact hlt⟩
        rw [HST.out, if_neg (by simpa using e1), Int.add_zero]

theorem domF_of {g : Ledg} (h : ledFault g = 0) : domF (bookF g.shards) := by
  intro s a t hs
  obtain ⟨h1, h3, hok⟩ := ledOk_of h
  unfold bookF at hs
  split at hs
  · rename_i hr
    have hb := hok s.toNat (by omega)
    refine ⟨by omega, ?_⟩
    have key : ∀ (xs : List Bal), (∀ k, k < xs.length → balOk (xs.getD k default) = true) → (getB a t xs).isSome = true → (0 ≤ a ∧ a ≤ 5) ∧ (0 ≤ t ∧ t ≤ 2) := by
      intro xs
      induction xs with
      | nil => intro _ h; simp [getB] at h
      | cons x r ih =>
        intro hk h
        simp only [getB] at h
        split at h
        · rename_i e
          have := (balOk_iff.1 (hk 0 (by simp))).1
          simp only [List.getD_cons_zero] at this
          rw [← e.1, ← e.2]
          exact this
        · exact ih (fun k hk' => by have := hk (k + 1) (by simpa using hk'); simpa only [List.getD_cons_succ] using this) h
    exact key _ hb.ok hs
  · simp at hs

set_option maxHeartbeats 2000000 in
theorem implTot_any (x : Value) (g : Ledg) (t : Int) (w : World) (hx : ledgR.V w x g) :
    Calls Try.prog 23 #[x, .int .i64 t] w fun e w' => e = .returned (.agg #[.int .i64 (totCode g t), .int .i64 (totVal g t)]) ∧ Below w.heap.size w w' := by
  have hX := hx
  obtain ⟨u, rfl, hu⟩ := hx
  obtain ⟨ax, cx, rfl⟩ := balss_form hu
  clear hu
  go_enter Try.func23, Try.ntmps23
  go_wp2_with fail
  refine (implLedFault_any _ g _ (ledgR.below hX (by (repeat (first | exact Below.refl _ _ | assumption | refine Below.drew ?_ | refine balloc ?_ _ | refine bset ?_ (by simp; omega) _ | refine bset ?_ (by simp) _ | refine bstep ?_ (by assumption)))))).mono ?_
  rintro e w1 ⟨rfl, hb1⟩
  have hB1 : Below w.heap.size w w1 := by (repeat (first | exact Below.refl _ _ | assumption | refine Below.drew ?_ | refine balloc ?_ _ | refine bset ?_ (by simp; omega) _ | refine bset ?_ (by simp) _ | refine bstep ?_ (by assumption)))
  have b0 : w1.cell? ⟨w.heap.size, 0, none⟩ = some (.slice ax g.shards.length cx) := cell_keep hb1 (by simp [go_sem])
  have r0 : w1.cell? ⟨w.heap.size + 1, 0, none⟩ = some (.int .i64 0) := cell_keep hb1 (by simp [go_sem])
  have r1 : w1.cell? ⟨w.heap.size + 1, 1, none⟩ = some (.int .i64 0) := cell_keep hb1 (by simp [go_sem])
  have hrf : ∀ o, w1.frozen? ⟨w.heap.size + 1, o, none⟩ = false := fun o => by rw [(bcell hb1).2 _ _ (by simp)]; simp [go_sem]
  clear hb1
  by_cases hf : ledFault g = 0
  · have HF : Hid (ledFault g = 0) := hf
    rw [hf]
    clear hf
    cases h1 : inB t 0 2
    · go_wp2_with (first | (go_at_call 44; refine (isAsset_any _ _).mono ?_; rintro e w' ⟨rfl, rfl⟩))
      refine bodyPost_ret (v := .agg #[.int .i64 3, .int .i64 0]) ?_ rfl ⟨?_, by (repeat (first | exact Below.refl _ _ | assumption | refine Below.drew ?_ | refine balloc ?_ _ | refine bset ?_ (by simp; omega) _ | refine bset ?_ (by simp) _ | refine bstep ?_ (by assumption)))⟩
      · simp [results, Try.results23, go_sem, r0, r1]
      · simp [totCode, totVal, HF.out, h1]
    go_wp2_with (first | (go_at_call 44; refine (isAsset_any _ _).mono ?_; rintro e w' ⟨rfl, rfl⟩) | fail)
    refine (bookOf_any _ g _ (ledgR.below hX (by (repeat (first | exact Below.refl _ _ | assumption | refine Below.drew ?_ | refine balloc ?_ _ | refine bset ?_ (by simp; omega) _ | refine bset ?_ (by simp) _ | refine bstep ?_ (by assumption))))) HF.out).mono ?_
    rintro e w2 ⟨b, rfl, hbb, hK, hb2⟩
    have hB2 : Below w.heap.size w w2 := by (repeat (first | exact Below.refl _ _ | assumption | refine Below.drew ?_ | refine balloc ?_ _ | refine bset ?_ (by simp; omega) _ | refine bset ?_ (by simp) _ | refine bstep ?_ (by assumption)))
    replace hrf : ∀ o, w2.frozen? ⟨w.heap.size + 1, o, none⟩ = false := fun o => by rw [(bcell hb2).2 _ _ (World.block_lt_of_cell? _ _ r0)]; exact hrf o
    replace r0 := cell_keep hb2 r0
    replace r1 := cell_keep hb2 r1
    clear hb2 hB1 hbb b0
    go_wp2_with fail
    refine (total_any g.shards.length b 54 (bookF g.shards) t _ hK (smallF_of HF.out) (domF_of HF.out) (inBi.1 h1)).mono ?_
    rintro e w3 ⟨rfl, hb3⟩
    have hB3 : Below w.heap.size w w3 := by (repeat (first | exact Below.refl _ _ | assumption | refine Below.drew ?_ | refine balloc ?_ _ | refine bset ?_ (by simp; omega) _ | refine bset ?_ (by simp) _ | refine bstep ?_ (by assumption)))
    replace hrf : ∀ o, w3.frozen? ⟨w.heap.size + 1, o, none⟩ = false := fun o => by rw [(bcell hb3).2 _ _ (World.block_lt_of_cell? _ _ r0)]; exact hrf o
    replace r0 := cell_keep hb3 r0
    replace r1 := cell_keep hb3 r1
    clear hb3 hB2 hK
    rw [sumD_book HF.out]
    go_wp2
    refine bodyPost_ret (v := .agg #[.int .i64 0, .int .i64 (sumG t g.shards)]) ?_ rfl ⟨?_, by (repeat (first | exact Below.refl _ _ | assumption | refine Below.drew ?_ | refine balloc ?_ _ | refine bset ?_ (by simp; omega) _ | refine bset ?_ (by simp) _ | refine bstep ?_ (by assumption)))⟩
    · simp [results, Try.results23, go_sem, r0, r1]
    · rw [totCode, if_pos HF.out, if_pos h1, totVal, if_pos ⟨HF.out, h1⟩]
  · go_wp2
    refine bodyPost_ret (v := .agg #[.int .i64 (ledFault g), .int .i64 0]) ?_ rfl ⟨?_, by (repeat (first | exact Below.refl _ _ | assumption | refine Below.drew ?_ | refine balloc ?_ _ | refine bset ?_ (by simp; omega) _ | refine bset ?_ (by simp) _ | refine bstep ?_ (by assumption)))⟩
    · simp [results, Try.results23, go_sem, r0, r1]
    · simp [totCode, totVal, hf]

theorem sumB_append (t : Int) : ∀ (l r : List Bal), sumB t (l ++ r) = sumB t l + sumB t r
  | [], r => by simp [sumB]
  | x :: l, r => by simp only [List.cons_append, sumB, sumB_append t l r]; omega
theorem sumB_snoc (t : Int) {xs : List Bal} {k : Nat} (h : k < xs.length) : sumB t (xs.take (k + 1)) = sumB t (xs.take k) + if (xs.getD k default).ast = t then (xs.getD k default).am else 0 := by
  rw [take_bal xs k h, sumB_append]; simp [sumB]
theorem sumG_append (t : Int) : ∀ (l r : List (List Bal)), sumG t (l ++ r) = sumG t l + sumG t r
  | [], r => by simp [sumG]
  | x :: l, r => by simp only [List.cons_append, sumG, sumG_append t l r]; omega
theorem sumG_snoc (t : Int) {xs : List (List Bal)} {k : Nat} (h : k < xs.length) : sumG t (xs.take (k + 1)) = sumG t (xs.take k) + sumB t (xs.getD k default) := by
  rw [List.take_add_one, sumG_append]; simp [sumG, List.getD, h]
theorem sumB_le {t : Int} {xs : List Bal} (h : ∀ k, k < xs.length → balOk (xs.getD k default) = true) : ∀ k, k ≤ xs.length → 0 ≤ sumB t (xs.take k) ∧ sumB t (xs.take k) ≤ 1000000000000 * k
  | 0, _ => by simp [sumB]
  | k + 1, hk => by
    have ih := sumB_le (t := t) h k (by omega)
    have hb := (balOk_iff.1 (h k (by omega))).2
    rw [sumB_snoc t (by omega)]
    split <;> omega
theorem sumG_le {t : Int} {sh : List (List Bal)} (h : ∀ k, k < sh.length → BalsOk (sh.getD k default)) : ∀ k, k ≤ sh.length → 0 ≤ sumG t (sh.take k) ∧ sumG t (sh.take k) ≤ 18000000000000 * k
  | 0, _ => by simp [sumG]
  | k + 1, hk => by
    have ih := sumG_le (t := t) h k (by omega)
    have hb := h k (by omega)
    have h2 := sumB_le (t := t) hb.ok _ (Nat.le_refl _)
    rw [List.take_length] at h2
    have := hb.len
    rw [sumG_snoc t (by omega)]
    omega

end Go.Proofs.Ytemcigjagaamiaa

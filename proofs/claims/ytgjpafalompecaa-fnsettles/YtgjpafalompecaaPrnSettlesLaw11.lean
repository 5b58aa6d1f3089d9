import Derived.Test.YtgjpafalompecaaPrnSettlesLaw10
import Derived.Test.YtgjpafalompecaaPrnSettlesLaw5
import Derived.Sort.MapsRangeIn
import Derived.Test.YtgjpafalompecaaPrnSettlesLaw6

/-
  TotalOf on both sides.
-/
namespace Go.Proofs.Ytgjpafalompecaa
open Go.RowKit Go.Maps
set_option linter.unusedSectionVars false
variable [DecidableEq Bal] [Inhabited Bal] [DecidableEq Ledg] [Inhabited Ledg] [DecidableEq Leg] [Inhabited Leg] [DecidableEq Cont] [Inhabited Cont]
attribute [local go_sem ↓] Go.wp_at_zero Go.wp_at_succ

theorem invV64 (v : Value) (y : DataW Unit × List MemPlace) (h : plainElem Try.prog 2 v = some y) : ∃ c : Int, v = (fun c => Value.int .i64 c) c := by
  obtain ⟨c, rfl, _⟩ := plainElem_int_inv Try.underlying2 h
  exact ⟨c, rfl⟩
theorem invKh (key : Value) (kl : Lit) (h : keyOf Try.prog 64 key = some kl) : ∃ x : Int × Int × Int, key = (fun x : Int × Int × Int => Value.agg #[.int .i64 x.1, .int .i64 x.2.1, .int .i64 x.2.2]) x := by
  obtain ⟨s, a, t, rfl, _⟩ := kv_of_key h
  exact ⟨(s, a, t), rfl⟩
set_option maxHeartbeats 2000000 in
set_option maxRecDepth 20000 in
theorem total_any (n b m : Nat) (f : Int → Int → Int → Option Int) (t : Int) (w : World) (hb : Book w b m f) (hs : smallF f) (hd : domF f) (ht : 0 ≤ t ∧ t ≤ 2) :
    Calls Try.prog 26 #[.agg #[.int .i64 n, .map (some b)], .int .i64 t] w fun e w' => e = .returned (.int .i64 (sumD (fun s a => (f s a t).getD 0))) ∧ Below w.heap.size w w' := by
  obtain ⟨D, hD, h1⟩ := hb
  have HS : Hid (smallF f) := hs
  have HD : Hid (domF f) := hd
  have H1 : Hid (∀ s a t kl, keyOf Try.prog 64 (kv s a t) = some kl → Maps.has D kl = (f s a t).isSome ∧ D.atKey kl (.lit (.int .i64 0)) = .lit (.int .i64 ((f s a t).getD 0))) := h1
  clear hs hd h1
  have hD0 := hD.alloc (.cells #[.int .i64 n, .map (some b)] 56)
  go_enter Try.func26, Try.ntmps26
  go_wp2_with (first
    | (at_range; refine wpList_range_own _ rfl _ 54 rfl 64 2 holdLaw Try.underlying54 _ b m D rfl hD0 ?_; intro w0 hrg0 hg0 hs0)
    | go_in)
  go_frame
  have e1 : (w.alloc (.cells #[.int .i64 n, .map (some b)] 56)).heap.size = w.heap.size + 1 := by simp
  rw [e1] at hrg0 hs0 ⊢
  have hB0 : Below w.heap.size w w0 := (balloc (Below.refl _ _) _).grown hg0 (by simp) (fun k e => by cases e)
  clear hg0 hs0 e1 hD hD0
  go_loopw [5] (fun v wr => ∃ (left : Lit → Bool) (cnt : Nat), v = .int .i64 (came (keyOf Try.prog 64) f left t) ∧ wr.ranges (H := Unit) Try.prog 64 (plainElem Try.prog 2) b (w.heap.size + 1) m D left cnt ∧ Below w.heap.size w wr) (fun _ wr => wr.rangeLeft b (w.heap.size + 1))
  case atStart => exact ⟨_, _, by rw [came_start H1.out ht], hrg0, hB0⟩
  case round =>
    obtain ⟨left, cnt, rfl, hrg, hbl⟩ := hrel
    obtain ⟨sm, hsm⟩ : ∃ sm, sm = came (keyOf Try.prog 64) f left t := ⟨_, rfl⟩
    have HSM : Hid (sm = came (keyOf Try.prog 64) f left t) := hsm
    have hle := came_le HS.out left t
    rw [← hsm] at hle ⊢
    clear hsm
    go_wp2_with (first
      | (at_next; refine wpList_next_ranges _ rfl _ rfl 64 holdLaw _ (fun x : Int × Int × Int => Value.agg #[.int .i64 x.1, .int .i64 x.2.1, .int .i64 x.2.2]) (fun c : Int => Value.int .i64 c) invKh invV64 b (w.heap.size + 1) m D left cnt rfl hrg ?_ ?_)
      | go_in)
    · intro _ hl0
      go_wp2
      go_ret
      refine ⟨?_, hbl⟩
      rw [← came_end hl0 t, ← HSM.out]
      rfl
    · intro s a t' c kl y1 y2 w1 cnt1 hk hlk hv hat hrg1 hlt hg1 hs1 hen
      obtain ⟨c', ec, ey, hwc⟩ := plainElem_int_inv Try.underlying2 hv
      simp only [Value.int.injEq, true_and] at ec
      subst ec
      simp only [Prod.mk.injEq] at ey
      obtain ⟨rfl, rfl⟩ := ey
      have hat0 := hat (.lit (.int .i64 0))
      obtain ⟨q1, q2⟩ := H1.out s a t' kl hk
      rw [hat0] at q2
      simp only [DataW.lit.injEq, Lit.int.injEq, true_and] at q2
      have hsome : (f s a t').isSome = true := by rw [← q1]; exact has_true_of_atKey hat
      have hdm := HD.out s a t' hsome
      have hcl := HS.out s a t'
      rw [← q2] at hcl
      have HST : Hid (came (keyOf Try.prog 64) f (fun z => left z && !z.sameKey kl) t = sm + if t' = t then c else 0) := by show _ = _; rw [came_step hk hlk ⟨hdm.1, hdm.2.1⟩ t, ← HSM.out, ← q2]
      have hB1 : Below w.heap.size w w1 := hbl.grown hg1 hbl.size (fun k e => by cases e; omega)
      clear hk hat hat0 q1 q2 hsome hdm hv hg1
      have v1 : IntKind.i64.wrap (sm + c) = sm + c := wrapId (by omega) (by omega)
      go_wp2
      · rename_i e1
        refine ⟨⟨_, cnt1, ?_, hrg1.alloc _, by (repeat (first | exact Below.refl _ _ | assumption | refine Below.drew ?_ | refine balloc ?_ _ | refine bset ?_ (by simp; omega) _ | refine bset ?_ (by simp) _ | refine bstep ?_ (by assumption)))⟩, by rw [(hrg1.alloc _).left_eq, hrg.left_eq]; exact hlt⟩
        rw [HST.out, if_pos (by simpa using e1)]
      · rename_i e1
        refine ⟨⟨_, cnt1, ?_, hrg1.alloc _, by (repeat (first | exact Below.refl _ _ | assumption | refine Below.drew ?_ | refine balloc ?_ _ | refine bset ?_ (by simp; omega) _ | refine bset ?_ (by simp) _ | refine bstep ?_ (by assumption)))⟩, by rw [(hrg1.alloc _).left_eq, hrg.left_eq]; exact hlt⟩
        rw [HST.out, if_neg (by simpa using e1), Int.add_zero]
theorem domF_of {g : Ledg} (h : ledFault g = 0) : domF (bookF g.shards) := by
  intro s a t hs
  obtain ⟨h1, h3, hok⟩ := ledOk_of h
  unfold bookF at hs
  split at hs
  · rename_i hr
    have hb := hok s.toNat (by omega)
    refine ⟨by omega, ?_⟩
    have key : ∀ (xs : List Bal), (∀ k, k < xs.length → balOk (xs.getD k default) = true) → (getB a t xs).isSome = true → (0 ≤ a ∧ a ≤ 5) ∧ (0 ≤ t ∧ t ≤ 2) := by
      intro xs
      induction xs with
      | nil => intro _ h; simp [getB] at h
      | cons x r ih =>
        intro hk h
        simp only [getB] at h
        split at h
        · rename_i e
          have := (balOk_iff.1 (hk 0 (by simp))).1
          simp only [List.getD_cons_zero] at this
          rw [← e.1, ← e.2]
          exact this
        · exact ih (fun k hk' => by have := hk (k + 1) (by simpa using hk'); simpa only [List.getD_cons_succ] using this) h
    exact key _ hb.ok hs
  · simp at hs
set_option maxHeartbeats 2000000 in
theorem implTot_any (x : Value) (g : Ledg) (t : Int) (w : World) (hx : ledgR.V w x g) :
    Calls Try.prog 10 #[x, .int .i64 t] w fun e w' => e = .returned (.agg #[.int .i64 (totCode g t), .int .i64 (totVal g t)]) ∧ Below w.heap.size w w' := by
  have hX := hx
  obtain ⟨u, rfl, hu⟩ := hx
  obtain ⟨ax, cx, rfl⟩ := balss_form hu
  clear hu
  go_enter Try.func10, Try.ntmps10
  go_wp2_with fail
  refine (implLedFault_any _ g _ (ledgR.below hX (by (repeat (first | exact Below.refl _ _ | assumption | refine Below.drew ?_ | refine balloc ?_ _ | refine bset ?_ (by simp; omega) _ | refine bset ?_ (by simp) _ | refine bstep ?_ (by assumption)))))).mono ?_
  rintro e w1 ⟨rfl, hb1⟩
  have hB1 : Below w.heap.size w w1 := by (repeat (first | exact Below.refl _ _ | assumption | refine Below.drew ?_ | refine balloc ?_ _ | refine bset ?_ (by simp; omega) _ | refine bset ?_ (by simp) _ | refine bstep ?_ (by assumption)))
  have b0 : w1.cell? ⟨w.heap.size, 0, none⟩ = some (.slice ax g.shards.length cx) := cell_keep hb1 (by simp [go_sem])
  have r0 : w1.cell? ⟨w.heap.size + 1, 0, none⟩ = some (.int .i64 0) := cell_keep hb1 (by simp [go_sem])
  have r1 : w1.cell? ⟨w.heap.size + 1, 1, none⟩ = some (.int .i64 0) := cell_keep hb1 (by simp [go_sem])
  have hrf : ∀ o, w1.frozen? ⟨w.heap.size + 1, o, none⟩ = false := fun o => by rw [(bcell hb1).2 _ _ (by simp)]; simp [go_sem]
  clear hb1
  by_cases hf : ledFault g = 0
  · have HF : Hid (ledFault g = 0) := hf
    rw [hf]
    clear hf
    cases h1 : inB t 0 2
    · go_wp2_with (first | (go_at_call 25; refine (isAsset_any _ _).mono ?_; rintro e w' ⟨rfl, rfl⟩))
      refine bodyPost_ret (v := .agg #[.int .i64 3, .int .i64 0]) ?_ rfl ⟨?_, by (repeat (first | exact Below.refl _ _ | assumption | refine Below.drew ?_ | refine balloc ?_ _ | refine bset ?_ (by simp; omega) _ | refine bset ?_ (by simp) _ | refine bstep ?_ (by assumption)))⟩
      · simp [results, Try.results10, go_sem, r0, r1]
      · simp [totCode, totVal, HF.out, h1]
    go_wp2_with (first | (go_at_call 25; refine (isAsset_any _ _).mono ?_; rintro e w' ⟨rfl, rfl⟩) | fail)
    refine (bookOf_any _ g _ (ledgR.below hX (by (repeat (first | exact Below.refl _ _ | assumption | refine Below.drew ?_ | refine balloc ?_ _ | refine bset ?_ (by simp; omega) _ | refine bset ?_ (by simp) _ | refine bstep ?_ (by assumption))))) HF.out).mono ?_
    rintro e w2 ⟨b, rfl, hbb, hK, hb2⟩
    have hB2 : Below w.heap.size w w2 := by (repeat (first | exact Below.refl _ _ | assumption | refine Below.drew ?_ | refine balloc ?_ _ | refine bset ?_ (by simp; omega) _ | refine bset ?_ (by simp) _ | refine bstep ?_ (by assumption)))
    replace hrf : ∀ o, w2.frozen? ⟨w.heap.size + 1, o, none⟩ = false := fun o => by rw [(bcell hb2).2 _ _ (World.block_lt_of_cell? _ _ r0)]; exact hrf o
    replace r0 := cell_keep hb2 r0
    replace r1 := cell_keep hb2 r1
    clear hb2 hB1 hbb b0
    go_wp2_with fail
    refine (total_any g.shards.length b 54 (bookF g.shards) t _ hK (smallF_of HF.out) (domF_of HF.out) (inBi.1 h1)).mono ?_
    rintro e w3 ⟨rfl, hb3⟩
    have hB3 : Below w.heap.size w w3 := by (repeat (first | exact Below.refl _ _ | assumption | refine Below.drew ?_ | refine balloc ?_ _ | refine bset ?_ (by simp; omega) _ | refine bset ?_ (by simp) _ | refine bstep ?_ (by assumption)))
    replace hrf : ∀ o, w3.frozen? ⟨w.heap.size + 1, o, none⟩ = false := fun o => by rw [(bcell hb3).2 _ _ (World.block_lt_of_cell? _ _ r0)]; exact hrf o
    replace r0 := cell_keep hb3 r0
    replace r1 := cell_keep hb3 r1
    clear hb3 hB2 hK
    rw [sumD_book HF.out]
    go_wp2
    refine bodyPost_ret (v := .agg #[.int .i64 0, .int .i64 (sumG t g.shards)]) ?_ rfl ⟨?_, by (repeat (first | exact Below.refl _ _ | assumption | refine Below.drew ?_ | refine balloc ?_ _ | refine bset ?_ (by simp; omega) _ | refine bset ?_ (by simp) _ | refine bstep ?_ (by assumption)))⟩
    · simp [results, Try.results10, go_sem, r0, r1]
    · rw [totCode, if_pos HF.out, if_pos h1, totVal, if_pos ⟨HF.out, h1⟩]
  · go_wp2
    refine bodyPost_ret (v := .agg #[.int .i64 (ledFault g), .int .i64 0]) ?_ rfl ⟨?_, by (repeat (first | exact Below.refl _ _ | assumption | refine Below.drew ?_ | refine balloc ?_ _ | refine bset ?_ (by simp; omega) _ | refine bset ?_ (by simp) _ | refine bstep ?_ (by assumption)))⟩
    · simp [results, Try.results10, go_sem, r0, r1]
    · simp [totCode, totVal, hf]
end Go.Proofs.Ytgjpafalompecaa

/-
  maps.Keys over a book: its keys, in whatever order.
-/
namespace Go.Proofs.Ytgjpafalompecaa
open Go.RowKit Go.Shelf Go.Maps
set_option linter.unusedSectionVars false
variable [DecidableEq Bal] [Inhabited Bal] [DecidableEq Ledg] [Inhabited Ledg] [DecidableEq Leg] [Inhabited Leg] [DecidableEq Cont] [Inhabited Cont]
set_option linter.unusedVariables false
set_option linter.unusedSimpArgs false
attribute [local go_sem] Oper.semAt_some

def KOk (f : Int → Int → Int → Option Int) (ys : List K3) : Prop := ys.Nodup ∧ ∀ x ∈ ys, (f x.1 x.2.1 x.2.2).isSome = true
def KDn (f : Int → Int → Int → Option Int) (ys : List K3) : Prop := KOk f ys ∧ ∀ s a t, kwf s a t → (f s a t).isSome = true → (s, a, t) ∈ ys
def KLeft (f : Int → Int → Int → Option Int) (pre : List K3) (left : Lit → Bool) : Prop := KOk f pre ∧ ∀ s a t kl, keyOf Try.prog 64 (kv s a t) = some kl → (left kl = true ↔ ((f s a t).isSome = true ∧ (s, a, t) ∉ pre))
theorem KLeft.step {f : Int → Int → Int → Option Int} {pre : List K3} {left : Lit → Bool} (h : KLeft f pre left) {s a t : Int} {kl : Lit} (hk : keyOf Try.prog 64 (kv s a t) = some kl) (hl : left kl = true) :
    KOk f (pre ++ [(s, a, t)]) ∧ KLeft f (pre ++ [(s, a, t)]) (fun z => left z && !z.sameKey kl) := by
  obtain ⟨hsome, hnot⟩ := (h.2 s a t kl hk).1 hl
  have hok : KOk f (pre ++ [(s, a, t)]) := by
    refine ⟨List.nodup_append.2 ⟨h.1.1, by simp, fun x hx y hy e => ?_⟩, fun x hx => ?_⟩
    · rw [List.mem_singleton] at hy
      rw [hy] at e
      rw [e] at hx
      exact hnot hx
    · rcases List.mem_append.1 hx with hx | hx
      · exact h.1.2 x hx
      · rw [List.mem_singleton.1 hx]
        exact hsome
  refine ⟨hok, hok, fun s' a' t' kl' hk' => ?_⟩
  have h0 := h.2 s' a' t' kl' hk'
  by_cases e : kl' = kl
  · subst e
    obtain ⟨rfl, rfl, rfl⟩ := kv_inj (holdLaw.inj hk' hk)
    simp [WideAt.sameKey_self (holdLaw.key hk)]
  · have hne : ¬ ((s', a', t') = (s, a, t)) := fun e' => by
      simp only [Prod.mk.injEq] at e'
      obtain ⟨rfl, rfl, rfl⟩ := e'
      rw [hk] at hk'
      exact e (by simpa using hk'.symm)
    simp only [sameKey_ne e, Bool.not_false, Bool.and_true, List.mem_append, List.mem_singleton]
    rw [h0]
    constructor
    · rintro ⟨h1, h2⟩
      exact ⟨h1, fun h3 => h3.elim h2 hne⟩
    · rintro ⟨h1, h2⟩
      exact ⟨h1, fun h3 => h2 (.inl h3)⟩
theorem ranges_mod {w w' : World} {b r n : Nat} {D : DataW Unit} {left : Lit → Bool} {cnt : Nat} {F : Nat → Prop} (h : w.ranges Try.prog 64 (plainElem Try.prog 2) b r n D left cnt) (hm : Mod F w w') (hb : ¬ F b) (hr : ¬ F r) : w'.ranges Try.prog 64 (plainElem Try.prog 2) b r n D left cnt := by
  have hlb := h.owns.lt
  have hlr := h.lt
  obtain ⟨es, clock, since, seen, c0, h1, h2, h3, h4, h5, h6⟩ := h
  exact ⟨es, clock, since, seen, c0, (hm.block b hlb hb).trans h1, h2, h3, h4, (hm.block r hlr hr).trans h5, h6⟩
set_option maxRecDepth 100000 in
set_option maxHeartbeats 4000000 in
theorem keys_seqY (Bs b m : Nat) (f : Int → Int → Int → Option Int) (R : Nat → Prop) (w : World) (hB : w.cell? ⟨Bs, 0, none⟩ = some (.map (some b))) (hRB : R Bs) (hRb : R b) (hRw : ∀ i, R i → i < w.heap.size) (hbk : Book w b m f) :
    Seqy Try.prog 66 #[.pointer (some ⟨Bs, 0, none⟩)] encK (KOk f) (KDn f) R w := by
  intro l J Jx W X hm hXa hJ hJx hY h0
  have hBW := hm.cell hB (fun h => h hRB)
  have hbW : Book W b m f := hbk.turned hm (fun h => h hRb)
  have hWz := hm.size
  clear hbk hB
  obtain ⟨D, hD, h1⟩ := hbW
  have H1 : Hid (∀ s a t kl, keyOf Try.prog 64 (kv s a t) = some kl → Maps.has D kl = (f s a t).isSome ∧ D.atKey kl (.lit (.int .i64 0)) = .lit (.int .i64 ((f s a t).getD 0))) := h1
  clear h1
  have HRW : Hid (∀ i, R i → i < w.heap.size) := hRw
  clear hRw
  refine callsIn_of_wp Try.func66 rfl trivial ?_ rfl
  simp only [Try.ntmps66, List.size_toArray, List.length_cons, List.length_nil, Nat.reduceAdd, Nat.reduceSub, Array.replicate_succ, Array.replicate_zero, List.push_toArray, List.append_toArray, List.nil_append, List.cons_append]
  gi_wp2_with (gi_at_range; refine wpListIn_range_own _ rfl _ 54 rfl 64 2 holdLaw Try.underlying54 _ b m D rfl hD ?_; intro w0 hrg0 hg0 hs0)
  go_frame
  have HLT : Hid (b < w.heap.size) := HRW.out b hRb
  obtain ⟨r, hr⟩ : ∃ r, W.heap.size = r := ⟨_, rfl⟩
  have HWR : Hid (W.heap.size = r) := hr
  have hwr : w.heap.size ≤ r := by omega
  have hJ0 : J [] w0 (fun i => X i ∨ i = r) := hJ _ _ _ X _ h0 ((Mod.of_grown hg0).mono (fun i e => by cases e)) (fun i h => .inl h) (fun i h => by
    rcases h with h | h
    · exact ⟨.inl h, by have := hXa i h; omega⟩
    · exact ⟨.inr (by omega), by omega⟩)
  have hX0 : ∀ i, (X i ∨ i = r) → i < w0.heap.size := fun i h => by
    rcases h with h | h
    · have := hXa i h; omega
    · omega
  rw [hr] at hrg0 ⊢
  clear hr h0 hg0 hs0 hBW hD hXa
  have hk0 : KLeft f [] (Maps.has D) := ⟨⟨List.nodup_nil, fun x h => by cases h⟩, fun s a t kl hk => by rw [(H1.out s a t kl hk).1]; simp⟩
  gi_loopw [6] (fun _ wr => ∃ (pre : List K3) (left : Lit → Bool) (cnt : Nat), Hid (J pre wr (fun i => X i ∨ i = r)) ∧ wr.ranges (H := Unit) Try.prog 64 (plainElem Try.prog 2) b r m D left cnt ∧ Hid (KLeft f pre left) ∧ Hid (∀ i, (X i ∨ i = r) → i < wr.heap.size)) (fun _ wr => wr.rangeLeft b r)
  case atStart => exact ⟨[], _, _, hJ0, hrg0, hk0, hX0⟩
  case round =>
    obtain ⟨pre, left, cnt, HJ, hrg, HK, HXa⟩ := hrel
    clear hJ0 hX0 hrg0 hk0
    gi_wp2_with (gi_at_next; refine wpListIn_next_ranges _ rfl _ rfl 64 holdLaw _ (fun x : Int × Int × Int => Value.agg #[.int .i64 x.1, .int .i64 x.2.1, .int .i64 x.2.2]) (fun c : Int => Value.int .i64 c) invKh invV64 b r m D left cnt rfl hrg ?_ ?_)
    · intro _ hl0
      gi_wp2
      go_end0
      refine ⟨⟨_, rfl⟩, _, fun i h => .inl h, .inl ⟨pre, ⟨HK.out.1, fun s a t hw hs => ?_⟩, HJ.out⟩⟩
      obtain ⟨kl, hk⟩ := keyOf_kv hw
      apply Classical.byContradiction
      intro hn
      have := (HK.out.2 s a t kl hk).2 ⟨hs, hn⟩
      rw [hl0 kl] at this
      cases this
    · intro s a t c kl y1 y2 w1 cnt1 hk hlk hv hat hrg1 hlt hg1 hs1 hen
      obtain ⟨hok, hleft⟩ := HK.out.step (s := s) (a := a) (t := t) hk hlk
      have hm1 : Mod (fun i => X i ∨ i = r) _ w1 := (Mod.of_grown hg1).mono (fun i e => .inr (by simpa using e.symm))
      have hJ1 : J pre w1 (fun i => X i ∨ i = r) := hJ _ _ _ _ _ HJ.out hm1 (fun _ h => h) (fun i h => ⟨.inl h, by have := HXa.out i h; omega⟩)
      have hJ2 : J pre (w1.alloc (.cells #[.int .i64 s, .int .i64 a, .int .i64 t] 64)) (fun i => X i ∨ i = r) := hJ _ _ _ _ _ hJ1 (mod_alloc _ _ _) (fun _ h => h) (fun i h => ⟨.inl h, by have := HXa.out i h; simp; omega⟩)
      obtain ⟨fn, tmps, assign, body, hy, hR2⟩ := hY _ (s, a, t) _ _ hJ2 (fun i h => .inl h) (fun i h => by have := HXa.out i h; simp; omega) hok
      unfold encK kv at hy
      dsimp only at hy
      have HLF : Hid (KLeft f (pre ++ [(s, a, t)]) (fun z => left z && !z.sameKey kl)) := hleft
      have HM : Hid (w1.rangeLeft b r < 0 + cnt ∨ True) := .inr trivial
      have HRG1 : Hid (w1.ranges (H := Unit) Try.prog 64 (plainElem Try.prog 2) b r m D (fun z => left z && !z.sameKey kl) cnt1) := hrg1
      have HCN : Hid (cnt1 < cnt) := hlt
      have hcnt := hrg.left_eq
      clear hleft hok hk hlk hv hat hrg1 hlt hg1 hm1 hJ1
      have hrltb : r < w1.heap.size := HRG1.out.lt
      have hbltb : b < w1.heap.size := HRG1.out.owns.lt
      have hnR : ¬ R r := fun h => by have := HRW.out r h; omega
      gi_wp2
      refine ⟨rfl, hR2.mono ?_⟩
      rintro e W3 (⟨rfl, hJ3, hk3⟩ | ⟨rfl, hJx3, hk3⟩)
      · have hrg3 : W3.ranges (H := Unit) Try.prog 64 (plainElem Try.prog 2) b r m D (fun z => left z && !z.sameKey kl) cnt1 := ranges_mod (HRG1.out.alloc _) hk3 (fun h => h (.inl hRb)) (fun h => h (.inr (.inr rfl)))
        have hs3 := hk3.size
        simp only [World.size_alloc] at hs3
        have HX3 : Hid (∀ i, (X i ∨ i = r) → i < W3.heap.size) := fun i h => by have := HXa.out i h; omega
        have HJ3 : Hid (J (pre ++ [(s, a, t)]) W3 (fun i => X i ∨ i = r)) := hJ3
        have hl3 := hrg3.left_eq
        clear hJ3 hk3
        gi_wp2
        go_roundw
        case rel => exact ⟨pre ++ [(s, a, t)], _, cnt1, HJ3, hrg3, HLF, HX3⟩
        case measure =>
          rw [hl3, hcnt]
          exact HCN.out
      · have HJx3 : Hid (Jx (pre ++ [(s, a, t)]) W3 (fun i => X i ∨ i = r)) := hJx3
        clear hJx3 hk3
        gi_wp2
        refine bodyPost_ret (results_none rfl _ _ _) rfl ?_
        exact ⟨⟨_, rfl⟩, _, fun i h => .inl h, .inr ⟨_, HLF.out.1, HJx3.out⟩⟩
end Go.Proofs.Ytgjpafalompecaa

/-
  slices.SortedFunc over the keys of a book; maps.Keys.
-/
namespace Go.Proofs.Ytgjpafalompecaa
open Go.RowKit Go.Sort Go.Shelf
set_option linter.unusedSectionVars false
variable [DecidableEq Rw] [Inhabited Rw] [DecidableEq Bal] [Inhabited Bal] [DecidableEq Ledg] [Inhabited Ledg] [DecidableEq Leg] [Inhabited Leg] [DecidableEq Cont] [Inhabited Cont]
set_option linter.unusedVariables false
set_option linter.unusedSimpArgs false
attribute [local go_sem ↓] Go.wp_at_zero Go.wp_at_succ

structure SortsK : Prop where
  some_ : ∀ (xs : List K3) (g cap base : Nat) (W : World), W.ownsRow base 64 3 (.slice (some ⟨g, 0, none⟩) xs.length cap) xs.length (keysC xs) → base ≤ W.heap.size → xs.length ≤ 200 →
    Calls Try.prog 65 #[.slice (some ⟨g, 0, none⟩) xs.length cap, .func (.func 47) #[] #[]] W fun e w' => e = .returned (.tuple #[]) ∧ ∃ ys : List K3, ys.Perm xs ∧ ys.Pairwise (fun p q => ltOf cfK q p = false) ∧ (∀ i, i < ys.length → keyCells w' g (i * 3) (ys.getD i default)) ∧ Go.RowKit.Below base W w'
  none_ : ∀ W : World, Calls Try.prog 65 #[.slice none 0 0, .func (.func 47) #[] #[]] W fun e w' => e = .returned (.tuple #[]) ∧ w' = W
def KeysV (w : World) (v : Value) (ys : List K3) : Prop := ∃ a c, v = .slice a ys.length c ∧ ∀ i, i < ys.length → ∃ g, a = some ⟨g, 0, none⟩ ∧ keyCells w g (i * 3) (ys.getD i default)
set_option maxRecDepth 20000 in
set_option maxHeartbeats 2000000 in
theorem sortedFunc_any (hS : SortsK) (gf : Nat) (lb : Array Value) (Ok Dn : List K3 → Prop) (R : Nat → Prop) (w : World) (eg : ∀ args w, (callFunc gf args).run Try.prog w = .ok (.enter gf args) w) (hseq : Seqy Try.prog gf lb encK Ok Dn R w) (hR : ∀ b, R b → b < w.heap.size) (hlen : ∀ ys, Ok ys → ys.length ≤ 200) (hdl : ∀ ys, Dn ys → ys.length ≤ 200) :
    Calls Try.prog 45 #[.func (.func gf) #[] lb, .func (.func 47) #[] #[]] w fun e w' => ∃ v xs ys, e = .returned v ∧ Dn xs ∧ ys.Perm xs ∧ ys.Pairwise (fun p q => ltOf cfK q p = false) ∧ KeysV w' v ys ∧ Go.RowKit.Below w.heap.size w w' := by
  have hc := collectK_any gf lb Ok Dn R w eg hseq hR hlen
  have HS : Hid SortsK := hS
  have HDL : Hid (∀ ys, Dn ys → ys.length ≤ 200) := hdl
  clear eg hseq hS hdl hlen
  go_enter Try.func45, Try.ntmps45
  go_wp2_with fail
  refine hc.mono ?_
  rintro e w1 ⟨v, xs, rfl, hDn, ho, hb⟩
  clear hc
  have hl := HDL.out xs hDn
  rcases ho.2 with ⟨rfl, hn⟩ | ⟨g, cap, _, rfl, _⟩
  · have hx : xs = [] := List.eq_nil_of_length_eq_zero hn
    subst hx
    go_wp2_with fail
    refine (HS.out.none_ w1).mono ?_
    rintro e w2 ⟨rfl, hw2⟩
    obtain rfl := hw2.symm
    go_wp2
    go_ret
    exact ⟨_, [], [], rfl, hDn, List.Perm.refl _, List.Pairwise.nil, ⟨none, 0, rfl, fun i h => absurd h (Nat.not_lt_zero _)⟩, hb⟩
  · have hcon := HS.out.some_ xs g cap w.heap.size w1 ho hb.size hl
    obtain ⟨n, hn⟩ : ∃ n, n = xs.length := ⟨_, rfl⟩
    rw [← hn] at hcon ⊢
    have HN : Hid (xs.length = n) := hn.symm
    clear hn ho hl
    go_wp2_with fail
    refine hcon.mono ?_
    rintro e w2 ⟨rfl, ys, hp, hs, hk, hb2⟩
    clear hcon
    have HK : Hid (KeysV w2 (.slice (some ⟨g, 0, none⟩) n cap) ys) := ⟨_, _, by rw [hp.length_eq, HN.out], fun i hi => ⟨g, rfl, hk i hi⟩⟩
    have hB2 : Go.RowKit.Below w.heap.size w w2 := hb.trans hb2
    clear hk
    go_wp2
    go_ret
    exact ⟨_, xs, ys, rfl, hDn, hp, hs, HK.out, hB2⟩
end Go.Proofs.Ytgjpafalompecaa

/-
  maps.Keys: a closure over the box of its map; the book's keys, sorted.
-/
namespace Go.Proofs.Ytgjpafalompecaa
open Go.RowKit Go.Sort Go.Shelf
set_option linter.unusedSectionVars false
variable [DecidableEq Rw] [Inhabited Rw] [DecidableEq Bal] [Inhabited Bal] [DecidableEq Ledg] [Inhabited Ledg] [DecidableEq Leg] [Inhabited Leg] [DecidableEq Cont] [Inhabited Cont]
set_option linter.unusedVariables false
set_option linter.unusedSimpArgs false
attribute [local go_sem ↓] Go.wp_at_zero Go.wp_at_succ

theorem keysFn_any (w : World) (b : Nat) :
    Calls Try.prog 46 #[.map (some b)] w fun e w' => e = .returned (.func (.func 66) #[] #[.pointer (some ⟨w.heap.size, 0, none⟩)]) ∧ Go.RowKit.Below w.heap.size w w' ∧ w'.cell? ⟨w.heap.size, 0, none⟩ = some (.map (some b)) := by
  go_enter Try.func46, Try.ntmps46
  go_wp2
  go_ret
  exact ⟨rfl, balloc (Below.refl _ _) _, by simp [go_sem]⟩
end Go.Proofs.Ytgjpafalompecaa


/-
  maps.Keys over a book: its keys, in whatever order.
-/
import Derived.Test.YteebglgbeijolaaKcl
import Derived.Test.YteebglgbeijolaaTot2
import Derived.Sort.MapsRangeIn
namespace Go.Proofs.Yteebglgbeijolaa
open Go.RowKit Go.Shelf Go.Maps
set_option linter.unusedSectionVars false
variable [DecidableEq Bal] [Inhabited Bal] [DecidableEq Ledg] [Inhabited Ledg] [DecidableEq Leg] [Inhabited Leg] [DecidableEq Cont] [Inhabited Cont]
set_option linter.unusedVariables false
set_option linter.unusedSimpArgs false
attribute [local go_sem] Oper.semAt_some

/-- keys of a book, no two alike -/
def KOk (f : Int → Int → Int → Option Int) (ys : List K3) : Prop := ys.Nodup ∧ ∀ x ∈ ys, (f x.1 x.2.1 x.2.2).isSome = true
def KDn (f : Int → Int → Int → Option Int) (ys : List K3) : Prop := KOk f ys ∧ ∀ s a t, kwf s a t → (f s a t).isSome = true → (s, a, t) ∈ ys
/-- which keys are still to come -/
def KLeft (f : Int → Int → Int → Option Int) (pre : List K3) (left : Lit → Bool) : Prop := KOk f pre ∧ ∀ s a t kl, keyOf Try.prog 180 (kv s a t) = some kl → (left kl = true ↔ ((f s a t).isSome = true ∧ (s, a, t) ∉ pre))
theorem KLeft.step {f : Int → Int → Int → Option Int} {pre : List K3} {left : Lit → Bool} (h : KLeft f pre left) {s a t : Int} {kl : Lit} (hk : keyOf Try.prog 180 (kv s a t) = some kl) (hl : left kl = true) :
    KOk f (pre ++ [(s, a, t)]) ∧ KLeft f (pre ++ [(s, a, t)]) (fun z => left z && !z.sameKey kl) := by
  obtain ⟨hsome, hnot⟩ := (h.2 s a t kl hk).1 hl
  have hok : KOk f (pre ++ [(s, a, t)]) := by
    refine ⟨List.nodup_append.2 ⟨h.1.1, by simp, fun x hx y hy e => ?_⟩, fun x hx => ?_⟩
    · rw [List.mem_singleton] at hy
      rw [hy] at e
      rw [e] at hx
      exact hnot hx
    · rcases List.mem_append.1 hx with hx | hx
      · exact h.1.2 x hx
      · rw [List.mem_singleton.1 hx]
        exact hsome
  refine ⟨hok, hok, fun s' a' t' kl' hk' => ?_⟩
  have h0 := h.2 s' a' t' kl' hk'
  by_cases e : kl' = kl
  · subst e
    obtain ⟨rfl, rfl, rfl⟩ := kv_inj (holdLaw.inj hk' hk)
    simp [WideAt.sameKey_self (holdLaw.key hk)]
  · have hne : ¬ ((s', a', t') = (s, a, t)) := fun e' => by
      simp only [Prod.mk.injEq] at e'
      obtain ⟨rfl, rfl, rfl⟩ := e'
      rw [hk] at hk'
      exact e (by simpa using hk'.symm)
    simp only [sameKey_ne e, Bool.not_false, Bool.and_true, List.mem_append, List.mem_singleton]
    rw [h0]
    constructor
    · rintro ⟨h1, h2⟩
      exact ⟨h1, fun h3 => h3.elim h2 hne⟩
    · rintro ⟨h1, h2⟩
      exact ⟨h1, fun h3 => h2 (.inl h3)⟩
theorem ranges_mod {w w' : World} {b r n : Nat} {D : DataW Unit} {left : Lit → Bool} {cnt : Nat} {F : Nat → Prop} (h : w.ranges Try.prog 180 (plainElem Try.prog 2) b r n D left cnt) (hm : Mod F w w') (hb : ¬ F b) (hr : ¬ F r) : w'.ranges Try.prog 180 (plainElem Try.prog 2) b r n D left cnt := by
  have hlb := h.owns.lt
  have hlr := h.lt
  obtain ⟨es, clock, since, seen, c0, h1, h2, h3, h4, h5, h6⟩ := h
  exact ⟨es, clock, since, seen, c0, (hm.block b hlb hb).trans h1, h2, h3, h4, (hm.block r hlr hr).trans h5, h6⟩

set_option maxRecDepth 100000 in
set_option maxHeartbeats 4000000 in
theorem keys_seqY (Bs b m : Nat) (f : Int → Int → Int → Option Int) (R : Nat → Prop) (w : World) (hB : w.cell? ⟨Bs, 0, none⟩ = some (.map (some b))) (hRB : R Bs) (hRb : R b) (hRw : ∀ i, R i → i < w.heap.size) (hbk : Book w b m f) :
    Seqy Try.prog 160 #[.pointer (some ⟨Bs, 0, none⟩)] encK (KOk f) (KDn f) R w := by
  intro l J Jx W X hm hXa hJ hJx hY h0
  have hBW := hm.cell hB (fun h => h hRB)
  have hbW : Book W b m f := hbk.turned hm (fun h => h hRb)
  have hWz := hm.size
  clear hbk hB
  obtain ⟨D, hD, h1⟩ := hbW
  have H1 : Hid (∀ s a t kl, keyOf Try.prog 180 (kv s a t) = some kl → Maps.has D kl = (f s a t).isSome ∧ D.atKey kl (.lit (.int .i64 0)) = .lit (.int .i64 ((f s a t).getD 0))) := h1
  clear h1
  have HRW : Hid (∀ i, R i → i < w.heap.size) := hRw
  clear hRw
  refine callsIn_of_wp Try.func160 rfl trivial ?_ rfl
  simp only [Try.ntmps160, List.size_toArray, List.length_cons, List.length_nil, Nat.reduceAdd, Nat.reduceSub, Array.replicate_succ, Array.replicate_zero, List.push_toArray, List.append_toArray, List.nil_append, List.cons_append]
  gi_wp2_with (gi_at_range; refine wpListIn_range_own _ rfl _ 141 rfl 180 2 holdLaw Try.underlying141 _ b m D rfl hD ?_; intro w0 hrg0 hg0 hs0)
  go_frame
  have HLT : Hid (b < w.heap.size) := HRW.out b hRb
  obtain ⟨r, hr⟩ : ∃ r, W.heap.size = r := ⟨_, rfl⟩
  have HWR : Hid (W.heap.size = r) := hr
  have hwr : w.heap.size ≤ r := by omega
  have hJ0 : J [] w0 (fun i => X i ∨ i = r) := hJ _ _ _ X _ h0 ((Mod.of_grown hg0).mono (fun i e => by cases e)) (fun i h => .inl h) (fun i h => by
    rcases h with h | h
    · exact ⟨.inl h, by have := hXa i h; omega⟩
    · exact ⟨.inr (by omega), by omega⟩)
  have hX0 : ∀ i, (X i ∨ i = r) → i < w0.heap.size := fun i h => by
    rcases h with h | h
    · have := hXa i h; omega
    · omega
  rw [hr] at hrg0 ⊢
  clear hr h0 hg0 hs0 hBW hD hXa
  have hk0 : KLeft f [] (Maps.has D) := ⟨⟨List.nodup_nil, fun x h => by cases h⟩, fun s a t kl hk => by rw [(H1.out s a t kl hk).1]; simp⟩
  gi_loopw [6] (fun _ wr => ∃ (pre : List K3) (left : Lit → Bool) (cnt : Nat), Hid (J pre wr (fun i => X i ∨ i = r)) ∧ wr.ranges (H := Unit) Try.prog 180 (plainElem Try.prog 2) b r m D left cnt ∧ Hid (KLeft f pre left) ∧ Hid (∀ i, (X i ∨ i = r) → i < wr.heap.size)) (fun _ wr => wr.rangeLeft b r)
  case atStart => exact ⟨[], _, _, hJ0, hrg0, hk0, hX0⟩
  case round =>
    obtain ⟨pre, left, cnt, HJ, hrg, HK, HXa⟩ := hrel
    clear hJ0 hX0 hrg0 hk0
    gi_wp2_with (gi_at_next; refine wpListIn_next_ranges _ rfl _ rfl 180 holdLaw _ (fun x : Int × Int × Int => Value.agg #[.int .i64 x.1, .int .i64 x.2.1, .int .i64 x.2.2]) (fun c : Int => Value.int .i64 c) invKh invV64 b r m D left cnt rfl hrg ?_ ?_)
    · intro _ hl0
      gi_wp2
      go_end0
      refine ⟨⟨_, rfl⟩, _, fun i h => .inl h, .inl ⟨pre, ⟨HK.out.1, fun s a t hw hs => ?_⟩, HJ.out⟩⟩
      obtain ⟨kl, hk⟩ := keyOf_kv hw
      apply Classical.byContradiction
      intro hn
      have := (HK.out.2 s a t kl hk).2 ⟨hs, hn⟩
      rw [hl0 kl] at this
      cases this
    · intro s a t c kl y1 y2 w1 cnt1 hk hlk hv hat hrg1 hlt hg1 hs1 hen
      obtain ⟨hok, hleft⟩ := HK.out.step (s := s) (a := a) (t := t) hk hlk
      have hm1 : Mod (fun i => X i ∨ i = r) _ w1 := (Mod.of_grown hg1).mono (fun i e => .inr (by simpa using e.symm))
      have hJ1 : J pre w1 (fun i => X i ∨ i = r) := hJ _ _ _ _ _ HJ.out hm1 (fun _ h => h) (fun i h => ⟨.inl h, by have := HXa.out i h; omega⟩)
      have hJ2 : J pre (w1.alloc (.cells #[.int .i64 s, .int .i64 a, .int .i64 t] 180)) (fun i => X i ∨ i = r) := hJ _ _ _ _ _ hJ1 (mod_alloc _ _ _) (fun _ h => h) (fun i h => ⟨.inl h, by have := HXa.out i h; simp; omega⟩)
      obtain ⟨fn, tmps, assign, body, hy, hR2⟩ := hY _ (s, a, t) _ _ hJ2 (fun i h => .inl h) (fun i h => by have := HXa.out i h; simp; omega) hok
      unfold encK kv at hy
      dsimp only at hy
      have HLF : Hid (KLeft f (pre ++ [(s, a, t)]) (fun z => left z && !z.sameKey kl)) := hleft
      have HM : Hid (w1.rangeLeft b r < 0 + cnt ∨ True) := .inr trivial
      have HRG1 : Hid (w1.ranges (H := Unit) Try.prog 180 (plainElem Try.prog 2) b r m D (fun z => left z && !z.sameKey kl) cnt1) := hrg1
      have HCN : Hid (cnt1 < cnt) := hlt
      have hcnt := hrg.left_eq
      clear hleft hok hk hlk hv hat hrg1 hlt hg1 hm1 hJ1
      have hrltb : r < w1.heap.size := HRG1.out.lt
      have hbltb : b < w1.heap.size := HRG1.out.owns.lt
      have hnR : ¬ R r := fun h => by have := HRW.out r h; omega
      gi_wp2
      refine ⟨rfl, hR2.mono ?_⟩
      rintro e W3 (⟨rfl, hJ3, hk3⟩ | ⟨rfl, hJx3, hk3⟩)
      · have hrg3 : W3.ranges (H := Unit) Try.prog 180 (plainElem Try.prog 2) b r m D (fun z => left z && !z.sameKey kl) cnt1 := ranges_mod (HRG1.out.alloc _) hk3 (fun h => h (.inl hRb)) (fun h => h (.inr (.inr rfl)))
        have hs3 := hk3.size
        simp only [World.size_alloc] at hs3
        have HX3 : Hid (∀ i, (X i ∨ i = r) → i < W3.heap.size) := fun i h => by have := HXa.out i h; omega
        have HJ3 : Hid (J (pre ++ [(s, a, t)]) W3 (fun i => X i ∨ i = r)) := hJ3
        have hl3 := hrg3.left_eq
        clear hJ3 hk3
        gi_wp2
        go_roundw
        case rel => exact ⟨pre ++ [(s, a, t)], _, cnt1, HJ3, hrg3, HLF, HX3⟩
        case measure =>
          rw [hl3, hcnt]
          exact HCN.out
      · have HJx3 : Hid (Jx (pre ++ [(s, a, t)]) W3 (fun i => X i ∨ i = r)) := hJx3
        clear hJx3 hk3
        gi_wp2
        refine bodyPost_ret (results_none rfl _ _ _) rfl ?_
        exact ⟨⟨_, rfl⟩, _, fun i h => .inl h, .inr ⟨_, HLF.out.1, HJx3.out⟩⟩

end Go.Proofs.Yteebglgbeijolaa

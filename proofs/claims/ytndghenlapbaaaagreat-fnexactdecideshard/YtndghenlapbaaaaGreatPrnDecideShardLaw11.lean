import Derived.Test.YtndghenlapbaaaaGreatPrnDecideShardLaw5
import Derived.Test.YtndghenlapbaaaaGreatPrnDecideShardLaw10
import Derived.Sort.MapsRangeIn
import Derived.Test.YtndghenlapbaaaaGreatPrnDecideShardLaw6
import Derived.Test.YtndghenlapbaaaaGreatPrnDecideShardLaw9
set_option linter.unusedSectionVars false
set_option linter.unusedVariables false
set_option linter.unusedSimpArgs false

/-
 maps.Keys over a book: its keys, in whatever order.
-/
namespace Go.Proofs.YtndghenlapbaaaaGreat
open Go.RowKit Go.Shelf Go.Maps
variable [DecidableEq Bal] [Inhabited Bal] [DecidableEq Ledg] [Inhabited Ledg] [DecidableEq Leg] [Inhabited Leg] [DecidableEq Cont] [Inhabited Cont]
attribute [local go_sem] Oper.semAt_some

def KOk (f : Int → Int → Int → Option Int) (ys : List K3) : Prop := ys.Nodup ∧ ∀ x ∈ ys, (f x.1 x.2.1 x.2.2).isSome = true
def KDn (f : Int → Int → Int → Option Int) (ys : List K3) : Prop := KOk f ys ∧ ∀ s a t, kwf s a t → (f s a t).isSome = true → (s, a, t) ∈ ys
def KLeft (f : Int → Int → Int → Option Int) (pre : List K3) (left : Lit → Bool) : Prop := KOk f pre ∧ ∀ s a t kl, keyOf Tryz.prog 152 (kv s a t) = some kl → (left kl = true ↔ ((f s a t).isSome = true ∧ (s, a, t) ∉ pre))
theorem KLeft.step {f : Int → Int → Int → Option Int} {pre : List K3} {left : Lit → Bool} (h : KLeft f pre left) {s a t : Int} {kl : Lit} (hk : keyOf Tryz.prog 152 (kv s a t) = some kl) (hl : left kl = true) :
  KOk f (pre ++ [(s, a, t)]) ∧ KLeft f (pre ++ [(s, a, t)]) (fun z => left z && !z.sameKey kl) := by
 obtain ⟨hsome, hnot⟩ := (h.2 s a t kl hk).1 hl
 have hok : KOk f (pre ++ [(s, a, t)]) := by
  refine ⟨List.nodup_append.2 ⟨h.1.1, by simp, fun x hx y hy e => ?_⟩, fun x hx => ?_⟩
  ·
   rw [List.mem_singleton] at hy
   rw [hy] at e
   rw [e] at hx
   exact hnot hx
  ·
   rcases List.mem_append.1 hx with hx | hx
   ·
    exact h.1.2 x hx
   ·
    rw [List.mem_singleton.1 hx]
    exact hsome
 refine ⟨hok, hok, fun s' a' t' kl' hk' => ?_⟩
 have h0 := h.2 s' a' t' kl' hk'
 by_cases e : kl' = kl
 ·
  subst e
  obtain ⟨rfl, rfl, rfl⟩ := kv_inj (holdLaw.inj hk' hk)
  simp [WideAt.sameKey_self (holdLaw.key hk)]
 ·
  have hne : ¬ ((s', a', t') = (s, a, t)) := fun e' => by
   simp only [Prod.mk.injEq] at e'
   obtain ⟨rfl, rfl, rfl⟩ := e'
   rw [hk] at hk'
   exact e (by simpa using hk'.symm)
  simp only [sameKey_ne e, Bool.not_false, Bool.and_true, List.mem_append, List.mem_singleton]
  rw [h0]
  constructor
  ·
   rintro ⟨h1, h2⟩
   exact ⟨h1, fun h3 => h3.elim h2 hne⟩
  ·
   rintro ⟨h1, h2⟩
   exact ⟨h1, fun h3 => h2 (.inl h3)⟩
theorem ranges_mod {w w' : World} {b r n : Nat} {D : DataW Unit} {left : Lit → Bool} {cnt : Nat} {F : Nat → Prop} (h : w.ranges Tryz.prog 152 (plainElem Tryz.prog 2) b r n D left cnt) (hm : Mod F w w') (hb : ¬ F b) (hr : ¬ F r) : w'.ranges Tryz.prog 152 (plainElem Tryz.prog 2) b r n D left cnt := by
 have hlb := h.owns.lt
 have hlr := h.lt
 obtain ⟨es, clock, since, seen, c0, h1, h2, h3, h4, h5, h6⟩ := h
 exact ⟨es, clock, since, seen, c0, (hm.block b hlb hb).trans h1, h2, h3, h4, (hm.block r hlr hr).trans h5, h6⟩
set_option maxRecDepth 100000 in
set_option maxHeartbeats 4000000 in
theorem keys_seqY (Bs b m : Nat) (f : Int → Int → Int → Option Int) (R : Nat → Prop) (w : World) (hB : w.cell? ⟨Bs, 0, none⟩ = some (.map (some b))) (hRB : R Bs) (hRb : R b) (hRw : ∀ i, R i → i < w.heap.size) (hbk : Book w b m f) :
  Seqy Tryz.prog 153 #[.pointer (some ⟨Bs, 0, none⟩)] encK (KOk f) (KDn f) R w := by
 intro l J Jx W X hm hXa hJ hJx hY h0
 have hBW := hm.cell hB (fun h => h hRB)
 have hbW : Book W b m f := hbk.turned hm (fun h => h hRb)
 have hWz := hm.size
 clear hbk hB
 obtain ⟨D, hD, h1⟩ := hbW
 have H1 : Hid (∀ s a t kl, keyOf Tryz.prog 152 (kv s a t) = some kl → Maps.has D kl = (f s a t).isSome ∧ D.atKey kl (.lit (.int .i64 0)) = .lit (.int .i64 ((f s a t).getD 0))) := h1
 clear h1
 have HRW : Hid (∀ i, R i → i < w.heap.size) := hRw
 clear hRw
 refine callsIn_of_wp Tryz.func153 rfl trivial ?_ rfl
 simp only [Tryz.ntmps153, List.size_toArray, List.length_cons, List.length_nil, Nat.reduceAdd, Nat.reduceSub, Array.replicate_succ, Array.replicate_zero, List.push_toArray, List.append_toArray, List.nil_append, List.cons_append]
 gi_wp2_with (gi_at_range; refine wpListIn_range_own _ rfl _ 113 rfl 152 2 holdLaw Tryz.underlying113 _ b m D rfl hD ?_; intro w0 hrg0 hg0 hs0)
 go_frame
 have HLT : Hid (b < w.heap.size) := HRW.out b hRb
 obtain ⟨r, hr⟩ : ∃ r, W.heap.size = r := ⟨_, rfl⟩
 have HWR : Hid (W.heap.size = r) := hr
 have hwr : w.heap.size ≤ r := by omega
 have hJ0 : J [] w0 (fun i => X i ∨ i = r) := hJ _ _ _ X _ h0 ((Mod.of_grown hg0).mono (fun i e => by cases e)) (fun i h => .inl h) (fun i h => by
  rcases h with h | h
  ·
   exact ⟨.inl h, by have := hXa i h; omega⟩
  ·
   exact ⟨.inr (by omega), by omega⟩)
 have hX0 : ∀ i, (X i ∨ i = r) → i < w0.heap.size := fun i h => by
  rcases h with h | h
  ·
   have := hXa i h; omega
  ·
   omega
 rw [hr] at hrg0 ⊢
 clear hr h0 hg0 hs0 hBW hD hXa
 have hk0 : KLeft f [] (Maps.has D) := ⟨⟨List.nodup_nil, fun x h => by cases h⟩, fun s a t kl hk => by rw [(H1.out s a t kl hk).1]; simp⟩
 gi_loopw [6] (fun _ wr => ∃ (pre : List K3) (left : Lit → Bool) (cnt : Nat), Hid (J pre wr (fun i => X i ∨ i = r)) ∧ wr.ranges (H := Unit) Tryz.prog 152 (plainElem Tryz.prog 2) b r m D left cnt ∧ Hid (KLeft f pre left) ∧ Hid (∀ i, (X i ∨ i = r) → i < wr.heap.size)) (fun _ wr => wr.rangeLeft b r)
 case atStart => exact ⟨[], _, _, hJ0, hrg0, hk0, hX0⟩
 case round =>
  obtain ⟨pre, left, cnt, HJ, hrg, HK, HXa⟩ := hrel
  clear hJ0 hX0 hrg0 hk0
  gi_wp2_with (gi_at_next; refine wpListIn_next_ranges _ rfl _ rfl 152 holdLaw _ (fun x : Int × Int × Int => Value.agg #[.int .i64 x.1, .int .i64 x.2.1, .int .i64 x.2.2]) (fun c : Int => Value.int .i64 c) invKh invV64 b r m D left cnt rfl hrg ?_ ?_)
  ·
   intro _ hl0
   gi_wp2
   go_end0
   refine ⟨⟨_, rfl⟩, _, fun i h => .inl h, .inl ⟨pre, ⟨HK.out.1, fun s a t hw hs => ?_⟩, HJ.out⟩⟩
   obtain ⟨kl, hk⟩ := keyOf_kv hw
   apply Classical.byContradiction
   intro hn
   have := (HK.out.2 s a t kl hk).2 ⟨hs, hn⟩
   rw [hl0 kl] at this
   cases this
  ·
   intro s a t c kl y1 y2 w1 cnt1 hk hlk hv hat hrg1 hlt hg1 hs1 hen
   obtain ⟨hok, hleft⟩ := HK.out.step (s := s) (a := a) (t := t) hk hlk
   have hm1 : Mod (fun i => X i ∨ i = r) _ w1 := (Mod.of_grown hg1).mono (fun i e => .inr (by simpa using e.symm))
   have hJ1 : J pre w1 (fun i => X i ∨ i = r) := hJ _ _ _ _ _ HJ.out hm1 (fun _ h => h) (fun i h => ⟨.inl h, by have := HXa.out i h; omega⟩)
   have hJ2 : J pre (w1.alloc (.cells #[.int .i64 s, .int .i64 a, .int .i64 t] 152)) (fun i => X i ∨ i = r) := hJ _ _ _ _ _ hJ1 (mod_alloc _ _ _) (fun _ h => h) (fun i h => ⟨.inl h, by have := HXa.out i h; simp; omega⟩)
   obtain ⟨fn, tmps, assign, body, hy, hR2⟩ := hY _ (s, a, t) _ _ hJ2 (fun i h => .inl h) (fun i h => by have := HXa.out i h; simp; omega) hok
   unfold encK kv at hy
   dsimp only at hy
   have HLF : Hid (KLeft f (pre ++ [(s, a, t)]) (fun z => left z && !z.sameKey kl)) := hleft
   have HM : Hid (w1.rangeLeft b r < 0 + cnt ∨ True) := .inr trivial
   have HRG1 : Hid (w1.ranges (H := Unit) Tryz.prog 152 (plainElem Tryz.prog 2) b r m D (fun z => left z && !z.sameKey kl) cnt1) := hrg1
   have HCN : Hid (cnt1 < cnt) := hlt
   have hcnt := hrg.left_eq
   clear hleft hok hk hlk hv hat hrg1 hlt hg1 hm1 hJ1
   have hrltb : r < w1.heap.size := HRG1.out.lt
   have hbltb : b < w1.heap.size := HRG1.out.owns.lt
   have hnR : ¬ R r := fun h => by have := HRW.out r h; omega
   gi_wp2
   refine ⟨rfl, hR2.mono ?_⟩
   rintro e W3 (⟨rfl, hJ3, hk3⟩ | ⟨rfl, hJx3, hk3⟩)
   ·
    have hrg3 : W3.ranges (H := Unit) Tryz.prog 152 (plainElem Tryz.prog 2) b r m D (fun z => left z && !z.sameKey kl) cnt1 := ranges_mod (HRG1.out.alloc _) hk3 (fun h => h (.inl hRb)) (fun h => h (.inr (.inr rfl)))
    have hs3 := hk3.size
    simp only [World.size_alloc] at hs3
    have HX3 : Hid (∀ i, (X i ∨ i = r) → i < W3.heap.size) := fun i h => by have := HXa.out i h; omega
    have HJ3 : Hid (J (pre ++ [(s, a, t)]) W3 (fun i => X i ∨ i = r)) := hJ3
    have hl3 := hrg3.left_eq
    clear hJ3 hk3
    gi_wp2
    go_roundw
    case rel => exact ⟨pre ++ [(s, a, t)], _, cnt1, HJ3, hrg3, HLF, HX3⟩
    case measure =>
     rw [hl3, hcnt]
     exact HCN.out
   ·
    have HJx3 : Hid (Jx (pre ++ [(s, a, t)]) W3 (fun i => X i ∨ i = r)) := hJx3
    clear hJx3 hk3
    gi_wp2
    refine bodyPost_ret (results_none rfl _ _ _) rfl ?_
    exact ⟨⟨_, rfl⟩, _, fun i h => .inl h, .inr ⟨_, HLF.out.1, HJx3.out⟩⟩
end Go.Proofs.YtndghenlapbaaaaGreat

/-
 slices.SortedFunc over the keys of a book; maps.Keys.
-/
namespace Go.Proofs.YtndghenlapbaaaaGreat
open Go.RowKit Go.Sort Go.Shelf
variable [DecidableEq Rw] [Inhabited Rw] [DecidableEq Bal] [Inhabited Bal] [DecidableEq Ledg] [Inhabited Ledg] [DecidableEq Leg] [Inhabited Leg] [DecidableEq Cont] [Inhabited Cont]
attribute [local go_sem ↓] Go.wp_at_zero Go.wp_at_succ

structure SortsK : Prop where
 some_ : ∀ (xs : List K3) (g cap base : Nat) (W : World), W.ownsRow base 152 3 (.slice (some ⟨g, 0, none⟩) xs.length cap) xs.length (keysC xs) → base ≤ W.heap.size → xs.length ≤ 200 →
  Calls Tryz.prog 152 #[.slice (some ⟨g, 0, none⟩) xs.length cap, .func (.func 132) #[] #[]] W fun e w' => e = .returned (.tuple #[]) ∧ ∃ ys : List K3, ys.Perm xs ∧ ys.Pairwise (fun p q => ltOf cfK q p = false) ∧ (∀ i, i < ys.length → keyCells w' g (i * 3) (ys.getD i default)) ∧ Go.RowKit.Below base W w'
 none_ : ∀ W : World, Calls Tryz.prog 152 #[.slice none 0 0, .func (.func 132) #[] #[]] W fun e w' => e = .returned (.tuple #[]) ∧ w' = W
def KeysV (w : World) (v : Value) (ys : List K3) : Prop := ∃ a c, v = .slice a ys.length c ∧ ∀ i, i < ys.length → ∃ g, a = some ⟨g, 0, none⟩ ∧ keyCells w g (i * 3) (ys.getD i default)
set_option maxRecDepth 20000 in
set_option maxHeartbeats 2000000 in
theorem sortedFunc_any (hS : SortsK) (gf : Nat) (lb : Array Value) (Ok Dn : List K3 → Prop) (R : Nat → Prop) (w : World) (eg : ∀ args w, (callFunc gf args).run Tryz.prog w = .ok (.enter gf args) w) (hseq : Seqy Tryz.prog gf lb encK Ok Dn R w) (hR : ∀ b, R b → b < w.heap.size) (hlen : ∀ ys, Ok ys → ys.length ≤ 200) (hdl : ∀ ys, Dn ys → ys.length ≤ 200) :
  Calls Tryz.prog 130 #[.func (.func gf) #[] lb, .func (.func 132) #[] #[]] w fun e w' => ∃ v xs ys, e = .returned v ∧ Dn xs ∧ ys.Perm xs ∧ ys.Pairwise (fun p q => ltOf cfK q p = false) ∧ KeysV w' v ys ∧ Go.RowKit.Below w.heap.size w w' := by
 have hc := collectK_any gf lb Ok Dn R w eg hseq hR hlen
 have HS : Hid SortsK := hS
 have HDL : Hid (∀ ys, Dn ys → ys.length ≤ 200) := hdl
 clear eg hseq hS hdl hlen
 go_enter Tryz.func130, Tryz.ntmps130
 go_wp2_with fail
 refine hc.mono ?_
 rintro e w1 ⟨v, xs, rfl, hDn, ho, hb⟩
 clear hc
 have hl := HDL.out xs hDn
 rcases ho.2 with ⟨rfl, hn⟩ | ⟨g, cap, _, rfl, _⟩
 ·
  have hx : xs = [] := List.eq_nil_of_length_eq_zero hn
  subst hx
  go_wp2_with fail
  refine (HS.out.none_ w1).mono ?_
  rintro e w2 ⟨rfl, hw2⟩
  obtain rfl := hw2.symm
  go_wp2
  go_ret
  exact ⟨_, [], [], rfl, hDn, List.Perm.refl _, List.Pairwise.nil, ⟨none, 0, rfl, fun i h => absurd h (Nat.not_lt_zero _)⟩, hb⟩
 ·
  have hcon := HS.out.some_ xs g cap w.heap.size w1 ho hb.size hl
  obtain ⟨n, hn⟩ : ∃ n, n = xs.length := ⟨_, rfl⟩
  rw [← hn] at hcon ⊢
  have HN : Hid (xs.length = n) := hn.symm
  clear hn ho hl
  go_wp2_with fail
  refine hcon.mono ?_
  rintro e w2 ⟨rfl, ys, hp, hs, hk, hb2⟩
  clear hcon
  have HK : Hid (KeysV w2 (.slice (some ⟨g, 0, none⟩) n cap) ys) := ⟨_, _, by rw [hp.length_eq, HN.out], fun i hi => ⟨g, rfl, hk i hi⟩⟩
  have hB2 : Go.RowKit.Below w.heap.size w w2 := hb.trans hb2
  clear hk
  go_wp2
  go_ret
  exact ⟨_, xs, ys, rfl, hDn, hp, hs, HK.out, hB2⟩
end Go.Proofs.YtndghenlapbaaaaGreat

/-
 maps.Keys: a closure over the box of its map; the book's keys, sorted.
-/
namespace Go.Proofs.YtndghenlapbaaaaGreat
open Go.RowKit Go.Sort Go.Shelf
variable [DecidableEq Rw] [Inhabited Rw] [DecidableEq Bal] [Inhabited Bal] [DecidableEq Ledg] [Inhabited Ledg] [DecidableEq Leg] [Inhabited Leg] [DecidableEq Cont] [Inhabited Cont]
attribute [local go_sem ↓] Go.wp_at_zero Go.wp_at_succ

theorem keysFn_any (w : World) (b : Nat) :
  Calls Tryz.prog 131 #[.map (some b)] w fun e w' => e = .returned (.func (.func 153) #[] #[.pointer (some ⟨w.heap.size, 0, none⟩)]) ∧ Go.RowKit.Below w.heap.size w w' ∧ w'.cell? ⟨w.heap.size, 0, none⟩ = some (.map (some b)) := by
 go_enter Tryz.func131, Tryz.ntmps131
 go_wp2
 go_ret
 exact ⟨rfl, bA (Below.refl _ _) _, by simp [go_sem]⟩
end Go.Proofs.YtndghenlapbaaaaGreat

/-
 The legs of one shard, on both sides.
-/
namespace Go.Proofs.YtndghenlapbaaaaGreat
open Go.RowKit
variable [DecidableEq Leg] [Inhabited Leg]
attribute [local go_sem ↓] Go.wp_at_zero Go.wp_at_succ

def onSh (s : Int) (xs : List Leg) : List Leg := xs.filter (fun l => l.sh == s)
theorem onSh_hit (s : Int) (xs : List Leg) (k : Nat) (h : k < xs.length) (hs : (xs.getD k default).sh = s) : onSh s (xs.take (k + 1)) = onSh s (xs.take k) ++ [xs.getD k default] := by
 rw [take_snoc xs k h]; simp only [onSh, List.filter_append]; simp only [List.filter_cons, List.filter_nil, hs, beq_self_eq_true, if_true]
theorem onSh_miss (s : Int) (xs : List Leg) (k : Nat) (h : k < xs.length) (hs : ¬ (xs.getD k default).sh = s) : onSh s (xs.take (k + 1)) = onSh s (xs.take k) := by
 rw [take_snoc xs k h]; simp only [onSh, List.filter_append, List.filter_cons, List.filter_nil, beq_eq_false_iff_ne.2 hs]; simp
theorem onSh_le (s : Int) (xs : List Leg) (k : Nat) : (onSh s (xs.take k)).length ≤ k := by
 have := List.length_filter_le (fun l : Leg => l.sh == s) (xs.take k)
 have h2 := List.length_take_le k xs
 simp only [onSh]; omega
theorem legsC_snoc (xs : List Leg) (l : Leg) : legsC (xs ++ [l]) = legsC xs ++ legC l := by simp [legsC]
theorem legC_one (l : Leg) : ∀ u ∈ legC l, u.oneCell' = true := by
 intro u hu
 simp only [legC, List.mem_cons, List.not_mem_nil, or_false] at hu
 rcases hu with rfl | rfl | rfl | rfl <;> rfl
theorem legC_cells {w : World} {b o : Nat} {l : Leg} (h : legCells w b o l) : ∀ j u, (legC l)[j]? = some u → w.cell? ((⟨b, o, none⟩ : Addr).add j) = some u := by
 obtain ⟨h0, h1, h2, h3⟩ := h
 intro j u hj
 match j, hj with
 | 0, hj => simp [legC] at hj; subst hj; simpa [Addr.add] using h0
 | 1, hj => simp [legC] at hj; subst hj; simpa [Addr.add] using h1
 | 2, hj => simp [legC] at hj; subst hj; simpa [Addr.add] using h2
 | 3, hj => simp [legC] at hj; subst hj; simpa [Addr.add] using h3
 | j + 4, hj => simp [legC] at hj
theorem owns_grown {w w' : World} {B : Nat} {base e size : Nat} {v : Value} {n : Nat} {xs : List Value} (h : w.ownsRow base e size v n xs) {W : World} (hb : Below B W w) (hB : B ≤ w.heap.size) (hbase : B ≤ base) (hg : w.grownBy w' v.ownBlock) : Below B W w' :=
 hb.grown hg hB (fun k hk => Nat.le_trans hbase (h.lt k hk).1)
set_option maxHeartbeats 1000000 in
theorem legsOn_any (x : Value) (xs : List Leg) (s : Int) (w : World) (hx : LegsV w x xs) (hn : xs.length ≤ 1048576) :
  Calls Tryz.prog 73 #[x, .int .i64 s] w fun e w' => ∃ v, e = .returned v ∧ w'.ownsRow w.heap.size 93 4 v (onSh s xs).length (legsC (onSh s xs)) ∧ Below w.heap.size w w' := by
 obtain ⟨ax, cx, rfl, hcx, hmx, hx⟩ := hx
 unfold maxLen at hmx
 obtain ⟨i0, hi, hz0, hz1, hz2⟩ := info_parts infoLeg
 generalize hn' : xs.length = n at *
 have HN : Hid (xs.length = n) := hn'
 clear hn'
 go_enter Tryz.func73, Tryz.ntmps73
 go_wp2
 go_loopw [5, 10] (fun v i w' => ∃ k : Nat, k ≤ n ∧ i = .int .i64 k ∧ w'.ownsRow w.heap.size 93 4 v (onSh s (xs.take k)).length (legsC (onSh s (xs.take k))) ∧ Below w.heap.size w w') (fun _ i _ => n - (intOf i).toNat)
 case atStart => exact ⟨0, Nat.zero_le _, rfl, by simpa [onSh, legsC] using World.ownsRow_nil _ _ _ _, Below.refl _ _⟩
 case round =>
  obtain ⟨k, hk, rfl, ho, hbl⟩ := hrel
  by_cases hlt : k < n
  ·
   obtain ⟨bx, ox, rfl, g1⟩ := hx k hlt
   obtain ⟨l, hl⟩ : ∃ l, l = xs.getD k default := ⟨_, rfl⟩
   rw [← hl] at g1
   have HL : Hid (l = xs.getD k default) := hl
   clear hl hx
   obtain ⟨a1, a2, a3, a4⟩ := legCells_below hbl g1
   have hkx : k < xs.length := by have := HN.out; omega
   have hle := onSh_le s xs k
   have hsz := hbl.size
   by_cases hs : l.sh = s
   ·
    have e1 := onSh_hit s xs k hkx (by rw [← HL.out]; exact hs)
    rw [← HL.out] at e1
    have HE : Hid (onSh s (xs.take (k + 1)) = onSh s (xs.take k) ++ [l]) := e1
    have HS : Hid (l.sh = s) := hs
    have hd : (l.sh == s) = true := by simpa using hs
    generalize onSh s (xs.take k) = ys at *
    clear e1 hs
    go_wp2_with (at_builtin; refine wpList_append_own _ rfl _ _ 42 rfl w.heap.size 93 i0 _ 4 32 Tryz.underlying42 hi hz0 hz1 hz2 rfl (by decide) _ _ _ rfl ((ho.alloc _).alloc _) ⟨wr.heap.size + 1, 0, none⟩ 1 1 (legC l) rfl rfl ?c1 (legC_one l) ?c3 ?c4 ?c5 ?_)
    case c1 => exact legC_cells (b := wr.heap.size + 1) (o := 0) ⟨by simp [go_sem], by simp [go_sem], by simp [go_sem], by simp [go_sem]⟩
    case c3 => unfold maxLen; omega
    case c4 => omega
    case c5 => simp; omega
    ·
     intro v' w1 hown' hgrow _
     have hB1 : Below w.heap.size w w1 := owns_grown ((ho.alloc _).alloc _) (bA (bA hbl _) _) (by simp; omega) (Nat.le_refl _) hgrow
     clear hgrow ho a1 a2 a3 a4
     go_wp2
     refine ⟨⟨k + 1, by omega, by go_num, ?_, hB1⟩, by simp [intOf]; omega⟩
     rw [HE.out, legsC_snoc, List.length_append]
     exact hown'
   ·
    have e1 := onSh_miss s xs k hkx (by rw [← HL.out]; exact hs)
    have HE : Hid (onSh s (xs.take (k + 1)) = onSh s (xs.take k)) := e1
    have hd : (l.sh == s) = false := by simpa using hs
    clear e1 hs
    go_wp2
    refine ⟨⟨k + 1, by omega, by go_num, ?_, bA hbl _⟩, by simp [intOf]; omega⟩
    rw [HE.out]
    exact ho.alloc _
  ·
   go_wp2
   go_ret
   have hkn : k = n := by omega
   subst hkn
   have t0 : xs.take k = xs := by rw [← HN.out]; exact List.take_length
   rw [t0] at ho
   exact ⟨_, rfl, ho, hbl⟩
set_option maxHeartbeats 1000000 in
theorem l1Legs_any (id : Int) (x : Value) (xs : List Leg) (s : Int) (w : World) (hx : LegsV w x xs) (hn : xs.length ≤ 1048576) :
  Calls Tryz.prog 27 #[.agg #[.int .i64 id, x], .int .i64 s] w fun e w' => ∃ v, e = .returned v ∧ w'.ownsRow w.heap.size 93 4 v (onSh s xs).length (legsC (onSh s xs)) ∧ Below w.heap.size w w' := by
 obtain ⟨ax, cx, rfl, hcx, hmx, hx⟩ := hx
 unfold maxLen at hmx
 obtain ⟨i0, hi, hz0, hz1, hz2⟩ := info_parts infoLeg
 generalize hn' : xs.length = n at *
 have HN : Hid (xs.length = n) := hn'
 clear hn'
 go_enter Tryz.func27, Tryz.ntmps27
 go_wp2
 go_loopw [5, 6] (fun v i w' => ∃ k : Nat, k ≤ n ∧ i = .int .i64 k ∧ w'.ownsRow (w.heap.size + 1) 93 4 v (onSh s (xs.take k)).length (legsC (onSh s (xs.take k))) ∧ w'.cell? ⟨w.heap.size, 1, none⟩ = some (.slice ax n cx) ∧ w.heap.size + 1 ≤ w'.heap.size ∧ Below w.heap.size w w') (fun _ i _ => n - (intOf i).toNat)
 case atStart =>
  refine ⟨0, Nat.zero_le _, rfl, ?_, by simp [go_sem], by simp, bA (bA (Below.refl _ _) _) _⟩
  have := World.ownsRow_lit (base := w.heap.size + 1) (e := 93) (size := 4) (w.alloc (.cells #[.int .i64 id, .slice ax n cx] 44)) #[] 0 (by simp) (by unfold maxLen; omega) rfl
  simpa [onSh, legsC] using this
 case round =>
  obtain ⟨k, hk, rfl, ho, hbx, hsz, hbl⟩ := hrel
  by_cases hlt : k < n
  ·
   obtain ⟨bx, ox, rfl, g1⟩ := hx k hlt
   obtain ⟨l, hl⟩ : ∃ l, l = xs.getD k default := ⟨_, rfl⟩
   rw [← hl] at g1
   have HL : Hid (l = xs.getD k default) := hl
   clear hl hx
   obtain ⟨a1, a2, a3, a4⟩ := legCells_below hbl g1
   have hkx : k < xs.length := by have := HN.out; omega
   have hle := onSh_le s xs k
   by_cases hs : l.sh = s
   ·
    have e1 := onSh_hit s xs k hkx (by rw [← HL.out]; exact hs)
    rw [← HL.out] at e1
    have HE : Hid (onSh s (xs.take (k + 1)) = onSh s (xs.take k) ++ [l]) := e1
    have hd : (l.sh == s) = true := by simpa using hs
    generalize onSh s (xs.take k) = ys at *
    clear e1 hs
    go_wp2_with (at_builtin; refine wpList_append_own _ rfl _ _ 42 rfl (w.heap.size + 1) 93 i0 _ 4 32 Tryz.underlying42 hi hz0 hz1 hz2 rfl (by decide) _ _ _ rfl (ho.alloc _) ⟨wr.heap.size, 0, none⟩ 1 1 (legC l) rfl rfl ?c1 (legC_one l) ?c3 ?c4 ?c5 ?_)
    case c1 => exact legC_cells (b := wr.heap.size) (o := 0) ⟨by simp [go_sem], by simp [go_sem], by simp [go_sem], by simp [go_sem]⟩
    case c3 => unfold maxLen; omega
    case c4 => omega
    case c5 => simp; omega
    ·
     intro v' w1 hown' hgrow _
     have hz : w.heap.size < wr.heap.size := wL _ _ hbx
     have hB1 : Below w.heap.size w w1 := owns_grown (ho.alloc _) (bA hbl _) (by simp; omega) (by omega) hgrow
     have hbx1 : w1.cell? ⟨w.heap.size, 1, none⟩ = some (.slice (some ⟨bx, ox, none⟩) n cx) := by
      refine hgrow.cell (cK (bA (Below.refl _ _) _) hbx) ?_
      intro h
      have := (ho.alloc (.cells #[.int .i64 l.sh, .int .i64 l.ac, .int .i64 l.ast, .int .i64 l.am] 93)).lt _ h.symm
      simp at this
      omega
     have hz1 : w.heap.size + 1 ≤ w1.heap.size := wL _ _ hbx1
     clear hgrow ho a1 a2 a3 a4
     go_wp2
     refine ⟨⟨k + 1, by omega, by go_num, ?_, hbx1, hz1, hB1⟩, by simp [intOf]; omega⟩
     rw [HE.out, legsC_snoc, List.length_append]
     exact hown'
   ·
    have e1 := onSh_miss s xs k hkx (by rw [← HL.out]; exact hs)
    have HE : Hid (onSh s (xs.take (k + 1)) = onSh s (xs.take k)) := e1
    have hd : (l.sh == s) = false := by simpa using hs
    clear e1 hs
    go_wp2
    refine ⟨⟨k + 1, by omega, by go_num, ?_, hbx, hsz, hbl⟩, by simp [intOf]; omega⟩
    rw [HE.out]
    exact ho
  ·
   go_wp2
   go_ret
   have hkn : k = n := by omega
   subst hkn
   have t0 : xs.take k = xs := by rw [← HN.out]; exact List.take_length
   rw [t0] at ho
   exact ⟨_, rfl, owns_base ho (by omega), hbl⟩
end Go.Proofs.YtndghenlapbaaaaGreat


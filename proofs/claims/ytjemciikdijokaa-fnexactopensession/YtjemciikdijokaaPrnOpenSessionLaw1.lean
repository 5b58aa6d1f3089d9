import Derived.Test.YtjemciikdijokaaRows
import Derived.WalkKit
import Derived.WalkSpells
import Derived.WalkLawsBesides
import Derived.ProofKit
import Derived.OpenShut
import Derived.Lib.SmallJoins
import Derived.BigQuiet
import Derived.Deep.QuietTactic
import Derived.Deep.RegionHeld3
import Derived.Deep.DrawnRows

/-
  Tools of my own for every law of this seat: behind a call that turned no old memory and answered true, the row's end is so.
-/
namespace Go.Proofs.Ytjemciikdijokaa
open Go.ChangeShapes Go.WideShapes Go.ChangeAt Go.RowKit Go.Joins

theorem trodAll_below {H : Type} {enc : TypeId × Value → H} {P : Program} (hl : laidOutB P = true) {W W' : World} (hb : Below W.heap.size W W') :
    ∀ {ts : List TypeId} {vs : List Value} {ds : List (DataW H)} {ps : List MemPlace}, (∀ t ∈ ts, P.readableRec t = true ∧ t < P.types.size) →
      DataW.TrodAll enc P W 0 (fun _ => true) true ts vs ds ps → DataW.TrodAll enc P W' 0 (fun b => decide (b < W.heap.size)) true ts vs ds ps
  | [], [], [], _, _, h => h
  | t :: ts, v :: vs, d :: ds, ps, hr, h => by
    have hlt := DataW.TrodAll.lt h
    obtain ⟨p, q, h1, h2, rfl⟩ := h
    refine ⟨p, q, Below.trod hl (hr t (by simp)).1 (hr t (by simp)).2 h1 hb (fun x hx => hlt x (by simp [hx])), trodAll_below hl hb (fun u hu => hr u (by simp [hu])) h2, rfl⟩
  | [], [], _ :: _, _, _, h => h.elim
  | [], _ :: _, _, _, _, h => h.elim
  | _ :: _, [], _, _, _, h => h.elim
  | _ :: _, _ :: _, [], _, _, h => h.elim
theorem law_post {H : Type} {enc : TypeId × Value → H} {P : Program} {f : Func} {s : ChangeSpec} {W W' : World} {args : Array Value} {ds gs : List (DataW H)} {before : List MemPlace} {tb : TypeId}
    (hW : DataW.Whole enc P f.params.toList s.vars false W args.toList ds gs before)
    (hl : laidOutB P = true) (hr : (f.params.toList.all fun t => P.readableRec t && decide (t < P.types.size)) = true)
    (hvars : s.vars = []) (hrt : f.resultTypes = #[tb]) (hb : P.underlying tb = some .bool) (hfn : gs = [] → s.fn H ds = { results := [.lit (.bool true)], args := ds })
    (hB : Below W.heap.size W W') : s.post enc P f false true false false W args (.bool true) W' := by
  have hW0 := hW
  obtain ⟨p, q, hA, hV, rfl, hfz, hnd⟩ := hW
  rw [hvars] at hV
  obtain ⟨rfl, rfl⟩ := trodVars_none hV
  have hr' : ∀ t ∈ f.params.toList, P.readableRec t = true ∧ t < P.types.size := by
    intro t ht
    have := List.all_eq_true.1 hr t ht
    simpa using this
  refine ⟨ds, [], _, [], p, [], hW0, ?_, ?_, ?_, hB.frame _, fun h => by cases h⟩
  · rw [List.append_nil, hfn rfl, hrt]
    exact trodAll_mk1 (shut_bool hb true)
  · rw [List.append_nil, hfn rfl]
    exact trodAll_below hl hB hr' hA
  · rw [List.append_nil, hfn rfl, hvars]
    exact rfl
theorem bcell {W w1 : World} (hb : Below W.heap.size W w1) : (∀ b o, b < W.heap.size → w1.cell? ⟨b, o, none⟩ = W.cell? ⟨b, o, none⟩) ∧ (∀ b o, b < W.heap.size → w1.frozen? ⟨b, o, none⟩ = W.frozen? ⟨b, o, none⟩) :=
  ⟨fun b o h => hb.cell (p := ⟨b, o, none⟩) h, fun b o h => hb.frozen (p := ⟨b, o, none⟩) h⟩
theorem bstep {w Y X : World} (h : Below w.heap.size w Y) (k : Below Y.heap.size Y X) : Below w.heap.size w X := h.trans (k.mono h.size)
theorem balloc {w Y : World} (h : Below w.heap.size w Y) (o : Obj) : Below w.heap.size w (Y.alloc o) := h.alloc h.size o
theorem owns_some {w : World} {base e size g n cap : Nat} {xs : List Value} (h : w.ownsRow base e size (.slice (some ⟨g, 0, none⟩) n cap) n xs) (j : Nat) (hj : j < n * size) : ∃ u, w.cell? ⟨g, j, none⟩ = some u := by
  have h1 := h.cellAt j hj
  have h2 := h.1
  exact ⟨xs[j]'(by omega), by rw [h1, List.getElem?_eq_getElem]⟩
theorem owns_form {w : World} {base e size : Nat} {v : Value} {n : Nat} {xs : List Value} (h : w.ownsRow base e size v n xs) : ∃ a c, v = .slice a n c := by
  rcases h.2 with ⟨rfl, rfl⟩ | ⟨g, cap, cur, rfl, _⟩
  · exact ⟨_, _, rfl⟩
  · exact ⟨_, _, rfl⟩
theorem bset {w Y : World} (h : Below w.heap.size w Y) {p : Addr} (hp : w.heap.size ≤ p.block) (u : Value) : Below w.heap.size w (Y.setCell p u) := h.setCell hp u
theorem owns_base {w : World} {base base' e size : Nat} {v : Value} {n : Nat} {xs : List Value} (h : w.ownsRow base e size v n xs) (hb : base' ≤ base) : w.ownsRow base' e size v n xs := by
  refine ⟨h.1, ?_⟩
  rcases h.2 with h2 | ⟨g, cap, cur, hv, hg, r⟩
  · exact .inl h2
  · exact .inr ⟨g, cap, cur, hv, Nat.le_trans hb hg, r⟩
theorem cell_keep {w w' : World} {a : Addr} {v : Value} (hb : Below w.heap.size w w') (h : w.cell? a = some v) : w'.cell? a = some v :=
  (hb.cell (World.block_lt_of_cell? w a h)).trans h
theorem keepC2 {w w' : World} {a b : Addr} {u v : Value} (hb : Below w.heap.size w w') (h : w.cell? a = some u) (k : w.cell? b = some v) : Below w.heap.size w w' ∧ w'.cell? a = some u ∧ w'.cell? b = some v :=
  ⟨hb, cell_keep hb h, cell_keep hb k⟩
def szLen (left n : Int) : Int := if left < n then -1 else left - n
theorem grownTrans {w w1 w2 : World} {r : Option Nat} (h : w.grownBy w1 r) (k : w1.grownBy w2 r) : w.grownBy w2 r :=
  ⟨k.os.trans h.os, k.tape.trans h.tape, k.output.trans h.output, Nat.le_trans h.size k.size, fun i hi hr => (k.block i (Nat.lt_of_lt_of_le hi h.size) hr).trans (h.block i hi hr)⟩
theorem own : ownKnob Try.prog.godebug = none := by kernel_rfl
theorem laidOut : laidOutB Try.prog = true := by kernel_rfl
end Go.Proofs.Ytjemciikdijokaa

/-
  A leg as a value: the law's own copy and comparison of one leg.
-/
namespace Go.Proofs.Ytjemciikdijokaa
open Go.RowKit
set_option linter.unusedSectionVars false

structure Leg where
  sh : Int
  ac : Int
  ast : Int
  am : Int
variable [DecidableEq Leg] [Inhabited Leg]

def legV (l : Leg) : Value := .agg #[.int .i64 l.sh, .int .i64 l.ac, .int .i64 l.ast, .int .i64 l.am]
set_option maxHeartbeats 400000 in
theorem eqLeg_any (x y : Leg) (w : World) :
    Calls Try.prog 92 #[legV x, legV y] w fun e w' => e = .returned (.bool (decide (x = y))) ∧ Below w.heap.size w w' := by
  obtain ⟨a, b, c, d⟩ := x
  obtain ⟨a', b', c', d'⟩ := y
  unfold legV
  go_enter Try.func92, Try.ntmps92
  go_wp2
  all_goals
    go_ret
    exact ⟨by simp_all, (by repeat (first | exact Below.refl _ _ | (refine Below.drew ?_) | (refine Below.alloc ?_ (by first | (simp; done) | (simp; omega)) _)))⟩
end Go.Proofs.Ytjemciikdijokaa

/-
  Legs in memory: what a slice of legs holds, and the contracts of the functions that only compare, count and copy them.
-/
namespace Go.Proofs.Ytjemciikdijokaa
open Go.RowKit
set_option linter.unusedSectionVars false
variable [DecidableEq Leg] [Inhabited Leg]
attribute [local go_sem ↓] Go.wp_at_zero Go.wp_at_succ

def legCells (w : World) (b o : Nat) (l : Leg) : Prop :=
  w.cell? ⟨b, o, none⟩ = some (.int .i64 l.sh) ∧ w.cell? ⟨b, o + 1, none⟩ = some (.int .i64 l.ac) ∧ w.cell? ⟨b, o + 2, none⟩ = some (.int .i64 l.ast) ∧ w.cell? ⟨b, o + 3, none⟩ = some (.int .i64 l.am)
def LegsV (w : World) (v : Value) (xs : List Leg) : Prop :=
  ∃ a cap, v = .slice a xs.length cap ∧ xs.length ≤ cap ∧ cap ≤ maxLen ∧ ∀ i, i < xs.length → ∃ b o, a = some ⟨b, o, none⟩ ∧ legCells w b (o + i * 4) (xs.getD i default)
theorem legCells_below {w w' : World} {b o : Nat} {l : Leg} (hb : Below w.heap.size w w') (h : legCells w b o l) : legCells w' b o l := by
  obtain ⟨h1, h2, h3, h4⟩ := h
  have hlt : b < w.heap.size := World.block_lt_of_cell? w _ h1
  exact ⟨(hb.cell (p := ⟨b, o, none⟩) hlt).trans h1, (hb.cell (p := ⟨b, o + 1, none⟩) hlt).trans h2, (hb.cell (p := ⟨b, o + 2, none⟩) hlt).trans h3, (hb.cell (p := ⟨b, o + 3, none⟩) hlt).trans h4⟩
theorem keep2 {w w' : World} {b o b' o' : Nat} {l l' : Leg} (hb : Below w.heap.size w w') (h : legCells w b o l) (h' : legCells w b' o' l') :
    Below w.heap.size w w' ∧ (w'.cell? ⟨b, o, none⟩ = some (.int .i64 l.sh) ∧ w'.cell? ⟨b, o + 1, none⟩ = some (.int .i64 l.ac) ∧ w'.cell? ⟨b, o + 2, none⟩ = some (.int .i64 l.ast) ∧ w'.cell? ⟨b, o + 3, none⟩ = some (.int .i64 l.am)) ∧
      (w'.cell? ⟨b', o', none⟩ = some (.int .i64 l'.sh) ∧ w'.cell? ⟨b', o' + 1, none⟩ = some (.int .i64 l'.ac) ∧ w'.cell? ⟨b', o' + 2, none⟩ = some (.int .i64 l'.ast) ∧ w'.cell? ⟨b', o' + 3, none⟩ = some (.int .i64 l'.am)) :=
  ⟨hb, legCells_below hb h, legCells_below hb h'⟩
theorem list_eq_of {xs ys : List Leg} (hl : ys.length = xs.length) (h : ∀ j, j < xs.length → xs.getD j default = ys.getD j default) : xs = ys := by
  apply List.ext_getElem (by omega)
  intro i h1 h2
  have := h i h1
  simpa [List.getD, h1, h2] using this
set_option maxHeartbeats 1000000 in
theorem eqLegS_any (x y : Value) (xs ys : List Leg) (w : World) (hx : LegsV w x xs) (hy : LegsV w y ys) :
    Calls Try.prog 83 #[x, y] w fun e w' => e = .returned (.bool (decide (xs = ys))) ∧ Below w.heap.size w w' := by
  obtain ⟨ax, cx, rfl, hcx, hmx, hx⟩ := hx
  obtain ⟨ay, cy, rfl, hcy, hmy, hy⟩ := hy
  unfold maxLen at hmx hmy
  by_cases hl : ys.length = xs.length
  · rw [hl] at hcy hy ⊢
    have HL : Hid (ys.length = xs.length) := hl
    clear hl
    generalize hn : xs.length = n at *
    have HN : Hid (xs.length = n) := hn
    clear hn
    go_enter Try.func83, Try.ntmps83
    go_wp2
    go_loopw [5] (fun i w' => ∃ k : Nat, k ≤ n ∧ i = .int .i64 k ∧ (∀ j, j < k → xs.getD j default = ys.getD j default) ∧ Below w.heap.size w w') (fun i _ => n - (intOf i).toNat)
    case atStart => exact ⟨0, Nat.zero_le _, rfl, fun j h => absurd h (Nat.not_lt_zero _), Below.refl _ _⟩
    case round =>
      obtain ⟨k, hk, rfl, hpre, hbl⟩ := hrel
      have HP : Hid (∀ j, j < k → xs.getD j default = ys.getD j default) := hpre
      clear hpre
      by_cases hlt : k < n
      · obtain ⟨bx, ox, rfl, h1⟩ := hx k hlt
        obtain ⟨b2, oy, rfl, h2⟩ := hy k hlt
        obtain ⟨l1, hl1⟩ : ∃ l, l = xs.getD k default := ⟨_, rfl⟩
        obtain ⟨l2, hl2⟩ : ∃ l, l = ys.getD k default := ⟨_, rfl⟩
        rw [← hl1] at h1
        rw [← hl2] at h2
        have H1 : Hid (l1 = xs.getD k default) := hl1
        have H2 : Hid (l2 = ys.getD k default) := hl2
        clear hl1 hl2 hx hy
        go_wp2
        go_region_held3 (fun w' => Below w.heap.size w w' ∧ (w'.cell? ⟨bx, ox + k * 4, none⟩ = some (.int .i64 l1.sh) ∧ w'.cell? ⟨bx, ox + k * 4 + 1, none⟩ = some (.int .i64 l1.ac) ∧ w'.cell? ⟨bx, ox + k * 4 + 2, none⟩ = some (.int .i64 l1.ast) ∧ w'.cell? ⟨bx, ox + k * 4 + 3, none⟩ = some (.int .i64 l1.am)) ∧ (w'.cell? ⟨b2, oy + k * 4, none⟩ = some (.int .i64 l2.sh) ∧ w'.cell? ⟨b2, oy + k * 4 + 1, none⟩ = some (.int .i64 l2.ac) ∧ w'.cell? ⟨b2, oy + k * 4 + 2, none⟩ = some (.int .i64 l2.ast) ∧ w'.cell? ⟨b2, oy + k * 4 + 3, none⟩ = some (.int .i64 l2.am))) ((refine keep2 ?_ h1 h2; repeat (first | exact Below.refl _ _ | assumption | refine Below.drew ?_ | refine balloc ?_ _ | refine bstep ?_ (by assumption)))) (first | (go_at_call 92; refine (eqLeg_any l1 l2 _).mono ?_; rintro e w' ⟨rfl, hb1⟩))
        rename_i hH
        have hB := hH.1
        clear hH
        go_wp2
        · rename_i hle
          go_ret
          refine ⟨?_, hB⟩
          have : ¬ xs = ys := fun h => by
            have : l1 = l2 := by rw [H1.out, H2.out, h]
            simp [this] at hle
          simp [this]
        · rename_i hle
          refine ⟨⟨k + 1, by omega, by go_num, fun j hj => ?_, hB⟩, by simp [intOf]; omega⟩
          by_cases hjk : j < k
          · exact HP.out j hjk
          · have : j = k := by omega
            subst this
            rw [← H1.out, ← H2.out]
            simpa using hle
      · go_wp2
        go_ret
        have : k = n := by omega
        subst this
        refine ⟨?_, hbl⟩
        have : xs = ys := list_eq_of (by rw [HL.out, HN.out]) (by rw [HN.out]; exact HP.out)
        simp [this]
  · go_enter Try.func83, Try.ntmps83
    have hl' : ((xs.length : Int) == (ys.length : Int)) = false := by simp; omega
    go_wp2
    go_ret
    have : ¬ xs = ys := fun h => hl (by rw [h])
    exact ⟨by simp [this], Below.refl _ _⟩
end Go.Proofs.Ytjemciikdijokaa

/-
  Legs copied: the contract of the law's own copy of a slice of legs.
-/
namespace Go.Proofs.Ytjemciikdijokaa
open Go.RowKit
set_option linter.unusedSectionVars false
variable [DecidableEq Leg] [Inhabited Leg]
attribute [local go_sem ↓] Go.wp_at_zero Go.wp_at_succ

def legC (l : Leg) : List Value := [.int .i64 l.sh, .int .i64 l.ac, .int .i64 l.ast, .int .i64 l.am]
def legsC (xs : List Leg) : List Value := xs.flatMap legC
theorem length_legsC (xs : List Leg) : (legsC xs).length = xs.length * 4 := by
  induction xs with
  | nil => rfl
  | cons x r ih =>
    have e : legsC (x :: r) = legC x ++ legsC r := by simp [legsC]
    have l4 : (legC x).length = 4 := rfl
    rw [e, List.length_append, l4, ih, List.length_cons]
    omega
theorem getLegsC (xs : List Leg) : ∀ i, i < xs.length → (legsC xs)[i * 4]? = some (.int .i64 (xs.getD i default).sh) ∧ (legsC xs)[i * 4 + 1]? = some (.int .i64 (xs.getD i default).ac) ∧
    (legsC xs)[i * 4 + 2]? = some (.int .i64 (xs.getD i default).ast) ∧ (legsC xs)[i * 4 + 3]? = some (.int .i64 (xs.getD i default).am) := by
  induction xs with
  | nil => intro i h; simp at h
  | cons x r ih =>
    intro i h
    cases i with
    | zero => simp [legsC, legC]
    | succ i =>
      have := ih i (by simpa using h)
      have e : legsC (x :: r) = legC x ++ legsC r := by simp [legsC]
      have l4 : (legC x).length = 4 := rfl
      rw [e]
      refine ⟨?_, ?_, ?_, ?_⟩
      all_goals rw [List.getElem?_append_right (by omega), l4]
      · rw [show (i + 1) * 4 - 4 = i * 4 by omega]; simpa using this.1
      · rw [show (i + 1) * 4 + 1 - 4 = i * 4 + 1 by omega]; simpa using this.2.1
      · rw [show (i + 1) * 4 + 2 - 4 = i * 4 + 2 by omega]; simpa using this.2.2.1
      · rw [show (i + 1) * 4 + 3 - 4 = i * 4 + 3 by omega]; simpa using this.2.2.2
theorem LegsV_of_owns {w : World} {base e : Nat} {v : Value} {xs : List Leg} (h : w.ownsRow base e 4 v xs.length (legsC xs)) : LegsV w v xs := by
  rcases h.2 with ⟨rfl, hn⟩ | ⟨g, cap, cur, rfl, hb, hg, hnc, hcm, hcs, htake⟩
  · exact ⟨none, 0, by rw [hn], by omega, by unfold maxLen; omega, fun i hi => by omega⟩
  · refine ⟨some ⟨g, 0, none⟩, cap, rfl, hnc, hcm, fun i hi => ⟨g, 0, rfl, ?_⟩⟩
    obtain ⟨h0, h1, h2, h3⟩ := getLegsC xs i hi
    simp only [Nat.zero_add, legCells]
    exact ⟨(h.cellAt _ (by omega)).trans h0, (h.cellAt _ (by omega)).trans h1, (h.cellAt _ (by omega)).trans h2, (h.cellAt _ (by omega)).trans h3⟩
def upto (k : Nat) (cs : List Value) (xs : List Leg) : Prop := ∀ j, j < k * 4 → cs[j]? = (legsC xs)[j]?
theorem upto_full {n : Nat} {cs : List Value} {xs : List Leg} (h : upto n cs xs) (hl : cs.length = n * 4) (hn : xs.length = n) : cs = legsC xs := by
  apply List.ext_getElem?
  intro j
  by_cases hj : j < n * 4
  · exact h j hj
  · rw [List.getElem?_eq_none (by omega), List.getElem?_eq_none (by rw [length_legsC]; omega)]
theorem upto_set {k : Nat} {cs : List Value} {xs : List Leg} {l : Leg} (h : upto k cs xs) (hk : k < xs.length) (hl : cs.length = xs.length * 4) (he : l = xs.getD k default) :
    upto (k + 1) ((((cs.set (k * 4) (.int .i64 l.sh)).set (k * 4 + 1) (.int .i64 l.ac)).set (k * 4 + 2) (.int .i64 l.ast)).set (k * 4 + 3) (.int .i64 l.am)) xs := by
  intro j hj
  obtain ⟨h0, h1, h2, h3⟩ := getLegsC xs k hk
  subst he
  simp only [List.getElem?_set, List.length_set]
  by_cases e3 : k * 4 + 3 = j
  · subst e3; simp [h3]; omega
  by_cases e2 : k * 4 + 2 = j
  · subst e2; simp [h2]; omega
  by_cases e1 : k * 4 + 1 = j
  · subst e1; simp [h1]; omega
  by_cases e0 : k * 4 = j
  · subst e0; simp [h0]; omega
  simp [e0, e1, e2, e3]
  exact h j (by omega)
end Go.Proofs.Ytjemciikdijokaa


import Derived.Test.YtgjpafalompecaaPrnSettlesLaw3
import Derived.Test.YtgjpafalompecaaPrnSettlesLaw16
import Derived.Test.YtgjpafalompecaaPrnSettlesLaw17
import Derived.Test.YtgjpafalompecaaPrnSettlesLaw19
import Derived.Test.YtgjpafalompecaaPrnSettlesLaw2
import Derived.BigQuiet
import Derived.Deep.QuietTactic
import Derived.Deep.RegionHeld3
import Derived.Test.YtgjpafalompecaaPrnSettlesLaw13

/-
  Ledgers that are drawn: what can be read of them, whoever shares it.
-/
set_option linter.unusedVariables false
set_option linter.unusedSimpArgs false
namespace Go.Proofs.Ytgjpafalompecaa
open Go.RowKit
set_option linter.unusedSectionVars false
variable [DecidableEq Bal] [Inhabited Bal] [DecidableEq Ledg] [Inhabited Ledg] [DecidableEq Leg] [Inhabited Leg] [DecidableEq Mrk] [Inhabited Mrk] [DecidableEq Logg] [Inhabited Logg] [DecidableEq LoggR] [Inhabited LoggR] [DecidableEq BytesR] [Inhabited BytesR] [DecidableEq RecsR] [Inhabited RecsR]

def RowI (W : World) (N : Nat) (p : Option Addr) (n c : Nat) : Prop :=
  n ≤ c ∧ c ≤ maxLen ∧ ∀ i, i < n → ∀ f, f < 3 → ∃ (b o : Nat) (z : Int), p = some ⟨b, o, none⟩ ∧ N ≤ b ∧ W.cell? ⟨b, o + i * 3 + f, none⟩ = some (.int .i64 z)
theorem RowI.keep {W W' : World} {N : Nat} {p : Option Addr} {n c : Nat} (h : RowI W N p n c) (hk : ∀ (b o : Nat) (z : Int), N ≤ b → W.cell? ⟨b, o, none⟩ = some (.int .i64 z) → ∃ z' : Int, W'.cell? ⟨b, o, none⟩ = some (.int .i64 z')) : RowI W' N p n c :=
  ⟨h.1, h.2.1, fun i hi f hf => by
    obtain ⟨b, o, z, e, hb, hc⟩ := h.2.2 i hi f hf
    obtain ⟨z', hc'⟩ := hk b _ z hb hc
    exact ⟨b, o, z', e, hb, hc'⟩⟩
theorem RowI.below {W W' : World} {N : Nat} {p : Option Addr} {n c : Nat} (h : RowI W N p n c) (hb : Below W.heap.size W W') : RowI W' N p n c :=
  h.keep fun b o z _ hc => ⟨z, cell_keep hb hc⟩
theorem RowI.mod {F : Nat → Prop} {W W' : World} {N : Nat} {p : Option Addr} {n c : Nat} (h : RowI W N p n c) (hm : Mod F W W') (hF : ∀ b, F b → b < N) : RowI W' N p n c :=
  h.keep fun b o z hb hc => ⟨z, hm.cell hc (fun e => by have := hF b e; omega)⟩
theorem RowI.base {W : World} {N N' : Nat} {p : Option Addr} {n c : Nat} (h : RowI W N p n c) (hN : N' ≤ N) : RowI W N' p n c :=
  ⟨h.1, h.2.1, fun i hi f hf => by
    obtain ⟨b, o, z, e, hb, hc⟩ := h.2.2 i hi f hf
    exact ⟨b, o, z, e, by omega, hc⟩⟩
theorem RowI.setInt {W : World} {N : Nat} {p : Option Addr} {n c : Nat} (h : RowI W N p n c) {q : Addr} {x : Int} (hq : W.cell? q = some (.int .i64 x)) (y : Int) : RowI (W.setCell q (.int .i64 y)) N p n c :=
  h.keep fun b o z _ hc => by
    by_cases e : q = ⟨b, o, none⟩
    · subst e; exact ⟨y, set_same hq⟩
    · exact ⟨z, by rw [set_other e]; exact hc⟩
theorem RowI.setNon {W : World} {N : Nat} {p : Option Addr} {n c : Nat} (h : RowI W N p n c) {q : Addr} {x : Value} (hq : W.cell? q = some x) (hx : ∀ z : Int, ¬ x = .int .i64 z) (v : Value) : RowI (W.setCell q v) N p n c :=
  h.keep fun b o z _ hc => ⟨z, by
    rw [set_other (fun e => by subst e; rw [hq] at hc; exact hx z (by simpa using hc))]
    exact hc⟩
theorem rowI_of {W : World} {N : Nat} {F : Nat → Prop} {v : Value} {xs : List Bal} (h : balsR.O W N F v xs) : ∃ p c, v = .slice p xs.length c ∧ RowI W N p xs.length c := by
  obtain ⟨p, c, e, h1, h2, h3⟩ := balsR.ofO h
  refine ⟨p, c, e, h1, h2, fun i hi f hf => ?_⟩
  obtain ⟨b, o, e1, c0, c1, c2⟩ := h3 i hi
  have hb : N ≤ b := by
    rcases h.1.2 with ⟨e2, _⟩ | ⟨g, cap, cur, e2, hg, _⟩
    · rw [e] at e2; simp only [Value.slice.injEq] at e2; omega
    · rw [e, e1] at e2
      simp only [Value.slice.injEq, Option.some.injEq, Addr.mk.injEq, and_true] at e2
      omega
  rcases (show f = 0 ∨ f = 1 ∨ f = 2 by omega) with rfl | rfl | rfl
  · exact ⟨b, o, _, e1, hb, c0⟩
  · exact ⟨b, o, _, e1, hb, c1⟩
  · exact ⟨b, o, _, e1, hb, c2⟩
theorem rowI_nil (W : World) (N : Nat) : RowI W N none 0 0 := ⟨Nat.le_refl _, by decide, fun i hi => absurd hi (Nat.not_lt_zero _)⟩
theorem rowI_V {W : World} {N : Nat} {p : Option Addr} {n c : Nat} (h : RowI W N p n c) : ∃ xs : List Bal, xs.length = n ∧ balsR.V W (.slice p n c) xs := by
  obtain ⟨h1, h2, h3⟩ := h
  have hz : ∀ i, i < n → ∃ (b o : Nat) (x : Bal), p = some ⟨b, o, none⟩ ∧ W.cell? ⟨b, o + i * 3, none⟩ = some (.int .i64 x.ac) ∧ W.cell? ⟨b, o + i * 3 + 1, none⟩ = some (.int .i64 x.ast) ∧ W.cell? ⟨b, o + i * 3 + 2, none⟩ = some (.int .i64 x.am) := fun i hi => by
    obtain ⟨b, o, z0, e, _, c0⟩ := h3 i hi 0 (by omega)
    obtain ⟨b', o', z1, e', _, c1⟩ := h3 i hi 1 (by omega)
    obtain ⟨b'', o'', z2, e'', _, c2⟩ := h3 i hi 2 (by omega)
    rw [e] at e' e''
    simp only [Option.some.injEq, Addr.mk.injEq, and_true] at e' e''
    obtain ⟨rfl, rfl⟩ := e'
    obtain ⟨rfl, rfl⟩ := e''
    exact ⟨b, o, ⟨z0, z1, z2⟩, e, c0, c1, c2⟩
  have hx : ∀ m, m ≤ n → ∃ xs : List Bal, xs.length = m ∧ ∀ i, i < m → ∃ b o, p = some ⟨b, o, none⟩ ∧ W.cell? ⟨b, o + i * 3, none⟩ = some (.int .i64 (xs.getD i default).ac) ∧ W.cell? ⟨b, o + i * 3 + 1, none⟩ = some (.int .i64 (xs.getD i default).ast) ∧ W.cell? ⟨b, o + i * 3 + 2, none⟩ = some (.int .i64 (xs.getD i default).am) := by
    intro m
    induction m with
    | zero => intro _; exact ⟨[], rfl, fun i hi => absurd hi (Nat.not_lt_zero _)⟩
    | succ m ih =>
      intro hm
      obtain ⟨xs, hl, hxs⟩ := ih (by omega)
      obtain ⟨b, o, x, e, c0, c1, c2⟩ := hz m (by omega)
      refine ⟨xs ++ [x], by simp [hl], fun i hi => ?_⟩
      by_cases ei : i < m
      · have : (xs ++ [x]).getD i default = xs.getD i default := by
          simp only [List.getD_eq_getElem?_getD]; rw [List.getElem?_append_left (by omega)]
        rw [this]
        exact hxs i ei
      · obtain rfl : i = m := by omega
        have : (xs ++ [x]).getD i default = x := by rw [← hl]; simp
        rw [this]
        exact ⟨b, o, e, c0, c1, c2⟩
  obtain ⟨xs, hl, hxs⟩ := hx n (Nat.le_refl _)
  subst hl
  exact ⟨xs, rfl, p, c, rfl, h1, h2, hxs⟩
def LedI (W : World) (N : Nat) (p : Option Addr) (m c : Nat) : Prop :=
  m ≤ c ∧ c ≤ maxLen ∧ ∀ k, k < m → ∃ (b o : Nat) (u : Option Addr) (n cu : Nat), p = some ⟨b, o, none⟩ ∧ N ≤ b ∧ W.cell? ⟨b, o + k, none⟩ = some (.slice u n cu) ∧ n ≤ 20 ∧ RowI W N u n cu
theorem LedI.keep {W W' : World} {N : Nat} {p : Option Addr} {m c : Nat} (h : LedI W N p m c) (hs : ∀ (b o : Nat) (u : Option Addr) (n cu : Nat), N ≤ b → W.cell? ⟨b, o, none⟩ = some (.slice u n cu) → W'.cell? ⟨b, o, none⟩ = some (.slice u n cu)) (hk : ∀ (b o : Nat) (z : Int), N ≤ b → W.cell? ⟨b, o, none⟩ = some (.int .i64 z) → ∃ z' : Int, W'.cell? ⟨b, o, none⟩ = some (.int .i64 z')) : LedI W' N p m c :=
  ⟨h.1, h.2.1, fun k hk' => by
    obtain ⟨b, o, u, n, cu, e, hb, hc, hn, hr⟩ := h.2.2 k hk'
    exact ⟨b, o, u, n, cu, e, hb, hs b _ u n cu hb hc, hn, hr.keep hk⟩⟩
theorem LedI.below {W W' : World} {N : Nat} {p : Option Addr} {m c : Nat} (h : LedI W N p m c) (hb : Below W.heap.size W W') : LedI W' N p m c :=
  h.keep (fun b o u n cu _ hc => cell_keep hb hc) (fun b o z _ hc => ⟨z, cell_keep hb hc⟩)
theorem LedI.mod {F : Nat → Prop} {W W' : World} {N : Nat} {p : Option Addr} {m c : Nat} (h : LedI W N p m c) (hm : Mod F W W') (hF : ∀ b, F b → b < N) : LedI W' N p m c :=
  h.keep (fun b o u n cu hb hc => hm.cell hc (fun e => by have := hF b e; omega)) (fun b o z hb hc => ⟨z, hm.cell hc (fun e => by have := hF b e; omega)⟩)
theorem LedI.base {W : World} {N N' : Nat} {p : Option Addr} {m c : Nat} (h : LedI W N p m c) (hN : N' ≤ N) : LedI W N' p m c :=
  ⟨h.1, h.2.1, fun k hk => by
    obtain ⟨b, o, u, n, cu, e, hb, hc, hn, hr⟩ := h.2.2 k hk
    exact ⟨b, o, u, n, cu, e, by omega, hc, hn, hr.base hN⟩⟩
theorem LedI.setInt {W : World} {N : Nat} {p : Option Addr} {m c : Nat} (h : LedI W N p m c) {q : Addr} {x : Int} (hq : W.cell? q = some (.int .i64 x)) (y : Int) : LedI (W.setCell q (.int .i64 y)) N p m c :=
  h.keep (fun b o u n cu _ hc => by rw [set_other (fun e => by subst e; rw [hq] at hc; cases hc)]; exact hc) (fun b o z _ hc => by
    by_cases e : q = ⟨b, o, none⟩
    · subst e; exact ⟨y, set_same hq⟩
    · exact ⟨z, by rw [set_other e]; exact hc⟩)
theorem LedI.setRow {W : World} {N : Nat} {b o m c : Nat} (h : LedI W N (some ⟨b, o, none⟩) m c) {x : Value} (hq : W.cell? ⟨b, o, none⟩ = some x) (hx : ∀ z : Int, ¬ x = .int .i64 z) {u : Option Addr} {n cu : Nat} (hu : RowI W N u n cu) (hn : n ≤ 20) : LedI (W.setCell ⟨b, o, none⟩ (.slice u n cu)) N (some ⟨b, o, none⟩) m c :=
  ⟨h.1, h.2.1, fun k hk => by
    obtain ⟨b', o', u', n', cu', e, hb, hc, hn', hr⟩ := h.2.2 k hk
    simp only [Option.some.injEq, Addr.mk.injEq, and_true] at e
    obtain ⟨rfl, rfl⟩ := e
    by_cases hk0 : k = 0
    · subst hk0
      exact ⟨b, o, u, n, cu, rfl, hb, set_same hc, hn, hu.setNon hq hx _⟩
    · exact ⟨b, o, u', n', cu', rfl, hb, by rw [set_other (fun e => by simp only [Addr.mk.injEq, and_true, true_and] at e; omega)]; exact hc, hn', hr.setNon hq hx _⟩⟩
theorem ledI_nil (W : World) (N : Nat) : LedI W N none 0 0 := ⟨Nat.le_refl _, by decide, fun k hk => absurd hk (Nat.not_lt_zero _)⟩
end Go.Proofs.Ytgjpafalompecaa

/-
  Balances that are drawn.
-/
set_option linter.unusedVariables false
set_option linter.unusedSimpArgs false
namespace Go.Proofs.Ytgjpafalompecaa
open Go.RowKit
set_option linter.unusedSectionVars false
variable [DecidableEq Bal] [Inhabited Bal] [DecidableEq Ledg] [Inhabited Ledg] [DecidableEq Leg] [Inhabited Leg] [DecidableEq Mrk] [Inhabited Mrk] [DecidableEq Logg] [Inhabited Logg] [DecidableEq LoggR] [Inhabited LoggR] [DecidableEq BytesR] [Inhabited BytesR] [DecidableEq RecsR] [Inhabited RecsR]
attribute [local go_sem ↓] Go.wp_at_zero Go.wp_at_succ

theorem appAny_bal {w : World} {g c : Nat} {l : Bal} (h0 : w.cell? ⟨g, 0, none⟩ = some (.int .i64 l.ac)) (h1 : w.cell? ⟨g, 1, none⟩ = some (.int .i64 l.ast)) (h2 : w.cell? ⟨g, 2, none⟩ = some (.int .i64 l.am)) : AppAny w (.slice (some ⟨g, 0, none⟩) 1 c) 1 (balsC [l]) := by
  refine .inr ⟨_, _, rfl, fun j x hj => ?_⟩
  match j, hj with
  | 0, hj => simp [balsC, balC] at hj; subst hj; simpa [Addr.add] using h0
  | 1, hj => simp [balsC, balC] at hj; subst hj; simpa [Addr.add] using h1
  | 2, hj => simp [balsC, balC] at hj; subst hj; simpa [Addr.add] using h2
  | j + 3, hj => simp [balsC, balC] at hj
set_option maxRecDepth 20000 in
set_option maxHeartbeats 8000000 in
theorem l2SetN_any (v : Value) (zs : List Bal) (ka kt am : Int) (w : World) (hx : balsR.V w v zs) (hn : zs.length ≤ 1000) :
    Calls Try.prog 43 #[v, .int .i64 ka, .int .i64 kt, .int .i64 am] w fun e w' => ∃ u F xs, e = .returned u ∧ balsR.O w' w.heap.size F u xs ∧ xs.length ≤ zs.length + 1 ∧ Below w.heap.size w w' := by
  obtain ⟨a, c, rfl, hcx, hmx, hx⟩ := hx
  unfold maxLen at hmx
  have HX : Hid (∀ i, i < zs.length → ∃ b o, a = some ⟨b, o, none⟩ ∧ balCells w b (o + i * 3) (zs.getD i default)) := hx
  clear hx
  generalize zs.length = n at *
  have hO0 : balsR.O (w.alloc (.cells #[] 80)) w.heap.size (fun b => (Value.slice (some ⟨w.heap.size, 0, none⟩) 0 0).ownBlock = some b) (.slice (some ⟨w.heap.size, 0, none⟩) 0 0) [] := ⟨World.ownsRow_lit (base := w.heap.size) (e := 80) (size := 3) w #[] 0 (Nat.le_refl _) (by unfold maxLen; omega) rfl, rfl⟩
  go_enter Try.func43, Try.ntmps43
  go_wp2
  go_loopw [9, 10, 11] (fun u dn i w' => ∃ (k : Nat) (d : Bool) (xs : List Bal) (p : Option Addr) (q : Nat) (F : Nat → Prop), k ≤ n ∧ u = .slice p xs.length q ∧ dn = .bool d ∧ i = .int .i64 k ∧ Hid (balsR.O w' w.heap.size F (.slice p xs.length q) xs) ∧ xs.length + (if d = true then 0 else 1) ≤ k + 1 ∧ Below w.heap.size w w') (fun _ _ i _ => n - (intOf i).toNat)
  case atStart => exact ⟨0, _, [], _, _, _, Nat.zero_le _, rfl, rfl, rfl, hO0, by simp; split <;> omega, by (repeat (first | exact Below.refl _ _ | assumption | refine Below.drew ?_ | refine balloc ?_ _ | refine bset ?_ (by simp; omega) _ | refine bset ?_ (by simp) _ | refine bstep ?_ (by assumption)))⟩
  case round =>
    clear hO0
    obtain ⟨k, d, xs, p, q, F, hk, rfl, rfl, rfl, HO, hlen, hbl⟩ := hrel
    have hwz := hbl.size
    obtain ⟨m, hm⟩ : ∃ m, m = xs.length := ⟨_, rfl⟩
    have HM : Hid (xs.length = m) := hm.symm
    by_cases hlt : k < n
    · obtain ⟨b, o, rfl, hc⟩ := HX.out k hlt
      obtain ⟨x, hx⟩ : ∃ x, x = zs.getD k default := ⟨_, rfl⟩
      rw [← hx] at hc
      clear hx HX
      obtain ⟨g0, g1, g2⟩ := hc
      replace g0 := cell_keep hbl g0
      replace g1 := cell_keep hbl g1
      replace g2 := cell_keep hbl g2
      have zb : b < wr.heap.size := World.block_lt_of_cell? wr _ g0
      by_cases hsame : x.ac = ka ∧ x.ast = kt
      · have s1 : (x.ac == ka) = true := by simp [hsame.1]
        have s2 : (x.ast == kt) = true := by simp [hsame.2]
        clear hsame
        go_wp2
        exact ⟨⟨k + 1, d, xs, p, q, F, by omega, rfl, rfl, by go_num, balsR.keep HO.out (by (repeat (first | exact Below.refl _ _ | assumption | refine Below.drew ?_ | refine balloc ?_ _ | refine bset ?_ (by simp; omega) _ | refine bset ?_ (by simp) _ | refine bstep ?_ (by assumption)))), by omega, by (repeat (first | exact Below.refl _ _ | assumption | refine Below.drew ?_ | refine balloc ?_ _ | refine bset ?_ (by simp; omega) _ | refine bset ?_ (by simp) _ | refine bstep ?_ (by assumption)))⟩, by simp [intOf]; omega⟩
      · by_cases e1 : x.ac = ka
        · have s1 : (x.ac == ka) = true := by simp [e1]
          have s2 : (x.ast == kt) = false := by
            rw [beq_eq_false_iff_ne]
            exact fun h => hsame ⟨e1, h⟩
          clear e1 hsame
          have HFl : Hid (∀ b, (Value.slice p xs.length q).ownBlock = some b → b < wr.heap.size) := fun b hb => (balsR.rng HO.out b (by rw [HO.out.2]; exact hb)).2
          cases d with
          | true =>
            go_wp2_with (at_builtin; refine wpList_app10B _ rfl _ _ rfl w.heap.size _ xs rfl _ [x] rfl ?o1 ?s1 ?c1 ?c2 ?_)
            case o1 => exact (balsR.keep HO.out (by (repeat (first | exact Below.refl _ _ | assumption | refine Below.drew ?_ | refine balloc ?_ _ | refine bset ?_ (by simp; omega) _ | refine bset ?_ (by simp) _ | refine bstep ?_ (by assumption))))).1
            case s1 => exact appAny_bal (l := x) (by simp [go_sem]) (by simp [go_sem]) (by simp [go_sem])
            case c1 => first | (simp; omega) | omega | (have := Hlys.out; simp at hlen ⊢; omega)
            case c2 => first | (simp; omega) | omega | (have := Hlys.out; simp at hlen ⊢; omega)
            intro v1 w1 o1 hg1 hb1
            obtain ⟨p1, q1, rfl⟩ := owns_form o1
            have hbl1 : Below w.heap.size w w1 := hb1 _ (by (repeat (first | exact Below.refl _ _ | assumption | refine Below.drew ?_ | refine balloc ?_ _ | refine bset ?_ (by simp; omega) _ | refine bset ?_ (by simp) _ | refine bstep ?_ (by assumption))))
            obtain ⟨ys, hys⟩ : ∃ zz, zz = xs ++ [x] := ⟨_, rfl⟩
            have hlys : xs.length + 1 = ys.length := by rw [hys]; simp
            rw [hlys] at o1 ⊢
            rw [← hys] at o1
            have HO1 : Hid (balsR.O w1 w.heap.size (fun b => (Value.slice p1 ys.length q1).ownBlock = some b) (.slice p1 ys.length q1) ys) := ⟨o1, rfl⟩
            clear o1 hg1 hb1 hys
            have Hlys : Hid (xs.length + 1 = ys.length) := hlys
            clear hlys
            have hz1 := hbl1.size
            go_wp2
            exact ⟨⟨k + 1, true, ys, p1, q1, _, by omega, rfl, rfl, by go_num, HO1.out, by have := Hlys.out; simp at hlen ⊢; omega, hbl1⟩, by simp [intOf]; omega⟩
          | false =>
            by_cases hgt : wrap64 (wrap64 (ka * 3) + kt) < wrap64 (wrap64 (x.ac * 3) + x.ast)
            · go_wp2_with (at_builtin; refine wpList_app10B _ rfl _ _ rfl w.heap.size _ xs rfl _ [(⟨ka, kt, am⟩ : Bal)] rfl ?o1 ?s1 ?c1 ?c2 ?_)
              case o1 => exact (balsR.keep HO.out (by (repeat (first | exact Below.refl _ _ | assumption | refine Below.drew ?_ | refine balloc ?_ _ | refine bset ?_ (by simp; omega) _ | refine bset ?_ (by simp) _ | refine bstep ?_ (by assumption))))).1
              case s1 => exact appAny_bal (l := (⟨ka, kt, am⟩ : Bal)) (by simp [go_sem]) (by simp [go_sem]) (by simp [go_sem])
              case c1 => first | (simp; omega) | omega | (have := Hlys.out; simp at hlen ⊢; omega)
              case c2 => first | (simp; omega) | omega | (have := Hlys.out; simp at hlen ⊢; omega)
              intro v1 w1 o1 hg1 hb1
              obtain ⟨p1, q1, rfl⟩ := owns_form o1
              have hbl1 : Below w.heap.size w w1 := hb1 _ (by (repeat (first | exact Below.refl _ _ | assumption | refine Below.drew ?_ | refine balloc ?_ _ | refine bset ?_ (by simp; omega) _ | refine bset ?_ (by simp) _ | refine bstep ?_ (by assumption))))
              have e0 := (Mod.of_grown hg1).cell (show World.cell? _ ⟨wr.heap.size, 0, none⟩ = some (.int .i64 x.ac) by simp [go_sem]) (fun e => by have := HFl.out _ e; dsimp only at this; omega)
              have e1 := (Mod.of_grown hg1).cell (show World.cell? _ ⟨wr.heap.size, 1, none⟩ = some (.int .i64 x.ast) by simp [go_sem]) (fun e => by have := HFl.out _ e; dsimp only at this; omega)
              have e2 := (Mod.of_grown hg1).cell (show World.cell? _ ⟨wr.heap.size, 2, none⟩ = some (.int .i64 x.am) by simp [go_sem]) (fun e => by have := HFl.out _ e; dsimp only at this; omega)
              have ze1 := World.block_lt_of_cell? _ _ e0
              dsimp only at ze1
              obtain ⟨ys, hys⟩ : ∃ zz, zz = xs ++ [(⟨ka, kt, am⟩ : Bal)] := ⟨_, rfl⟩
              have hlys : xs.length + 1 = ys.length := by rw [hys]; simp
              rw [hlys] at o1 ⊢
              rw [← hys] at o1
              have HO1 : Hid (balsR.O w1 w.heap.size (fun b => (Value.slice p1 ys.length q1).ownBlock = some b) (.slice p1 ys.length q1) ys) := ⟨o1, rfl⟩
              clear o1 hg1 hb1 hys
              have Hlys : Hid (xs.length + 1 = ys.length) := hlys
              clear hlys
              have hz1 := hbl1.size
              go_wp2_with (at_builtin; refine wpList_app10B _ rfl _ _ rfl w.heap.size _ ys rfl _ [x] rfl ?o1 ?s1 ?c1 ?c2 ?_)
              case o1 => exact (balsR.keep HO1.out (by (repeat (first | exact Below.refl _ _ | assumption | refine Below.drew ?_ | refine balloc ?_ _ | refine bset ?_ (by simp; omega) _ | refine bset ?_ (by simp) _ | refine bstep ?_ (by assumption))))).1
              case s1 => exact appAny_bal (l := x) (by simp [go_sem, e0]) (by simp [go_sem, e1]) (by simp [go_sem, e2])
              case c1 => first | (simp; omega) | omega | (have := Hlys.out; simp at hlen ⊢; omega)
              case c2 => first | (simp; omega) | omega | (have := Hlys.out; simp at hlen ⊢; omega)
              intro v2 w2 o2 hg2 hb2
              obtain ⟨p2, q2, rfl⟩ := owns_form o2
              have hbl2 : Below w.heap.size w w2 := hb2 _ (by (repeat (first | exact Below.refl _ _ | assumption | refine Below.drew ?_ | refine balloc ?_ _ | refine bset ?_ (by simp; omega) _ | refine bset ?_ (by simp) _ | refine bstep ?_ (by assumption))))
              obtain ⟨zs2, hzs2⟩ : ∃ zz, zz = ys ++ [x] := ⟨_, rfl⟩
              have hlzs2 : ys.length + 1 = zs2.length := by rw [hzs2]; simp
              rw [hlzs2] at o2 ⊢
              rw [← hzs2] at o2
              have HO2 : Hid (balsR.O w2 w.heap.size (fun b => (Value.slice p2 zs2.length q2).ownBlock = some b) (.slice p2 zs2.length q2) zs2) := ⟨o2, rfl⟩
              clear o2 hg2 hb2 hzs2
              have Hlzs2 : Hid (ys.length + 1 = zs2.length) := hlzs2
              clear hlzs2
              go_wp2
              exact ⟨⟨k + 1, true, zs2, p2, q2, _, by omega, rfl, rfl, by go_num, HO2.out, by have := Hlys.out; have := Hlzs2.out; simp at hlen ⊢; omega, hbl2⟩, by simp [intOf]; omega⟩
            · go_wp2_with (at_builtin; refine wpList_app10B _ rfl _ _ rfl w.heap.size _ xs rfl _ [x] rfl ?o1 ?s1 ?c1 ?c2 ?_)
              case o1 => exact (balsR.keep HO.out (by (repeat (first | exact Below.refl _ _ | assumption | refine Below.drew ?_ | refine balloc ?_ _ | refine bset ?_ (by simp; omega) _ | refine bset ?_ (by simp) _ | refine bstep ?_ (by assumption))))).1
              case s1 => exact appAny_bal (l := x) (by simp [go_sem]) (by simp [go_sem]) (by simp [go_sem])
              case c1 => first | (simp; omega) | omega | (have := Hlys.out; simp at hlen ⊢; omega)
              case c2 => first | (simp; omega) | omega | (have := Hlys.out; simp at hlen ⊢; omega)
              intro v1 w1 o1 hg1 hb1
              obtain ⟨p1, q1, rfl⟩ := owns_form o1
              have hbl1 : Below w.heap.size w w1 := hb1 _ (by (repeat (first | exact Below.refl _ _ | assumption | refine Below.drew ?_ | refine balloc ?_ _ | refine bset ?_ (by simp; omega) _ | refine bset ?_ (by simp) _ | refine bstep ?_ (by assumption))))
              obtain ⟨ys, hys⟩ : ∃ zz, zz = xs ++ [x] := ⟨_, rfl⟩
              have hlys : xs.length + 1 = ys.length := by rw [hys]; simp
              rw [hlys] at o1 ⊢
              rw [← hys] at o1
              have HO1 : Hid (balsR.O w1 w.heap.size (fun b => (Value.slice p1 ys.length q1).ownBlock = some b) (.slice p1 ys.length q1) ys) := ⟨o1, rfl⟩
              clear o1 hg1 hb1 hys
              have Hlys : Hid (xs.length + 1 = ys.length) := hlys
              clear hlys
              have hz1 := hbl1.size
              go_wp2
              exact ⟨⟨k + 1, false, ys, p1, q1, _, by omega, rfl, rfl, by go_num, HO1.out, by have := Hlys.out; simp at hlen ⊢; omega, hbl1⟩, by simp [intOf]; omega⟩
        · have s1 : (x.ac == ka) = false := by simp [e1]
          clear e1 hsame
          have HFl : Hid (∀ b, (Value.slice p xs.length q).ownBlock = some b → b < wr.heap.size) := fun b hb => (balsR.rng HO.out b (by rw [HO.out.2]; exact hb)).2
          cases d with
          | true =>
            go_wp2_with (at_builtin; refine wpList_app10B _ rfl _ _ rfl w.heap.size _ xs rfl _ [x] rfl ?o1 ?s1 ?c1 ?c2 ?_)
            case o1 => exact (balsR.keep HO.out (by (repeat (first | exact Below.refl _ _ | assumption | refine Below.drew ?_ | refine balloc ?_ _ | refine bset ?_ (by simp; omega) _ | refine bset ?_ (by simp) _ | refine bstep ?_ (by assumption))))).1
            case s1 => exact appAny_bal (l := x) (by simp [go_sem]) (by simp [go_sem]) (by simp [go_sem])
            case c1 => first | (simp; omega) | omega | (have := Hlys.out; simp at hlen ⊢; omega)
            case c2 => first | (simp; omega) | omega | (have := Hlys.out; simp at hlen ⊢; omega)
            intro v1 w1 o1 hg1 hb1
            obtain ⟨p1, q1, rfl⟩ := owns_form o1
            have hbl1 : Below w.heap.size w w1 := hb1 _ (by (repeat (first | exact Below.refl _ _ | assumption | refine Below.drew ?_ | refine balloc ?_ _ | refine bset ?_ (by simp; omega) _ | refine bset ?_ (by simp) _ | refine bstep ?_ (by assumption))))
            obtain ⟨ys, hys⟩ : ∃ zz, zz = xs ++ [x] := ⟨_, rfl⟩
            have hlys : xs.length + 1 = ys.length := by rw [hys]; simp
            rw [hlys] at o1 ⊢
            rw [← hys] at o1
            have HO1 : Hid (balsR.O w1 w.heap.size (fun b => (Value.slice p1 ys.length q1).ownBlock = some b) (.slice p1 ys.length q1) ys) := ⟨o1, rfl⟩
            clear o1 hg1 hb1 hys
            have Hlys : Hid (xs.length + 1 = ys.length) := hlys
            clear hlys
            have hz1 := hbl1.size
            go_wp2
            exact ⟨⟨k + 1, true, ys, p1, q1, _, by omega, rfl, rfl, by go_num, HO1.out, by have := Hlys.out; simp at hlen ⊢; omega, hbl1⟩, by simp [intOf]; omega⟩
          | false =>
            by_cases hgt : wrap64 (wrap64 (ka * 3) + kt) < wrap64 (wrap64 (x.ac * 3) + x.ast)
            · go_wp2_with (at_builtin; refine wpList_app10B _ rfl _ _ rfl w.heap.size _ xs rfl _ [(⟨ka, kt, am⟩ : Bal)] rfl ?o1 ?s1 ?c1 ?c2 ?_)
              case o1 => exact (balsR.keep HO.out (by (repeat (first | exact Below.refl _ _ | assumption | refine Below.drew ?_ | refine balloc ?_ _ | refine bset ?_ (by simp; omega) _ | refine bset ?_ (by simp) _ | refine bstep ?_ (by assumption))))).1
              case s1 => exact appAny_bal (l := (⟨ka, kt, am⟩ : Bal)) (by simp [go_sem]) (by simp [go_sem]) (by simp [go_sem])
              case c1 => first | (simp; omega) | omega | (have := Hlys.out; simp at hlen ⊢; omega)
              case c2 => first | (simp; omega) | omega | (have := Hlys.out; simp at hlen ⊢; omega)
              intro v1 w1 o1 hg1 hb1
              obtain ⟨p1, q1, rfl⟩ := owns_form o1
              have hbl1 : Below w.heap.size w w1 := hb1 _ (by (repeat (first | exact Below.refl _ _ | assumption | refine Below.drew ?_ | refine balloc ?_ _ | refine bset ?_ (by simp; omega) _ | refine bset ?_ (by simp) _ | refine bstep ?_ (by assumption))))
              have e0 := (Mod.of_grown hg1).cell (show World.cell? _ ⟨wr.heap.size, 0, none⟩ = some (.int .i64 x.ac) by simp [go_sem]) (fun e => by have := HFl.out _ e; dsimp only at this; omega)
              have e1 := (Mod.of_grown hg1).cell (show World.cell? _ ⟨wr.heap.size, 1, none⟩ = some (.int .i64 x.ast) by simp [go_sem]) (fun e => by have := HFl.out _ e; dsimp only at this; omega)
              have e2 := (Mod.of_grown hg1).cell (show World.cell? _ ⟨wr.heap.size, 2, none⟩ = some (.int .i64 x.am) by simp [go_sem]) (fun e => by have := HFl.out _ e; dsimp only at this; omega)
              have ze1 := World.block_lt_of_cell? _ _ e0
              dsimp only at ze1
              obtain ⟨ys, hys⟩ : ∃ zz, zz = xs ++ [(⟨ka, kt, am⟩ : Bal)] := ⟨_, rfl⟩
              have hlys : xs.length + 1 = ys.length := by rw [hys]; simp
              rw [hlys] at o1 ⊢
              rw [← hys] at o1
              have HO1 : Hid (balsR.O w1 w.heap.size (fun b => (Value.slice p1 ys.length q1).ownBlock = some b) (.slice p1 ys.length q1) ys) := ⟨o1, rfl⟩
              clear o1 hg1 hb1 hys
              have Hlys : Hid (xs.length + 1 = ys.length) := hlys
              clear hlys
              have hz1 := hbl1.size
              go_wp2_with (at_builtin; refine wpList_app10B _ rfl _ _ rfl w.heap.size _ ys rfl _ [x] rfl ?o1 ?s1 ?c1 ?c2 ?_)
              case o1 => exact (balsR.keep HO1.out (by (repeat (first | exact Below.refl _ _ | assumption | refine Below.drew ?_ | refine balloc ?_ _ | refine bset ?_ (by simp; omega) _ | refine bset ?_ (by simp) _ | refine bstep ?_ (by assumption))))).1
              case s1 => exact appAny_bal (l := x) (by simp [go_sem, e0]) (by simp [go_sem, e1]) (by simp [go_sem, e2])
              case c1 => first | (simp; omega) | omega | (have := Hlys.out; simp at hlen ⊢; omega)
              case c2 => first | (simp; omega) | omega | (have := Hlys.out; simp at hlen ⊢; omega)
              intro v2 w2 o2 hg2 hb2
              obtain ⟨p2, q2, rfl⟩ := owns_form o2
              have hbl2 : Below w.heap.size w w2 := hb2 _ (by (repeat (first | exact Below.refl _ _ | assumption | refine Below.drew ?_ | refine balloc ?_ _ | refine bset ?_ (by simp; omega) _ | refine bset ?_ (by simp) _ | refine bstep ?_ (by assumption))))
              obtain ⟨zs2, hzs2⟩ : ∃ zz, zz = ys ++ [x] := ⟨_, rfl⟩
              have hlzs2 : ys.length + 1 = zs2.length := by rw [hzs2]; simp
              rw [hlzs2] at o2 ⊢
              rw [← hzs2] at o2
              have HO2 : Hid (balsR.O w2 w.heap.size (fun b => (Value.slice p2 zs2.length q2).ownBlock = some b) (.slice p2 zs2.length q2) zs2) := ⟨o2, rfl⟩
              clear o2 hg2 hb2 hzs2
              have Hlzs2 : Hid (ys.length + 1 = zs2.length) := hlzs2
              clear hlzs2
              go_wp2
              exact ⟨⟨k + 1, true, zs2, p2, q2, _, by omega, rfl, rfl, by go_num, HO2.out, by have := Hlys.out; have := Hlzs2.out; simp at hlen ⊢; omega, hbl2⟩, by simp [intOf]; omega⟩
            · go_wp2_with (at_builtin; refine wpList_app10B _ rfl _ _ rfl w.heap.size _ xs rfl _ [x] rfl ?o1 ?s1 ?c1 ?c2 ?_)
              case o1 => exact (balsR.keep HO.out (by (repeat (first | exact Below.refl _ _ | assumption | refine Below.drew ?_ | refine balloc ?_ _ | refine bset ?_ (by simp; omega) _ | refine bset ?_ (by simp) _ | refine bstep ?_ (by assumption))))).1
              case s1 => exact appAny_bal (l := x) (by simp [go_sem]) (by simp [go_sem]) (by simp [go_sem])
              case c1 => first | (simp; omega) | omega | (have := Hlys.out; simp at hlen ⊢; omega)
              case c2 => first | (simp; omega) | omega | (have := Hlys.out; simp at hlen ⊢; omega)
              intro v1 w1 o1 hg1 hb1
              obtain ⟨p1, q1, rfl⟩ := owns_form o1
              have hbl1 : Below w.heap.size w w1 := hb1 _ (by (repeat (first | exact Below.refl _ _ | assumption | refine Below.drew ?_ | refine balloc ?_ _ | refine bset ?_ (by simp; omega) _ | refine bset ?_ (by simp) _ | refine bstep ?_ (by assumption))))
              obtain ⟨ys, hys⟩ : ∃ zz, zz = xs ++ [x] := ⟨_, rfl⟩
              have hlys : xs.length + 1 = ys.length := by rw [hys]; simp
              rw [hlys] at o1 ⊢
              rw [← hys] at o1
              have HO1 : Hid (balsR.O w1 w.heap.size (fun b => (Value.slice p1 ys.length q1).ownBlock = some b) (.slice p1 ys.length q1) ys) := ⟨o1, rfl⟩
              clear o1 hg1 hb1 hys
              have Hlys : Hid (xs.length + 1 = ys.length) := hlys
              clear hlys
              have hz1 := hbl1.size
              go_wp2
              exact ⟨⟨k + 1, false, ys, p1, q1, _, by omega, rfl, rfl, by go_num, HO1.out, by have := Hlys.out; simp at hlen ⊢; omega, hbl1⟩, by simp [intOf]; omega⟩
    · have hkn : k = n := by omega
      subst hkn
      clear HX
      cases d with
      | true =>
        go_wp2
        go_ret
        exact ⟨_, rfl, F, xs, HO.out, by simp at hlen; omega, hbl⟩
      | false =>
        go_wp2_with (at_builtin; refine wpList_app10B _ rfl _ _ rfl w.heap.size _ xs rfl _ [(⟨ka, kt, am⟩ : Bal)] rfl ?o1 ?s1 ?c1 ?c2 ?_)
        case o1 => exact (balsR.keep HO.out (by (repeat (first | exact Below.refl _ _ | assumption | refine Below.drew ?_ | refine balloc ?_ _ | refine bset ?_ (by simp; omega) _ | refine bset ?_ (by simp) _ | refine bstep ?_ (by assumption))))).1
        case s1 => exact appAny_bal (l := (⟨ka, kt, am⟩ : Bal)) (by simp [go_sem]) (by simp [go_sem]) (by simp [go_sem])
        case c1 => first | (simp; omega) | omega | (have := Hlys.out; simp at hlen ⊢; omega)
        case c2 => first | (simp; omega) | omega | (have := Hlys.out; simp at hlen ⊢; omega)
        intro v1 w1 o1 hg1 hb1
        obtain ⟨p1, q1, rfl⟩ := owns_form o1
        have hbl1 : Below w.heap.size w w1 := hb1 _ (by (repeat (first | exact Below.refl _ _ | assumption | refine Below.drew ?_ | refine balloc ?_ _ | refine bset ?_ (by simp; omega) _ | refine bset ?_ (by simp) _ | refine bstep ?_ (by assumption))))
        obtain ⟨ys, hys⟩ : ∃ zz, zz = xs ++ [(⟨ka, kt, am⟩ : Bal)] := ⟨_, rfl⟩
        have hlys : xs.length + 1 = ys.length := by rw [hys]; simp
        rw [hlys] at o1 ⊢
        rw [← hys] at o1
        have HO1 : Hid (balsR.O w1 w.heap.size (fun b => (Value.slice p1 ys.length q1).ownBlock = some b) (.slice p1 ys.length q1) ys) := ⟨o1, rfl⟩
        clear o1 hg1 hb1 hys
        have Hlys : Hid (xs.length + 1 = ys.length) := hlys
        clear hlys
        go_wp2
        go_ret
        have hle : ys.length ≤ k + 1 := by
          have := Hlys.out
          simp at hlen
          omega
        first | exact ⟨_, _, ys, rfl, HO1.out, hle, hbl1⟩ | exact ⟨_, rfl, _, ys, HO1.out, hle, hbl1⟩
set_option maxRecDepth 20000 in
set_option maxHeartbeats 8000000 in
theorem l2Balances_any (B : Nat) (w : World) (bs : Nat) (a : Option Addr) (k cap t : Nat) (h : Src B w bs a k cap t) (ht : t ≤ 5000) :
    Calls Try.prog 76 #[.pointer (some ⟨bs, 0, none⟩)] w fun e w' => ∃ u F xs t', e = .returned u ∧ balsR.O w' w.heap.size F u xs ∧ xs.length ≤ 12 ∧ Src B w' bs a k cap t' ∧ t' ≤ t + 24 ∧ Mod (fun b => b = bs) w w' := by
  have hlt := h.lt
  have hO0 : balsR.O (w.alloc (.cells #[] 80)) w.heap.size (fun b => (Value.slice (some ⟨w.heap.size, 0, none⟩) 0 0).ownBlock = some b) (.slice (some ⟨w.heap.size, 0, none⟩) 0 0) [] := ⟨World.ownsRow_lit (base := w.heap.size) (e := 80) (size := 3) w #[] 0 (Nat.le_refl _) (by unfold maxLen; omega) rfl, rfl⟩
  have h0 := h.below (w' := w.alloc (.cells #[] 80)) (by (repeat (first | exact Below.refl _ _ | assumption | refine Below.drew ?_ | refine balloc ?_ _ | refine bset ?_ (by simp; omega) _ | refine bset ?_ (by simp) _ | refine bstep ?_ (by assumption))))
  have M0 : Mod (fun b => b = bs) w (w.alloc (.cells #[] 80)) := Mod.of_below (balloc (Below.refl _ _) _)
  clear h
  go_enter Try.func76, Try.ntmps76
  go_wp2
  go_loopw [3, 4] (fun u i w' => ∃ (r t1 : Nat) (xs : List Bal) (p : Option Addr) (q : Nat) (F : Nat → Prop), r ≤ 4 ∧ u = .slice p xs.length q ∧ i = .int .i64 r ∧ Hid (balsR.O w' w.heap.size F (.slice p xs.length q) xs) ∧ xs.length ≤ 3 * r ∧ Hid (Src B w' bs a k cap t1) ∧ t1 ≤ t + 6 * r ∧ Hid (Mod (fun b => b = bs) w w')) (fun _ i _ => 4 - (intOf i).toNat)
  case atStart => exact ⟨0, t, [], _, _, _, by omega, rfl, rfl, hO0, by simp, h0, by omega, M0⟩
  case round =>
    clear hO0 h0 M0
    obtain ⟨r, t1, xs, p, q, F, hr, rfl, rfl, HO, hlen, HS, ht1, HM⟩ := hrel
    by_cases hr4 : r < 4
    · have hr4' : (r : Int) < 4 := by omega
      go_wp2
      go_loopw [3, 5] (fun u i w' => ∃ (s t1 : Nat) (xs : List Bal) (p : Option Addr) (q : Nat) (F : Nat → Prop), s ≤ 3 ∧ u = .slice p xs.length q ∧ i = .int .i64 s ∧ Hid (balsR.O w' w.heap.size F (.slice p xs.length q) xs) ∧ xs.length ≤ 3 * r + s ∧ Hid (Src B w' bs a k cap t1) ∧ t1 ≤ t + 6 * r + 2 * s ∧ Hid (Mod (fun b => b = bs) w w')) (fun _ i _ => 3 - (intOf i).toNat)
      case atStart => exact ⟨0, t1, xs, p, q, F, by omega, rfl, rfl, HO, by omega, HS, by omega, HM⟩
      case round =>
        clear HO HS HM hlen ht1
        obtain ⟨s, t1, xs, p, q, F, hs, rfl, rfl, HO, hlen, HS, ht1, HM⟩ := hrel
        have hwz := HM.out.size
        have hFb : ∀ c, F c → ¬ c = bs := fun c hc e => by have := (balsR.rng HO.out c hc).1; omega
        by_cases hs3 : s < 3
        · have hs3' : (s : Int) < 3 := by omega
          go_wp2_with fail
          refine (l1Chance_any B _ bs a k cap t1 3 HS.out (by omega) (by omega) (by omega)).mono ?_
          rintro e w1 ⟨ch, rfl, h1, m1⟩
          have HO1 : Hid (balsR.O w1 w.heap.size F (.slice p xs.length q) xs) := balsR.mod HO.out m1 hFb
          have HM1 : Hid (Mod (fun b => b = bs) w w1) := HM.out.trans m1
          have HS1 : Hid (Src B w1 bs a k cap (t1 + 1)) := h1
          clear h1 m1 HO HM HS
          cases ch with
          | true =>
            go_wp2
            exact ⟨⟨s + 1, t1 + 1, xs, p, q, F, by omega, rfl, by go_num, HO1.out, by omega, HS1.out, by omega, HM1.out⟩, by simp [intOf]; omega⟩
          | false =>
            go_wp2_with fail
            refine (l1Next_any B w1 bs a k cap (t1 + 1) 90 HS1.out (by omega) (by omega) (by omega)).mono ?_
            rintro e w2 ⟨n2, rfl, hn2, h2, m2⟩
            have hw2 : IntKind.i64.wrap (1 + (n2 : Int)) = 1 + (n2 : Int) := wrapI _ (by omega) (by omega)
            have O2 := balsR.mod HO1.out m2 hFb
            have M2 := HM1.out.trans m2
            clear m2 HO1 HM1 HS1
            go_wp2_with fail
            refine (l2SetN_any _ xs r s (1 + (n2 : Int)) w2 (balsR.ofO O2) (by omega)).mono ?_
            rintro e w3 ⟨u3, F3, zs, rfl, o3, hl3, hb3⟩
            obtain ⟨p3, q3, rfl⟩ := bals_form (balsR.ofO o3)
            have hz2 := M2.size
            have HO3 : Hid (balsR.O w3 w.heap.size F3 (.slice p3 zs.length q3) zs) := balsR.base o3 (by omega)
            have HM3 : Hid (Mod (fun b => b = bs) w w3) := M2.transB hb3
            have HS3 : Hid (Src B w3 bs a k cap (t1 + 1 + 1)) := h2.below hb3
            clear o3 hb3 O2 M2 h2 hw2
            go_wp2
            exact ⟨⟨s + 1, t1 + 1 + 1, zs, p3, q3, F3, by omega, rfl, by go_num, HO3.out, by omega, HS3.out, by omega, HM3.out⟩, by simp [intOf]; omega⟩
        · have hs3' : ¬ (s : Int) < 3 := by omega
          go_wp2
          exact ⟨⟨r + 1, t1, xs, p, q, F, by omega, rfl, by go_num, HO.out, by omega, HS.out, by omega, HM.out⟩, by simp [intOf]; omega⟩
    · have hr4' : ¬ (r : Int) < 4 := by omega
      go_wp2
      go_ret
      exact ⟨_, rfl, F, xs, HO.out, by omega, t1, HS.out, by omega, HM.out⟩
end Go.Proofs.Ytgjpafalompecaa

/-
  Ledgers that are drawn: l2Ledger.
-/
set_option linter.unusedVariables false
set_option linter.unusedSimpArgs false
namespace Go.Proofs.Ytgjpafalompecaa
open Go.RowKit
set_option linter.unusedSectionVars false
variable [DecidableEq Bal] [Inhabited Bal] [DecidableEq Ledg] [Inhabited Ledg] [DecidableEq Leg] [Inhabited Leg] [DecidableEq Mrk] [Inhabited Mrk] [DecidableEq Logg] [Inhabited Logg] [DecidableEq LoggR] [Inhabited LoggR] [DecidableEq BytesR] [Inhabited BytesR] [DecidableEq RecsR] [Inhabited RecsR] [DecidableEq LedgR] [Inhabited LedgR]
attribute [local go_sem ↓] Go.wp_at_zero Go.wp_at_succ

structure LeSt (w W : World) (bs : Nat) (v : Value) : Prop where
  r0 : W.cell? ⟨w.heap.size, 0, none⟩ = some (.slice none 0 0)
  y0 : W.cell? ⟨w.heap.size + 1, 0, none⟩ = some v
  rf : ∀ o, W.frozen? ⟨w.heap.size, o, none⟩ = false
  yf : ∀ o, W.frozen? ⟨w.heap.size + 1, o, none⟩ = false
  sz : w.heap.size + 2 ≤ W.heap.size
  md : Mod (fun b => b = bs) w W
theorem LeSt.mod {w W W' : World} {bs : Nat} {v : Value} {F : Nat → Prop} (h : LeSt w W bs v) (hm : Mod F W W') (hbs : bs < w.heap.size) (hF : ∀ b, F b → b = bs ∨ w.heap.size + 2 ≤ b) : LeSt w W' bs v := by
  have hsz := h.sz
  have n0 : ¬ F w.heap.size := fun e => by rcases hF _ e with e | e <;> omega
  have n1 : ¬ F (w.heap.size + 1) := fun e => by rcases hF _ e with e | e <;> omega
  exact ⟨hm.cell h.r0 n0, hm.cell h.y0 n1, fun o => (World.frozen?_of_block (hm.block w.heap.size (by omega) n0)).trans (h.rf o), fun o => (World.frozen?_of_block (hm.block (w.heap.size + 1) (by omega) n1)).trans (h.yf o), Nat.le_trans hsz hm.size,
    h.md.trans2 hm (fun b e hb => by rcases hF _ e with e | e <;> omega)⟩
theorem LeSt.below {w W W' : World} {bs : Nat} {v : Value} (h : LeSt w W bs v) (hbs : bs < w.heap.size) (hb : Below W.heap.size W W') : LeSt w W' bs v :=
  h.mod (F := fun _ => False) (Mod.of_below hb) hbs (fun _ e => e.elim)
theorem LeSt.put {w W : World} {bs : Nat} {v : Value} (h : LeSt w W bs v) (hbs : bs < w.heap.size) (v' : Value) : LeSt w (W.setCell ⟨w.heap.size + 1, 0, none⟩ v') bs v' :=
  ⟨by rw [set_other (by simp)]; exact h.r0, set_same h.y0, fun o => by rw [World.frozen?_setCell]; exact h.rf o, fun o => by rw [World.frozen?_setCell]; exact h.yf o, by simpa using h.sz, h.md.trans2 (Mod.of_set _ _ _) (fun b e hb => by dsimp only at e; omega)⟩
theorem modAt {N : Nat} {W W' : World} (h : Below N W W') : Mod (fun b => N ≤ b) W W' := ⟨h.os, h.tape, h.output, h.size, fun i hi hn => h.block i (by omega)⟩
theorem ledI_of {W : World} {N : Nat} {F : Nat → Prop} {v : Value} {gs : List (List Bal)} (h : NO balsR 67 1 one W N F v gs) (hn : ∀ k, k < gs.length → (gs.getD k default).length ≤ 20) : ∃ p c, v = .slice p gs.length c ∧ LedI W N p gs.length c := by
  obtain ⟨cs, us, fs, hp, _⟩ := h
  have hr := hp.row
  rcases hr.2 with ⟨rfl, h0⟩ | ⟨g, cap, cur, rfl, hb, hg, hnc, hcm, hcs, htake⟩
  · exact ⟨none, 0, by rw [h0], by omega, by unfold maxLen; omega, fun i hi => by omega⟩
  · refine ⟨some ⟨g, 0, none⟩, cap, rfl, hnc, hcm, fun i hi => ?_⟩
    obtain ⟨u, c, e, hI⟩ := rowI_of (hp.el i hi)
    refine ⟨g, 0, u, _, c, rfl, hb, ?_, hn i hi, hI⟩
    have h1 := hp.cell i hi 0 (by omega)
    have h2 := hr.cellAt (i * 1 + 0) (by omega)
    rw [h1, e] at h2
    simpa [one] using h2
theorem nilN (W : World) (N : Nat) : NO balsR 67 1 one W N (fun _ => False) (.slice none 0 0) [] :=
  ⟨[], fun _ => .slice none 0 0, fun _ _ => False, ⟨World.ownsRow_nil _ _ _ _, fun i h => absurd h (Nat.not_lt_zero _), fun i h => absurd h (Nat.not_lt_zero _), fun i h => absurd h (Nat.not_lt_zero _), fun i h => absurd h (Nat.not_lt_zero _), fun i j h => absurd h (Nat.not_lt_zero _)⟩, fun b => ⟨fun h => h.elim, fun h => by
    rcases h with h | ⟨i, hi, _⟩
    · simp [Value.ownBlock] at h
    · exact absurd hi (Nat.not_lt_zero _)⟩⟩
set_option maxRecDepth 20000 in
set_option maxHeartbeats 8000000 in
theorem l2Ledger_any (B : Nat) (w : World) (bs : Nat) (a : Option Addr) (k cap t : Nat) (h : Src B w bs a k cap t) (n : Nat) (hn : n ≤ 100) (ht : t ≤ 2000) :
    Calls Try.prog 59 #[.pointer (some ⟨bs, 0, none⟩), .int .i64 n] w fun e w' => ∃ p F gs cc t', e = .returned (.agg #[.slice p n cc]) ∧ balssR.O w' w.heap.size F (.slice p n cc) gs ∧ gs.length = n ∧ (∀ k, k < n → (gs.getD k default).length ≤ 12) ∧ Src B w' bs a k cap t' ∧ t' ≤ t + 24 * n ∧ Mod (fun b => b = bs) w w' := by
  have hlt := h.lt
  have H : Hid (Src B w bs a k cap t) := h
  clear h
  obtain ⟨i0, hi, hz0, hz1, hz2⟩ := info_parts infoBalss
  go_enter Try.func59, Try.ntmps59
  go_wp2
  go_loopw [6] (fun i W => ∃ (r t1 : Nat) (p : Option Addr) (c : Nat) (gs : List (List Bal)) (F : Nat → Prop), r ≤ n ∧ i = .int .i64 r ∧ Hid (NO balsR 67 1 one W (w.heap.size + 2) F (.slice p r c) gs) ∧ Hid (gs.length = r ∧ ∀ k, k < r → (gs.getD k default).length ≤ 12) ∧ Hid (Src B W bs a k cap t1) ∧ t1 ≤ t + 24 * r ∧ Hid (LeSt w W bs (.slice p r c))) (fun i _ => n - (intOf i).toNat)
  case atStart =>
    refine ⟨0, t, none, 0, [], fun _ => False, Nat.zero_le _, rfl, ?_, ⟨rfl, fun k hk => absurd hk (Nat.not_lt_zero _)⟩, ?_, by omega, ?_⟩
    · exact nilN _ _
    · exact H.out.mod (F := fun _ => False) (Mod.of_below (by (repeat (first | exact Below.refl _ _ | assumption | refine Below.drew ?_ | refine balloc ?_ _ | refine bset ?_ (by simp; omega) _ | refine bset ?_ (by simp) _ | refine bstep ?_ (by assumption))))) (fun _ e => e.elim)
    · exact ⟨by simp [go_sem], by simp [go_sem], fun o => by simp [go_sem], fun o => by simp [go_sem], by simp, Mod.of_below (by (repeat (first | exact Below.refl _ _ | assumption | refine Below.drew ?_ | refine balloc ?_ _ | refine bset ?_ (by simp; omega) _ | refine bset ?_ (by simp) _ | refine bstep ?_ (by assumption))))⟩
  case round =>
    clear H
    obtain ⟨r, t1, p, c, gs, F, hr, rfl, HN, HG, HR, ht1, HS⟩ := hrel
    rename World => w5
    by_cases hrn : r < n
    · have hr' : (r : Int) < n := by omega
      have hwr : IntKind.i64.wrap ((r : Int) + 1) = (r : Int) + 1 := wrapI _ (by omega) (by omega)
      go_wp2
      refine wp_region_noPanic ?_
      refine region_upto (fun W => LeSt w W bs (.slice p r c) ∧ W.cell? ⟨w.heap.size + 1, 0, none⟩ = some (.slice p r c)) 7 (by kernel_rfl) ⟨HS.out.below hlt (Below.drew (Below.refl _ _)), (HS.out.below hlt (Below.drew (Below.refl _ _))).y0⟩ (fun hS => ?_)
      refine upto_take (i := 0) (v := ?_) rfl (by kernel_rfl) (by kernel_rfl) (by kernel_rfl) (by kernel_rfl) (fun _ _ _ h => h) (by rfl) hS ?_ ?_
      rotate_left
      · intro wS hSw
        try dsimp only at hSw
        first | (go_simp; done) | (go_simp; with_reducible rfl)
      try simp only [Act.put, List.getElem_toArray, List.getElem_cons_zero, List.getElem_cons_succ, List.setIfInBounds_toArray, List.set_cons_zero, List.set_cons_succ]
      refine upto_take (i := 1) (v := ?_) rfl (by kernel_rfl) (by kernel_rfl) (by kernel_rfl) (by kernel_rfl) (fun _ _ _ h => h) (by rfl) hS ?_ ?_
      rotate_left
      · intro wS hSw
        try dsimp only at hSw
        first | (go_simp; done) | (go_simp; with_reducible rfl)
      try simp only [Act.put, List.getElem_toArray, List.getElem_cons_zero, List.getElem_cons_succ, List.setIfInBounds_toArray, List.set_cons_zero, List.set_cons_succ]
      refine upto_take (i := 2) (v := ?_) rfl (by kernel_rfl) (by kernel_rfl) (by kernel_rfl) (by kernel_rfl) (fun _ _ _ h => h) (by rfl) hS ?_ ?_
      rotate_left
      · intro wS hSw
        try dsimp only at hSw
        first | (go_simp; done) | (go_simp; with_reducible rfl)
      try simp only [Act.put, List.getElem_toArray, List.getElem_cons_zero, List.getElem_cons_succ, List.setIfInBounds_toArray, List.set_cons_zero, List.set_cons_succ]
      refine upto_step (i := 3) (by kernel_rfl) rfl ?_
      intro K hK
      go_simp
      refine (l2Balances_any B _ bs a k cap t1 (HR.out.below (Below.drew (Below.refl _ _))) (by omega)).mono ?_
      rintro e w6 ⟨u6, F6, xs, t6, rfl, o6, hl6, hs6, ht6, hm6⟩
      obtain ⟨p6, q6, rfl⟩ := bals_form (balsR.ofO o6)
      have hF1 : ∀ b, b = bs → b = bs ∨ w.heap.size + 2 ≤ b := fun b e => .inl e
      have S6 := hS.1.mod hm6 hlt hF1
      have hS6 : LeSt w w6 bs (.slice p r c) ∧ w6.cell? ⟨w.heap.size + 1, 0, none⟩ = some (.slice p r c) := ⟨S6, S6.y0⟩
      have hz5 : w.heap.size + 2 ≤ w5.heap.size := hS.1.sz
      have N6 : Hid (NO balsR 67 1 one w6 (w.heap.size + 2) F (.slice p r c) gs) := balssR.mod (balssR.keep HN.out (Below.drew (Below.refl _ _))) hm6 (fun b hb e => by have := (balssR.rng HN.out b hb).1; omega)
      have HFl : Hid (∀ b, F b → b < w5.heap.size) := fun b hb => (balssR.rng HN.out b hb).2
      refine hK _ _ (fun _ => hS6) ?_
      clear hK K hS hm6
      obtain ⟨l6, hl6'⟩ : ∃ l, l = xs.length := ⟨_, rfl⟩
      rw [← hl6'] at o6 hl6 ⊢
      have HL6 : Hid (xs.length = l6) := hl6'.symm
      clear hl6'
      try simp only [Act.put, List.getElem_toArray, List.getElem_cons_zero, List.getElem_cons_succ, List.setIfInBounds_toArray, List.set_cons_zero, List.set_cons_succ]
      refine upto_step (i := 4) (by kernel_rfl) rfl ?_
      intro K hK
      go_simp
      have O7 : balsR.O (w6.alloc (.cells #[.slice p6 l6 q6] 67)) w5.heap.size F6 (.slice p6 l6 q6) xs := balsR.alloc o6 _
      have S7 := hS6.1.below hlt (balloc (Below.refl w6.heap.size w6) (.cells #[.slice p6 l6 q6] 67))
      have hS7 : LeSt w (w6.alloc (.cells #[.slice p6 l6 q6] 67)) bs (.slice p r c) ∧ (w6.alloc (.cells #[.slice p6 l6 q6] 67)).cell? ⟨w.heap.size + 1, 0, none⟩ = some (.slice p r c) := ⟨S7, S7.y0⟩
      have R7 : Hid (Src B (w6.alloc (.cells #[.slice p6 l6 q6] 67)) bs a k cap t6) := hs6.below (balloc (Below.refl _ _) _)
      have N7 : NO balsR 67 1 one (w6.alloc (.cells #[.slice p6 l6 q6] 67)) (w.heap.size + 2) F (.slice p r c) gs := balssR.alloc N6.out _
      refine hK _ _ (fun _ => hS7) ?_
      clear hK K hs6 o6 N6
      try simp only [Act.put, List.getElem_toArray, List.getElem_cons_zero, List.getElem_cons_succ, List.setIfInBounds_toArray, List.set_cons_zero, List.set_cons_succ]
      have hz6 := hS6.1.sz
      refine upto_step (i := 5) (by kernel_rfl) rfl ?_
      intro K hK
      refine step_appN _ rfl _ _ 24 rfl 67 i0 _ 1 24 Try.underlying24 hi hz0 hz1 hz2 rfl (by decide) (by decide) (w.heap.size + 2) F F6 _ (.slice p6 l6 q6) gs xs ⟨w6.heap.size, 0, none⟩ 1 rfl rfl N7 (balsR.base O7 (by omega)) rfl ?h1 ?h2 ?h3 (by have := HG.out.1; omega) (by simp; omega) ?_
      case h1 =>
        intro u hu
        simp [one] at hu
        subst hu
        rfl
      case h2 => exact fun b h1 h2 => by have := HFl.out b h1; have := (balsR.rng O7 b h2).1; omega
      case h3 =>
        intro j y hj
        match j, hj with
        | 0, hj => simp [one] at hj; subst hj; simp [Addr.add, go_sem]
        | j + 1, hj => simp [one] at hj
      intro v9 w9 F9 n9 b9 f9
      have S9 : LeSt w w9 bs (.slice p r c) := hS7.1.mod (F := fun b => w.heap.size + 2 ≤ b) (modAt b9) hlt (fun b e => .inr e)
      have hS9 : LeSt w w9 bs (.slice p r c) ∧ w9.cell? ⟨w.heap.size + 1, 0, none⟩ = some (.slice p r c) := ⟨S9, S9.y0⟩
      have R9 : Hid (Src B w9 bs a k cap t6) := R7.out.mod (F := fun b => w.heap.size + 2 ≤ b) (modAt b9) (fun b e => by omega)
      obtain ⟨ys, hys⟩ : ∃ ys, ys = gs ++ [xs] := ⟨_, rfl⟩
      rw [← hys] at n9
      have hyl : ys.length = r + 1 := by rw [hys]; simp [HG.out.1]
      have HG9 : Hid (ys.length = r + 1 ∧ ∀ k, k < r + 1 → (ys.getD k default).length ≤ 12) := by
        refine ⟨hyl, fun j hj => ?_⟩
        have hg1 := HG.out.1
        by_cases e : j < r
        · have e2 : ys.getD j default = gs.getD j default := by
            rw [hys]
            simp only [List.getD_eq_getElem?_getD]
            rw [List.getElem?_append_left (by omega)]
          rw [e2]
          exact HG.out.2 j e
        · obtain rfl : j = r := by omega
          have e2 : ys.getD j default = xs := by rw [hys, ← hg1]; simp
          rw [e2, HL6.out]
          omega
      obtain ⟨p9, c9, rfl⟩ : ∃ p9 c9, v9 = .slice p9 (r + 1) c9 := by
        obtain ⟨p9, c9, e⟩ := balss_form (balssR.ofO n9)
        exact ⟨p9, c9, by rw [e, hyl]⟩
      have HN9 : Hid (NO balsR 67 1 one w9 (w.heap.size + 2) F9 (.slice p9 (r + 1) c9) ys) := n9
      refine hK _ _ (fun _ => hS9) ?_
      clear hK K hS6 hS7 S6 S7 n9 b9 f9 N7 O7 R7 HN HG HR HS hyl hys
      try simp only [Act.put, List.getElem_toArray, List.getElem_cons_zero, List.getElem_cons_succ, List.setIfInBounds_toArray, List.set_cons_zero, List.set_cons_succ]
      refine upto_step (i := 6) (by kernel_rfl) rfl ?_
      intro K hK
      go_simp
      refine hK _ _ (fun _ => hS9) ?_
      clear hK K
      try simp only [Act.put, List.getElem_toArray, List.getElem_cons_zero, List.getElem_cons_succ, List.setIfInBounds_toArray, List.set_cons_zero, List.set_cons_succ]
      obtain ⟨o9', of9⟩ : w9.cell? ⟨w.heap.size + 1, 0, none⟩ = some (.slice p r c) ∧ ∀ o, w9.frozen? ⟨w.heap.size + 1, o, none⟩ = false := ⟨hS9.1.y0, hS9.1.yf⟩
      refine upto_step (i := 7) (by kernel_rfl) rfl ?_
      intro K hK
      go_simp
      refine hK _ _ (fun h => absurd rfl h) ?_
      clear hK K
      refine upto_done (by kernel_rfl) ?_
      refine NoPanic.normal ?_
      have HS10 : Hid (LeSt w (w9.setCell ⟨w.heap.size + 1, 0, none⟩ (.slice p9 (r + 1) c9)) bs (.slice p9 (r + 1) c9)) := hS9.1.put hlt _
      have HN10 : Hid (NO balsR 67 1 one (w9.setCell ⟨w.heap.size + 1, 0, none⟩ (.slice p9 (r + 1) c9)) (w.heap.size + 2) F9 (.slice p9 (r + 1) c9) ys) := balssR.mod HN9.out (Mod.of_set _ _ _) (fun b hb e => by have := (balssR.rng HN9.out b hb).1; dsimp only at e; omega)
      have HR10 : Hid (Src B (w9.setCell ⟨w.heap.size + 1, 0, none⟩ (.slice p9 (r + 1) c9)) bs a k cap t6) := R9.out.mod (Mod.of_set _ _ _) (fun b e => by dsimp only at e; omega)
      clear hS9 HN9 R9 o9' of9 S9
      go_wp2
      exact ⟨⟨r + 1, t6, _, _, _, _, by omega, by go_num, HN10, HG9, HR10, by omega, HS10⟩, by simp [intOf]; omega⟩
    · have hrn' : r = n := by omega
      subst hrn'
      have hr' : ¬ ((r : Int) < r) := by omega
      obtain ⟨r0, y0, rf, yf, sz, md⟩ := HS.out
      go_wp2
      refine bodyPost_ret (v := .agg #[.slice p r c]) (by simp [results, Try.results59, go_sem, r0, rf, y0]) rfl ?_
      refine ⟨p, F, gs, c, rfl, ?_, HG.out.1, fun j hj => by simpa using HG.out.2 j hj, t1, ?_, ht1, ?_⟩
      · exact balssR.base (balssR.mod HN.out (Mod.of_set _ _ _) (fun b hb e => by have := (balssR.rng HN.out b hb).1; dsimp only at e; omega)) (by omega)
      · exact HR.out.mod (Mod.of_set _ _ _) (fun b e => by dsimp only at e; omega)
      · exact md.trans2 (Mod.of_set _ _ _) (fun b e hb => by dsimp only at e; omega)
end Go.Proofs.Ytgjpafalompecaa

/-
  Ledgers that are drawn: l2Bent.
-/
set_option linter.unusedVariables false
set_option linter.unusedSimpArgs false
namespace Go.Proofs.Ytgjpafalompecaa
open Go.RowKit
set_option linter.unusedSectionVars false
variable [DecidableEq Bal] [Inhabited Bal] [DecidableEq Ledg] [Inhabited Ledg] [DecidableEq Leg] [Inhabited Leg] [DecidableEq Mrk] [Inhabited Mrk] [DecidableEq Logg] [Inhabited Logg] [DecidableEq LoggR] [Inhabited LoggR] [DecidableEq BytesR] [Inhabited BytesR] [DecidableEq RecsR] [Inhabited RecsR] [DecidableEq LedgR] [Inhabited LedgR]
attribute [local go_sem ↓] Go.wp_at_zero Go.wp_at_succ

theorem ledI_first {W W' : World} {N g n cc : Nat} {gs : Nat → List Bal} {cs : List Value} {us : Nat → Value} {fs : Nat → Nat → Prop} (hp : PO balsR 67 1 one W N (.slice (some ⟨g, 0, none⟩) n cc) n n gs cs us fs) (h0 : 0 < n) (hn : ∀ k, k < n → (gs k).length ≤ 20)
    (hm : Mod (fs 0) W W') {u : Option Addr} {m c : Nat} (hu : RowI W' N u m c) (hm20 : m ≤ 20) : LedI (W'.setCell ⟨g, 0, none⟩ (.slice u m c)) N (some ⟨g, 0, none⟩) n cc := by
  have hr := hp.row
  have hk : ∀ k, k < n → ∃ (u : Option Addr) (c : Nat), us k = .slice u (gs k).length c ∧ RowI W N u (gs k).length c ∧ W.cell? ⟨g, 0 + k, none⟩ = some (us k) := fun k hk => by
    obtain ⟨u, c, e, hI⟩ := rowI_of (hp.el k hk)
    refine ⟨u, c, e, hI, ?_⟩
    have h1 := hp.cell k hk 0 (by omega)
    have h2 := hr.cellAt (k * 1 + 0) (by omega)
    rw [h1] at h2
    simpa [one] using h2
  obtain ⟨hb, hnc, hcm⟩ : N ≤ g ∧ n ≤ cc ∧ cc ≤ maxLen := by
    rcases hr.2 with ⟨e, _⟩ | ⟨g', cap, cur, e, hb, hg, hnc, hcm, _⟩
    · simp at e
    · simp only [Value.slice.injEq, Option.some.injEq, Addr.mk.injEq, and_true, true_and] at e
      obtain ⟨rfl, rfl⟩ := e
      exact ⟨hb, hnc, hcm⟩
  have hg : ∀ k, k < n → W'.cell? ⟨g, 0 + k, none⟩ = some (us k) := fun k hk' => hm.cell (hk k hk').choose_spec.choose_spec.2.2 (fun e => hp.out 0 h0 g e rfl)
  have hg0 := hg 0 h0
  obtain ⟨u0, c0, e0, _, _⟩ := hk 0 h0
  rw [e0] at hg0
  have hni : ∀ z : Int, ¬ Value.slice u0 (gs 0).length c0 = .int .i64 z := fun z e => by cases e
  refine ⟨hnc, hcm, fun k hk' => ?_⟩
  by_cases ek : k = 0
  · subst ek
    exact ⟨g, 0, u, m, c, rfl, hb, set_same hg0, hm20, hu.setNon hg0 hni _⟩
  · obtain ⟨u1, c1, e1, hI, _⟩ := hk k hk'
    have hO := balsR.mod (hp.el k hk') hm (fun b hb e => hp.sep k 0 hk' h0 ek b hb e)
    obtain ⟨u2, c2, e2, hI2⟩ := rowI_of hO
    refine ⟨g, 0, u2, _, c2, rfl, hb, ?_, hn k hk', hI2.setNon hg0 hni _⟩
    rw [set_other (fun e => by simp only [Addr.mk.injEq, and_true, true_and] at e; omega), hg k hk', e2]
theorem ledI_more {W W' : World} {N n cc B1 : Nat} {p y : Option Addr} {ny cy : Nat} {v' : Value} {gs : Nat → List Bal} {cs : List Value} {us : Nat → Value} {fs : Nat → Nat → Prop} (hp : PO balsR 67 1 one W N (.slice p n cc) n n gs cs us fs) (hn : ∀ k, k < n → (gs k).length ≤ 20)
    (hm : Mod (fun b => (Value.slice p n cc).ownBlock = some b) W W') (hr : W'.ownsRow N 67 1 v' (n + 3) (cs ++ [.slice none 0 0, .slice none 0 0, .slice none 0 0])) (y0 : W'.cell? ⟨B1, 0, none⟩ = some (.slice y ny cy)) (y1 : W'.cell? ⟨B1, 1, none⟩ = none) : ∃ p' c', v' = .slice p' (n + 3) c' ∧ LedI (W'.setCell ⟨B1, 0, none⟩ (.slice p' (n + 3) c')) N p' (n + 3) c' := by
  have hcl : cs.length = n := by have := hp.row.1; omega
  have hr' := hr
  have hni : ∀ z : Int, ¬ Value.slice y ny cy = .int .i64 z := fun z e => by cases e
  rcases hr.2 with ⟨rfl, h0⟩ | ⟨g, cap, cur, rfl, hb, hg, hnc, hcm, hcs, htake⟩
  · omega
  · have hne : g ≠ B1 := fun e => by
      subst e
      have h2 := hr'.cellAt 1 (by omega)
      rw [y1, List.getElem?_eq_getElem (by simp)] at h2
      cases h2
    refine ⟨_, cap, rfl, hnc, hcm, fun k hk => ?_⟩
    have h2 := hr'.cellAt k (by omega)
    by_cases ek : k < n
    · have hO := balsR.mod (hp.el k ek) hm (fun b hb e => hp.out k ek b hb e)
      obtain ⟨u2, c2, e2, hI2⟩ := rowI_of hO
      refine ⟨g, 0, u2, _, c2, rfl, hb, ?_, hn k ek, hI2.setNon y0 hni _⟩
      have h1 := hp.cell k ek 0 (by omega)
      rw [Nat.mul_one, Nat.add_zero] at h1
      rw [List.getElem?_append_left (by omega), h1, e2] at h2
      rw [set_other (fun e => by simp only [Addr.mk.injEq, and_true] at e; omega)]
      simpa [one] using h2
    · refine ⟨g, 0, none, 0, 0, rfl, hb, ?_, by omega, rowI_nil _ _⟩
      rw [set_other (fun e => by simp only [Addr.mk.injEq, and_true] at e; omega)]
      rw [List.getElem?_append_right (by omega), hcl] at h2
      rcases (show k - n = 0 ∨ k - n = 1 ∨ k - n = 2 by omega) with e | e | e <;> (rw [e] at h2; simpa using h2)
def Fz (W : World) (p : Option Addr) : Prop := ∀ b o, p = some ⟨b, o, none⟩ → ∀ j, W.frozen? ⟨b, j, none⟩ = false
theorem Fz.set {W : World} {p : Option Addr} (h : Fz W p) (q : Addr) (v : Value) : Fz (W.setCell q v) p := fun b o e j => by rw [World.frozen?_setCell]; exact h b o e j
theorem Fz.mod {F : Nat → Prop} {W W' : World} {g : Nat} (h : Fz W (some ⟨g, 0, none⟩)) (hm : Mod F W W') (hl : g < W.heap.size) (hn : ¬ F g) : Fz W' (some ⟨g, 0, none⟩) := fun b o e j => by
  simp only [Option.some.injEq, Addr.mk.injEq, and_true] at e
  obtain ⟨rfl, rfl⟩ := e
  exact (World.frozen?_of_block (hm.block g hl hn)).trans (h g 0 rfl j)
theorem fz_owns {W : World} {N e s n m c : Nat} {p : Option Addr} {xs : List Value} (h : W.ownsRow N e s (.slice p m c) n xs) : Fz W p := fun b o e j => by
  subst e
  rcases h.2 with ⟨e, _⟩ | ⟨g', cap', cur, e, _⟩
  · simp at e
  · simp only [Value.slice.injEq, Option.some.injEq, Addr.mk.injEq, and_true, true_and] at e
    obtain ⟨⟨rfl, rfl⟩, rfl, rfl⟩ := e
    exact h.frozenAt j
structure BeSt (w W : World) (bs B1 : Nat) (y : Value) : Prop where
  r0 : W.cell? ⟨w.heap.size, 0, none⟩ = some (.slice none 0 0)
  y0 : W.cell? ⟨B1, 0, none⟩ = some y
  rf : ∀ o, W.frozen? ⟨w.heap.size, o, none⟩ = false
  yf : ∀ o, W.frozen? ⟨B1, o, none⟩ = false
  lo : w.heap.size < B1
  sz : B1 < W.heap.size
  md : Mod (fun b => b = bs) w W
  y1 : W.cell? ⟨B1, 1, none⟩ = none
theorem BeSt.mod {w W W' : World} {bs B1 : Nat} {y : Value} {F : Nat → Prop} (h : BeSt w W bs B1 y) (hm : Mod F W W') (hbs : bs < w.heap.size) (hF : ∀ b, F b → b = bs ∨ (w.heap.size < b ∧ ¬ b = B1)) : BeSt w W' bs B1 y := by
  have hsz := h.sz
  have hlo := h.lo
  have n0 : ¬ F w.heap.size := fun e => by rcases hF _ e with e | e <;> omega
  have n1 : ¬ F B1 := fun e => by rcases hF _ e with e | e <;> omega
  exact ⟨hm.cell h.r0 n0, hm.cell h.y0 n1, fun o => (World.frozen?_of_block (hm.block w.heap.size (by omega) n0)).trans (h.rf o), fun o => (World.frozen?_of_block (hm.block B1 (by omega) n1)).trans (h.yf o), h.lo, Nat.lt_of_lt_of_le hsz hm.size,
    h.md.trans2 hm (fun b e hb => by rcases hF _ e with e | e <;> omega), (World.cell?_of_block (hm.block B1 (by omega) n1)).trans h.y1⟩
theorem BeSt.below {w W W' : World} {bs B1 : Nat} {y : Value} (h : BeSt w W bs B1 y) (hbs : bs < w.heap.size) (hb : Below W.heap.size W W') : BeSt w W' bs B1 y :=
  h.mod (F := fun _ => False) (Mod.of_below hb) hbs (fun _ e => e.elim)
theorem BeSt.put {w W : World} {bs B1 : Nat} {y : Value} (h : BeSt w W bs B1 y) (hbs : bs < w.heap.size) (v' : Value) : BeSt w (W.setCell ⟨B1, 0, none⟩ v') bs B1 v' := by
  have hlo := h.lo
  exact ⟨by rw [set_other (by intro e; simp only [Addr.mk.injEq, and_true] at e; omega)]; exact h.r0, set_same h.y0, fun o => by rw [World.frozen?_setCell]; exact h.rf o, fun o => by rw [World.frozen?_setCell]; exact h.yf o, h.lo, by simpa using h.sz, h.md.trans2 (Mod.of_set _ _ _) (fun b e hb => by dsimp only at e; omega), by rw [set_other (by intro e; simp only [Addr.mk.injEq, and_true, true_and] at e; omega)]; exact h.y1⟩
theorem BeSt.out {w W : World} {bs B1 : Nat} {p : Option Addr} {m cc B cap t : Nat} {a : Option Addr} {k : Nat} (h : BeSt w W bs B1 (.slice p m cc)) (hbs : bs < w.heap.size) (hl : LedI W (w.heap.size + 1) p m cc) (hs : Src B W bs a k cap t) (hf : Fz W p) :
    LedI (W.setCell ⟨w.heap.size, 0, none⟩ (.slice p m cc)) w.heap.size p m cc ∧ Src B (W.setCell ⟨w.heap.size, 0, none⟩ (.slice p m cc)) bs a k cap t ∧ Mod (fun b => b = bs) w (W.setCell ⟨w.heap.size, 0, none⟩ (.slice p m cc)) ∧ Fz (W.setCell ⟨w.heap.size, 0, none⟩ (.slice p m cc)) p :=
  ⟨(hl.mod (Mod.of_set _ _ _) (fun b e => by dsimp only at e; omega)).base (by omega), hs.mod (Mod.of_set _ _ _) (fun b e => by dsimp only at e; omega), h.md.trans2 (Mod.of_set _ _ _) (fun b e hb => by dsimp only at e; omega), hf.set _ _⟩
theorem make19 (w : World) : (Instr.makeSlice 67 (.int .i64 19) (.int .i64 19)).run Try.prog w = .ok (.slice (some ⟨w.heap.size, 0, none⟩) 19 19) (w.alloc (.cells (.replicate 57 (.int .i64 0)) 80)) := by kernel_rfl
theorem row19 (w : World) (N : Nat) (h : N ≤ w.heap.size) : RowI (w.alloc (.cells (.replicate 57 (.int .i64 0)) 80)) N (some ⟨w.heap.size, 0, none⟩) 19 19 := by
  refine ⟨Nat.le_refl _, by unfold maxLen; omega, fun i hi f hf => ⟨w.heap.size, 0, 0, rfl, h, ?_⟩⟩
  have hlt : i * 3 + f < 57 := by omega
  simp [go_sem, Nat.zero_add, hlt]
set_option maxRecDepth 20000 in
set_option maxHeartbeats 16000000 in
theorem l2Bent_any (B : Nat) (w : World) (bs : Nat) (a : Option Addr) (k cap t : Nat) (h : Src B w bs a k cap t) (ht : t ≤ 1000) :
    Calls Try.prog 37 #[.pointer (some ⟨bs, 0, none⟩)] w fun e w' => ∃ p m cc t', e = .returned (.agg #[.slice p m cc]) ∧ LedI w' w.heap.size p m cc ∧ m ≤ 6 ∧ Src B w' bs a k cap t' ∧ t' ≤ t + 100 ∧ Mod (fun b => b = bs) w w' ∧ Fz w' p := by
  have hlt := h.lt
  have H : Hid (Src B w bs a k cap t) := h
  clear h
  go_enter Try.func37, Try.ntmps37
  go_wp2_with fail
  refine (l1Pick_any B _ bs a k cap t (w.heap.size + 1) 4 [3, 3, 2, 1] (H.out.below (by (repeat (first | exact Below.refl _ _ | assumption | refine Below.drew ?_ | refine balloc ?_ _ | refine bset ?_ (by simp; omega) _ | refine bset ?_ (by simp) _ | refine bstep ?_ (by assumption))))) (by omega) (by omega) (by simp) (by simp) ?_).mono ?_
  · intro i hi
    match i, hi with
    | 0, _ => simp [go_sem]
    | 1, _ => simp [go_sem]
    | 2, _ => simp [go_sem]
    | 3, _ => simp [go_sem]
  rintro e w1 ⟨q, rfl, hq, h1, m1⟩
  obtain ⟨n, rfl, hn1, hn3⟩ : ∃ n : Nat, q = n ∧ 1 ≤ n ∧ n ≤ 3 := by
    simp only [List.mem_cons, List.mem_nil_iff, or_false] at hq
    rcases hq with rfl | rfl | rfl | rfl
    · exact ⟨3, rfl, by omega, by omega⟩
    · exact ⟨3, rfl, by omega, by omega⟩
    · exact ⟨2, rfl, by omega, by omega⟩
    · exact ⟨1, rfl, by omega, by omega⟩
  clear hq H
  have r0 : w1.cell? ⟨w.heap.size, 0, none⟩ = some (.slice none 0 0) := m1.cell (by simp [go_sem]) (by dsimp only; omega)
  have rf : ∀ o, w1.frozen? ⟨w.heap.size, o, none⟩ = false := fun o => (World.frozen?_of_block (m1.block w.heap.size (by simp; omega) (by omega))).trans (by simp [go_sem])
  have M1 : Mod (fun b => b = bs) w w1 := (Mod.of_below (by (repeat (first | exact Below.refl _ _ | assumption | refine Below.drew ?_ | refine balloc ?_ _ | refine bset ?_ (by simp; omega) _ | refine bset ?_ (by simp) _ | refine bstep ?_ (by assumption))))).trans m1
  have hz1 : w.heap.size + 2 ≤ w1.heap.size := by have := m1.size; simpa using this
  clear m1
  go_wp2_with fail
  refine (l2Ledger_any B w1 bs a k cap (t + 1) h1 n (by omega) (by omega)).mono ?_
  rintro e w2 ⟨p, F, gs, cc, t2, rfl, o2, hgl, hg20, h2, ht2, m2⟩
  have hne : w.heap.size ≠ bs := by omega
  have hz2 := m2.size
  obtain ⟨cs, us, fs, hp, hF⟩ := o2
  have hg20' : ∀ k, k < n → (gs.getD k default).length ≤ 12 := hg20
  have hp' : PO balsR 67 1 one w2 (w.heap.size + 1) (.slice p n cc) n n (fun i => gs.getD i default) cs us fs := by
    rw [hgl] at hp
    exact ⟨owns_base hp.row (by omega), fun i hi => balsR.base (hp.el i hi) (by omega), hp.ln, hp.cell, hp.out, hp.sep⟩
  rw [hgl] at hp
  obtain ⟨g, rfl, hg1, hg2⟩ : ∃ g, p = some ⟨g, 0, none⟩ ∧ w.heap.size + 1 ≤ g ∧ g < w2.heap.size := by
    rcases hp'.row.2 with ⟨e, h0⟩ | ⟨g', cap', cur, e, hb, hg, _⟩
    · omega
    · simp only [Value.slice.injEq, true_and] at e
      exact ⟨g', e.1, hb, (hp'.row.lt g' (by rw [e.1]; rfl)).2⟩
  obtain ⟨u0, c0, e0, hI0⟩ := rowI_of (hp'.el 0 (by omega))
  have q0 : w2.cell? ⟨g, 0, none⟩ = some (us 0) := by
    have h1 := hp'.cell 0 (by omega) 0 (by omega)
    have h2 := hp'.row.cellAt (0 * 1 + 0) (by omega)
    rw [h1] at h2
    simpa [one] using h2
  rw [e0] at q0
  obtain ⟨xs, hxs⟩ : ∃ xs, xs = gs.getD 0 default := ⟨_, rfl⟩
  have hx20 : xs.length ≤ 12 := by rw [hxs]; exact hg20' 0 (by omega)
  rw [← hxs] at q0 e0 hI0
  obtain ⟨m, hm⟩ : ∃ m, m = xs.length := ⟨_, rfl⟩
  rw [← hm] at q0 e0 hI0 hx20
  have HX : Hid (xs = gs.getD 0 default ∧ m = xs.length) := ⟨hxs, hm⟩
  have HE : Hid (us 0 = .slice u0 m c0) := e0
  have HP : Hid (PO balsR 67 1 one w2 (w.heap.size + 1) (.slice (some ⟨g, 0, none⟩) n cc) n n (fun i => gs.getD i default) cs us fs) := hp'
  have HG : Hid (∀ k, k < n → (gs.getD k default).length ≤ 20) := fun k hk => Nat.le_trans (hg20' k hk) (by omega)
  have r2 : w2.cell? ⟨w.heap.size, 0, none⟩ = some (.slice none 0 0) := m2.cell r0 (by dsimp only; omega)
  have rf2 : ∀ o, w2.frozen? ⟨w.heap.size, o, none⟩ = false := fun o => (World.frozen?_of_block (m2.block w.heap.size (by omega) (by omega))).trans (rf o)
  have M2 : Mod (fun b => b = bs) w w2 := M1.trans m2
  have zr : w.heap.size < w2.heap.size := by omega
  have zn : w.heap.size ≠ w2.heap.size := by omega
  have zg : g ≠ w2.heap.size := by omega
  have Y3 : Hid (BeSt w (w2.alloc (.cells #[.slice (some ⟨g, 0, none⟩) n cc] 26)) bs w2.heap.size (.slice (some ⟨g, 0, none⟩) n cc)) :=
    ⟨by simp [go_sem, r2, zn, zr], by simp [go_sem], fun o => by simp [go_sem, rf2, zn, zr], fun o => by simp [go_sem], by omega, by simp, M2.alloc _, by simp [go_sem]⟩
  have HLd : Hid (∀ W, Mod (fun b => b = bs ∨ b = w.heap.size) w2 W → LedI W (w.heap.size + 1) (some ⟨g, 0, none⟩) n cc) := by
    obtain ⟨p', c', e, hl⟩ := ledI_of (W := w2) (N := w.heap.size + 1) (v := .slice (some ⟨g, 0, none⟩) n cc) (gs := gs) (F := fun b => (Value.slice (some ⟨g, 0, none⟩) n cc).ownBlock = some b ∨ ∃ i, i < gs.length ∧ fs i b) ⟨cs, us, fs, by rw [hgl]; exact hp', fun b => Iff.rfl⟩ (fun k hk => Nat.le_trans (hg20' k (by omega)) (by omega))
    simp only [Value.slice.injEq] at e
    obtain ⟨rfl, e1, rfl⟩ := e
    rw [hgl] at hl
    exact fun W hW => hl.mod hW (fun b e => by omega)
  have HO0 : Hid (balsR.O w2 (w.heap.size + 1) (fs 0) (.slice u0 m c0) xs) := by
    have := hp'.el 0 (by omega)
    rw [← hxs, e0] at this
    exact this
  have HMX : Hid (xs.length = m) := hm.symm
  clear hp hp' hg20 hg20' hxs hm m2 M1 r0 rf hF e0
  by_cases hm0 : m = 0
  · subst hm0
    go_wp2
    have hmE := (Mod.of_set w2 ⟨w.heap.size, 0, none⟩ (.slice (some ⟨g, 0, none⟩) n cc)).alloc (.cells #[.slice (some ⟨g, 0, none⟩) n cc] 26)
    dsimp only at hmE
    refine bodyPost_ret (v := .agg #[.slice (some ⟨g, 0, none⟩) n cc]) (by simp [results, Try.results37, go_sem, r2, rf2, zn, zr]) rfl ?_
    exact ⟨_, n, _, t2, rfl, (HLd.out _ (hmE.mono (fun b e => .inr e))).base (by omega), by omega, h2.mod hmE (fun b e => by omega), by omega, M2.trans2 hmE (fun b e hb => by omega), (fz_owns HP.out.row).mod hmE hg2 (by omega)⟩
  · have hm1 : (m : Int) ≠ 0 := by omega
    go_wp2_with fail
    refine (l1Next_any B _ bs a k cap t2 m (h2.below (balloc (Below.refl _ _) _)) (by omega) (by omega) (by omega)).mono ?_
    rintro e w4 ⟨i, rfl, hi, h4, m4⟩
    have hi' : i < m := by omega
    go_wp2_with fail
    refine (l1Next_any B w4 bs a k cap (t2 + 1) 24 h4 (by omega) (by omega) (by omega)).mono ?_
    rintro e w5 ⟨j, rfl, hj, h5, m5⟩
    have hz5 := h5.lt
    have M25 : Mod (fun b => b = bs) w2 w5 := ((Mod.of_below (balloc (Below.refl _ _) _)).trans m4).trans m5
    have Y5 : BeSt w w5 bs w2.heap.size (.slice (some ⟨g, 0, none⟩) n cc) := (Y3.out.mod m4 hlt (fun b e => .inl e)).mod m5 hlt (fun b e => .inl e)
    have HL5 : Hid (LedI w5 (w.heap.size + 1) (some ⟨g, 0, none⟩) n cc) := HLd.out _ (M25.mono (fun b e => .inl e))
    have HP5 : Hid (PO balsR 67 1 one w5 (w.heap.size + 1) (.slice (some ⟨g, 0, none⟩) n cc) n n (fun i => gs.getD i default) cs us fs) := HP.out.mod M25 (fun b hb e => by simp [Value.ownBlock] at hb; omega) (fun i hi b hb e => by have := (balsR.rng (HP.out.el i hi) b hb).1; omega)
    obtain ⟨b0, o0, z0, eu, nb, c5z0⟩ := hI0.2.2 i hi' 0 (by omega)
    obtain ⟨b1, o1, z1, eu1, _, c5z1⟩ := hI0.2.2 i hi' 1 (by omega)
    obtain ⟨b2, o2, z2, eu2, _, c5z2⟩ := hI0.2.2 i hi' 2 (by omega)
    rw [eu] at eu1 eu2
    simp only [Option.some.injEq, Addr.mk.injEq, and_true] at eu1 eu2
    obtain ⟨rfl, rfl⟩ := eu1
    obtain ⟨rfl, rfl⟩ := eu2
    subst eu
    have nlt := World.block_lt_of_cell? _ _ c5z0
    dsimp only at nlt
    have z50 : w5.cell? ⟨b0, o0 + i * 3, none⟩ = some (.int .i64 z0) := M25.cell c5z0 (by dsimp only; omega)
    have z51 : w5.cell? ⟨b0, o0 + i * 3 + 1, none⟩ = some (.int .i64 z1) := M25.cell c5z1 (by dsimp only; omega)
    have z52 : w5.cell? ⟨b0, o0 + i * 3 + 2, none⟩ = some (.int .i64 z2) := M25.cell c5z2 (by dsimp only; omega)
    have q5 : w5.cell? ⟨g, 0, none⟩ = some (.slice (some ⟨b0, o0, none⟩) m c0) := M25.cell q0 (by dsimp only; omega)
    have zb5 : b0 < w5.heap.size := by have := M25.size; omega
    have zy5 := Y5.sz
    have nb0 : b0 ≠ w.heap.size := by omega
    have nb1 : b0 ≠ bs := by omega
    have nbY : b0 ≠ w2.heap.size := by omega
    have hfz : ∀ o, w5.frozen? ⟨b0, o, none⟩ = false := fun o => by
      refine (World.frozen?_of_block (M25.block b0 (by omega) (by omega))).trans ?_
      have ho := HO0.out.1
      rw [HMX.out] at ho
      rcases ho.2 with ⟨e, _⟩ | ⟨g', cap', cur, e, _⟩
      · simp at e
      · simp only [Value.slice.injEq, Option.some.injEq, Addr.mk.injEq, and_true, true_and] at e
        obtain ⟨⟨rfl, rfl⟩, rfl⟩ := e
        exact ho.frozenAt o
    have hfg : ∀ o, w5.frozen? ⟨g, o, none⟩ = false := fun o => HP5.out.row.frozenAt o
    clear h2 h4 m4 m5 Y3 HLd HP c5z0 c5z1 c5z2 hI0 q0 r2 rf2 M2 hm1
    have hi0 : (0 : Int) ≤ i := by omega
    have hn0 : 0 < n := by omega
    have hn0' : (0 : Int) < n := by omega
    have hzg : g < w5.heap.size := by have := M25.size; omega
    have hFz : Fz w5 (some ⟨g, 0, none⟩) := fz_owns HP5.out.row
    by_cases j0 : j = 0
    · subst j0
      go_wp2_with fail
      refine (l1Pick_any B _ bs a k cap (t2 + 1 + 1) w5.heap.size 3 [-1, 6, 5] (h5.below (by (repeat (first | exact Below.refl _ _ | assumption | refine Below.drew ?_ | refine balloc ?_ _ | refine bset ?_ (by simp; omega) _ | refine bset ?_ (by simp) _ | refine bstep ?_ (by assumption))))) (by omega) (by omega) (by simp) (by simp) ?_).mono ?_
      · intro i hi
        match i, hi with
        | 0, _ => simp [go_sem]
        | 1, _ => simp [go_sem]
        | 2, _ => simp [go_sem]
      rintro e w6 ⟨q, rfl, hq, h6, m6⟩
      have Y6 := (Y5.below hlt (by (repeat (first | exact Below.refl _ _ | assumption | refine Below.drew ?_ | refine balloc ?_ _ | refine bset ?_ (by simp; omega) _ | refine bset ?_ (by simp) _ | refine bstep ?_ (by assumption))))).mod m6 hlt (fun b e => .inl e)
      have L6 : LedI w6 (w.heap.size + 1) (some ⟨g, 0, none⟩) n cc := (HL5.out.below (by (repeat (first | exact Below.refl _ _ | assumption | refine Below.drew ?_ | refine balloc ?_ _ | refine bset ?_ (by simp; omega) _ | refine bset ?_ (by simp) _ | refine bstep ?_ (by assumption))))).mod m6 (fun b e => by omega)
      have z6 : w6.cell? ⟨b0, o0 + i * 3, none⟩ = some (.int .i64 z0) := m6.cell (cell_keep (by (repeat (first | exact Below.refl _ _ | assumption | refine Below.drew ?_ | refine balloc ?_ _ | refine bset ?_ (by simp; omega) _ | refine bset ?_ (by simp) _ | refine bstep ?_ (by assumption)))) z50) (by dsimp only; omega)
      have hfz6 : ∀ o, w6.frozen? ⟨b0, o, none⟩ = false := fun o => Eq.trans (World.frozen?_of_block (m6.block b0 (by simp; omega) (by omega))) (Eq.trans (World.frozen?_of_block (Below.block (by (repeat (first | exact Below.refl _ _ | assumption | refine Below.drew ?_ | refine balloc ?_ _ | refine bset ?_ (by simp; omega) _ | refine bset ?_ (by simp) _ | refine bstep ?_ (by assumption)))) b0 zb5)) (hfz o))
      have L7 := L6.setInt z6 q
      have m6x : Mod (fun b => b = bs) w5 w6 := (Mod.of_below (by (repeat (first | exact Below.refl _ _ | assumption | refine Below.drew ?_ | refine balloc ?_ _ | refine bset ?_ (by simp; omega) _ | refine bset ?_ (by simp) _ | refine bstep ?_ (by assumption))))).trans m6
      have hmQ : Mod (fun b => b = b0) w6 (w6.setCell ⟨b0, o0 + i * 3, none⟩ (.int .i64 q)) := Mod.of_set w6 ⟨b0, o0 + i * 3, none⟩ (.int .i64 q)
      have Y7 := Y6.mod hmQ hlt (fun b e => .inr (by omega))
      have h7 := h6.mod hmQ (fun b e => by omega)
      obtain ⟨o1, o2, o3, o4⟩ := Y7.out hlt L7 h7 (((hFz.mod m6x hzg (by omega))).set _ _)
      obtain ⟨r6, y6, rf6, yf6, lo6, sz6, md6, yl6⟩ := Y6
      clear hmQ h6 m6 Y5 HL5 h5
      go_wp2
      refine bodyPost_ret (v := .agg #[.slice (some ⟨g, 0, none⟩) n cc]) (by simp [results, Try.results37, go_sem, r6, rf6, y6, yf6, z6, zn, zr, nb0, nb1, nbY]) rfl ?_
      exact ⟨_, n, _, _, rfl, o1, by omega, o2, by omega, o3, o4⟩
    by_cases j1 : j = 1
    · subst j1
      go_wp2_with fail
      refine (l1Pick_any B _ bs a k cap (t2 + 1 + 1) w5.heap.size 3 [-1, 3, 2] (h5.below (by (repeat (first | exact Below.refl _ _ | assumption | refine Below.drew ?_ | refine balloc ?_ _ | refine bset ?_ (by simp; omega) _ | refine bset ?_ (by simp) _ | refine bstep ?_ (by assumption))))) (by omega) (by omega) (by simp) (by simp) ?_).mono ?_
      · intro i hi
        match i, hi with
        | 0, _ => simp [go_sem]
        | 1, _ => simp [go_sem]
        | 2, _ => simp [go_sem]
      rintro e w6 ⟨q, rfl, hq, h6, m6⟩
      have Y6 := (Y5.below hlt (by (repeat (first | exact Below.refl _ _ | assumption | refine Below.drew ?_ | refine balloc ?_ _ | refine bset ?_ (by simp; omega) _ | refine bset ?_ (by simp) _ | refine bstep ?_ (by assumption))))).mod m6 hlt (fun b e => .inl e)
      have L6 : LedI w6 (w.heap.size + 1) (some ⟨g, 0, none⟩) n cc := (HL5.out.below (by (repeat (first | exact Below.refl _ _ | assumption | refine Below.drew ?_ | refine balloc ?_ _ | refine bset ?_ (by simp; omega) _ | refine bset ?_ (by simp) _ | refine bstep ?_ (by assumption))))).mod m6 (fun b e => by omega)
      have z6 : w6.cell? ⟨b0, o0 + i * 3 + 1, none⟩ = some (.int .i64 z1) := m6.cell (cell_keep (by (repeat (first | exact Below.refl _ _ | assumption | refine Below.drew ?_ | refine balloc ?_ _ | refine bset ?_ (by simp; omega) _ | refine bset ?_ (by simp) _ | refine bstep ?_ (by assumption)))) z51) (by dsimp only; omega)
      have hfz6 : ∀ o, w6.frozen? ⟨b0, o, none⟩ = false := fun o => Eq.trans (World.frozen?_of_block (m6.block b0 (by simp; omega) (by omega))) (Eq.trans (World.frozen?_of_block (Below.block (by (repeat (first | exact Below.refl _ _ | assumption | refine Below.drew ?_ | refine balloc ?_ _ | refine bset ?_ (by simp; omega) _ | refine bset ?_ (by simp) _ | refine bstep ?_ (by assumption)))) b0 zb5)) (hfz o))
      have L7 := L6.setInt z6 q
      have m6x : Mod (fun b => b = bs) w5 w6 := (Mod.of_below (by (repeat (first | exact Below.refl _ _ | assumption | refine Below.drew ?_ | refine balloc ?_ _ | refine bset ?_ (by simp; omega) _ | refine bset ?_ (by simp) _ | refine bstep ?_ (by assumption))))).trans m6
      have hmQ : Mod (fun b => b = b0) w6 (w6.setCell ⟨b0, o0 + i * 3 + 1, none⟩ (.int .i64 q)) := Mod.of_set w6 ⟨b0, o0 + i * 3 + 1, none⟩ (.int .i64 q)
      have Y7 := Y6.mod hmQ hlt (fun b e => .inr (by omega))
      have h7 := h6.mod hmQ (fun b e => by omega)
      obtain ⟨o1, o2, o3, o4⟩ := Y7.out hlt L7 h7 (((hFz.mod m6x hzg (by omega))).set _ _)
      obtain ⟨r6, y6, rf6, yf6, lo6, sz6, md6, yl6⟩ := Y6
      clear hmQ h6 m6 Y5 HL5 h5
      go_wp2
      refine bodyPost_ret (v := .agg #[.slice (some ⟨g, 0, none⟩) n cc]) (by simp [results, Try.results37, go_sem, r6, rf6, y6, yf6, z6, zn, zr, nb0, nb1, nbY]) rfl ?_
      exact ⟨_, n, _, _, rfl, o1, by omega, o2, by omega, o3, o4⟩
    by_cases j2 : j = 2
    · subst j2
      go_wp2_with fail
      refine (l1Pick_any B _ bs a k cap (t2 + 1 + 1) w5.heap.size 4 [0, 1000000000000, 1000000000001, -3] (h5.below (by (repeat (first | exact Below.refl _ _ | assumption | refine Below.drew ?_ | refine balloc ?_ _ | refine bset ?_ (by simp; omega) _ | refine bset ?_ (by simp) _ | refine bstep ?_ (by assumption))))) (by omega) (by omega) (by simp) (by simp) ?_).mono ?_
      · intro i hi
        match i, hi with
        | 0, _ => simp [go_sem]
        | 1, _ => simp [go_sem]
        | 2, _ => simp [go_sem]
        | 3, _ => simp [go_sem]
      rintro e w6 ⟨q, rfl, hq, h6, m6⟩
      have Y6 := (Y5.below hlt (by (repeat (first | exact Below.refl _ _ | assumption | refine Below.drew ?_ | refine balloc ?_ _ | refine bset ?_ (by simp; omega) _ | refine bset ?_ (by simp) _ | refine bstep ?_ (by assumption))))).mod m6 hlt (fun b e => .inl e)
      have L6 : LedI w6 (w.heap.size + 1) (some ⟨g, 0, none⟩) n cc := (HL5.out.below (by (repeat (first | exact Below.refl _ _ | assumption | refine Below.drew ?_ | refine balloc ?_ _ | refine bset ?_ (by simp; omega) _ | refine bset ?_ (by simp) _ | refine bstep ?_ (by assumption))))).mod m6 (fun b e => by omega)
      have z6 : w6.cell? ⟨b0, o0 + i * 3 + 2, none⟩ = some (.int .i64 z2) := m6.cell (cell_keep (by (repeat (first | exact Below.refl _ _ | assumption | refine Below.drew ?_ | refine balloc ?_ _ | refine bset ?_ (by simp; omega) _ | refine bset ?_ (by simp) _ | refine bstep ?_ (by assumption)))) z52) (by dsimp only; omega)
      have hfz6 : ∀ o, w6.frozen? ⟨b0, o, none⟩ = false := fun o => Eq.trans (World.frozen?_of_block (m6.block b0 (by simp; omega) (by omega))) (Eq.trans (World.frozen?_of_block (Below.block (by (repeat (first | exact Below.refl _ _ | assumption | refine Below.drew ?_ | refine balloc ?_ _ | refine bset ?_ (by simp; omega) _ | refine bset ?_ (by simp) _ | refine bstep ?_ (by assumption)))) b0 zb5)) (hfz o))
      have L7 := L6.setInt z6 q
      have m6x : Mod (fun b => b = bs) w5 w6 := (Mod.of_below (by (repeat (first | exact Below.refl _ _ | assumption | refine Below.drew ?_ | refine balloc ?_ _ | refine bset ?_ (by simp; omega) _ | refine bset ?_ (by simp) _ | refine bstep ?_ (by assumption))))).trans m6
      have hmQ : Mod (fun b => b = b0) w6 (w6.setCell ⟨b0, o0 + i * 3 + 2, none⟩ (.int .i64 q)) := Mod.of_set w6 ⟨b0, o0 + i * 3 + 2, none⟩ (.int .i64 q)
      have Y7 := Y6.mod hmQ hlt (fun b e => .inr (by omega))
      have h7 := h6.mod hmQ (fun b e => by omega)
      obtain ⟨o1, o2, o3, o4⟩ := Y7.out hlt L7 h7 (((hFz.mod m6x hzg (by omega))).set _ _)
      obtain ⟨r6, y6, rf6, yf6, lo6, sz6, md6, yl6⟩ := Y6
      clear hmQ h6 m6 Y5 HL5 h5
      go_wp2
      refine bodyPost_ret (v := .agg #[.slice (some ⟨g, 0, none⟩) n cc]) (by simp [results, Try.results37, go_sem, r6, rf6, y6, yf6, z6, zn, zr, nb0, nb1, nbY]) rfl ?_
      exact ⟨_, n, _, _, rfl, o1, by omega, o2, by omega, o3, o4⟩
    by_cases j3 : j = 3
    · subst j3
      have HO5 : Hid (balsR.O w5 (w.heap.size + 1) (fs 0) (.slice (some ⟨b0, o0, none⟩) m c0) xs) := balsR.mod HO0.out M25 (fun b hb e => by have := (balsR.rng HO0.out b hb).1; omega)
      have hF0 : ∀ b, fs 0 b → b < w2.heap.size := fun b hb => (balsR.rng HO0.out b hb).2
      go_wp2
      refine wp_region_noPanic ?_
      refine region_upto (fun W => W.cell? ⟨w2.heap.size, 0, none⟩ = some (.slice (some ⟨g, 0, none⟩) n cc)) 10 (by kernel_rfl) Y5.y0 (fun hS => ?_)
      refine upto_take (i := 0) (v := ?_) rfl (by kernel_rfl) (by kernel_rfl) (by kernel_rfl) (by kernel_rfl) (fun _ _ _ h => h) (by rfl) hS ?_ ?_
      rotate_left
      · intro wS hSw
        try dsimp only at hSw
        first | (go_simp; done) | (go_simp; with_reducible rfl)
      try simp only [Act.put, List.getElem_toArray, List.getElem_cons_zero, List.getElem_cons_succ, List.setIfInBounds_toArray, List.set_cons_zero, List.set_cons_succ]
      refine upto_take (i := 1) (v := ?_) rfl (by kernel_rfl) (by kernel_rfl) (by kernel_rfl) (by kernel_rfl) (fun _ _ _ h => h) (by rfl) hS ?_ ?_
      rotate_left
      · intro wS hSw
        try dsimp only at hSw
        first | (go_simp; done) | (go_simp; with_reducible rfl)
      try simp only [Act.put, List.getElem_toArray, List.getElem_cons_zero, List.getElem_cons_succ, List.setIfInBounds_toArray, List.set_cons_zero, List.set_cons_succ]
      refine upto_take (i := 2) (v := ?_) rfl (by kernel_rfl) (by kernel_rfl) (by kernel_rfl) (by kernel_rfl) (fun _ _ _ h => h) (by rfl) hS ?_ ?_
      rotate_left
      · intro wS hSw
        try dsimp only at hSw
        first | (go_simp; done) | (go_simp; with_reducible rfl)
      try simp only [Act.put, List.getElem_toArray, List.getElem_cons_zero, List.getElem_cons_succ, List.setIfInBounds_toArray, List.set_cons_zero, List.set_cons_succ]
      refine upto_take (i := 3) (v := ?_) rfl (by kernel_rfl) (by kernel_rfl) (by kernel_rfl) (by kernel_rfl) (fun _ _ _ h => h) (by rfl) hS ?_ ?_
      rotate_left
      · intro wS hSw
        try dsimp only at hSw
        first | (go_simp; done) | (go_simp; with_reducible rfl)
      try simp only [Act.put, List.getElem_toArray, List.getElem_cons_zero, List.getElem_cons_succ, List.setIfInBounds_toArray, List.set_cons_zero, List.set_cons_succ]
      refine upto_take (i := 4) (v := ?_) rfl (by kernel_rfl) (by kernel_rfl) (by kernel_rfl) (by kernel_rfl) (fun _ _ _ h => h) (by rfl) hS ?_ ?_
      rotate_left
      · intro wS hSw
        try dsimp only at hSw
        first | (go_simp; done) | (go_simp; with_reducible rfl)
      try simp only [Act.put, List.getElem_toArray, List.getElem_cons_zero, List.getElem_cons_succ, List.setIfInBounds_toArray, List.set_cons_zero, List.set_cons_succ]
      refine upto_take (i := 5) (v := ?_) rfl (by kernel_rfl) (by kernel_rfl) (by kernel_rfl) (by kernel_rfl) (fun _ _ _ h => h) (by rfl) hS ?_ ?_
      rotate_left
      · intro wS hSw
        try dsimp only at hSw
        first | (go_simp; done) | (go_simp; with_reducible rfl)
      try simp only [Act.put, List.getElem_toArray, List.getElem_cons_zero, List.getElem_cons_succ, List.setIfInBounds_toArray, List.set_cons_zero, List.set_cons_succ]
      refine upto_step (i := 6) (by kernel_rfl) rfl ?_
      intro K hK
      go_simp
      refine hK _ _ (fun _ => hS) ?_
      clear hK K
      try simp only [Act.put, List.getElem_toArray, List.getElem_cons_zero, List.getElem_cons_succ, List.setIfInBounds_toArray, List.set_cons_zero, List.set_cons_succ]
      refine upto_step (i := 7) (by kernel_rfl) rfl ?_
      intro K hK
      go_simp
      refine hK _ _ (fun _ => cell_keep (balloc (Below.refl _ _) _) hS) ?_
      clear hK K
      try simp only [Act.put, List.getElem_toArray, List.getElem_cons_zero, List.getElem_cons_succ, List.setIfInBounds_toArray, List.set_cons_zero, List.set_cons_succ]
      refine upto_step (i := 8) (by kernel_rfl) rfl ?_
      intro K hK
      refine step_app10B _ rfl _ _ rfl (w.heap.size + 1) _ xs rfl _ [⟨z0, z1, z2⟩] rfl ?o1 ?s1 (by rw [HMX.out]; simp; omega) (by simp; omega) ?_
      case o1 => exact (balsR.keep HO5.out (by (repeat (first | exact Below.refl _ _ | assumption | refine Below.drew ?_ | refine balloc ?_ _ | refine bset ?_ (by simp; omega) _ | refine bset ?_ (by simp) _ | refine bstep ?_ (by assumption))))).1
      case s1 => exact appAny_bal (l := ⟨z0, z1, z2⟩) (by simp [go_sem]) (by simp [go_sem]) (by simp [go_sem])
      intro v8 w8 o8 g8 b8
      have hm8 : Mod (fs 0) w5 w8 := (Mod.of_below (F := fs 0) (by (repeat (first | exact Below.refl _ _ | assumption | refine Below.drew ?_ | refine balloc ?_ _ | refine bset ?_ (by simp; omega) _ | refine bset ?_ (by simp) _ | refine bstep ?_ (by assumption))))).trans ((Mod.of_grown g8).mono (fun b e => by rw [HO5.out.2]; exact e))
      obtain ⟨p8, q8, e8, R8⟩ := rowI_of (W := w8) (N := w.heap.size + 1) (v := v8) (xs := xs ++ [⟨z0, z1, z2⟩]) (F := fun b => v8.ownBlock = some b) ⟨o8, rfl⟩
      rw [List.length_append, HMX.out] at e8 R8
      subst e8
      have Y8 := Y5.mod hm8 hlt (fun b e => .inr ⟨by have := (balsR.rng HO0.out b e).1; omega, by have := hF0 b e; omega⟩)
      have q8' : w8.cell? ⟨g, 0, none⟩ = some (.slice (some ⟨b0, o0, none⟩) m c0) := hm8.cell q5 (fun e => HP5.out.out 0 (by omega) g e rfl)
      have f8 : ∀ o, w8.frozen? ⟨g, o, none⟩ = false := fun o => (World.frozen?_of_block (hm8.block g (by omega) (fun e => HP5.out.out 0 (by omega) g e rfl))).trans (hfg o)
      have h8 : Src B w8 bs a k cap (t2 + 1 + 1) := h5.mod hm8 (fun b e => by have := (balsR.rng HO0.out b e).1; omega)
      have L9 := ledI_first HP5.out hn0 (fun k hk => HG.out k hk) hm8 R8 (by simp; omega)
      refine hK _ _ (fun _ => Y8.y0) ?_
      have hS8 := Y8.y0
      clear hK K hS o8 g8 b8
      try simp only [Act.put, List.getElem_toArray, List.getElem_cons_zero, List.getElem_cons_succ, List.setIfInBounds_toArray, List.set_cons_zero, List.set_cons_succ]
      refine upto_take (i := 9) (v := ?_) rfl (by kernel_rfl) (by kernel_rfl) (by kernel_rfl) (by kernel_rfl) (fun _ _ _ h => h) (by rfl) hS8 ?_ ?_
      rotate_left
      · intro wS hSw
        try dsimp only at hSw
        first | (go_simp; done) | (go_simp; with_reducible rfl)
      try simp only [Act.put, List.getElem_toArray, List.getElem_cons_zero, List.getElem_cons_succ, List.setIfInBounds_toArray, List.set_cons_zero, List.set_cons_succ]
      refine upto_step (i := 10) (by kernel_rfl) rfl ?_
      intro K hK
      go_simp
      refine hK _ _ (fun h => absurd rfl h) ?_
      clear hK K
      refine upto_done (by kernel_rfl) ?_
      refine NoPanic.normal ?_
      have hmG := Mod.of_set w8 ⟨g, 0, none⟩ (.slice p8 (m + 1) q8)
      dsimp only at hmG
      have Y9 := Y8.mod hmG hlt (fun b e => .inr (by omega))
      have h9 := h8.mod hmG (fun b e => by omega)
      obtain ⟨o1, o2, o3, o4⟩ := Y9.out hlt L9 h9 ((show Fz w8 (some ⟨g, 0, none⟩) from fun b o e j => by
        simp only [Option.some.injEq, Addr.mk.injEq, and_true] at e
        obtain ⟨rfl, rfl⟩ := e
        exact f8 j).set _ _)
      obtain ⟨r6, y6, rf6, yf6, lo6, sz6, md6, yl6⟩ := Y9
      clear hmG Y8 h8 h5 Y5 HL5 HP5 HO5
      go_wp2
      refine bodyPost_ret (v := .agg #[.slice (some ⟨g, 0, none⟩) n cc]) (by simp [results, Try.results37, go_sem, r6, rf6, y6, yf6, zn, zr]) rfl ?_
      exact ⟨_, n, _, _, rfl, o1, by omega, o2, by omega, o3, o4⟩
    by_cases j4 : j = 4
    · subst j4
      have Y7 := Y5.put hlt (.slice none 0 0)
      have h7 := h5.mod (Mod.of_set w5 ⟨w2.heap.size, 0, none⟩ (.slice none 0 0)) (fun b e => by dsimp only at e; omega)
      obtain ⟨o1, o2, o3, o4⟩ := Y7.out hlt (ledI_nil _ _) h7 (fun b o e => by cases e)
      obtain ⟨r6, y6, rf6, yf6, lo6, sz6, md6, yl6⟩ := Y5
      go_wp2
      refine bodyPost_ret (v := .agg #[.slice none 0 0]) (by simp [results, Try.results37, go_sem, r6, rf6, y6, yf6, zn, zr]) rfl ?_
      exact ⟨_, 0, _, _, rfl, o1, by omega, o2, by omega, o3, o4⟩
    by_cases j5 : j = 5
    · subst j5
      obtain ⟨r5, y5, rf5, yf5, lo5, sz5, md5, yl5⟩ := id Y5
      obtain ⟨i0, hi9, hz0, hz1, hz2⟩ := info_parts infoBalss
      go_wp2_with (at_builtin; refine wpList_appAny _ rfl _ _ 24 rfl (w.heap.size + 1) 67 i0 _ 1 24 Try.underlying24 hi9 hz0 hz1 hz2 rfl (by decide) (.slice (some ⟨g, 0, none⟩) n cc) n cs rfl _ 3 [.slice none 0 0, .slice none 0 0, .slice none 0 0] rfl ?o1 ?s1 rfl ?c1 (by unfold maxLen; omega) (by omega) (by simp; omega) ?_)
      case o1 => exact owns_below HP5.out.row (by (repeat (first | exact Below.refl _ _ | assumption | refine Below.drew ?_ | refine balloc ?_ _ | refine bset ?_ (by simp; omega) _ | refine bset ?_ (by simp) _ | refine bstep ?_ (by assumption))))
      case s1 =>
        refine .inr ⟨_, _, rfl, fun j x hj => ?_⟩
        match j, hj with
        | 0, hj => simp at hj; subst hj; simp [Addr.add, go_sem]
        | 1, hj => simp at hj; subst hj; simp [Addr.add, go_sem]
        | 2, hj => simp at hj; subst hj; simp [Addr.add, go_sem]
        | j + 3, hj => simp at hj
      case c1 =>
        intro u hu
        simp only [List.mem_cons, List.not_mem_nil, or_false] at hu
        rcases hu with rfl | rfl | rfl <;> rfl
      intro v8 w8 o8 g8 b8
      have hm8 : Mod (fun b => (Value.slice (some ⟨g, 0, none⟩) n cc).ownBlock = some b) w5 w8 := (Mod.of_below (by (repeat (first | exact Below.refl _ _ | assumption | refine Below.drew ?_ | refine balloc ?_ _ | refine bset ?_ (by simp; omega) _ | refine bset ?_ (by simp) _ | refine bstep ?_ (by assumption))))).trans (Mod.of_grown g8)
      have hbg : ∀ b, (Value.slice (some ⟨g, 0, none⟩) n cc).ownBlock = some b → b = g := fun b e => by simp [Value.ownBlock] at e; omega
      have Y8 := Y5.mod hm8 hlt (fun b e => .inr (by have := hbg b e; omega))
      obtain ⟨p8, q8, rfl, L9⟩ := ledI_more HP5.out (fun k hk => HG.out k hk) hm8 o8 Y8.y0 Y8.y1
      have h8 : Src B w8 bs a k cap (t2 + 1 + 1) := h5.mod hm8 (fun b e => by have := hbg b e; omega)
      have Y9 := Y8.put hlt (.slice p8 (n + 3) q8)
      have hmG := Mod.of_set w8 ⟨w2.heap.size, 0, none⟩ (.slice p8 (n + 3) q8)
      dsimp only at hmG
      have h9 := h8.mod hmG (fun b e => by omega)
      obtain ⟨o1, o2, o3, o4⟩ := Y9.out hlt L9 h9 ((fz_owns o8).set _ _)
      obtain ⟨r6, y6, rf6, yf6, lo6, sz6, md6, yl6⟩ := Y8
      clear hmG hm8 o8 g8 b8 Y9 h8 h5 Y5 HL5 HP5
      go_wp2
      refine bodyPost_ret (v := .agg #[.slice p8 (n + 3) q8]) (by simp [results, Try.results37, go_sem, r6, rf6, y6, yf6, zn, zr]) rfl ?_
      exact ⟨_, n + 3, _, _, rfl, o1, by omega, o2, by omega, o3, o4⟩
    by_cases j6 : j = 6
    · subst j6
      have hmk := make19
      go_wp2
      refine wp_region_noPanic ?_
      refine region_upto (fun W => W.cell? ⟨w2.heap.size, 0, none⟩ = some (.slice (some ⟨g, 0, none⟩) n cc)) 4 (by kernel_rfl) Y5.y0 (fun hS => ?_)
      refine upto_take (i := 0) (v := ?_) rfl (by kernel_rfl) (by kernel_rfl) (by kernel_rfl) (by kernel_rfl) (fun _ _ _ h => h) (by rfl) hS ?_ ?_
      rotate_left
      · intro wS hSw
        try dsimp only at hSw
        first | (go_simp; done) | (go_simp; with_reducible rfl)
      try simp only [Act.put, List.getElem_toArray, List.getElem_cons_zero, List.getElem_cons_succ, List.setIfInBounds_toArray, List.set_cons_zero, List.set_cons_succ]
      refine upto_take (i := 1) (v := ?_) rfl (by kernel_rfl) (by kernel_rfl) (by kernel_rfl) (by kernel_rfl) (fun _ _ _ h => h) (by rfl) hS ?_ ?_
      rotate_left
      · intro wS hSw
        try dsimp only at hSw
        first | (go_simp; done) | (go_simp; with_reducible rfl)
      try simp only [Act.put, List.getElem_toArray, List.getElem_cons_zero, List.getElem_cons_succ, List.setIfInBounds_toArray, List.set_cons_zero, List.set_cons_succ]
      refine upto_step (i := 2) (by kernel_rfl) rfl ?_
      intro K hK
      go_simp
      refine hK _ _ (fun _ => cell_keep (balloc (Below.refl _ _) _) hS) ?_
      clear hK K
      try simp only [Act.put, List.getElem_toArray, List.getElem_cons_zero, List.getElem_cons_succ, List.setIfInBounds_toArray, List.set_cons_zero, List.set_cons_succ]
      have q6 : (w5.drew.alloc (.cells (.replicate 57 (.int .i64 0)) 80)).cell? ⟨g, 0, none⟩ = some (.slice (some ⟨b0, o0, none⟩) m c0) := cell_keep (by (repeat (first | exact Below.refl _ _ | assumption | refine Below.drew ?_ | refine balloc ?_ _ | refine bset ?_ (by simp; omega) _ | refine bset ?_ (by simp) _ | refine bstep ?_ (by assumption)))) q5
      have hS8 := (Y5.below (W' := w5.drew.alloc (.cells (.replicate 57 (.int .i64 0)) 80)) hlt (by (repeat (first | exact Below.refl _ _ | assumption | refine Below.drew ?_ | refine balloc ?_ _ | refine bset ?_ (by simp; omega) _ | refine bset ?_ (by simp) _ | refine bstep ?_ (by assumption))))).y0
      refine upto_take (i := 3) (v := ?_) rfl (by kernel_rfl) (by kernel_rfl) (by kernel_rfl) (by kernel_rfl) (fun _ _ _ h => h) (by rfl) hS8 ?_ ?_
      rotate_left
      · intro wS hSw
        try dsimp only at hSw
        first | (go_simp; done) | (go_simp; with_reducible rfl)
      try simp only [Act.put, List.getElem_toArray, List.getElem_cons_zero, List.getElem_cons_succ, List.setIfInBounds_toArray, List.set_cons_zero, List.set_cons_succ]
      refine upto_step (i := 4) (by kernel_rfl) rfl ?_
      intro K hK
      go_simp
      refine hK _ _ (fun h => absurd rfl h) ?_
      clear hK K
      refine upto_done (by kernel_rfl) ?_
      refine NoPanic.normal ?_
      have L9 : LedI ((w5.drew.alloc (.cells (.replicate 57 (.int .i64 0)) 80)).setCell ⟨g, 0, none⟩ (.slice (some ⟨w5.heap.size, 0, none⟩) 19 19)) (w.heap.size + 1) (some ⟨g, 0, none⟩) n cc := ledI_first HP5.out hn0 (fun k hk => HG.out k hk) (W' := w5.drew.alloc (.cells (.replicate 57 (.int .i64 0)) 80)) (Mod.of_below (by (repeat (first | exact Below.refl _ _ | assumption | refine Below.drew ?_ | refine balloc ?_ _ | refine bset ?_ (by simp; omega) _ | refine bset ?_ (by simp) _ | refine bstep ?_ (by assumption))))) (row19 w5.drew (w.heap.size + 1) (by simp; omega)) (by omega)
      have hmG := (Mod.of_below (F := fun b => b = g) (show Below w5.heap.size w5 (w5.drew.alloc (.cells (.replicate 57 (.int .i64 0)) 80)) by (repeat (first | exact Below.refl _ _ | assumption | refine Below.drew ?_ | refine balloc ?_ _ | refine bset ?_ (by simp; omega) _ | refine bset ?_ (by simp) _ | refine bstep ?_ (by assumption))))).trans (Mod.of_set (w5.drew.alloc (.cells (.replicate 57 (.int .i64 0)) 80)) ⟨g, 0, none⟩ (.slice (some ⟨w5.heap.size, 0, none⟩) 19 19))
      have Y9 := Y5.mod hmG hlt (fun b e => .inr (by omega))
      have h9 := h5.mod hmG (fun b e => by omega)
      have F9 := (hFz.mod (W' := w5.drew.alloc (.cells (.replicate 57 (.int .i64 0)) 80)) (Mod.of_below (F := fun _ => False) (by (repeat (first | exact Below.refl _ _ | assumption | refine Below.drew ?_ | refine balloc ?_ _ | refine bset ?_ (by simp; omega) _ | refine bset ?_ (by simp) _ | refine bstep ?_ (by assumption))))) hzg (fun e => e)).set ⟨g, 0, none⟩ (.slice (some ⟨w5.heap.size, 0, none⟩) 19 19)
      have hWe : (w5.drew.alloc (.cells (.replicate 57 (.int .i64 0)) 80)).setCell ⟨g, 0, none⟩ (.slice (some ⟨w5.heap.size, 0, none⟩) 19 19) = ((w5.setCell ⟨g, 0, none⟩ (.slice (some ⟨w5.heap.size, 0, none⟩) 19 19)).alloc (.cells (.replicate 57 (.int .i64 0)) 80)).drew := by simp [go_sem, hzg]
      clear hmG h5 Y5 HL5 HP5 hS hS8 q6
      rw [hWe] at Y9 L9 h9 F9
      clear hWe
      generalize ((w5.setCell ⟨g, 0, none⟩ (.slice (some ⟨w5.heap.size, 0, none⟩) 19 19)).alloc (.cells (.replicate 57 (.int .i64 0)) 80)).drew = w9 at *
      obtain ⟨o1, o2, o3, o4⟩ := Y9.out hlt L9 h9 F9
      obtain ⟨r6, y6, rf6, yf6, lo6, sz6, md6, yl6⟩ := Y9
      go_wp2
      refine bodyPost_ret (v := .agg #[.slice (some ⟨g, 0, none⟩) n cc]) (by simp [results, Try.results37, go_sem, r6, rf6, y6, yf6, zn, zr]) rfl ?_
      exact ⟨_, n, _, _, rfl, o1, by omega, o2, by omega, o3, o4⟩
    have hj7 : 7 ≤ j := by omega
    have j0' : ¬ (j : Int) = 0 := by omega
    have j1' : ¬ (j : Int) = 1 := by omega
    have j2' : ¬ (j : Int) = 2 := by omega
    have j3' : ¬ (j : Int) = 3 := by omega
    have j4' : ¬ (j : Int) = 4 := by omega
    have j5' : ¬ (j : Int) = 5 := by omega
    have j6' : ¬ (j : Int) = 6 := by omega
    obtain ⟨o1, o2, o3, o4⟩ := Y5.out hlt HL5.out h5 hFz
    obtain ⟨r6, y6, rf6, yf6, lo6, sz6, md6, yl6⟩ := Y5
    go_wp2
    refine bodyPost_ret (v := .agg #[.slice (some ⟨g, 0, none⟩) n cc]) (by simp [results, Try.results37, go_sem, r6, rf6, y6, yf6, zn, zr]) rfl ?_
    exact ⟨_, n, _, _, rfl, o1, by omega, o2, by omega, o3, o4⟩
end Go.Proofs.Ytgjpafalompecaa


import Derived.Test.YtjemciikdijokaaPrnOpenSessionLaw1
import Derived.Test.YtjemciikdijokaaPrnOpenSessionLaw2
import Derived.Test.YtjemciikdijokaaPrnOpenSessionLaw6
import Derived.Deep.RegionHeld3
import Derived.Deep.DrawnRows
import Derived.Test.YtjemciikdijokaaPrnOpenSessionLaw4
import Derived.Test.YtjemciikdijokaaPrnOpenSessionLaw5
import Derived.Test.YtjemciikdijokaaPrnOpenSessionLaw7
import Derived.Test.YtjemciikdijokaaPrnOpenSessionLaw8
import Derived.Test.YtjemciikdijokaaPrnOpenSessionLaw3

/-
  Slices of Message: the law's own copy, comparison, count, marks. (Written by program after my texts on legs.)
-/
set_option linter.unusedSimpArgs false
namespace Go.Proofs.Ytjemciikdijokaa
open Go.RowKit
set_option linter.unusedSectionVars false
variable [DecidableEq Vot] [Inhabited Vot]
attribute [local go_sem ↓] Go.wp_at_zero Go.wp_at_succ

structure Msg where
  kind : Int
  to : Int
  frm : Int
  con : Int
  sh : Int
  bal : Int
  val : Int
  ob : Int
  ov : Int
variable [DecidableEq Msg] [Inhabited Msg]

def msgV (x : Msg) : Value := .agg #[.int .i64 x.kind, .int .i64 x.to, .int .i64 x.frm, .int .i64 x.con, .int .i64 x.sh, .int .i64 x.bal, .int .i64 x.val, .int .i64 x.ob, .int .i64 x.ov]
set_option maxHeartbeats 2000000 in
theorem eqMessage_any (x y : Msg) (w : World) :
    Calls Try.prog 69 #[msgV x, msgV y] w fun e w' => e = .returned (.bool (decide (x = y))) ∧ Below w.heap.size w w' := by
  obtain ⟨a, b, c, d, e, f, g, h, i⟩ := x
  obtain ⟨a', b', c', d', e', f', g', h', i'⟩ := y
  unfold msgV
  go_enter Try.func69, Try.ntmps69
  go_wp2_with fail
  all_goals try (go_ret; exact ⟨by first | (simp_all; done) | (simp_all; intros; exfalso; omega), by (repeat (first | exact Below.refl _ _ | assumption | refine Below.drew ?_ | refine balloc ?_ _ | refine bset ?_ (by simp; omega) _ | refine bset ?_ (by simp) _ | refine bstep ?_ (by assumption)))⟩)
  refine (eqVote_any ⟨h, i⟩ ⟨h', i'⟩ _).mono ?_
  rintro e w0 ⟨rfl, b0⟩
  by_cases he : (⟨h, i⟩ : Vot) = ⟨h', i'⟩
  · have he' := he
    simp only [Vot.mk.injEq] at he'
    obtain ⟨rfl, rfl⟩ := he'
    go_wp2
    all_goals
      go_ret
      exact ⟨by simp_all, by (repeat (first | exact Below.refl _ _ | assumption | refine Below.drew ?_ | refine balloc ?_ _ | refine bset ?_ (by simp; omega) _ | refine bset ?_ (by simp) _ | refine bstep ?_ (by assumption)))⟩
  · have hne : ¬ (⟨a, b, c, d, e, f, g, h, i⟩ : Msg) = ⟨a', b', c', d', e', f', g', h', i'⟩ := fun h => he (by simp only [Msg.mk.injEq] at h; simp only [Vot.mk.injEq]; exact ⟨h.2.2.2.2.2.2.2.1, h.2.2.2.2.2.2.2.2⟩)
    simp only [he, decide_false]
    go_wp2
    all_goals
      go_ret
      exact ⟨by rw [decide_eq_false hne]; rfl, by (repeat (first | exact Below.refl _ _ | assumption | refine Below.drew ?_ | refine balloc ?_ _ | refine bset ?_ (by simp; omega) _ | refine bset ?_ (by simp) _ | refine bstep ?_ (by assumption)))⟩
def msgCells (w : World) (b o : Nat) (x : Msg) : Prop := w.cell? ⟨b, o, none⟩ = some (.int .i64 x.kind) ∧ w.cell? ⟨b, o + 1, none⟩ = some (.int .i64 x.to) ∧ w.cell? ⟨b, o + 2, none⟩ = some (.int .i64 x.frm) ∧ w.cell? ⟨b, o + 3, none⟩ = some (.int .i64 x.con) ∧ w.cell? ⟨b, o + 4, none⟩ = some (.int .i64 x.sh) ∧ w.cell? ⟨b, o + 5, none⟩ = some (.int .i64 x.bal) ∧ w.cell? ⟨b, o + 6, none⟩ = some (.int .i64 x.val) ∧ w.cell? ⟨b, o + 7, none⟩ = some (.int .i64 x.ob) ∧ w.cell? ⟨b, o + 8, none⟩ = some (.int .i64 x.ov)
def MsgsV (w : World) (v : Value) (xs : List Msg) : Prop :=
  ∃ a cap, v = .slice a xs.length cap ∧ xs.length ≤ cap ∧ cap ≤ maxLen ∧ ∀ i, i < xs.length → ∃ b o, a = some ⟨b, o, none⟩ ∧ msgCells w b (o + i * 9) (xs.getD i default)
theorem msgCells_below {w w' : World} {b o : Nat} {x : Msg} (hb : Below w.heap.size w w') (h : msgCells w b o x) : msgCells w' b o x := by
  obtain ⟨h0, h1, h2, h3, h4, h5, h6, h7, h8⟩ := h
  exact ⟨cell_keep hb h0, cell_keep hb h1, cell_keep hb h2, cell_keep hb h3, cell_keep hb h4, cell_keep hb h5, cell_keep hb h6, cell_keep hb h7, cell_keep hb h8⟩
theorem MsgsV_below {w w' : World} {v : Value} {xs : List Msg} (h : MsgsV w v xs) (hb : Below w.heap.size w w') : MsgsV w' v xs := by
  obtain ⟨a, cap, rfl, h1, h2, h3⟩ := h
  exact ⟨a, cap, rfl, h1, h2, fun i hi => by
    obtain ⟨b, o, ha, hc⟩ := h3 i hi
    exact ⟨b, o, ha, msgCells_below hb hc⟩⟩
theorem msgKeep2 {w w' : World} {b o b' o' : Nat} {x y : Msg} (hb : Below w.heap.size w w') (h : msgCells w b o x) (h' : msgCells w b' o' y) :
    Below w.heap.size w w' ∧ (w'.cell? ⟨b, o, none⟩ = some (.int .i64 x.kind) ∧ w'.cell? ⟨b, o + 1, none⟩ = some (.int .i64 x.to) ∧ w'.cell? ⟨b, o + 2, none⟩ = some (.int .i64 x.frm) ∧ w'.cell? ⟨b, o + 3, none⟩ = some (.int .i64 x.con) ∧ w'.cell? ⟨b, o + 4, none⟩ = some (.int .i64 x.sh) ∧ w'.cell? ⟨b, o + 5, none⟩ = some (.int .i64 x.bal) ∧ w'.cell? ⟨b, o + 6, none⟩ = some (.int .i64 x.val) ∧ w'.cell? ⟨b, o + 7, none⟩ = some (.int .i64 x.ob) ∧ w'.cell? ⟨b, o + 8, none⟩ = some (.int .i64 x.ov)) ∧ (w'.cell? ⟨b', o', none⟩ = some (.int .i64 y.kind) ∧ w'.cell? ⟨b', o' + 1, none⟩ = some (.int .i64 y.to) ∧ w'.cell? ⟨b', o' + 2, none⟩ = some (.int .i64 y.frm) ∧ w'.cell? ⟨b', o' + 3, none⟩ = some (.int .i64 y.con) ∧ w'.cell? ⟨b', o' + 4, none⟩ = some (.int .i64 y.sh) ∧ w'.cell? ⟨b', o' + 5, none⟩ = some (.int .i64 y.bal) ∧ w'.cell? ⟨b', o' + 6, none⟩ = some (.int .i64 y.val) ∧ w'.cell? ⟨b', o' + 7, none⟩ = some (.int .i64 y.ob) ∧ w'.cell? ⟨b', o' + 8, none⟩ = some (.int .i64 y.ov)) :=
  ⟨hb, msgCells_below hb h, msgCells_below hb h'⟩
theorem msgs_eq_of {xs ys : List Msg} (hl : ys.length = xs.length) (h : ∀ j, j < xs.length → xs.getD j default = ys.getD j default) : xs = ys := by
  apply List.ext_getElem (by omega)
  intro i h1 h2
  have := h i h1
  simpa [List.getD, h1, h2] using this
set_option maxHeartbeats 1000000 in
theorem eqMessageS_any (x y : Value) (xs ys : List Msg) (w : World) (hx : MsgsV w x xs) (hy : MsgsV w y ys) :
    Calls Try.prog 51 #[x, y] w fun e w' => e = .returned (.bool (decide (xs = ys))) ∧ Below w.heap.size w w' := by
  obtain ⟨ax, cx, rfl, hcx, hmx, hx⟩ := hx
  obtain ⟨ay, cy, rfl, hcy, hmy, hy⟩ := hy
  unfold maxLen at hmx hmy
  by_cases hl : ys.length = xs.length
  · rw [hl] at hcy hy ⊢
    have HL : Hid (ys.length = xs.length) := hl
    clear hl
    generalize hn : xs.length = n at *
    have HN : Hid (xs.length = n) := hn
    clear hn
    go_enter Try.func51, Try.ntmps51
    go_wp2
    go_loopw [5] (fun i w' => ∃ k : Nat, k ≤ n ∧ i = .int .i64 k ∧ (∀ j, j < k → xs.getD j default = ys.getD j default) ∧ Below w.heap.size w w') (fun i _ => n - (intOf i).toNat)
    case atStart => exact ⟨0, Nat.zero_le _, rfl, fun j h => absurd h (Nat.not_lt_zero _), Below.refl _ _⟩
    case round =>
      obtain ⟨k, hk, rfl, hpre, hbl⟩ := hrel
      have HP : Hid (∀ j, j < k → xs.getD j default = ys.getD j default) := hpre
      clear hpre
      by_cases hlt : k < n
      · obtain ⟨bx, ox, rfl, h1⟩ := hx k hlt
        obtain ⟨b2, oy, rfl, h2⟩ := hy k hlt
        obtain ⟨l1, hl1⟩ : ∃ l, l = xs.getD k default := ⟨_, rfl⟩
        obtain ⟨l2, hl2⟩ : ∃ l, l = ys.getD k default := ⟨_, rfl⟩
        rw [← hl1] at h1
        rw [← hl2] at h2
        have H1 : Hid (l1 = xs.getD k default) := hl1
        have H2 : Hid (l2 = ys.getD k default) := hl2
        clear hl1 hl2 hx hy
        go_wp2
        go_region_held3 (fun w' => Below w.heap.size w w' ∧ (w'.cell? ⟨bx, ox + k * 9, none⟩ = some (.int .i64 l1.kind) ∧ w'.cell? ⟨bx, ox + k * 9 + 1, none⟩ = some (.int .i64 l1.to) ∧ w'.cell? ⟨bx, ox + k * 9 + 2, none⟩ = some (.int .i64 l1.frm) ∧ w'.cell? ⟨bx, ox + k * 9 + 3, none⟩ = some (.int .i64 l1.con) ∧ w'.cell? ⟨bx, ox + k * 9 + 4, none⟩ = some (.int .i64 l1.sh) ∧ w'.cell? ⟨bx, ox + k * 9 + 5, none⟩ = some (.int .i64 l1.bal) ∧ w'.cell? ⟨bx, ox + k * 9 + 6, none⟩ = some (.int .i64 l1.val) ∧ w'.cell? ⟨bx, ox + k * 9 + 7, none⟩ = some (.int .i64 l1.ob) ∧ w'.cell? ⟨bx, ox + k * 9 + 8, none⟩ = some (.int .i64 l1.ov)) ∧ (w'.cell? ⟨b2, oy + k * 9, none⟩ = some (.int .i64 l2.kind) ∧ w'.cell? ⟨b2, oy + k * 9 + 1, none⟩ = some (.int .i64 l2.to) ∧ w'.cell? ⟨b2, oy + k * 9 + 2, none⟩ = some (.int .i64 l2.frm) ∧ w'.cell? ⟨b2, oy + k * 9 + 3, none⟩ = some (.int .i64 l2.con) ∧ w'.cell? ⟨b2, oy + k * 9 + 4, none⟩ = some (.int .i64 l2.sh) ∧ w'.cell? ⟨b2, oy + k * 9 + 5, none⟩ = some (.int .i64 l2.bal) ∧ w'.cell? ⟨b2, oy + k * 9 + 6, none⟩ = some (.int .i64 l2.val) ∧ w'.cell? ⟨b2, oy + k * 9 + 7, none⟩ = some (.int .i64 l2.ob) ∧ w'.cell? ⟨b2, oy + k * 9 + 8, none⟩ = some (.int .i64 l2.ov))) ((refine msgKeep2 ?_ h1 h2; repeat (first | exact Below.refl _ _ | assumption | refine Below.drew ?_ | refine balloc ?_ _ | refine bstep ?_ (by assumption)))) (first | (go_at_call 69; refine (eqMessage_any l1 l2 _).mono ?_; rintro e w' ⟨rfl, hb1⟩))
        rename_i hH
        have hB := hH.1
        clear hH
        go_wp2
        · rename_i hle
          go_ret
          refine ⟨?_, hB⟩
          have : ¬ xs = ys := fun h => by
            have : l1 = l2 := by rw [H1.out, H2.out, h]
            simp [this] at hle
          simp [this]
        · rename_i hle
          refine ⟨⟨k + 1, by omega, by go_num, fun j hj => ?_, hB⟩, by simp [intOf]; omega⟩
          by_cases hjk : j < k
          · exact HP.out j hjk
          · have : j = k := by omega
            subst this
            rw [← H1.out, ← H2.out]
            simpa using hle
      · go_wp2
        go_ret
        have : k = n := by omega
        subst this
        refine ⟨?_, hbl⟩
        have : xs = ys := msgs_eq_of (by rw [HL.out, HN.out]) (by rw [HN.out]; exact HP.out)
        simp [this]
  · go_enter Try.func51, Try.ntmps51
    have hl' : ((xs.length : Int) == (ys.length : Int)) = false := by simp; omega
    go_wp2
    go_ret
    have : ¬ xs = ys := fun h => hl (by rw [h])
    exact ⟨by simp [this], Below.refl _ _⟩
def msgC (x : Msg) : List Value := [.int .i64 x.kind, .int .i64 x.to, .int .i64 x.frm, .int .i64 x.con, .int .i64 x.sh, .int .i64 x.bal, .int .i64 x.val, .int .i64 x.ob, .int .i64 x.ov]
def msgsC (xs : List Msg) : List Value := xs.flatMap msgC
theorem length_msgsC (xs : List Msg) : (msgsC xs).length = xs.length * 9 := by
  induction xs with
  | nil => rfl
  | cons x r ih =>
    have e : msgsC (x :: r) = msgC x ++ msgsC r := by simp [msgsC]
    have l4 : (msgC x).length = 9 := rfl
    rw [e, List.length_append, l4, ih, List.length_cons]
    omega
theorem get_msgsC (xs : List Msg) : ∀ i, i < xs.length → (msgsC xs)[i * 9]? = some (.int .i64 (xs.getD i default).kind) ∧ (msgsC xs)[i * 9 + 1]? = some (.int .i64 (xs.getD i default).to) ∧ (msgsC xs)[i * 9 + 2]? = some (.int .i64 (xs.getD i default).frm) ∧ (msgsC xs)[i * 9 + 3]? = some (.int .i64 (xs.getD i default).con) ∧ (msgsC xs)[i * 9 + 4]? = some (.int .i64 (xs.getD i default).sh) ∧ (msgsC xs)[i * 9 + 5]? = some (.int .i64 (xs.getD i default).bal) ∧ (msgsC xs)[i * 9 + 6]? = some (.int .i64 (xs.getD i default).val) ∧ (msgsC xs)[i * 9 + 7]? = some (.int .i64 (xs.getD i default).ob) ∧ (msgsC xs)[i * 9 + 8]? = some (.int .i64 (xs.getD i default).ov) := by
  induction xs with
  | nil => intro i h; simp at h
  | cons x r ih =>
    intro i h
    cases i with
    | zero => simp [msgsC, msgC]
    | succ i =>
      have := ih i (by simpa using h)
      have e : msgsC (x :: r) = msgC x ++ msgsC r := by simp [msgsC]
      have l4 : (msgC x).length = 9 := rfl
      rw [e]
      refine ⟨?_, ?_, ?_, ?_, ?_, ?_, ?_, ?_, ?_⟩
      all_goals rw [List.getElem?_append_right (by omega), l4]
      · rw [show (i + 1) * 9 - 9 = i * 9 by omega]; simpa using this.1
      · rw [show (i + 1) * 9 + 1 - 9 = i * 9 + 1 by omega]; simpa using this.2.1
      · rw [show (i + 1) * 9 + 2 - 9 = i * 9 + 2 by omega]; simpa using this.2.2.1
      · rw [show (i + 1) * 9 + 3 - 9 = i * 9 + 3 by omega]; simpa using this.2.2.2.1
      · rw [show (i + 1) * 9 + 4 - 9 = i * 9 + 4 by omega]; simpa using this.2.2.2.2.1
      · rw [show (i + 1) * 9 + 5 - 9 = i * 9 + 5 by omega]; simpa using this.2.2.2.2.2.1
      · rw [show (i + 1) * 9 + 6 - 9 = i * 9 + 6 by omega]; simpa using this.2.2.2.2.2.2.1
      · rw [show (i + 1) * 9 + 7 - 9 = i * 9 + 7 by omega]; simpa using this.2.2.2.2.2.2.2.1
      · rw [show (i + 1) * 9 + 8 - 9 = i * 9 + 8 by omega]; simpa using this.2.2.2.2.2.2.2.2
theorem MsgsV_of_owns {w : World} {base e : Nat} {v : Value} {xs : List Msg} (h : w.ownsRow base e 9 v xs.length (msgsC xs)) : MsgsV w v xs := by
  rcases h.2 with ⟨rfl, hn⟩ | ⟨g, cap, cur, rfl, hb, hg, hnc, hcm, hcs, htake⟩
  · exact ⟨none, 0, by rw [hn], by omega, by unfold maxLen; omega, fun i hi => by omega⟩
  · refine ⟨some ⟨g, 0, none⟩, cap, rfl, hnc, hcm, fun i hi => ⟨g, 0, rfl, ?_⟩⟩
    obtain ⟨h0, h1, h2, h3, h4, h5, h6, h7, h8⟩ := get_msgsC xs i hi
    simp only [Nat.zero_add, msgCells]
    exact ⟨(h.cellAt _ (by omega)).trans h0, (h.cellAt _ (by omega)).trans h1, (h.cellAt _ (by omega)).trans h2, (h.cellAt _ (by omega)).trans h3, (h.cellAt _ (by omega)).trans h4, (h.cellAt _ (by omega)).trans h5, (h.cellAt _ (by omega)).trans h6, (h.cellAt _ (by omega)).trans h7, (h.cellAt _ (by omega)).trans h8⟩
def msgUpto (k : Nat) (cs : List Value) (xs : List Msg) : Prop := ∀ j, j < k * 9 → cs[j]? = (msgsC xs)[j]?
theorem msgUpto_full {n : Nat} {cs : List Value} {xs : List Msg} (h : msgUpto n cs xs) (hl : cs.length = n * 9) (hn : xs.length = n) : cs = msgsC xs := by
  apply List.ext_getElem?
  intro j
  by_cases hj : j < n * 9
  · exact h j hj
  · rw [List.getElem?_eq_none (by omega), List.getElem?_eq_none (by rw [length_msgsC]; omega)]
theorem msgUpto_set {k : Nat} {cs : List Value} {xs : List Msg} {x : Msg} (h : msgUpto k cs xs) (hk : k < xs.length) (hl : cs.length = xs.length * 9) (he : x = xs.getD k default) :
    msgUpto (k + 1) (((((((((cs.set (k * 9) (.int .i64 x.kind)).set (k * 9 + 1) (.int .i64 x.to)).set (k * 9 + 2) (.int .i64 x.frm)).set (k * 9 + 3) (.int .i64 x.con)).set (k * 9 + 4) (.int .i64 x.sh)).set (k * 9 + 5) (.int .i64 x.bal)).set (k * 9 + 6) (.int .i64 x.val)).set (k * 9 + 7) (.int .i64 x.ob)).set (k * 9 + 8) (.int .i64 x.ov)) xs := by
  intro j hj
  obtain ⟨h0, h1, h2, h3, h4, h5, h6, h7, h8⟩ := get_msgsC xs k hk
  subst he
  simp only [List.getElem?_set, List.length_set]
  by_cases e8 : k * 9 + 8 = j
  · subst e8; simp [h8]; omega
  by_cases e7 : k * 9 + 7 = j
  · subst e7; simp [h7]; omega
  by_cases e6 : k * 9 + 6 = j
  · subst e6; simp [h6]; omega
  by_cases e5 : k * 9 + 5 = j
  · subst e5; simp [h5]; omega
  by_cases e4 : k * 9 + 4 = j
  · subst e4; simp [h4]; omega
  by_cases e3 : k * 9 + 3 = j
  · subst e3; simp [h3]; omega
  by_cases e2 : k * 9 + 2 = j
  · subst e2; simp [h2]; omega
  by_cases e1 : k * 9 + 1 = j
  · subst e1; simp [h1]; omega
  by_cases e0 : k * 9 = j
  · subst e0; simp [h0]; omega
  simp [e0, e1, e2, e3, e4, e5, e6, e7, e8]
  exact h j (by omega)
def msgMark (k : Int) (i : Nat) : Msg := ⟨k + 9 * i, k + 9 * i + 1, k + 9 * i + 1 + 1, k + 9 * i + 1 + 1 + 1, k + 9 * i + 1 + 1 + 1 + 1, k + 9 * i + 1 + 1 + 1 + 1 + 1, k + 9 * i + 1 + 1 + 1 + 1 + 1 + 1, k + 9 * i + 1 + 1 + 1 + 1 + 1 + 1 + 1, k + 9 * i + 1 + 1 + 1 + 1 + 1 + 1 + 1 + 1⟩
def msgMarks (k : Int) (n : Nat) : List Msg := (List.range n).map (msgMark k)
theorem length_msgMarks (k : Int) (n : Nat) : (msgMarks k n).length = n := by simp [msgMarks]
theorem getD_msgMarks (k : Int) (n i : Nat) (h : i < n) : (msgMarks k n).getD i default = msgMark k i := by simp [msgMarks, List.getD, h]
set_option maxRecDepth 20000 in
set_option maxHeartbeats 1000000 in
theorem markMessageS_any (v : Value) (n : Nat) (cs : List Value) (base e : Nat) (k : Int) (w : World) (ho : w.ownsRow base e 9 v n cs) (hn : n ≤ 1048576) (hk0 : 0 ≤ k) (hk1 : k ≤ 1073741824) :
    Calls Try.prog 56 #[v, .int .i64 k] w fun r w' => r = .returned (.int .i64 (k + 9 * n)) ∧ w'.ownsRow base e 9 v n (msgsC (msgMarks k n)) ∧ w.grownBy w' v.ownBlock := by
  rcases ho.2 with ⟨rfl, rfl⟩ | ⟨g, cap, cur, rfl, hb, hg, hnc, hcm, _, _⟩
  · go_enter Try.func56, Try.ntmps56
    go_wp2
    go_loopw [1, 5] (fun q i w' => q = .int .i64 k ∧ i = .int .i64 0 ∧ w' = w) (fun _ _ _ => 0)
    case atStart => exact ⟨rfl, rfl, rfl⟩
    case round =>
      obtain ⟨rfl, rfl, rfl⟩ := hrel
      go_wp2
      go_ret
      exact ⟨by simp, World.ownsRow_nil _ _ _ _, ⟨rfl, rfl, rfl, Nat.le_refl _, fun _ _ _ => rfl⟩⟩
  · unfold maxLen at hcm
    go_enter Try.func56, Try.ntmps56
    go_wp2
    go_loopw [1, 5] (fun q i w' => ∃ (j : Nat) (cs' : List Value), j ≤ n ∧ i = .int .i64 j ∧ q = .int .i64 (k + 9 * j) ∧ w'.ownsRow base e 9 (.slice (some ⟨g, 0, none⟩) n cap) n cs' ∧ msgUpto j cs' (msgMarks k n) ∧ w.grownBy w' (some g)) (fun _ i _ => n - (intOf i).toNat)
    case atStart => exact ⟨0, cs, Nat.zero_le _, rfl, by simp, ho, fun j h => by omega, ⟨rfl, rfl, rfl, Nat.le_refl _, fun _ _ _ => rfl⟩⟩
    case round =>
      obtain ⟨j, cs', hj, rfl, rfl, ho1, hup, hgr⟩ := hrel
      have HU : Hid (msgUpto j cs' (msgMarks k n)) := hup
      clear hup ho hg
      by_cases hlt : j < n
      · obtain ⟨u0, g0⟩ := owns_some ho1 (j * 9) (by omega)
        obtain ⟨u1, g1⟩ := owns_some ho1 (j * 9 + 1) (by omega)
        obtain ⟨u2, g2⟩ := owns_some ho1 (j * 9 + 2) (by omega)
        obtain ⟨u3, g3⟩ := owns_some ho1 (j * 9 + 3) (by omega)
        obtain ⟨u4, g4⟩ := owns_some ho1 (j * 9 + 4) (by omega)
        obtain ⟨u5, g5⟩ := owns_some ho1 (j * 9 + 5) (by omega)
        obtain ⟨u6, g6⟩ := owns_some ho1 (j * 9 + 6) (by omega)
        obtain ⟨u7, g7⟩ := owns_some ho1 (j * 9 + 7) (by omega)
        obtain ⟨u8, g8⟩ := owns_some ho1 (j * 9 + 8) (by omega)
        have hf := fun j => ho1.frozenAt j
        go_wp2
        have s0 := ho1.stored (j * 9) (.int .i64 (k + 9 * j))
        have s1 := s0.1.stored (j * 9 + 1) (.int .i64 (k + 9 * j + 1))
        have s2 := s1.1.stored (j * 9 + 2) (.int .i64 (k + 9 * j + 1 + 1))
        have s3 := s2.1.stored (j * 9 + 3) (.int .i64 (k + 9 * j + 1 + 1 + 1))
        have s4 := s3.1.stored (j * 9 + 4) (.int .i64 (k + 9 * j + 1 + 1 + 1 + 1))
        have s5 := s4.1.stored (j * 9 + 5) (.int .i64 (k + 9 * j + 1 + 1 + 1 + 1 + 1))
        have s6 := s5.1.stored (j * 9 + 6) (.int .i64 (k + 9 * j + 1 + 1 + 1 + 1 + 1 + 1))
        have s7 := s6.1.stored (j * 9 + 7) (.int .i64 (k + 9 * j + 1 + 1 + 1 + 1 + 1 + 1 + 1))
        have s8 := s7.1.stored (j * 9 + 8) (.int .i64 (k + 9 * j + 1 + 1 + 1 + 1 + 1 + 1 + 1 + 1))
        refine ⟨⟨j + 1, _, by omega, by go_num, ?_, s8.1, msgUpto_set (x := msgMark k j) HU.out (by rw [length_msgMarks]; exact hlt) (by rw [length_msgMarks]; exact ho1.1) (getD_msgMarks k n j hlt).symm, grownTrans (grownTrans (grownTrans (grownTrans (grownTrans (grownTrans (grownTrans (grownTrans (grownTrans (hgr) s0.2) s1.2) s2.2) s3.2) s4.2) s5.2) s6.2) s7.2) s8.2⟩, by simp [intOf]; omega⟩
        congr 1
        omega
      · go_wp2
        go_ret
        have hjn : j = n := by omega
        subst hjn
        have e' := msgUpto_full HU.out ho1.1 (length_msgMarks k j)
        rw [e'] at ho1
        exact ⟨rfl, ho1, hgr⟩
set_option maxRecDepth 20000 in
set_option maxHeartbeats 1000000 in
theorem heldMessageS_any (v : Value) (n : Nat) (k : Int) (w : World) (hv : MsgsV w v (msgMarks k n)) (hn : n ≤ 1048576) (hk0 : 0 ≤ k) (hk1 : k ≤ 1073741824) :
    Calls Try.prog 62 #[v, .int .i64 k] w fun r w' => r = .returned (.int .i64 (k + 9 * n)) ∧ w' = w := by
  obtain ⟨a, cap, rfl, hnc, hcm, hc⟩ := hv
  rw [length_msgMarks] at hnc hc ⊢
  unfold maxLen at hcm
  go_enter Try.func62, Try.ntmps62
  go_wp2
  go_loopw [1, 5] (fun q i w' => ∃ j : Nat, j ≤ n ∧ i = .int .i64 j ∧ q = .int .i64 (k + 9 * j) ∧ w' = w) (fun _ i _ => n - (intOf i).toNat)
  case atStart => exact ⟨0, Nat.zero_le _, rfl, by simp, rfl⟩
  case round =>
    obtain ⟨j, hj, rfl, rfl, rfl⟩ := hrel
    by_cases hlt : j < n
    · obtain ⟨b, o, rfl, h1⟩ := hc j hlt
      rw [getD_msgMarks k n j hlt] at h1
      obtain ⟨g0, g1, g2, g3, g4, g5, g6, g7, g8⟩ := h1
      simp only [msgMark] at g0 g1 g2 g3 g4 g5 g6 g7 g8
      clear hc
      go_wp2
      refine ⟨⟨j + 1, by omega, by go_num, ?_, trivial⟩, by simp [intOf]; omega⟩
      congr 1
      omega
    · go_wp2
      go_ret
      have hjn : j = n := by omega
      subst hjn
      exact ⟨rfl, rfl⟩
end Go.Proofs.Ytjemciikdijokaa

/-
  Rows of impl.Message: the uniform forms. (Written by program: nest.py.)
-/
namespace Go.Proofs.Ytjemciikdijokaa
open Go.RowKit
set_option linter.unusedSectionVars false
variable [DecidableEq Vot] [Inhabited Vot] [DecidableEq Msg] [Inhabited Msg]
attribute [local go_sem ↓] Go.wp_at_zero Go.wp_at_succ

def msgsR : Rep (List Msg) := fRep 108 9 msgsC MsgsV MsgsV_below MsgsV_of_owns
def wtMsgs (xs : List Msg) : Nat := xs.length
def cntMsgs (xs : List Msg) : Nat := 9 * xs.length
def mkMsgs (k : Int) (xs : List Msg) : List Msg := msgMarks k xs.length
theorem msgs_form {w : World} {v : Value} {xs : List Msg} (h : msgsR.V w v xs) : ∃ a c, v = .slice a xs.length c := by
  obtain ⟨a, c, rfl, _⟩ := h
  exact ⟨_, _, rfl⟩
theorem msgs_cnt (d : List Msg) : cntMsgs d ≤ 9 * wtMsgs d := by unfold cntMsgs wtMsgs; omega
theorem eqMessageS_u (x y : Value) (d d' : List Msg) (w : World) (hx : msgsR.V w x d) (hy : msgsR.V w y d') :
    Calls Try.prog 51 #[x, y] w fun e w' => e = .returned (.bool (decide (d = d'))) ∧ Below w.heap.size w w' := eqMessageS_any x y d d' w hx hy
theorem markMessageS_u (v : Value) (d : List Msg) (base : Nat) (F : Nat → Prop) (k : Int) (w : World) (ho : msgsR.O w base F v d) (hw : wtMsgs d ≤ 1048576) (hn : k + cntMsgs d ≤ 1073741824) (hk0 : 0 ≤ k) :
    Calls Try.prog 56 #[v, .int .i64 k] w fun r w' => r = .returned (.int .i64 (k + cntMsgs d)) ∧ msgsR.O w' base F v (mkMsgs k d) ∧ Mod F w w' := by
  refine (markMessageS_any v d.length _ base _ k w ho.1 hw hk0 (by omega)).mono ?_
  rintro e w' ⟨rfl, h1, h2⟩
  refine ⟨by simp [cntMsgs], ⟨?_, ho.2⟩, by rw [ho.2]; exact Mod.of_grown h2⟩
  unfold mkMsgs
  rw [length_msgMarks]
  exact h1
theorem heldMessageS_u (v : Value) (d : List Msg) (k : Int) (w : World) (hv : msgsR.V w v (mkMsgs k d)) (hw : wtMsgs d ≤ 1048576) (hn : k + cntMsgs d ≤ 1073741824) (hk0 : 0 ≤ k) :
    Calls Try.prog 62 #[v, .int .i64 k] w fun r w' => r = .returned (.int .i64 (k + cntMsgs d)) ∧ Below w.heap.size w w' := by
  refine (heldMessageS_any v d.length k w hv hw hk0 (by omega)).mono ?_
  rintro e w' ⟨rfl, rfl⟩
  exact ⟨by simp [cntMsgs], Below.refl _ _⟩
end Go.Proofs.Ytjemciikdijokaa

/-
  Cluster. (Written by program: nest.py.)
-/
namespace Go.Proofs.Ytjemciikdijokaa
open Go.RowKit
set_option linter.unusedSectionVars false
variable [DecidableEq Leg] [Inhabited Leg] [DecidableEq Cont] [Inhabited Cont] [DecidableEq Bal] [Inhabited Bal] [DecidableEq Mrk] [Inhabited Mrk] [DecidableEq Shd] [Inhabited Shd] [DecidableEq Vot] [Inhabited Vot] [DecidableEq Slt] [Inhabited Slt] [DecidableEq Acc] [Inhabited Acc] [DecidableEq Trr] [Inhabited Trr] [DecidableEq Hrd] [Inhabited Hrd] [DecidableEq Ldr] [Inhabited Ldr] [DecidableEq Msg] [Inhabited Msg]
attribute [local go_sem ↓] Go.wp_at_zero Go.wp_at_succ

set_option linter.unusedSimpArgs false

structure Clu where
  cons : List Cont
  shards : List Shd
  accs : List Acc
  ldrs : List Ldr
  msgs : List Msg
variable [DecidableEq Clu] [Inhabited Clu]

def cluR : Rep Clu where
  V := fun w v x => ∃ u1 u2 u3 u4 u5, v = .agg #[u1, u2, u3, u4, u5] ∧ contsR.V w u1 x.cons ∧ shdsR.V w u2 x.shards ∧ accsR.V w u3 x.accs ∧ ldrsR.V w u4 x.ldrs ∧ msgsR.V w u5 x.msgs
  O := fun w base F v x => ∃ u1 u2 u3 u4 u5 F1 F2 F3 F4 F5, v = .agg #[u1, u2, u3, u4, u5] ∧ contsR.O w base F1 u1 x.cons ∧ shdsR.O w base F2 u2 x.shards ∧ accsR.O w base F3 u3 x.accs ∧ ldrsR.O w base F4 u4 x.ldrs ∧ msgsR.O w base F5 u5 x.msgs ∧ (∀ b, F1 b → ¬ F2 b) ∧ (∀ b, F1 b → ¬ F3 b) ∧ (∀ b, F1 b → ¬ F4 b) ∧ (∀ b, F1 b → ¬ F5 b) ∧ (∀ b, F2 b → ¬ F3 b) ∧ (∀ b, F2 b → ¬ F4 b) ∧ (∀ b, F2 b → ¬ F5 b) ∧ (∀ b, F3 b → ¬ F4 b) ∧ (∀ b, F3 b → ¬ F5 b) ∧ (∀ b, F4 b → ¬ F5 b) ∧ (∀ b, F b ↔ (F1 b ∨ F2 b ∨ F3 b ∨ F4 b ∨ F5 b))
  below := fun h hb => by
    obtain ⟨u1, u2, u3, u4, u5, rfl, h1, h2, h3, h4, h5⟩ := h
    exact ⟨u1, u2, u3, u4, u5, rfl, contsR.below h1 hb, shdsR.below h2 hb, accsR.below h3 hb, ldrsR.below h4 hb, msgsR.below h5 hb⟩
  ofO := fun h => by
    obtain ⟨u1, u2, u3, u4, u5, F1, F2, F3, F4, F5, rfl, h1, h2, h3, h4, h5, _⟩ := h
    exact ⟨u1, u2, u3, u4, u5, rfl, contsR.ofO h1, shdsR.ofO h2, accsR.ofO h3, ldrsR.ofO h4, msgsR.ofO h5⟩
  mod := fun h hm hd => by
    obtain ⟨u1, u2, u3, u4, u5, F1, F2, F3, F4, F5, rfl, h1, h2, h3, h4, h5, s12, s13, s14, s15, s23, s24, s25, s34, s35, s45, hF⟩ := h
    exact ⟨u1, u2, u3, u4, u5, F1, F2, F3, F4, F5, rfl, contsR.mod h1 hm (fun b hb => hd b ((hF b).2 (.inl hb))), shdsR.mod h2 hm (fun b hb => hd b ((hF b).2 (.inr (.inl hb)))), accsR.mod h3 hm (fun b hb => hd b ((hF b).2 (.inr (.inr (.inl hb))))), ldrsR.mod h4 hm (fun b hb => hd b ((hF b).2 (.inr (.inr (.inr (.inl hb)))))), msgsR.mod h5 hm (fun b hb => hd b ((hF b).2 (.inr (.inr (.inr (.inr hb)))))), s12, s13, s14, s15, s23, s24, s25, s34, s35, s45, hF⟩
  rng := fun h b hb => by
    obtain ⟨u1, u2, u3, u4, u5, F1, F2, F3, F4, F5, rfl, h1, h2, h3, h4, h5, s12, s13, s14, s15, s23, s24, s25, s34, s35, s45, hF⟩ := h
    rcases (hF b).1 hb with hb | hb | hb | hb | hb
    · exact contsR.rng h1 b hb
    · exact shdsR.rng h2 b hb
    · exact accsR.rng h3 b hb
    · exact ldrsR.rng h4 b hb
    · exact msgsR.rng h5 b hb
  base := fun h hb => by
    obtain ⟨u1, u2, u3, u4, u5, F1, F2, F3, F4, F5, rfl, h1, h2, h3, h4, h5, s12, s13, s14, s15, s23, s24, s25, s34, s35, s45, hF⟩ := h
    exact ⟨u1, u2, u3, u4, u5, F1, F2, F3, F4, F5, rfl, contsR.base h1 hb, shdsR.base h2 hb, accsR.base h3 hb, ldrsR.base h4 hb, msgsR.base h5 hb, s12, s13, s14, s15, s23, s24, s25, s34, s35, s45, hF⟩
def wtClu (x : Clu) : Nat := wtConts x.cons + wtShds x.shards + wtAccs x.accs + wtLdrs x.ldrs + wtMsgs x.msgs
def cntClu (x : Clu) : Nat := cntConts x.cons + cntShds x.shards + cntAccs x.accs + cntLdrs x.ldrs + cntMsgs x.msgs
def mkClu (k : Int) (x : Clu) : Clu := { x with cons := mkConts k x.cons, shards := mkShds (k + cntConts x.cons) x.shards, accs := mkAccs (k + cntConts x.cons + cntShds x.shards) x.accs, ldrs := mkLdrs (k + cntConts x.cons + cntShds x.shards + cntAccs x.accs) x.ldrs, msgs := mkMsgs (k + cntConts x.cons + cntShds x.shards + cntAccs x.accs + cntLdrs x.ldrs) x.msgs }
theorem clu_form {w : World} {v : Value} {x : Clu} (h : cluR.V w v x) : ∃ a1 a2 a3 a4 a5 c1 c2 c3 c4 c5, v = .agg #[.slice a1 x.cons.length c1, .slice a2 x.shards.length c2, .slice a3 x.accs.length c3, .slice a4 x.ldrs.length c4, .slice a5 x.msgs.length c5] := by
  obtain ⟨u1, u2, u3, u4, u5, rfl, h1, h2, h3, h4, h5⟩ := h
  obtain ⟨a1, c1, rfl⟩ := conts_form h1
  obtain ⟨a2, c2, rfl⟩ := shds_form h2
  obtain ⟨a3, c3, rfl⟩ := accs_form h3
  obtain ⟨a4, c4, rfl⟩ := ldrs_form h4
  obtain ⟨a5, c5, rfl⟩ := msgs_form h5
  exact ⟨_, _, _, _, _, _, _, _, _, _, rfl⟩
theorem clu_cnt (d : Clu) : cntClu d ≤ 9 * wtClu d := by
  unfold cntClu wtClu
  have q1 := conts_cnt d.cons
  have q2 := shds_cnt d.shards
  have q3 := accs_cnt d.accs
  have q4 := ldrs_cnt d.ldrs
  have q5 := msgs_cnt d.msgs
  omega
set_option maxHeartbeats 1000000 in
theorem eqCluster_u (x y : Value) (d d' : Clu) (w : World) (hx : cluR.V w x d) (hy : cluR.V w y d') :
    Calls Try.prog 35 #[x, y] w fun e w' => e = .returned (.bool (decide (d = d'))) ∧ Below w.heap.size w w' := by
  obtain ⟨u1, u2, u3, u4, u5, rfl, h1, h2, h3, h4, h5⟩ := hx
  obtain ⟨v1, v2, v3, v4, v5, rfl, k1, k2, k3, k4, k5⟩ := hy
  obtain ⟨cons, shards, accs, ldrs, msgs⟩ := d
  obtain ⟨cons', shards', accs', ldrs', msgs'⟩ := d'
  dsimp only at h1 k1 h2 k2 h3 k3 h4 k4 h5 k5
  go_enter Try.func35, Try.ntmps35
  go_wp2_with fail
  all_goals try (go_ret; exact ⟨by simp_all, by (repeat (first | exact Below.refl _ _ | assumption | refine Below.drew ?_ | refine balloc ?_ _ | refine bset ?_ (by simp; omega) _ | refine bset ?_ (by simp) _ | refine bstep ?_ (by assumption)))⟩)
  refine (eqContractS_u _ _ cons cons' _ (contsR.below h1 (by (repeat (first | exact Below.refl _ _ | assumption | refine Below.drew ?_ | refine balloc ?_ _ | refine bset ?_ (by simp; omega) _ | refine bset ?_ (by simp) _ | refine bstep ?_ (by assumption))))) (contsR.below k1 (by (repeat (first | exact Below.refl _ _ | assumption | refine Below.drew ?_ | refine balloc ?_ _ | refine bset ?_ (by simp; omega) _ | refine bset ?_ (by simp) _ | refine bstep ?_ (by assumption)))))).mono ?_
  rintro e w1 ⟨rfl, b1⟩
  have x0 : w1.cell? ⟨w.heap.size, 0, none⟩ = some (u1) := cell_keep b1 (by simp [go_sem])
  have x1 : w1.cell? ⟨w.heap.size, 1, none⟩ = some (u2) := cell_keep b1 (by simp [go_sem])
  have x2 : w1.cell? ⟨w.heap.size, 2, none⟩ = some (u3) := cell_keep b1 (by simp [go_sem])
  have x3 : w1.cell? ⟨w.heap.size, 3, none⟩ = some (u4) := cell_keep b1 (by simp [go_sem])
  have x4 : w1.cell? ⟨w.heap.size, 4, none⟩ = some (u5) := cell_keep b1 (by simp [go_sem])
  have y0 : w1.cell? ⟨w.heap.size + 1, 0, none⟩ = some (v1) := cell_keep b1 (by simp [go_sem])
  have y1 : w1.cell? ⟨w.heap.size + 1, 1, none⟩ = some (v2) := cell_keep b1 (by simp [go_sem])
  have y2 : w1.cell? ⟨w.heap.size + 1, 2, none⟩ = some (v3) := cell_keep b1 (by simp [go_sem])
  have y3 : w1.cell? ⟨w.heap.size + 1, 3, none⟩ = some (v4) := cell_keep b1 (by simp [go_sem])
  have y4 : w1.cell? ⟨w.heap.size + 1, 4, none⟩ = some (v5) := cell_keep b1 (by simp [go_sem])
  go_wp2_with fail
  all_goals try (go_ret; exact ⟨by simp_all, by (repeat (first | exact Below.refl _ _ | assumption | refine Below.drew ?_ | refine balloc ?_ _ | refine bset ?_ (by simp; omega) _ | refine bset ?_ (by simp) _ | refine bstep ?_ (by assumption)))⟩)
  refine (eqShardS_u _ _ shards shards' _ (shdsR.below h2 (by (repeat (first | exact Below.refl _ _ | assumption | refine Below.drew ?_ | refine balloc ?_ _ | refine bset ?_ (by simp; omega) _ | refine bset ?_ (by simp) _ | refine bstep ?_ (by assumption))))) (shdsR.below k2 (by (repeat (first | exact Below.refl _ _ | assumption | refine Below.drew ?_ | refine balloc ?_ _ | refine bset ?_ (by simp; omega) _ | refine bset ?_ (by simp) _ | refine bstep ?_ (by assumption)))))).mono ?_
  rintro e w2 ⟨rfl, b2⟩
  replace x0 : w2.cell? ⟨w.heap.size, 0, none⟩ = some (u1) := cell_keep b2 x0
  replace x1 : w2.cell? ⟨w.heap.size, 1, none⟩ = some (u2) := cell_keep b2 x1
  replace x2 : w2.cell? ⟨w.heap.size, 2, none⟩ = some (u3) := cell_keep b2 x2
  replace x3 : w2.cell? ⟨w.heap.size, 3, none⟩ = some (u4) := cell_keep b2 x3
  replace x4 : w2.cell? ⟨w.heap.size, 4, none⟩ = some (u5) := cell_keep b2 x4
  replace y0 : w2.cell? ⟨w.heap.size + 1, 0, none⟩ = some (v1) := cell_keep b2 y0
  replace y1 : w2.cell? ⟨w.heap.size + 1, 1, none⟩ = some (v2) := cell_keep b2 y1
  replace y2 : w2.cell? ⟨w.heap.size + 1, 2, none⟩ = some (v3) := cell_keep b2 y2
  replace y3 : w2.cell? ⟨w.heap.size + 1, 3, none⟩ = some (v4) := cell_keep b2 y3
  replace y4 : w2.cell? ⟨w.heap.size + 1, 4, none⟩ = some (v5) := cell_keep b2 y4
  go_wp2_with fail
  all_goals try (go_ret; exact ⟨by simp_all, by (repeat (first | exact Below.refl _ _ | assumption | refine Below.drew ?_ | refine balloc ?_ _ | refine bset ?_ (by simp; omega) _ | refine bset ?_ (by simp) _ | refine bstep ?_ (by assumption)))⟩)
  refine (eqAcceptorS_u _ _ accs accs' _ (accsR.below h3 (by (repeat (first | exact Below.refl _ _ | assumption | refine Below.drew ?_ | refine balloc ?_ _ | refine bset ?_ (by simp; omega) _ | refine bset ?_ (by simp) _ | refine bstep ?_ (by assumption))))) (accsR.below k3 (by (repeat (first | exact Below.refl _ _ | assumption | refine Below.drew ?_ | refine balloc ?_ _ | refine bset ?_ (by simp; omega) _ | refine bset ?_ (by simp) _ | refine bstep ?_ (by assumption)))))).mono ?_
  rintro e w3 ⟨rfl, b3⟩
  replace x0 : w3.cell? ⟨w.heap.size, 0, none⟩ = some (u1) := cell_keep b3 x0
  replace x1 : w3.cell? ⟨w.heap.size, 1, none⟩ = some (u2) := cell_keep b3 x1
  replace x2 : w3.cell? ⟨w.heap.size, 2, none⟩ = some (u3) := cell_keep b3 x2
  replace x3 : w3.cell? ⟨w.heap.size, 3, none⟩ = some (u4) := cell_keep b3 x3
  replace x4 : w3.cell? ⟨w.heap.size, 4, none⟩ = some (u5) := cell_keep b3 x4
  replace y0 : w3.cell? ⟨w.heap.size + 1, 0, none⟩ = some (v1) := cell_keep b3 y0
  replace y1 : w3.cell? ⟨w.heap.size + 1, 1, none⟩ = some (v2) := cell_keep b3 y1
  replace y2 : w3.cell? ⟨w.heap.size + 1, 2, none⟩ = some (v3) := cell_keep b3 y2
  replace y3 : w3.cell? ⟨w.heap.size + 1, 3, none⟩ = some (v4) := cell_keep b3 y3
  replace y4 : w3.cell? ⟨w.heap.size + 1, 4, none⟩ = some (v5) := cell_keep b3 y4
  go_wp2_with fail
  all_goals try (go_ret; exact ⟨by simp_all, by (repeat (first | exact Below.refl _ _ | assumption | refine Below.drew ?_ | refine balloc ?_ _ | refine bset ?_ (by simp; omega) _ | refine bset ?_ (by simp) _ | refine bstep ?_ (by assumption)))⟩)
  refine (eqLeaderS_u _ _ ldrs ldrs' _ (ldrsR.below h4 (by (repeat (first | exact Below.refl _ _ | assumption | refine Below.drew ?_ | refine balloc ?_ _ | refine bset ?_ (by simp; omega) _ | refine bset ?_ (by simp) _ | refine bstep ?_ (by assumption))))) (ldrsR.below k4 (by (repeat (first | exact Below.refl _ _ | assumption | refine Below.drew ?_ | refine balloc ?_ _ | refine bset ?_ (by simp; omega) _ | refine bset ?_ (by simp) _ | refine bstep ?_ (by assumption)))))).mono ?_
  rintro e w4 ⟨rfl, b4⟩
  replace x0 : w4.cell? ⟨w.heap.size, 0, none⟩ = some (u1) := cell_keep b4 x0
  replace x1 : w4.cell? ⟨w.heap.size, 1, none⟩ = some (u2) := cell_keep b4 x1
  replace x2 : w4.cell? ⟨w.heap.size, 2, none⟩ = some (u3) := cell_keep b4 x2
  replace x3 : w4.cell? ⟨w.heap.size, 3, none⟩ = some (u4) := cell_keep b4 x3
  replace x4 : w4.cell? ⟨w.heap.size, 4, none⟩ = some (u5) := cell_keep b4 x4
  replace y0 : w4.cell? ⟨w.heap.size + 1, 0, none⟩ = some (v1) := cell_keep b4 y0
  replace y1 : w4.cell? ⟨w.heap.size + 1, 1, none⟩ = some (v2) := cell_keep b4 y1
  replace y2 : w4.cell? ⟨w.heap.size + 1, 2, none⟩ = some (v3) := cell_keep b4 y2
  replace y3 : w4.cell? ⟨w.heap.size + 1, 3, none⟩ = some (v4) := cell_keep b4 y3
  replace y4 : w4.cell? ⟨w.heap.size + 1, 4, none⟩ = some (v5) := cell_keep b4 y4
  go_wp2_with fail
  all_goals try (go_ret; exact ⟨by simp_all, by (repeat (first | exact Below.refl _ _ | assumption | refine Below.drew ?_ | refine balloc ?_ _ | refine bset ?_ (by simp; omega) _ | refine bset ?_ (by simp) _ | refine bstep ?_ (by assumption)))⟩)
  refine (eqMessageS_u _ _ msgs msgs' _ (msgsR.below h5 (by (repeat (first | exact Below.refl _ _ | assumption | refine Below.drew ?_ | refine balloc ?_ _ | refine bset ?_ (by simp; omega) _ | refine bset ?_ (by simp) _ | refine bstep ?_ (by assumption))))) (msgsR.below k5 (by (repeat (first | exact Below.refl _ _ | assumption | refine Below.drew ?_ | refine balloc ?_ _ | refine bset ?_ (by simp; omega) _ | refine bset ?_ (by simp) _ | refine bstep ?_ (by assumption)))))).mono ?_
  rintro e w5 ⟨rfl, b5⟩
  go_wp2
  all_goals
    go_ret
    exact ⟨by simp_all, by (repeat (first | exact Below.refl _ _ | assumption | refine Below.drew ?_ | refine balloc ?_ _ | refine bset ?_ (by simp; omega) _ | refine bset ?_ (by simp) _ | refine bstep ?_ (by assumption)))⟩
set_option maxHeartbeats 1000000 in
theorem markCluster_u (v : Value) (d : Clu) (base : Nat) (F : Nat → Prop) (k : Int) (w : World) (ho : cluR.O w base F v d) (hw : wtClu d ≤ 1048576) (hn : k + cntClu d ≤ 1073741824) (hk0 : 0 ≤ k) :
    Calls Try.prog 37 #[v, .int .i64 k] w fun r w' => r = .returned (.int .i64 (k + cntClu d)) ∧ cluR.O w' base F v (mkClu k d) ∧ Mod F w w' := by
  obtain ⟨u1, u2, u3, u4, u5, F1, F2, F3, F4, F5, rfl, h1, h2, h3, h4, h5, s12, s13, s14, s15, s23, s24, s25, s34, s35, s45, hF⟩ := ho
  unfold wtClu at hw
  unfold cntClu at hn ⊢
  have HF : Hid (∀ b, F b ↔ (F1 b ∨ F2 b ∨ F3 b ∨ F4 b ∨ F5 b)) := hF
  clear hF
  go_enter Try.func37, Try.ntmps37
  go_wp2_with fail
  refine (markContractS_u _ d.cons base F1 k _ (contsR.alloc h1 _) (by omega) (by omega) (by omega)).mono ?_
  rintro e w1 ⟨rfl, r1, m1⟩
  have h2' := shdsR.mod (shdsR.alloc h2 _) m1 (fun b p q => s12 b q p)
  have h3' := accsR.mod (accsR.alloc h3 _) m1 (fun b p q => s13 b q p)
  have h4' := ldrsR.mod (ldrsR.alloc h4 _) m1 (fun b p q => s14 b q p)
  have h5' := msgsR.mod (msgsR.alloc h5 _) m1 (fun b p q => s15 b q p)
  have x0 : w1.cell? ⟨w.heap.size, 0, none⟩ = some (u1) := m1.cell (by simp [go_sem]) (fun hf => by have := contsR.rng h1 _ hf; dsimp only at this; omega)
  have x1 : w1.cell? ⟨w.heap.size, 1, none⟩ = some (u2) := m1.cell (by simp [go_sem]) (fun hf => by have := contsR.rng h1 _ hf; dsimp only at this; omega)
  have x2 : w1.cell? ⟨w.heap.size, 2, none⟩ = some (u3) := m1.cell (by simp [go_sem]) (fun hf => by have := contsR.rng h1 _ hf; dsimp only at this; omega)
  have x3 : w1.cell? ⟨w.heap.size, 3, none⟩ = some (u4) := m1.cell (by simp [go_sem]) (fun hf => by have := contsR.rng h1 _ hf; dsimp only at this; omega)
  have x4 : w1.cell? ⟨w.heap.size, 4, none⟩ = some (u5) := m1.cell (by simp [go_sem]) (fun hf => by have := contsR.rng h1 _ hf; dsimp only at this; omega)
  go_wp2_with fail
  refine (markShardS_u _ d.shards base F2 (k + cntConts d.cons) _ h2' (by omega) (by omega) (by omega)).mono ?_
  rintro e w2 ⟨rfl, r2, m2⟩
  have h3'' := accsR.mod h3' m2 (fun b p q => s23 b q p)
  have h4'' := ldrsR.mod h4' m2 (fun b p q => s24 b q p)
  have h5'' := msgsR.mod h5' m2 (fun b p q => s25 b q p)
  replace x0 : w2.cell? ⟨w.heap.size, 0, none⟩ = some (u1) := m2.cell x0 (fun hf => by have := shdsR.rng h2 _ hf; dsimp only at this; omega)
  replace x1 : w2.cell? ⟨w.heap.size, 1, none⟩ = some (u2) := m2.cell x1 (fun hf => by have := shdsR.rng h2 _ hf; dsimp only at this; omega)
  replace x2 : w2.cell? ⟨w.heap.size, 2, none⟩ = some (u3) := m2.cell x2 (fun hf => by have := shdsR.rng h2 _ hf; dsimp only at this; omega)
  replace x3 : w2.cell? ⟨w.heap.size, 3, none⟩ = some (u4) := m2.cell x3 (fun hf => by have := shdsR.rng h2 _ hf; dsimp only at this; omega)
  replace x4 : w2.cell? ⟨w.heap.size, 4, none⟩ = some (u5) := m2.cell x4 (fun hf => by have := shdsR.rng h2 _ hf; dsimp only at this; omega)
  replace r1 := contsR.mod r1 m2 (fun b p q => s12 b p q)
  go_wp2_with fail
  refine (markAcceptorS_u _ d.accs base F3 (k + cntConts d.cons + cntShds d.shards) _ h3'' (by omega) (by omega) (by omega)).mono ?_
  rintro e w3 ⟨rfl, r3, m3⟩
  have h4''' := ldrsR.mod h4'' m3 (fun b p q => s34 b q p)
  have h5''' := msgsR.mod h5'' m3 (fun b p q => s35 b q p)
  replace x0 : w3.cell? ⟨w.heap.size, 0, none⟩ = some (u1) := m3.cell x0 (fun hf => by have := accsR.rng h3 _ hf; dsimp only at this; omega)
  replace x1 : w3.cell? ⟨w.heap.size, 1, none⟩ = some (u2) := m3.cell x1 (fun hf => by have := accsR.rng h3 _ hf; dsimp only at this; omega)
  replace x2 : w3.cell? ⟨w.heap.size, 2, none⟩ = some (u3) := m3.cell x2 (fun hf => by have := accsR.rng h3 _ hf; dsimp only at this; omega)
  replace x3 : w3.cell? ⟨w.heap.size, 3, none⟩ = some (u4) := m3.cell x3 (fun hf => by have := accsR.rng h3 _ hf; dsimp only at this; omega)
  replace x4 : w3.cell? ⟨w.heap.size, 4, none⟩ = some (u5) := m3.cell x4 (fun hf => by have := accsR.rng h3 _ hf; dsimp only at this; omega)
  replace r1 := contsR.mod r1 m3 (fun b p q => s13 b p q)
  replace r2 := shdsR.mod r2 m3 (fun b p q => s23 b p q)
  go_wp2_with fail
  refine (markLeaderS_u _ d.ldrs base F4 (k + cntConts d.cons + cntShds d.shards + cntAccs d.accs) _ h4''' (by omega) (by omega) (by omega)).mono ?_
  rintro e w4 ⟨rfl, r4, m4⟩
  have h5'''' := msgsR.mod h5''' m4 (fun b p q => s45 b q p)
  replace x0 : w4.cell? ⟨w.heap.size, 0, none⟩ = some (u1) := m4.cell x0 (fun hf => by have := ldrsR.rng h4 _ hf; dsimp only at this; omega)
  replace x1 : w4.cell? ⟨w.heap.size, 1, none⟩ = some (u2) := m4.cell x1 (fun hf => by have := ldrsR.rng h4 _ hf; dsimp only at this; omega)
  replace x2 : w4.cell? ⟨w.heap.size, 2, none⟩ = some (u3) := m4.cell x2 (fun hf => by have := ldrsR.rng h4 _ hf; dsimp only at this; omega)
  replace x3 : w4.cell? ⟨w.heap.size, 3, none⟩ = some (u4) := m4.cell x3 (fun hf => by have := ldrsR.rng h4 _ hf; dsimp only at this; omega)
  replace x4 : w4.cell? ⟨w.heap.size, 4, none⟩ = some (u5) := m4.cell x4 (fun hf => by have := ldrsR.rng h4 _ hf; dsimp only at this; omega)
  replace r1 := contsR.mod r1 m4 (fun b p q => s14 b p q)
  replace r2 := shdsR.mod r2 m4 (fun b p q => s24 b p q)
  replace r3 := accsR.mod r3 m4 (fun b p q => s34 b p q)
  go_wp2_with fail
  refine (markMessageS_u _ d.msgs base F5 (k + cntConts d.cons + cntShds d.shards + cntAccs d.accs + cntLdrs d.ldrs) _ h5'''' (by omega) (by omega) (by omega)).mono ?_
  rintro e w5 ⟨rfl, r5, m5⟩
  replace r1 := contsR.mod r1 m5 (fun b p q => s15 b p q)
  replace r2 := shdsR.mod r2 m5 (fun b p q => s25 b p q)
  replace r3 := accsR.mod r3 m5 (fun b p q => s35 b p q)
  replace r4 := ldrsR.mod r4 m5 (fun b p q => s45 b p q)
  go_wp2
  go_ret
  refine ⟨?_, ⟨_, _, _, _, _, F1, F2, F3, F4, F5, rfl, r1, r2, r3, r4, r5, s12, s13, s14, s15, s23, s24, s25, s34, s35, s45, HF.out⟩, ((((((Mod.refl F w).alloc _).trans (m1.mono (fun b hb => (HF.out b).2 (.inl hb)))).trans (m2.mono (fun b hb => (HF.out b).2 (.inr (.inl hb))))).trans (m3.mono (fun b hb => (HF.out b).2 (.inr (.inr (.inl hb)))))).trans (m4.mono (fun b hb => (HF.out b).2 (.inr (.inr (.inr (.inl hb))))))).trans (m5.mono (fun b hb => (HF.out b).2 (.inr (.inr (.inr (.inr hb))))))⟩
  simp
  try omega
set_option maxHeartbeats 1000000 in
theorem heldCluster_u (v : Value) (d : Clu) (k : Int) (w : World) (hv : cluR.V w v (mkClu k d)) (hw : wtClu d ≤ 1048576) (hn : k + cntClu d ≤ 1073741824) (hk0 : 0 ≤ k) :
    Calls Try.prog 39 #[v, .int .i64 k] w fun r w' => r = .returned (.int .i64 (k + cntClu d)) ∧ Below w.heap.size w w' := by
  obtain ⟨u1, u2, u3, u4, u5, rfl, h1, h2, h3, h4, h5⟩ := hv
  unfold wtClu at hw
  unfold cntClu at hn ⊢
  go_enter Try.func39, Try.ntmps39
  go_wp2_with fail
  refine (heldContractS_u _ d.cons k _ (contsR.below h1 (by (repeat (first | exact Below.refl _ _ | assumption | refine Below.drew ?_ | refine balloc ?_ _ | refine bset ?_ (by simp; omega) _ | refine bset ?_ (by simp) _ | refine bstep ?_ (by assumption))))) (by omega) (by omega) (by omega)).mono ?_
  rintro e w1 ⟨rfl, b1⟩
  have x0 : w1.cell? ⟨w.heap.size, 0, none⟩ = some (u1) := cell_keep b1 (by simp [go_sem])
  have x1 : w1.cell? ⟨w.heap.size, 1, none⟩ = some (u2) := cell_keep b1 (by simp [go_sem])
  have x2 : w1.cell? ⟨w.heap.size, 2, none⟩ = some (u3) := cell_keep b1 (by simp [go_sem])
  have x3 : w1.cell? ⟨w.heap.size, 3, none⟩ = some (u4) := cell_keep b1 (by simp [go_sem])
  have x4 : w1.cell? ⟨w.heap.size, 4, none⟩ = some (u5) := cell_keep b1 (by simp [go_sem])
  go_wp2_with fail
  refine (heldShardS_u _ d.shards (k + cntConts d.cons) _ (shdsR.below h2 (by (repeat (first | exact Below.refl _ _ | assumption | refine Below.drew ?_ | refine balloc ?_ _ | refine bset ?_ (by simp; omega) _ | refine bset ?_ (by simp) _ | refine bstep ?_ (by assumption))))) (by omega) (by omega) (by omega)).mono ?_
  rintro e w2 ⟨rfl, b2⟩
  replace x0 : w2.cell? ⟨w.heap.size, 0, none⟩ = some (u1) := cell_keep b2 x0
  replace x1 : w2.cell? ⟨w.heap.size, 1, none⟩ = some (u2) := cell_keep b2 x1
  replace x2 : w2.cell? ⟨w.heap.size, 2, none⟩ = some (u3) := cell_keep b2 x2
  replace x3 : w2.cell? ⟨w.heap.size, 3, none⟩ = some (u4) := cell_keep b2 x3
  replace x4 : w2.cell? ⟨w.heap.size, 4, none⟩ = some (u5) := cell_keep b2 x4
  go_wp2_with fail
  refine (heldAcceptorS_u _ d.accs (k + cntConts d.cons + cntShds d.shards) _ (accsR.below h3 (by (repeat (first | exact Below.refl _ _ | assumption | refine Below.drew ?_ | refine balloc ?_ _ | refine bset ?_ (by simp; omega) _ | refine bset ?_ (by simp) _ | refine bstep ?_ (by assumption))))) (by omega) (by omega) (by omega)).mono ?_
  rintro e w3 ⟨rfl, b3⟩
  replace x0 : w3.cell? ⟨w.heap.size, 0, none⟩ = some (u1) := cell_keep b3 x0
  replace x1 : w3.cell? ⟨w.heap.size, 1, none⟩ = some (u2) := cell_keep b3 x1
  replace x2 : w3.cell? ⟨w.heap.size, 2, none⟩ = some (u3) := cell_keep b3 x2
  replace x3 : w3.cell? ⟨w.heap.size, 3, none⟩ = some (u4) := cell_keep b3 x3
  replace x4 : w3.cell? ⟨w.heap.size, 4, none⟩ = some (u5) := cell_keep b3 x4
  go_wp2_with fail
  refine (heldLeaderS_u _ d.ldrs (k + cntConts d.cons + cntShds d.shards + cntAccs d.accs) _ (ldrsR.below h4 (by (repeat (first | exact Below.refl _ _ | assumption | refine Below.drew ?_ | refine balloc ?_ _ | refine bset ?_ (by simp; omega) _ | refine bset ?_ (by simp) _ | refine bstep ?_ (by assumption))))) (by omega) (by omega) (by omega)).mono ?_
  rintro e w4 ⟨rfl, b4⟩
  replace x0 : w4.cell? ⟨w.heap.size, 0, none⟩ = some (u1) := cell_keep b4 x0
  replace x1 : w4.cell? ⟨w.heap.size, 1, none⟩ = some (u2) := cell_keep b4 x1
  replace x2 : w4.cell? ⟨w.heap.size, 2, none⟩ = some (u3) := cell_keep b4 x2
  replace x3 : w4.cell? ⟨w.heap.size, 3, none⟩ = some (u4) := cell_keep b4 x3
  replace x4 : w4.cell? ⟨w.heap.size, 4, none⟩ = some (u5) := cell_keep b4 x4
  go_wp2_with fail
  refine (heldMessageS_u _ d.msgs (k + cntConts d.cons + cntShds d.shards + cntAccs d.accs + cntLdrs d.ldrs) _ (msgsR.below h5 (by (repeat (first | exact Below.refl _ _ | assumption | refine Below.drew ?_ | refine balloc ?_ _ | refine bset ?_ (by simp; omega) _ | refine bset ?_ (by simp) _ | refine bstep ?_ (by assumption))))) (by omega) (by omega) (by omega)).mono ?_
  rintro e w5 ⟨rfl, b5⟩
  go_wp2
  go_ret
  refine ⟨?_, by (repeat (first | exact Below.refl _ _ | assumption | refine Below.drew ?_ | refine balloc ?_ _ | refine bset ?_ (by simp; omega) _ | refine bset ?_ (by simp) _ | refine bstep ?_ (by assumption)))⟩
  simp
  try omega
end Go.Proofs.Ytjemciikdijokaa

/-
  SessionsResult. (Written by program: nest.py.)
-/
namespace Go.Proofs.Ytjemciikdijokaa
open Go.RowKit
set_option linter.unusedSectionVars false
variable [DecidableEq Leg] [Inhabited Leg] [DecidableEq Ses] [Inhabited Ses] [DecidableEq Cont] [Inhabited Cont] [DecidableEq Bal] [Inhabited Bal] [DecidableEq Mrk] [Inhabited Mrk] [DecidableEq Shd] [Inhabited Shd] [DecidableEq Vot] [Inhabited Vot] [DecidableEq Slt] [Inhabited Slt] [DecidableEq Acc] [Inhabited Acc] [DecidableEq Trr] [Inhabited Trr] [DecidableEq Hrd] [Inhabited Hrd] [DecidableEq Ldr] [Inhabited Ldr] [DecidableEq Msg] [Inhabited Msg] [DecidableEq Clu] [Inhabited Clu]
attribute [local go_sem ↓] Go.wp_at_zero Go.wp_at_succ

set_option linter.unusedSimpArgs false

structure SesR where
  code : Int
  id : Int
  sess : List Ses
  clu : Clu
variable [DecidableEq SesR] [Inhabited SesR]

def sesRR : Rep SesR where
  V := fun w v x => ∃ u1 u2_1 u2_2 u2_3 u2_4 u2_5, v = .agg #[.int .i64 x.code, .int .i64 x.id, u1, u2_1, u2_2, u2_3, u2_4, u2_5] ∧ sessR.V w u1 x.sess ∧ cluR.V w (.agg #[u2_1, u2_2, u2_3, u2_4, u2_5]) x.clu
  O := fun w base F v x => ∃ u1 u2_1 u2_2 u2_3 u2_4 u2_5 F1 F2, v = .agg #[.int .i64 x.code, .int .i64 x.id, u1, u2_1, u2_2, u2_3, u2_4, u2_5] ∧ sessR.O w base F1 u1 x.sess ∧ cluR.O w base F2 (.agg #[u2_1, u2_2, u2_3, u2_4, u2_5]) x.clu ∧ (∀ b, F1 b → ¬ F2 b) ∧ (∀ b, F b ↔ (F1 b ∨ F2 b))
  below := fun h hb => by
    obtain ⟨u1, u2_1, u2_2, u2_3, u2_4, u2_5, rfl, h1, h2⟩ := h
    exact ⟨u1, u2_1, u2_2, u2_3, u2_4, u2_5, rfl, sessR.below h1 hb, cluR.below h2 hb⟩
  ofO := fun h => by
    obtain ⟨u1, u2_1, u2_2, u2_3, u2_4, u2_5, F1, F2, rfl, h1, h2, _⟩ := h
    exact ⟨u1, u2_1, u2_2, u2_3, u2_4, u2_5, rfl, sessR.ofO h1, cluR.ofO h2⟩
  mod := fun h hm hd => by
    obtain ⟨u1, u2_1, u2_2, u2_3, u2_4, u2_5, F1, F2, rfl, h1, h2, s12, hF⟩ := h
    exact ⟨u1, u2_1, u2_2, u2_3, u2_4, u2_5, F1, F2, rfl, sessR.mod h1 hm (fun b hb => hd b ((hF b).2 (.inl hb))), cluR.mod h2 hm (fun b hb => hd b ((hF b).2 (.inr hb))), s12, hF⟩
  rng := fun h b hb => by
    obtain ⟨u1, u2_1, u2_2, u2_3, u2_4, u2_5, F1, F2, rfl, h1, h2, s12, hF⟩ := h
    rcases (hF b).1 hb with hb | hb
    · exact sessR.rng h1 b hb
    · exact cluR.rng h2 b hb
  base := fun h hb => by
    obtain ⟨u1, u2_1, u2_2, u2_3, u2_4, u2_5, F1, F2, rfl, h1, h2, s12, hF⟩ := h
    exact ⟨u1, u2_1, u2_2, u2_3, u2_4, u2_5, F1, F2, rfl, sessR.base h1 hb, cluR.base h2 hb, s12, hF⟩
def wtSesR (x : SesR) : Nat := wtSess x.sess + wtClu x.clu
def cntSesR (x : SesR) : Nat := cntSess x.sess + cntClu x.clu
def mkSesR (k : Int) (x : SesR) : SesR := { x with sess := mkSess k x.sess, clu := mkClu (k + cntSess x.sess) x.clu }
theorem sesR_form {w : World} {v : Value} {x : SesR} (h : sesRR.V w v x) : ∃ a1 a2_1 a2_2 a2_3 a2_4 a2_5 c1 c2_1 c2_2 c2_3 c2_4 c2_5, v = .agg #[.int .i64 x.code, .int .i64 x.id, .slice a1 x.sess.length c1, .slice a2_1 x.clu.cons.length c2_1, .slice a2_2 x.clu.shards.length c2_2, .slice a2_3 x.clu.accs.length c2_3, .slice a2_4 x.clu.ldrs.length c2_4, .slice a2_5 x.clu.msgs.length c2_5] := by
  obtain ⟨u1, u2_1, u2_2, u2_3, u2_4, u2_5, rfl, h1, h2⟩ := h
  obtain ⟨a1, c1, rfl⟩ := sess_form h1
  obtain ⟨a2_1, a2_2, a2_3, a2_4, a2_5, c2_1, c2_2, c2_3, c2_4, c2_5, e2⟩ := clu_form h2
  simp only [Value.agg.injEq, Array.mk.injEq, List.cons.injEq, and_true] at e2
  obtain ⟨rfl, rfl, rfl, rfl, rfl⟩ := e2
  exact ⟨_, _, _, _, _, _, _, _, _, _, _, _, rfl⟩
theorem sesR_cnt (d : SesR) : cntSesR d ≤ 9 * wtSesR d := by
  unfold cntSesR wtSesR
  have q1 := sess_cnt d.sess
  have q2 := clu_cnt d.clu
  omega
set_option maxHeartbeats 1000000 in
theorem eqSessionsResult_u (x y : Value) (d d' : SesR) (w : World) (hx : sesRR.V w x d) (hy : sesRR.V w y d') :
    Calls Try.prog 13 #[x, y] w fun e w' => e = .returned (.bool (decide (d = d'))) ∧ Below w.heap.size w w' := by
  obtain ⟨u1, u2_1, u2_2, u2_3, u2_4, u2_5, rfl, h1, h2⟩ := hx
  obtain ⟨v1, v2_1, v2_2, v2_3, v2_4, v2_5, rfl, k1, k2⟩ := hy
  obtain ⟨code, id, sess, clu⟩ := d
  obtain ⟨code', id', sess', clu'⟩ := d'
  dsimp only at h1 k1 h2 k2
  go_enter Try.func13, Try.ntmps13
  go_wp2_with fail
  all_goals try (go_ret; exact ⟨by simp_all, by (repeat (first | exact Below.refl _ _ | assumption | refine Below.drew ?_ | refine balloc ?_ _ | refine bset ?_ (by simp; omega) _ | refine bset ?_ (by simp) _ | refine bstep ?_ (by assumption)))⟩)
  refine (eqSessionS_u _ _ sess sess' _ (sessR.below h1 (by (repeat (first | exact Below.refl _ _ | assumption | refine Below.drew ?_ | refine balloc ?_ _ | refine bset ?_ (by simp; omega) _ | refine bset ?_ (by simp) _ | refine bstep ?_ (by assumption))))) (sessR.below k1 (by (repeat (first | exact Below.refl _ _ | assumption | refine Below.drew ?_ | refine balloc ?_ _ | refine bset ?_ (by simp; omega) _ | refine bset ?_ (by simp) _ | refine bstep ?_ (by assumption)))))).mono ?_
  rintro e w1 ⟨rfl, b1⟩
  have x0 : w1.cell? ⟨w.heap.size, 0, none⟩ = some (.int .i64 code) := cell_keep b1 (by simp [go_sem])
  have x1 : w1.cell? ⟨w.heap.size, 1, none⟩ = some (.int .i64 id) := cell_keep b1 (by simp [go_sem])
  have x2 : w1.cell? ⟨w.heap.size, 2, none⟩ = some (u1) := cell_keep b1 (by simp [go_sem])
  have x3 : w1.cell? ⟨w.heap.size, 3, none⟩ = some (u2_1) := cell_keep b1 (by simp [go_sem])
  have x4 : w1.cell? ⟨w.heap.size, 4, none⟩ = some (u2_2) := cell_keep b1 (by simp [go_sem])
  have x5 : w1.cell? ⟨w.heap.size, 5, none⟩ = some (u2_3) := cell_keep b1 (by simp [go_sem])
  have x6 : w1.cell? ⟨w.heap.size, 6, none⟩ = some (u2_4) := cell_keep b1 (by simp [go_sem])
  have x7 : w1.cell? ⟨w.heap.size, 7, none⟩ = some (u2_5) := cell_keep b1 (by simp [go_sem])
  have y0 : w1.cell? ⟨w.heap.size + 1, 0, none⟩ = some (.int .i64 code') := cell_keep b1 (by simp [go_sem])
  have y1 : w1.cell? ⟨w.heap.size + 1, 1, none⟩ = some (.int .i64 id') := cell_keep b1 (by simp [go_sem])
  have y2 : w1.cell? ⟨w.heap.size + 1, 2, none⟩ = some (v1) := cell_keep b1 (by simp [go_sem])
  have y3 : w1.cell? ⟨w.heap.size + 1, 3, none⟩ = some (v2_1) := cell_keep b1 (by simp [go_sem])
  have y4 : w1.cell? ⟨w.heap.size + 1, 4, none⟩ = some (v2_2) := cell_keep b1 (by simp [go_sem])
  have y5 : w1.cell? ⟨w.heap.size + 1, 5, none⟩ = some (v2_3) := cell_keep b1 (by simp [go_sem])
  have y6 : w1.cell? ⟨w.heap.size + 1, 6, none⟩ = some (v2_4) := cell_keep b1 (by simp [go_sem])
  have y7 : w1.cell? ⟨w.heap.size + 1, 7, none⟩ = some (v2_5) := cell_keep b1 (by simp [go_sem])
  go_wp2_with fail
  all_goals try (go_ret; exact ⟨by simp_all, by (repeat (first | exact Below.refl _ _ | assumption | refine Below.drew ?_ | refine balloc ?_ _ | refine bset ?_ (by simp; omega) _ | refine bset ?_ (by simp) _ | refine bstep ?_ (by assumption)))⟩)
  refine (eqCluster_u _ _ clu clu' _ (cluR.below h2 (by (repeat (first | exact Below.refl _ _ | assumption | refine Below.drew ?_ | refine balloc ?_ _ | refine bset ?_ (by simp; omega) _ | refine bset ?_ (by simp) _ | refine bstep ?_ (by assumption))))) (cluR.below k2 (by (repeat (first | exact Below.refl _ _ | assumption | refine Below.drew ?_ | refine balloc ?_ _ | refine bset ?_ (by simp; omega) _ | refine bset ?_ (by simp) _ | refine bstep ?_ (by assumption)))))).mono ?_
  rintro e w2 ⟨rfl, b2⟩
  go_wp2
  all_goals
    go_ret
    exact ⟨by simp_all, by (repeat (first | exact Below.refl _ _ | assumption | refine Below.drew ?_ | refine balloc ?_ _ | refine bset ?_ (by simp; omega) _ | refine bset ?_ (by simp) _ | refine bstep ?_ (by assumption)))⟩
set_option maxHeartbeats 1000000 in
theorem markSessionsResult_u (v : Value) (d : SesR) (base : Nat) (F : Nat → Prop) (k : Int) (w : World) (ho : sesRR.O w base F v d) (hw : wtSesR d ≤ 1048576) (hn : k + cntSesR d ≤ 1073741824) (hk0 : 0 ≤ k) :
    Calls Try.prog 15 #[v, .int .i64 k] w fun r w' => r = .returned (.int .i64 (k + cntSesR d)) ∧ sesRR.O w' base F v (mkSesR k d) ∧ Mod F w w' := by
  obtain ⟨u1, u2_1, u2_2, u2_3, u2_4, u2_5, F1, F2, rfl, h1, h2, s12, hF⟩ := ho
  unfold wtSesR at hw
  unfold cntSesR at hn ⊢
  have HF : Hid (∀ b, F b ↔ (F1 b ∨ F2 b)) := hF
  clear hF
  go_enter Try.func15, Try.ntmps15
  go_wp2_with fail
  refine (markSessionS_u _ d.sess base F1 k _ (sessR.alloc h1 _) (by omega) (by omega) (by omega)).mono ?_
  rintro e w1 ⟨rfl, r1, m1⟩
  have h2' := cluR.mod (cluR.alloc h2 _) m1 (fun b p q => s12 b q p)
  have x0 : w1.cell? ⟨w.heap.size, 0, none⟩ = some (.int .i64 d.code) := m1.cell (by simp [go_sem]) (fun hf => by have := sessR.rng h1 _ hf; dsimp only at this; omega)
  have x1 : w1.cell? ⟨w.heap.size, 1, none⟩ = some (.int .i64 d.id) := m1.cell (by simp [go_sem]) (fun hf => by have := sessR.rng h1 _ hf; dsimp only at this; omega)
  have x2 : w1.cell? ⟨w.heap.size, 2, none⟩ = some (u1) := m1.cell (by simp [go_sem]) (fun hf => by have := sessR.rng h1 _ hf; dsimp only at this; omega)
  have x3 : w1.cell? ⟨w.heap.size, 3, none⟩ = some (u2_1) := m1.cell (by simp [go_sem]) (fun hf => by have := sessR.rng h1 _ hf; dsimp only at this; omega)
  have x4 : w1.cell? ⟨w.heap.size, 4, none⟩ = some (u2_2) := m1.cell (by simp [go_sem]) (fun hf => by have := sessR.rng h1 _ hf; dsimp only at this; omega)
  have x5 : w1.cell? ⟨w.heap.size, 5, none⟩ = some (u2_3) := m1.cell (by simp [go_sem]) (fun hf => by have := sessR.rng h1 _ hf; dsimp only at this; omega)
  have x6 : w1.cell? ⟨w.heap.size, 6, none⟩ = some (u2_4) := m1.cell (by simp [go_sem]) (fun hf => by have := sessR.rng h1 _ hf; dsimp only at this; omega)
  have x7 : w1.cell? ⟨w.heap.size, 7, none⟩ = some (u2_5) := m1.cell (by simp [go_sem]) (fun hf => by have := sessR.rng h1 _ hf; dsimp only at this; omega)
  go_wp2_with fail
  refine (markCluster_u _ d.clu base F2 (k + cntSess d.sess) _ h2' (by omega) (by omega) (by omega)).mono ?_
  rintro e w2 ⟨rfl, r2, m2⟩
  replace r1 := sessR.mod r1 m2 (fun b p q => s12 b p q)
  go_wp2
  go_ret
  refine ⟨?_, ⟨_, _, _, _, _, _, F1, F2, rfl, r1, r2, s12, HF.out⟩, (((Mod.refl F w).alloc _).trans (m1.mono (fun b hb => (HF.out b).2 (.inl hb)))).trans (m2.mono (fun b hb => (HF.out b).2 (.inr hb)))⟩
  simp
  try omega
set_option maxHeartbeats 1000000 in
theorem heldSessionsResult_u (v : Value) (d : SesR) (k : Int) (w : World) (hv : sesRR.V w v (mkSesR k d)) (hw : wtSesR d ≤ 1048576) (hn : k + cntSesR d ≤ 1073741824) (hk0 : 0 ≤ k) :
    Calls Try.prog 16 #[v, .int .i64 k] w fun r w' => r = .returned (.int .i64 (k + cntSesR d)) ∧ Below w.heap.size w w' := by
  obtain ⟨u1, u2_1, u2_2, u2_3, u2_4, u2_5, rfl, h1, h2⟩ := hv
  unfold wtSesR at hw
  unfold cntSesR at hn ⊢
  go_enter Try.func16, Try.ntmps16
  go_wp2_with fail
  refine (heldSessionS_u _ d.sess k _ (sessR.below h1 (by (repeat (first | exact Below.refl _ _ | assumption | refine Below.drew ?_ | refine balloc ?_ _ | refine bset ?_ (by simp; omega) _ | refine bset ?_ (by simp) _ | refine bstep ?_ (by assumption))))) (by omega) (by omega) (by omega)).mono ?_
  rintro e w1 ⟨rfl, b1⟩
  have x0 : w1.cell? ⟨w.heap.size, 0, none⟩ = some (.int .i64 d.code) := cell_keep b1 (by simp [go_sem, mkSesR])
  have x1 : w1.cell? ⟨w.heap.size, 1, none⟩ = some (.int .i64 d.id) := cell_keep b1 (by simp [go_sem, mkSesR])
  have x2 : w1.cell? ⟨w.heap.size, 2, none⟩ = some (u1) := cell_keep b1 (by simp [go_sem, mkSesR])
  have x3 : w1.cell? ⟨w.heap.size, 3, none⟩ = some (u2_1) := cell_keep b1 (by simp [go_sem, mkSesR])
  have x4 : w1.cell? ⟨w.heap.size, 4, none⟩ = some (u2_2) := cell_keep b1 (by simp [go_sem, mkSesR])
  have x5 : w1.cell? ⟨w.heap.size, 5, none⟩ = some (u2_3) := cell_keep b1 (by simp [go_sem, mkSesR])
  have x6 : w1.cell? ⟨w.heap.size, 6, none⟩ = some (u2_4) := cell_keep b1 (by simp [go_sem, mkSesR])
  have x7 : w1.cell? ⟨w.heap.size, 7, none⟩ = some (u2_5) := cell_keep b1 (by simp [go_sem, mkSesR])
  go_wp2_with fail
  refine (heldCluster_u _ d.clu (k + cntSess d.sess) _ (cluR.below h2 (by (repeat (first | exact Below.refl _ _ | assumption | refine Below.drew ?_ | refine balloc ?_ _ | refine bset ?_ (by simp; omega) _ | refine bset ?_ (by simp) _ | refine bstep ?_ (by assumption))))) (by omega) (by omega) (by omega)).mono ?_
  rintro e w2 ⟨rfl, b2⟩
  go_wp2
  go_ret
  refine ⟨?_, by (repeat (first | exact Below.refl _ _ | assumption | refine Below.drew ?_ | refine balloc ?_ _ | refine bset ?_ (by simp; omega) _ | refine bset ?_ (by simp) _ | refine bstep ?_ (by assumption)))⟩
  simp
  try omega
end Go.Proofs.Ytjemciikdijokaa


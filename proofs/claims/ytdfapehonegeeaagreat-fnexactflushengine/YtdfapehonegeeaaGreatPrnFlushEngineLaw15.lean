import Derived.Test.YtdfapehonegeeaaGreatPrnFlushEngineLaw13
import Derived.Test.YtdfapehonegeeaaGreatPrnFlushEngineLaw14
import Derived.Test.YtdfapehonegeeaaGreatPrnFlushEngineLaw8
import Derived.Test.YtdfapehonegeeaaGreatPrnFlushEngineLaw7
import Derived.Test.YtdfapehonegeeaaGreatPrnFlushEngineLaw12
import Derived.Test.YtdfapehonegeeaaGreatPrnFlushEngineLaw4
import Derived.Deep.QuietTactic

/-
  Records that stand one behind the other: mathematics.
-/
namespace Go.Proofs.YtdfapehonegeeaaGreat
open Go.RowKit
set_option linter.unusedSectionVars false
variable [DecidableEq BytesR] [Inhabited BytesR] [DecidableEq RecsR] [Inhabited RecsR]

theorem recL_len (xs : List Byte) : (recL xs).length ≤ recU xs := by
  have H : ∀ n (xs : List Byte), xs.length ≤ n → (recL xs).length ≤ recU xs := by
    intro n
    induction n with
    | zero => intro xs h; rw [recL_end (frameSz_nil (by omega))]; simp
    | succ n ih =>
      intro xs h
      by_cases hz : frameSz xs = 0
      · rw [recL_end hz]; simp
      · have hp := frameSz_pos hz
        have := ih (xs.drop (frameSz xs)) (by rw [List.length_drop]; omega)
        rw [recL_step hz, recU_step hz, List.length_cons]
        omega
  exact H _ xs (Nat.le_refl _)
end Go.Proofs.YtdfapehonegeeaaGreat

/-
  An engine's fault: what the program asks is what the document asks (mathematics).
-/
namespace Go.Proofs.YtdfapehonegeeaaGreat
open Go.RowKit
set_option linter.unusedSectionVars false
variable [DecidableEq Wri] [Inhabited Wri] [DecidableEq BytesR] [Inhabited BytesR] [DecidableEq Rw] [Inhabited Rw] [DecidableEq TabR] [Inhabited TabR] [DecidableEq Logg] [Inhabited Logg] [DecidableEq Engn] [Inhabited Engn] [DecidableEq LoggR] [Inhabited LoggR] [DecidableEq RecsR] [Inhabited RecsR] [DecidableEq Leg] [Inhabited Leg]
set_option linter.unusedVariables false
set_option linter.unusedSimpArgs false

def rowsOf (recs : List (List Byte)) (i : Nat) : List Rw := (unwD (recs.getD i default)).rows
theorem repF_step {next : Int} {recs : List (List Byte)} {k : Nat} {last : Int} (h : RepSo next recs k last (putsL [] (flatTo (rowsOf recs) k))) (hk : k < recs.length) (h0 : (unwD (recs.getD k default)).code = 0) (h1 : last < unwV (recs.getD k default)) (h2 : unwV (recs.getD k default) < next) :
    RepSo next recs (k + 1) (unwV (recs.getD k default)) (putsL [] (flatTo (rowsOf recs) (k + 1))) := by
  have h3 := repSo_step h hk h0 h1 h2
  rw [← putsL_app] at h3
  exact h3
theorem gv_same {n : Int} : ∀ {rows : List Rw} {g : Int}, (∀ x ∈ rows, x.ver = n) → g ≤ n → 1 ≤ rows.length → gvR g rows = n
  | [], _, _, _, h => by simp at h
  | [x], g, h, hg, _ => by
    have := h x (by simp)
    show max g x.ver = n
    omega
  | x :: y :: r, g, h, hg, _ => by
    have hx := h x (by simp)
    show gvR (max g x.ver) (y :: r) = n
    exact gv_same (fun z hz => h z (by simp at hz ⊢; exact .inr hz)) (by omega) (by simp)
theorem gv_unw {d : List Byte} (h : (unwD d).code = 0) : gvT 0 [(unwD d).rows] = unwV d := by
  obtain ⟨h1, h2, h3⟩ := unwD_ver h
  show gvR 0 (unwD d).rows = _
  exact gv_same h1 (by omega) h2
theorem flat_rows (recs : List (List Byte)) (k : Nat) : (flatTo (rowsOf recs) k).length ≤ k * 8 := flatTo_len (fun i _ => unwD_rows _)
theorem range_gv {e : Engn} : rangeE e = (inR e.next 1 1000000 && decide (gvT 0 (e.mem :: e.tables) < e.next)) := by
  unfold rangeE
  cases hin : inR e.next 1 1000000
  · rfl
  · have h0 : 0 < e.next := by
      unfold inR at hin
      simp at hin
      omega
    rw [Bool.eq_iff_iff]
    simp only [Bool.true_and, Bool.and_eq_true, decide_eq_true_eq]
    rw [gvT_le]
    simp only [List.all_cons, Bool.and_eq_true]
    constructor
    · rintro ⟨a, b⟩; exact ⟨h0, a, b⟩
    · rintro ⟨_, a, b⟩; exact ⟨a, b⟩
theorem above_gv {e : Engn} (h : tabF e.mem = 0) : aboveE e = aboveV e.mem (gvT 0 e.tables) := by
  unfold aboveE aboveV
  rw [Bool.eq_iff_iff, List.all_eq_true, List.all_eq_true]
  have hv : ∀ x ∈ e.mem, 0 < x.ver := fun x hx => by
    have := rowFault_zero (tab_small h x hx)
    omega
  constructor
  · intro a x hx
    rw [decide_eq_true_eq, gvT_le]
    exact ⟨hv x hx, a x hx⟩
  · intro a x hx
    have h1 := a x hx
    rw [decide_eq_true_eq, gvT_le] at h1
    exact h1.2
def LogdP (d : Logg) (next : Int) (W : World) (base : Nat) (v : Value) (f : Bool) : Prop :=
  (∃ a n c, v = .slice a n c) ∧ (f = true → ∃ out, replayL d next = some out ∧ out.length ≤ 200 ∧ W.ownsRow base 76 4 v out.length (rwsC out)) ∧ (f = false → ∀ out, replayL d next = some out → 200 < out.length)
theorem logd_none {d : Logg} {next : Int} {W : World} {base : Nat} (h : replayL d next = none) : LogdP d next W base (.slice none 0 0) false :=
  ⟨⟨_, _, _, rfl⟩, fun e => (Bool.false_ne_true e).elim, fun _ out ho => by rw [h] at ho; cases ho⟩
theorem logd_some {d : Logg} {next : Int} {W : World} {base : Nat} {v : Value} {f : Bool} {out : List Rw} (h : replayL d next = some out) (hv : ∃ a n c, v = .slice a n c) (h1 : f = true → W.ownsRow base 76 4 v out.length (rwsC out) ∧ out.length ≤ 200) (h2 : f = false → 200 < out.length) : LogdP d next W base v f :=
  ⟨hv, fun e => ⟨out, h, (h1 e).2, (h1 e).1⟩, fun e o ho => by rw [h] at ho; cases ho; exact h2 e⟩
theorem replayL_bytes {d : Logg} {next : Int} (h : recU (d.synced ++ d.loose) ≠ d.synced.length + d.loose.length) : replayL d next = none := by
  have := recU_le (d.synced ++ d.loose)
  rw [List.length_append] at this
  unfold replayL
  rw [if_pos (by omega)]
theorem replayL_recs {d : Logg} {next : Int} (h : recU (d.synced ++ d.loose) = d.synced.length + d.loose.length) : replayL d next = replayF next (recL (d.synced ++ d.loose)) 0 [] := by
  unfold replayL
  rw [if_neg (by omega)]
end Go.Proofs.YtdfapehonegeeaaGreat

/-
  A region that draws its order, none of whose operations breaks what is asked of the world.
-/
namespace Go.Proofs.YtdfapehonegeeaaGreat
open Go.RowKit

section
variable {P : Program} {ops : Array Oper} {Q : Exit → Act → World → Prop} {md : Region.Mode} {S : World → Prop} {t : Nat}

theorem upto_firstN {i : Nat} {oi : Oper} {v : Value} (hi : ops[i]? = some oi) (hsel : Region.noSelect ops = true) (ht : ops[t]? = none)
    (hQ : ∀ c a w, Q (.panic c) (a.put oi.dst v) w → Q (.panic c) a w) :
    ∀ (f : Nat) (listed : Array Bool) (a : Act) (w : World),
      (∀ j oj, ops[j]? = some oj → j ≠ i → listed.getD j true = false → (∀ e ∈ oj.after, Region.binds md e = true → e.on ≠ i) → oi.apart ops oj = true) →
      i ∈ Region.ready md ops listed → YieldsIf P ops S oi v a → S w →
      wpUpto P md ops Q S t f (listed.setIfInBounds i true) (a.put oi.dst v) w → wpUpto P md ops Q S t (f + 1) listed a w := by
  intro f
  induction f with
  | zero =>
    intro listed a w _ hr hy hS H
    refine ⟨fun h => (by rw [h] at hr; cases hr), fun j hj => ?_⟩
    by_cases hji : j = i
    · subst hji
      exact hy.wpOp hi hS ⟨fun _ => hS, H⟩
    · have hm := ready_mono hj hji
      rw [H.1] at hm
      cases hm
  | succ f ih =>
    intro listed a w hfree hr hy hS H
    refine ⟨fun h => (by rw [h] at hr; cases hr), fun j hj => ?_⟩
    by_cases hji : j = i
    · subst hji
      exact hy.wpOp hi hS ⟨fun _ => hS, H⟩
    · obtain ⟨hjun, oj, hoj, hall⟩ := mem_ready.1 hj
      have hun := (mem_ready.1 hr).1
      have hnl : ¬ listed.getD i false = true := by
        intro h1
        rcases Nat.lt_or_ge i listed.size with h' | h'
        · simp [h'] at hun h1
          rw [hun] at h1
          cases h1
        · simp [Array.getElem?_eq_none h'] at h1
      have hnot : ∀ e ∈ oj.after, Region.binds md e = true → e.on ≠ i := fun e he hb heq => hnl (by rw [← heq]; exact hall e he hb)
      have hjt : j ≠ t := by
        rintro rfl
        rw [ht] at hoj
        cases hoj
      have h1 := H.2 j (ready_mono hj hji)
      have h2 := wpOp_putIf hoj (hfree j oj hoj hji hjun hnot) (fun cs b => Region.noSelect_spec hsel i oi cs b hi) (fun cs b => Region.noSelect_spec hsel j oj cs b hoj) hQ hy h1
      refine wpOp_mono (fun a' w' h3 => ⟨h3.2.1, ih (listed.setIfInBounds j true) a' w' ?_ (ready_mono hr (Ne.symm hji)) h3.1 (h3.2.1 hjt) ?_⟩) h2
      · intro k ok hk hki hunk hno
        refine hfree k ok hk hki ?_ hno
        by_cases hjk : j = k
        · subst hjk; exact hjun
        · rw [getD_set_ne true hjk] at hunk; exact hunk
      · rw [Array.setIfInBounds_comm _ _ hji]
        exact h3.2.2
theorem upto_takeN {i : Nat} {oi : Oper} {v : Value} {f : Nat} {listed : Array Bool} {a : Act} {w : World} (hi : ops[i]? = some oi) (hsel : Region.noSelect ops = true) (ht : ops[t]? = none)
    (hf : Region.free md ops listed i = true) (hr : (Region.ready md ops listed).contains i = true) (hQ : ∀ c a w, Q (.panic c) (a.put oi.dst v) w → Q (.panic c) a w)
    (hwd : Region.wanted oi (yielded ops a.tmps) = true) (hS : S w) (hy : ∀ w, S w → (execOp a.eval oi).run P w = .ok (.value v) w)
    (h : wpUpto P md ops Q S t f (listed.setIfInBounds i true) (a.put oi.dst v) w) : wpUpto P md ops Q S t (f + 1) listed a w :=
  upto_firstN hi hsel ht hQ f listed a w (Region.free_spec hi hf) (by simpa using hr) (Or.inl ⟨hwd, hy⟩) hS h
theorem upto_skipN {i : Nat} {oi : Oper} {f : Nat} {listed : Array Bool} {a : Act} {w : World} (hi : ops[i]? = some oi) (hsel : Region.noSelect ops = true) (ht : ops[t]? = none)
    (hf : Region.free md ops listed i = true) (hr : (Region.ready md ops listed).contains i = true) (hQ : ∀ c a w, Q (.panic c) (a.put oi.dst undef) w → Q (.panic c) a w)
    (hwd : Region.wanted oi (yielded ops a.tmps) = false) (hS : S w)
    (h : ∀ u : Value, wpUpto P md ops Q S t f (listed.setIfInBounds i true) (a.put oi.dst u) w) : wpUpto P md ops Q S t (f + 1) listed a w :=
  upto_firstN hi hsel ht hQ f listed a w (Region.free_spec hi hf) (by simpa using hr) (Or.inr ⟨hwd, rfl⟩) hS (h undef)
end

end Go.Proofs.YtdfapehonegeeaaGreat

/-
  A text among bytes: l6Text and textIn.
-/
namespace Go.Proofs.YtdfapehonegeeaaGreat
open Go.RowKit
set_option linter.unusedSectionVars false
variable [DecidableEq Wri] [Inhabited Wri] [DecidableEq BytesR] [Inhabited BytesR] [DecidableEq Rw] [Inhabited Rw] [DecidableEq TabR] [Inhabited TabR]
set_option linter.unusedVariables false
set_option linter.unusedSimpArgs false
attribute [local go_sem ↓] Go.wp_at_zero Go.wp_at_succ

def txS (d : List Byte) : ByteArray := match textL d with | some p => p.1 | none => ⟨#[]⟩
def txE (a : Nat) (d : List Byte) : Int := match textL d with | some p => (a : Int) + 1 + p.1.size | none => -1
theorem drop_cons {d : List Byte} {a : Nat} (h : a < d.length) : d.drop a = d.getD a 0 :: d.drop (a + 1) := by
  rw [List.drop_eq_getElem_cons h]
  simp [List.getD, h]
theorem textL_at {d : List Byte} {a : Nat} (h : a < d.length) : textL (d.drop a) = if (d.getD a 0).val + (a + 1) ≤ d.length then some (bstr ((d.drop (a + 1)).take (d.getD a 0).val), d.drop (a + 1 + (d.getD a 0).val)) else none := by
  rw [drop_cons h]
  unfold textL
  dsimp only
  rw [List.length_drop, List.drop_drop]
  by_cases hh : (d.getD a 0).val + (a + 1) ≤ d.length
  · rw [if_pos hh, if_pos (by omega)]
  · rw [if_neg hh, if_neg (by omega)]
set_option maxHeartbeats 2000000 in
theorem l6Text_any (x : Value) (d : List Byte) (a : Nat) (w : World) (hx : BytesV w x d) (ha : a ≤ d.length) (hn : d.length ≤ 1048576) :
    Calls Tryz.prog 146 #[x, .int .i64 a] w fun e w' => e = .returned (.tuple #[.string (txS (d.drop a)), .int .i64 (txE a (d.drop a))]) ∧ w' = w := by
  have hX := hx
  obtain ⟨ax, cx, rfl, hcx, hmx, hx⟩ := hx
  unfold maxLen at hmx
  by_cases hlt : a < d.length
  · obtain ⟨b, o, rfl, g⟩ := hx a hlt
    have hT := textL_at hlt
    obtain ⟨m, hm⟩ : ∃ m, (d.getD a 0).val = m := ⟨_, rfl⟩
    have hm6 : m < 256 := by rw [← hm]; exact (d.getD a 0).isLt
    rw [hm] at g hT
    have v1 : IntKind.i64.wrap (m : Int) = m := by rw [IntKind.wrap_i64]; omega
    have v2 : IntKind.i64.wrap ((a : Int) + 1) = a + 1 := by rw [IntKind.wrap_i64]; omega
    have v3 : IntKind.i64.wrap ((a : Int) + 1 + m) = a + 1 + m := by rw [IntKind.wrap_i64]; omega
    have i1 : ¬ (d.length : Int) ≤ (a : Int) := by omega
    have i2 : (a : Int) < (d.length : Int) := by omega
    clear hx
    by_cases hh : m + (a + 1) ≤ d.length
    · rw [if_pos hh] at hT
      have HS : Hid (txS (d.drop a) = bstr ((d.drop (a + 1)).take m)) := by unfold Hid txS; rw [hT]
      have HE : Hid (txE a (d.drop a) = (a : Int) + 1 + m) := by
        unfold Hid txE
        rw [hT]
        dsimp only
        rw [size_bstr, List.length_take, List.length_drop, Nat.min_eq_left (by omega)]
      obtain ⟨a2, c2, run2, V2⟩ := cutB (a := some ⟨b, o, none⟩) (n := d.length) (cap := cx) ((a : Int) + 1) ((a : Int) + 1 + m) (by omega) (by omega) (by omega) hcx
      have V := V2 w d rfl hX
      have e1 : ((a : Int) + 1).toNat = a + 1 := by omega
      have e2 : ((a : Int) + 1 + m - ((a : Int) + 1)).toNat = m := by omega
      rw [e1, e2] at V
      rw [e2] at run2
      have hcv := conv_bytes V
      have i3 : ¬ (d.length : Int) < (a : Int) + 1 + m := by omega
      clear V2 V e1 e2 hT hX
      generalize bstr ((d.drop (a + 1)).take m) = S at *
      generalize d.length = n at *
      go_enter Tryz.func146, Tryz.ntmps146
      go_wp2
      refine bodyPost_ret (v := .tuple #[.string S, .int .i64 ((a : Int) + 1 + m)]) (by simp [results, Tryz.results146, go_sem]) rfl ?_
      exact ⟨by rw [HS.out, HE.out], rfl⟩
    · rw [if_neg hh] at hT
      have HS : Hid (txS (d.drop a) = ⟨#[]⟩) := by unfold Hid txS; rw [hT]
      have HE : Hid (txE a (d.drop a) = -1) := by unfold Hid txE; rw [hT]
      have i3 : (d.length : Int) < (a : Int) + 1 + m := by omega
      clear hT hX
      generalize d.length = n at *
      go_enter Tryz.func146, Tryz.ntmps146
      go_wp2
      refine bodyPost_ret (v := .tuple #[.string ⟨#[]⟩, .int .i64 (-1)]) (by simp [results, Tryz.results146, go_sem]) rfl ?_
      exact ⟨by rw [HS.out, HE.out], rfl⟩
  · have e : a = d.length := by omega
    subst e
    have HS : Hid (txS (d.drop d.length) = ⟨#[]⟩) := by rw [Hid, List.drop_length]; rfl
    have HE : Hid (txE d.length (d.drop d.length) = -1) := by rw [Hid, List.drop_length]; rfl
    have i1 : (d.length : Int) ≤ (d.length : Int) := by omega
    clear hX hx
    generalize d.length = n at *
    go_enter Tryz.func146, Tryz.ntmps146
    go_wp2
    refine bodyPost_ret (v := .tuple #[.string ⟨#[]⟩, .int .i64 (-1)]) (by simp [results, Tryz.results146, go_sem]) rfl ?_
    exact ⟨by rw [HS.out, HE.out], rfl⟩
end Go.Proofs.YtdfapehonegeeaaGreat


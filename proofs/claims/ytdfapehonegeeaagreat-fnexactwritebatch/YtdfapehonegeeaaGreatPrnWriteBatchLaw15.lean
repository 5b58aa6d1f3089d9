import Derived.Test.YtdfapehonegeeaaGreatPrnWriteBatchLaw14
import Derived.Test.YtdfapehonegeeaaGreatPrnWriteBatchLaw7
import Derived.Test.YtdfapehonegeeaaGreatPrnWriteBatchLaw13
import Derived.Test.YtdfapehonegeeaaGreatPrnWriteBatchLaw8

/-
  isAbove; the parts of an engine asked.
-/
namespace Go.Proofs.YtdfapehonegeeaaGreat
open Go.RowKit
set_option linter.unusedSectionVars false
variable [DecidableEq Wri] [Inhabited Wri] [DecidableEq BytesR] [Inhabited BytesR] [DecidableEq Rw] [Inhabited Rw] [DecidableEq TabR] [Inhabited TabR] [DecidableEq Logg] [Inhabited Logg] [DecidableEq Engn] [Inhabited Engn] [DecidableEq LoggR] [Inhabited LoggR] [DecidableEq RecsR] [Inhabited RecsR] [DecidableEq Leg] [Inhabited Leg]
set_option linter.unusedVariables false
set_option linter.unusedSimpArgs false
attribute [local go_sem ↓] Go.wp_at_zero Go.wp_at_succ

def aboveV (rows : List Rw) (n : Int) : Bool := rows.all fun r => decide (n < r.ver)
theorem aboveV_true {rows : List Rw} {n : Int} (h : ∀ i, i < rows.length → n < (rows.getD i default).ver) : aboveV rows n = true := by
  unfold aboveV
  rw [all_getD]
  intro i hi
  exact decide_eq_true (h i hi)
theorem aboveV_false {rows : List Rw} {n : Int} {i : Nat} (hi : i < rows.length) (h : (rows.getD i default).ver ≤ n) : aboveV rows n = false := by
  unfold aboveV
  exact all_false hi (decide_eq_false (by omega))
set_option maxHeartbeats 400000 in
theorem verIs_any (x : Rw) (s : Int) (B : Nat) (w : World) (hc : w.cell? ⟨B, 0, none⟩ = some (.int .i64 s)) :
    Calls Tryz.prog 112 #[.agg #[.string x.key, .int .i64 x.ver, .string x.val, .bool x.gone], .pointer (some ⟨B, 0, none⟩)] w fun e w' => e = .returned (.bool (decide (x.ver ≤ s))) ∧ Below w.heap.size w w' := by
  have hlt := World.block_lt_of_cell? _ _ hc
  dsimp only at hlt
  go_enter Tryz.func112, Tryz.ntmps112
  go_wp2
  go_ret
  exact ⟨rfl, balloc (Below.refl _ _) _⟩
set_option maxHeartbeats 1000000 in
theorem indexVer_any (x : Value) (xs : List Rw) (s : Int) (B : Nat) (w : World) (hx : RowsV w x xs) (hc : w.cell? ⟨B, 0, none⟩ = some (.int .i64 s)) :
    Calls Tryz.prog 152 #[x, .func (.func 112) #[] #[.pointer (some ⟨B, 0, none⟩)]] w fun e w' => (∃ r : Int, e = .returned (.int .i64 r) ∧ ((r = -1 ∧ aboveV xs s = true) ∨ (0 ≤ r ∧ aboveV xs s = false))) ∧ Below w.heap.size w w' := by
  obtain ⟨ax, cx, rfl, hcx, hmx, hx⟩ := hx
  unfold maxLen at hmx
  have HT : Hid ((∀ j, j < xs.length → s < (xs.getD j default).ver) → aboveV xs s = true) := aboveV_true
  have HF : Hid (∀ j, j < xs.length → (xs.getD j default).ver ≤ s → aboveV xs s = false) := fun j hj h => aboveV_false hj h
  generalize hn' : xs.length = n at *
  clear hn'
  go_enter Tryz.func152, Tryz.ntmps152
  go_wp2
  go_loopw [8] (fun i w' => ∃ k : Nat, k ≤ n ∧ i = .int .i64 k ∧ Hid (∀ j, j < k → s < (xs.getD j default).ver) ∧ Below w.heap.size w w') (fun i _ => n - (intOf i).toNat)
  case atStart => exact ⟨0, Nat.zero_le _, rfl, fun j hj => absurd hj (Nat.not_lt_zero _), Below.refl _ _⟩
  case round =>
    obtain ⟨k, hk, rfl, HP, hbl⟩ := hrel
    by_cases hlt : k < n
    · obtain ⟨bx, ox, rfl, g1⟩ := hx k hlt
      obtain ⟨l, hl⟩ : ∃ l, l = xs.getD k default := ⟨_, rfl⟩
      rw [← hl] at g1
      have HLE : Hid (l = xs.getD k default) := hl
      clear hl hx
      obtain ⟨a1, a2, a3, a4⟩ := rowCells_below hbl g1
      have hc2 := cell_keep hbl hc
      have hti : (k : Int) < (n : Int) := by omega
      have eg : ∀ args w, (callFunc 112 args).run Tryz.prog w = .ok (.enter 112 args) w := enters_of Tryz.func112 (by kernel_rfl) rfl
      clear g1
      go_wp2_with fail
      refine (verIs_any l s B _ hc2).mono ?_
      rintro e w1 ⟨rfl, hb1⟩
      have hB := bstep hbl hb1
      clear eg hb1 a1 a2 a3 a4
      by_cases hq : l.ver ≤ s
      · rw [decide_eq_true hq]
        have HQ : Hid (aboveV xs s = false) := HF.out k hlt (by rw [← HLE.out]; exact hq)
        clear hq
        go_wp2
        go_ret
        exact ⟨⟨k, rfl, .inr ⟨by omega, HQ.out⟩⟩, hB⟩
      · rw [decide_eq_false hq]
        have HQ : Hid (∀ j, j < k + 1 → s < (xs.getD j default).ver) := fun j hj => by
          by_cases e : j = k
          · rw [e, ← HLE.out]; omega
          · exact HP.out j (by omega)
        clear hq
        go_wp2
        exact ⟨⟨k + 1, by omega, by go_num, HQ, hB⟩, by simp [intOf]; omega⟩
    · obtain rfl : k = n := by omega
      have hti : ¬ (k : Int) < (k : Int) := by omega
      go_wp2
      go_ret
      exact ⟨⟨-1, rfl, .inl ⟨rfl, HT.out HP.out⟩⟩, hbl⟩
set_option maxHeartbeats 1000000 in
theorem containsVer_any (x : Value) (xs : List Rw) (s : Int) (B : Nat) (w : World) (hx : RowsV w x xs) (hc : w.cell? ⟨B, 0, none⟩ = some (.int .i64 s)) :
    Calls Tryz.prog 111 #[x, .func (.func 112) #[] #[.pointer (some ⟨B, 0, none⟩)]] w fun e w' => e = .returned (.bool (!aboveV xs s)) ∧ Below w.heap.size w w' := by
  have hX := hx
  obtain ⟨ax, cx, rfl, _⟩ := hx
  go_enter Tryz.func111, Tryz.ntmps111
  go_wp2_with fail
  refine (indexVer_any _ xs s B _ hX hc).mono ?_
  rintro e w1 ⟨⟨r, rfl, hr⟩, hb1⟩
  rcases hr with ⟨rfl, hr⟩ | ⟨hr0, hr⟩
  · have HR : Hid (_ = _) := hr
    clear hr
    go_wp2
    go_ret
    exact ⟨by rw [HR.out]; rfl, hb1⟩
  · have HR : Hid (_ = _) := hr
    clear hr
    go_wp2
    go_ret
    exact ⟨by rw [HR.out]; rfl, hb1⟩
set_option maxHeartbeats 1000000 in
theorem isAbove_any (x : Value) (xs : List Rw) (s : Int) (w : World) (hx : RowsV w x xs) :
    Calls Tryz.prog 57 #[x, .int .i64 s] w fun e w' => e = .returned (.bool (aboveV xs s)) ∧ Below w.heap.size w w' := by
  have hX := hx
  obtain ⟨ax, cx, rfl, _⟩ := hx
  go_enter Tryz.func57, Tryz.ntmps57
  go_wp2_with fail
  refine (containsVer_any _ xs s w.heap.size _ (RowsV_below hX (by (repeat (first | exact Below.refl _ _ | assumption | refine Below.drew ?_ | refine balloc ?_ _ | refine bset ?_ (by simp; omega) _ | refine bset ?_ (by simp) _ | refine bstep ?_ (by assumption))))) (by simp [go_sem])).mono ?_
  rintro e w1 ⟨rfl, hb1⟩
  have hB1 : Below w.heap.size w w1 := by (repeat (first | exact Below.refl _ _ | assumption | refine Below.drew ?_ | refine balloc ?_ _ | refine bset ?_ (by simp; omega) _ | refine bset ?_ (by simp) _ | refine bstep ?_ (by assumption)))
  obtain ⟨b, hb⟩ : ∃ b, aboveV xs s = b := ⟨_, rfl⟩
  have HB : Hid (aboveV xs s = b) := hb
  rw [hb]
  clear hb hb1
  go_wp2
  go_ret
  exact ⟨by rw [HB.out]; simp, hB1⟩
end Go.Proofs.YtdfapehonegeeaaGreat

/-
  Records that stand one behind the other: mathematics.
-/
namespace Go.Proofs.YtdfapehonegeeaaGreat
open Go.RowKit
set_option linter.unusedSectionVars false
variable [DecidableEq BytesR] [Inhabited BytesR] [DecidableEq RecsR] [Inhabited RecsR]

theorem recL_len (xs : List Byte) : (recL xs).length ≤ recU xs := by
  have H : ∀ n (xs : List Byte), xs.length ≤ n → (recL xs).length ≤ recU xs := by
    intro n
    induction n with
    | zero => intro xs h; rw [recL_end (frameSz_nil (by omega))]; simp
    | succ n ih =>
      intro xs h
      by_cases hz : frameSz xs = 0
      · rw [recL_end hz]; simp
      · have hp := frameSz_pos hz
        have := ih (xs.drop (frameSz xs)) (by rw [List.length_drop]; omega)
        rw [recL_step hz, recU_step hz, List.length_cons]
        omega
  exact H _ xs (Nat.le_refl _)
end Go.Proofs.YtdfapehonegeeaaGreat

/-
  An engine's fault: what the program asks is what the document asks (mathematics).
-/
namespace Go.Proofs.YtdfapehonegeeaaGreat
open Go.RowKit
set_option linter.unusedSectionVars false
variable [DecidableEq Wri] [Inhabited Wri] [DecidableEq BytesR] [Inhabited BytesR] [DecidableEq Rw] [Inhabited Rw] [DecidableEq TabR] [Inhabited TabR] [DecidableEq Logg] [Inhabited Logg] [DecidableEq Engn] [Inhabited Engn] [DecidableEq LoggR] [Inhabited LoggR] [DecidableEq RecsR] [Inhabited RecsR] [DecidableEq Leg] [Inhabited Leg]
set_option linter.unusedVariables false
set_option linter.unusedSimpArgs false

def rowsOf (recs : List (List Byte)) (i : Nat) : List Rw := (unwD (recs.getD i default)).rows
theorem repF_step {next : Int} {recs : List (List Byte)} {k : Nat} {last : Int} (h : RepSo next recs k last (putsL [] (flatTo (rowsOf recs) k))) (hk : k < recs.length) (h0 : (unwD (recs.getD k default)).code = 0) (h1 : last < unwV (recs.getD k default)) (h2 : unwV (recs.getD k default) < next) :
    RepSo next recs (k + 1) (unwV (recs.getD k default)) (putsL [] (flatTo (rowsOf recs) (k + 1))) := by
  have h3 := repSo_step h hk h0 h1 h2
  rw [← putsL_app] at h3
  exact h3
theorem gv_same {n : Int} : ∀ {rows : List Rw} {g : Int}, (∀ x ∈ rows, x.ver = n) → g ≤ n → 1 ≤ rows.length → gvR g rows = n
  | [], _, _, _, h => by simp at h
  | [x], g, h, hg, _ => by
    have := h x (by simp)
    show max g x.ver = n
    omega
  | x :: y :: r, g, h, hg, _ => by
    have hx := h x (by simp)
    show gvR (max g x.ver) (y :: r) = n
    exact gv_same (fun z hz => h z (by simp at hz ⊢; exact .inr hz)) (by omega) (by simp)
theorem gv_unw {d : List Byte} (h : (unwD d).code = 0) : gvT 0 [(unwD d).rows] = unwV d := by
  obtain ⟨h1, h2, h3⟩ := unwD_ver h
  show gvR 0 (unwD d).rows = _
  exact gv_same h1 (by omega) h2
theorem flat_rows (recs : List (List Byte)) (k : Nat) : (flatTo (rowsOf recs) k).length ≤ k * 8 := flatTo_len (fun i _ => unwD_rows _)
theorem range_gv {e : Engn} : rangeE e = (inR e.next 1 1000000 && decide (gvT 0 (e.mem :: e.tables) < e.next)) := by
  unfold rangeE
  cases hin : inR e.next 1 1000000
  · rfl
  · have h0 : 0 < e.next := by
      unfold inR at hin
      simp at hin
      omega
    rw [Bool.eq_iff_iff]
    simp only [Bool.true_and, Bool.and_eq_true, decide_eq_true_eq]
    rw [gvT_le]
    simp only [List.all_cons, Bool.and_eq_true]
    constructor
    · rintro ⟨a, b⟩; exact ⟨h0, a, b⟩
    · rintro ⟨_, a, b⟩; exact ⟨a, b⟩
theorem above_gv {e : Engn} (h : tabF e.mem = 0) : aboveE e = aboveV e.mem (gvT 0 e.tables) := by
  unfold aboveE aboveV
  rw [Bool.eq_iff_iff, List.all_eq_true, List.all_eq_true]
  have hv : ∀ x ∈ e.mem, 0 < x.ver := fun x hx => by
    have := rowFault_zero (tab_small h x hx)
    omega
  constructor
  · intro a x hx
    rw [decide_eq_true_eq, gvT_le]
    exact ⟨hv x hx, a x hx⟩
  · intro a x hx
    have h1 := a x hx
    rw [decide_eq_true_eq, gvT_le] at h1
    exact h1.2
def LogdP (d : Logg) (next : Int) (W : World) (base : Nat) (v : Value) (f : Bool) : Prop :=
  (∃ a n c, v = .slice a n c) ∧ (f = true → ∃ out, replayL d next = some out ∧ out.length ≤ 200 ∧ W.ownsRow base 76 4 v out.length (rwsC out)) ∧ (f = false → ∀ out, replayL d next = some out → 200 < out.length)
theorem logd_none {d : Logg} {next : Int} {W : World} {base : Nat} (h : replayL d next = none) : LogdP d next W base (.slice none 0 0) false :=
  ⟨⟨_, _, _, rfl⟩, fun e => (Bool.false_ne_true e).elim, fun _ out ho => by rw [h] at ho; cases ho⟩
theorem logd_some {d : Logg} {next : Int} {W : World} {base : Nat} {v : Value} {f : Bool} {out : List Rw} (h : replayL d next = some out) (hv : ∃ a n c, v = .slice a n c) (h1 : f = true → W.ownsRow base 76 4 v out.length (rwsC out) ∧ out.length ≤ 200) (h2 : f = false → 200 < out.length) : LogdP d next W base v f :=
  ⟨hv, fun e => ⟨out, h, (h1 e).2, (h1 e).1⟩, fun e o ho => by rw [h] at ho; cases ho; exact h2 e⟩
theorem replayL_bytes {d : Logg} {next : Int} (h : recU (d.synced ++ d.loose) ≠ d.synced.length + d.loose.length) : replayL d next = none := by
  have := recU_le (d.synced ++ d.loose)
  rw [List.length_append] at this
  unfold replayL
  rw [if_pos (by omega)]
theorem replayL_recs {d : Logg} {next : Int} (h : recU (d.synced ++ d.loose) = d.synced.length + d.loose.length) : replayL d next = replayF next (recL (d.synced ++ d.loose)) 0 [] := by
  unfold replayL
  rw [if_neg (by omega)]
theorem rowFault_ver {x : Wri} {v : Int} (h : rowFault (wrRow 1 x) = 0) (hv : inR v 1 1000000 = true) : rowFault (wrRow v x) = 0 := by
  unfold rowFault wrRow at *
  dsimp only at *
  split at h
  · cases h
  · rename_i h1
    rw [if_neg h1]
    split at h
    · cases h
    · rename_i h2
      rw [if_neg h2, if_pos hv]
end Go.Proofs.YtdfapehonegeeaaGreat

/-
  A region that draws its order, none of whose operations breaks what is asked of the world.
-/
namespace Go.Proofs.YtdfapehonegeeaaGreat
open Go.RowKit

section
variable {P : Program} {ops : Array Oper} {Q : Exit → Act → World → Prop} {md : Region.Mode} {S : World → Prop} {t : Nat}

theorem upto_firstN {i : Nat} {oi : Oper} {v : Value} (hi : ops[i]? = some oi) (hsel : Region.noSelect ops = true) (ht : ops[t]? = none)
    (hQ : ∀ c a w, Q (.panic c) (a.put oi.dst v) w → Q (.panic c) a w) :
    ∀ (f : Nat) (listed : Array Bool) (a : Act) (w : World),
      (∀ j oj, ops[j]? = some oj → j ≠ i → listed.getD j true = false → (∀ e ∈ oj.after, Region.binds md e = true → e.on ≠ i) → oi.apart ops oj = true) →
      i ∈ Region.ready md ops listed → YieldsIf P ops S oi v a → S w →
      wpUpto P md ops Q S t f (listed.setIfInBounds i true) (a.put oi.dst v) w → wpUpto P md ops Q S t (f + 1) listed a w := by
  intro f
  induction f with
  | zero =>
    intro listed a w _ hr hy hS H
    refine ⟨fun h => (by rw [h] at hr; cases hr), fun j hj => ?_⟩
    by_cases hji : j = i
    · subst hji
      exact hy.wpOp hi hS ⟨fun _ => hS, H⟩
    · have hm := ready_mono hj hji
      rw [H.1] at hm
      cases hm
  | succ f ih =>
    intro listed a w hfree hr hy hS H
    refine ⟨fun h => (by rw [h] at hr; cases hr), fun j hj => ?_⟩
    by_cases hji : j = i
    · subst hji
      exact hy.wpOp hi hS ⟨fun _ => hS, H⟩
    · obtain ⟨hjun, oj, hoj, hall⟩ := mem_ready.1 hj
      have hun := (mem_ready.1 hr).1
      have hnl : ¬ listed.getD i false = true := by
        intro h1
        rcases Nat.lt_or_ge i listed.size with h' | h'
        · simp [h'] at hun h1
          rw [hun] at h1
          cases h1
        · simp [Array.getElem?_eq_none h'] at h1
      have hnot : ∀ e ∈ oj.after, Region.binds md e = true → e.on ≠ i := fun e he hb heq => hnl (by rw [← heq]; exact hall e he hb)
      have hjt : j ≠ t := by
        rintro rfl
        rw [ht] at hoj
        cases hoj
      have h1 := H.2 j (ready_mono hj hji)
      have h2 := wpOp_putIf hoj (hfree j oj hoj hji hjun hnot) (fun cs b => Region.noSelect_spec hsel i oi cs b hi) (fun cs b => Region.noSelect_spec hsel j oj cs b hoj) hQ hy h1
      refine wpOp_mono (fun a' w' h3 => ⟨h3.2.1, ih (listed.setIfInBounds j true) a' w' ?_ (ready_mono hr (Ne.symm hji)) h3.1 (h3.2.1 hjt) ?_⟩) h2
      · intro k ok hk hki hunk hno
        refine hfree k ok hk hki ?_ hno
        by_cases hjk : j = k
        · subst hjk; exact hjun
        · rw [getD_set_ne true hjk] at hunk; exact hunk
      · rw [Array.setIfInBounds_comm _ _ hji]
        exact h3.2.2
theorem upto_takeN {i : Nat} {oi : Oper} {v : Value} {f : Nat} {listed : Array Bool} {a : Act} {w : World} (hi : ops[i]? = some oi) (hsel : Region.noSelect ops = true) (ht : ops[t]? = none)
    (hf : Region.free md ops listed i = true) (hr : (Region.ready md ops listed).contains i = true) (hQ : ∀ c a w, Q (.panic c) (a.put oi.dst v) w → Q (.panic c) a w)
    (hwd : Region.wanted oi (yielded ops a.tmps) = true) (hS : S w) (hy : ∀ w, S w → (execOp a.eval oi).run P w = .ok (.value v) w)
    (h : wpUpto P md ops Q S t f (listed.setIfInBounds i true) (a.put oi.dst v) w) : wpUpto P md ops Q S t (f + 1) listed a w :=
  upto_firstN hi hsel ht hQ f listed a w (Region.free_spec hi hf) (by simpa using hr) (Or.inl ⟨hwd, hy⟩) hS h
theorem upto_skipN {i : Nat} {oi : Oper} {f : Nat} {listed : Array Bool} {a : Act} {w : World} (hi : ops[i]? = some oi) (hsel : Region.noSelect ops = true) (ht : ops[t]? = none)
    (hf : Region.free md ops listed i = true) (hr : (Region.ready md ops listed).contains i = true) (hQ : ∀ c a w, Q (.panic c) (a.put oi.dst undef) w → Q (.panic c) a w)
    (hwd : Region.wanted oi (yielded ops a.tmps) = false) (hS : S w)
    (h : ∀ u : Value, wpUpto P md ops Q S t f (listed.setIfInBounds i true) (a.put oi.dst u) w) : wpUpto P md ops Q S t (f + 1) listed a w :=
  upto_firstN hi hsel ht hQ f listed a w (Region.free_spec hi hf) (by simpa using hr) (Or.inr ⟨hwd, rfl⟩) hS (h undef)
end

end Go.Proofs.YtdfapehonegeeaaGreat


import Derived.Test.YtdfapehonegeeaaGreatPrnFlushEngineLaw25
import Derived.Test.YtdfapehonegeeaaGreatPrnFlushEngineLaw19
import Derived.Test.YtdfapehonegeeaaGreatPrnFlushEngineLaw22
import Derived.Test.YtdfapehonegeeaaGreatPrnFlushEngineLaw9

/-
  NewEngine, on both sides.
-/
namespace Go.Proofs.YtdfapehonegeeaaGreat
open Go.RowKit
set_option linter.unusedSectionVars false
variable [DecidableEq Logg] [Inhabited Logg] [DecidableEq Rw] [Inhabited Rw] [DecidableEq Engn] [Inhabited Engn] [DecidableEq EngR] [Inhabited EngR]
set_option linter.unusedVariables false
set_option linter.unusedSimpArgs false
attribute [local go_sem ↓] Go.wp_at_zero Go.wp_at_succ

theorem nil_own {b : Nat} (h : (Value.slice none 0 0).ownBlock = some b) : False := by simp [Value.ownBlock] at h
theorem logg_nil (w : World) (base : Nat) : loggR.O w base (fun _ => False) (.agg #[.slice none 0 0, .slice none 0 0]) ⟨[], []⟩ :=
  ⟨_, _, fun b => (Value.slice none 0 0).ownBlock = some b, fun b => (Value.slice none 0 0).ownBlock = some b, rfl, ⟨World.ownsRow_nil _ _ _ _, rfl⟩, ⟨World.ownsRow_nil _ _ _ _, rfl⟩, fun _ h => (nil_own h).elim, fun b => ⟨fun h => h.elim, fun h => h.elim nil_own nil_own⟩⟩
theorem rowss_nil (w : World) (base : Nat) : rowssR.O w base (fun _ => False) (.slice none 0 0) [] :=
  ⟨[], fun _ => .nilFunc, fun _ _ => False, ⟨World.ownsRow_nil _ _ _ _, fun i hi => absurd hi (Nat.not_lt_zero _), fun i hi => absurd hi (Nat.not_lt_zero _), fun i hi => absurd hi (Nat.not_lt_zero _), fun i hi => absurd hi (Nat.not_lt_zero _), fun i j hi => absurd hi (Nat.not_lt_zero _)⟩,
    fun b => ⟨fun h => h.elim, fun h => h.elim nil_own (fun ⟨i, hi, _⟩ => absurd hi (Nat.not_lt_zero _))⟩⟩
theorem rows_nilO (w : World) (base : Nat) : rowsR.O w base (fun _ => False) (.slice none 0 0) [] :=
  ⟨⟨World.ownsRow_nil _ _ _ _, by funext b; exact propext ⟨fun h => h.elim, nil_own⟩⟩, fun i hi => absurd hi (Nat.not_lt_zero _)⟩
theorem engn_nil (w : World) (base : Nat) (n : Int) : engnR.O w base (fun _ => False) (.agg #[.slice none 0 0, .slice none 0 0, .slice none 0 0, .slice none 0 0, .int .i64 n]) ⟨⟨[], []⟩, [], [], n⟩ :=
  ⟨_, _, _, _, _, _, _, rfl, logg_nil w base, rows_nilO w base, rowss_nil w base, fun _ h => h.elim, fun _ h => h.elim, fun _ h => h.elim, fun b => ⟨fun h => h.elim, fun h => h.elim id (fun h => h.elim id id)⟩⟩
theorem engR_nil (w : World) (base : Nat) (c v n : Int) : engRR.O w base (fun _ => False) (.agg #[.int .i64 c, .int .i64 v, .slice none 0 0, .slice none 0 0, .slice none 0 0, .slice none 0 0, .int .i64 n]) ⟨c, v, ⟨⟨[], []⟩, [], [], n⟩⟩ :=
  ⟨_, _, _, _, _, rfl, engn_nil w base n, fun _ => Iff.rfl⟩
end Go.Proofs.YtdfapehonegeeaaGreat

/-
  The layers of an engine that owns its memory.
-/
namespace Go.Proofs.YtdfapehonegeeaaGreat
open Go.RowKit
set_option linter.unusedSectionVars false
variable [DecidableEq Wri] [Inhabited Wri] [DecidableEq BytesR] [Inhabited BytesR] [DecidableEq Rw] [Inhabited Rw] [DecidableEq TabR] [Inhabited TabR] [DecidableEq Logg] [Inhabited Logg] [DecidableEq Engn] [Inhabited Engn] [DecidableEq LoggR] [Inhabited LoggR] [DecidableEq RecsR] [Inhabited RecsR] [DecidableEq Leg] [Inhabited Leg] [DecidableEq EngR] [Inhabited EngR]
set_option linter.unusedVariables false
set_option linter.unusedSimpArgs false

theorem layers_O {W W' : World} {base n : Nat} {F2 : Nat → Prop} {u3 v v' : Value} {mem : List Rw} {tabs : List (List Rw)} {cs : List Value} {us : Nat → Value} {fs : Nat → Nat → Prop} (hn : tabs.length = n)
    (h2 : rowsR.O W base F2 u3 mem) (h3 : PO rowsR 32 1 one W base v n n (fun i => tabs.getD i default) cs us fs) (h23 : ∀ b, F2 b → ∀ i, i < n → ¬ fs i b)
    (ho : W'.ownsRow base 32 1 v' (1 + n) (u3 :: cs)) (hb : Below W.heap.size W W') (hv : ∀ b, v'.ownBlock = some b → W.heap.size ≤ b) :
    ∃ F', rowssR.O W' base F' v' (mem :: tabs) ∧ ∀ b, F' b → F2 b ∨ (∃ i, i < n ∧ fs i b) ∨ (W.heap.size ≤ b ∧ b < W'.heap.size) := by
  have hl : (mem :: tabs).length = 1 + n := by rw [List.length_cons]; omega
  have hF2 : ∀ b, F2 b → b < W.heap.size := fun b hb' => (rowsR.rng h2 b hb').2
  have hfs : ∀ i, i < n → ∀ b, fs i b → b < W.heap.size := fun i hi b hb' => (rowsR.rng (h3.el i hi) b hb').2
  have hcl : cs.length = n := by simpa using h3.row.1
  refine ⟨fun b => v'.ownBlock = some b ∨ ∃ i, i < (mem :: tabs).length ∧ (match i with | 0 => F2 | i + 1 => fs i) b, ⟨u3 :: cs, (fun i => match i with | 0 => u3 | i + 1 => us i), (fun i => match i with | 0 => F2 | i + 1 => fs i), ?_, fun b => Iff.rfl⟩, ?_⟩
  · rw [hl]
    refine ⟨ho, ?_, fun _ _ => rfl, ?_, ?_, ?_⟩
    · intro i hi
      cases i with
      | zero => exact rowsR.keep h2 hb
      | succ i => exact rowsR.keep (h3.el i (by omega)) hb
    · intro i hi j hj
      obtain rfl : j = 0 := by omega
      cases i with
      | zero => simp [one]
      | succ i =>
        have h := h3.cell i (by omega) 0 (by omega)
        simpa [one] using h
    · intro i hi b hb' e
      have := hv b e
      cases i with
      | zero => have := hF2 b hb'; omega
      | succ i => have := hfs i (by omega) b hb'; omega
    · intro i j hi hj hij b p q
      cases i with
      | zero =>
        cases j with
        | zero => exact hij rfl
        | succ j => exact h23 b p j (by omega) q
      | succ i =>
        cases j with
        | zero => exact h23 b q i (by omega) p
        | succ j => exact h3.sep i j (by omega) (by omega) (by omega) b p q
  · rintro b (e | ⟨i, hi, h⟩)
    · exact .inr (.inr ⟨hv b e, (ho.lt b e).2⟩)
    · rw [hl] at hi
      cases i with
      | zero => exact .inl h
      | succ i => exact .inr (.inl ⟨i, by omega, h⟩)
theorem tabs_one {W : World} {base n : Nat} {v : Value} {d : Nat → List Rw} {cs : List Value} {us : Nat → Value} {fs : Nat → Nat → Prop} (h : PO rowsR 32 1 one W base v n n d cs us fs) : ∀ u ∈ cs, u.oneCell' = true := by
  intro u hu
  have hcl : cs.length = n := by simpa using h.row.1
  obtain ⟨i, hi, e⟩ := List.mem_iff_getElem.1 hu
  have h1 := h.cell i (by omega) 0 (by omega)
  rw [Nat.mul_one, Nat.add_zero, List.getElem?_eq_getElem hi, e] at h1
  simp only [one, List.getElem?_cons_zero, Option.some.injEq] at h1
  obtain ⟨a, c, e2⟩ := rows_form (rowsR.ofO (h.el i (by omega)))
  rw [h1, e2]
  rfl
theorem layersOf_O (x : Value) (d : Engn) (base : Nat) (F : Nat → Prop) (w : World) (hx : engnR.O w base F x d) (hbs : base ≤ w.heap.size) (hn : d.tables.length ≤ 1048576) :
    Calls Tryz.prog 54 #[x] w fun e w' => ∃ v F', e = .returned v ∧ rowssR.O w' base F' v (d.mem :: d.tables) ∧ (∀ b, F' b → F b ∨ (w.heap.size ≤ b ∧ b < w'.heap.size)) ∧ Below w.heap.size w w' := by
  obtain ⟨u1, u2, u3, u4, F1, F2, F3, rfl, o1, o2, o3, d12, d13, d23, hF⟩ := hx
  obtain ⟨a3, c3, rfl⟩ := rows_form (rowsR.ofO o2)
  obtain ⟨a4, c4, rfl⟩ := rowss_form (rowssR.ofO o3)
  obtain ⟨cs, us, fs, hp, hF3⟩ := o3
  have hcl : cs.length = d.tables.length := by simpa using hp.row.1
  refine (layersOf_raw u1 u2 a3 _ c3 a4 _ c4 d.next cs w (rowsAny_own hp.row) hcl (tabs_one hp) hn).mono ?_
  rintro e w' ⟨v, rfl, ho, hb⟩
  obtain ⟨F', h1, h2⟩ := layers_O rfl o2 hp (fun b hb i hi hf => d23 b hb ((hF3 b).2 (.inr ⟨i, hi, hf⟩))) (owns_base ho hbs) hb (fun b e => (ho.lt b e).1)
  refine ⟨v, F', rfl, h1, fun b hb' => ?_, hb⟩
  rcases h2 b hb' with h | ⟨i, hi, h⟩ | h
  · exact .inl ((hF b).2 (.inr (.inl h)))
  · exact .inl ((hF b).2 (.inr (.inr ((hF3 b).2 (.inr ⟨i, hi, h⟩)))))
  · exact .inr h
def codeE (c : Int) : EngR := ⟨c, 0, ⟨⟨[], []⟩, [], [], 0⟩⟩
def flushD (d : Engn) : EngR :=
  if engF d ≠ 0 then codeE (engF d) else if d.mem.length = 0 then codeE 4 else if 6 ≤ d.tables.length then codeE 2 else ⟨0, 0, ⟨⟨[], []⟩, [], d.mem :: d.tables, d.next⟩⟩
end Go.Proofs.YtdfapehonegeeaaGreat

/-
  FlushEngine: the program's side.
-/
namespace Go.Proofs.YtdfapehonegeeaaGreat
open Go.RowKit
set_option linter.unusedSectionVars false
variable [DecidableEq Wri] [Inhabited Wri] [DecidableEq BytesR] [Inhabited BytesR] [DecidableEq Rw] [Inhabited Rw] [DecidableEq TabR] [Inhabited TabR] [DecidableEq Logg] [Inhabited Logg] [DecidableEq Engn] [Inhabited Engn] [DecidableEq LoggR] [Inhabited LoggR] [DecidableEq RecsR] [Inhabited RecsR] [DecidableEq Leg] [Inhabited Leg] [DecidableEq EngR] [Inhabited EngR]
set_option linter.unusedVariables false
set_option linter.unusedSimpArgs false
attribute [local go_sem ↓] Go.wp_at_zero Go.wp_at_succ

theorem engn_tabs {w : World} {base : Nat} {F : Nat → Prop} {v : Value} {ts : List (List Rw)} (n : Int) (h : rowssR.O w base F v ts) : engnR.O w base F (.agg #[.slice none 0 0, .slice none 0 0, .slice none 0 0, v, .int .i64 n]) ⟨⟨[], []⟩, [], ts, n⟩ :=
  ⟨_, _, _, _, _, _, F, rfl, logg_nil w base, rows_nilO w base, h, fun _ h => h.elim, fun _ h => h.elim, fun _ h => h.elim, fun b => ⟨fun h => .inr (.inr h), fun h => h.elim False.elim (fun h => h.elim False.elim id)⟩⟩
theorem engR_of {w : World} {base : Nat} {F : Nat → Prop} {u1 u2 u3 u4 : Value} {e : Engn} (c v : Int) (h : engnR.O w base F (.agg #[u1, u2, u3, u4, .int .i64 e.next]) e) : engRR.O w base F (.agg #[.int .i64 c, .int .i64 v, u1, u2, u3, u4, .int .i64 e.next]) ⟨c, v, e⟩ :=
  ⟨_, _, _, _, F, rfl, h, fun _ => Iff.rfl⟩
def fluC : Nat → List Nat
  | 2 => [1]
  | 5 => [2]
  | _ => []
def fluG (base : Nat) (d : Engn) : Nat → (Nat → Value) → (Nat → Prop) → World → Prop
  | 1, y, F, w => (∃ p1 p2 p3 p4 k1 k2 k3 k4, y 22 = .agg #[.slice p1 d.log.synced.length k1, .slice p2 d.log.loose.length k2, .slice p3 d.mem.length k3, .slice p4 d.tables.length k4, .int .i64 d.next]) ∧ engnR.O w base F (y 22) d
  | 2, y, F, w => (∃ a c, y 23 = .slice a (d.tables.length + 1) c) ∧ rowssR.O w base F (y 23) (d.mem :: d.tables)
  | 5, y, F, w => ∃ a c, y 26 = .agg #[.slice none 0 0, .slice none 0 0, .slice none 0 0, .slice a (d.tables.length + 1) c, .int .i64 d.next] ∧ rowssR.O w base F (.slice a (d.tables.length + 1) c) (d.mem :: d.tables)
  | 6, y, F, w => ∃ B, y 4 = .pointer (some ⟨B, 0, none⟩) ∧ F B ∧ base ≤ B ∧ B < w.heap.size ∧ (w.cell? ⟨B, 0, none⟩ = some (.slice none 0 0) ∧ w.cell? ⟨B, 1, none⟩ = some (.slice none 0 0) ∧ w.cell? ⟨B, 2, none⟩ = some (.slice none 0 0) ∧ w.cell? ⟨B, 3, none⟩ = some (.slice none 0 0) ∧ w.cell? ⟨B, 4, none⟩ = some (.int .i64 0)) ∧ ∀ o, w.frozen? ⟨B, o, none⟩ = false
  | _, _, _, _ => True
set_option maxRecDepth 20000 in
set_option maxHeartbeats 8000000 in
theorem implFlush_u (x : Value) (d : Engn) (w : World) (hx : engnR.V w x d) (hn : wtEngn d ≤ 1048576) :
    Calls Tryz.prog 29 #[x] w fun e w' => ∃ v F, e = .returned v ∧ engRR.O w' w.heap.size F v (flushD d) ∧ Below w.heap.size w w' := by
  have HX : Hid (engnR.V w x d) := hx
  obtain ⟨a1, a2, a3, a4, c1, c2, c3, c4, rfl⟩ := engn_form hx
  have HWT : Hid (wtEngn d ≤ 1048576) := hn
  clear hx
  go_enter Tryz.func29, Tryz.ntmps29
  go_wp2_with fail
  refine (implEngF_any _ d _ (engnR.below HX.out (by (repeat (first | exact Below.refl _ _ | assumption | refine Below.drew ?_ | refine balloc ?_ _ | refine bset ?_ (by simp; omega) _ | refine bset ?_ (by simp) _ | refine bstep ?_ (by assumption))))) hn).mono ?_
  rintro e w1 ⟨rfl, b1⟩
  have r0 : w1.cell? ⟨w.heap.size, 0, none⟩ = some (.slice a1 d.log.synced.length c1) := cell_keep b1 (by simp [go_sem])
  have r1 : w1.cell? ⟨w.heap.size, 1, none⟩ = some (.slice a2 d.log.loose.length c2) := cell_keep b1 (by simp [go_sem])
  have r2 : w1.cell? ⟨w.heap.size, 2, none⟩ = some (.slice a3 d.mem.length c3) := cell_keep b1 (by simp [go_sem])
  have r3 : w1.cell? ⟨w.heap.size, 3, none⟩ = some (.slice a4 d.tables.length c4) := cell_keep b1 (by simp [go_sem])
  have r4 : w1.cell? ⟨w.heap.size, 4, none⟩ = some (.int .i64 d.next) := cell_keep b1 (by simp [go_sem])
  have q0 : w1.cell? ⟨w.heap.size + 1, 0, none⟩ = some (.int .i64 0) := cell_keep b1 (by simp [go_sem])
  have q1 : w1.cell? ⟨w.heap.size + 1, 1, none⟩ = some (.int .i64 0) := cell_keep b1 (by simp [go_sem])
  have q2 : w1.cell? ⟨w.heap.size + 1, 2, none⟩ = some (.slice none 0 0) := cell_keep b1 (by simp [go_sem])
  have q3 : w1.cell? ⟨w.heap.size + 1, 3, none⟩ = some (.slice none 0 0) := cell_keep b1 (by simp [go_sem])
  have q4 : w1.cell? ⟨w.heap.size + 1, 4, none⟩ = some (.slice none 0 0) := cell_keep b1 (by simp [go_sem])
  have q5 : w1.cell? ⟨w.heap.size + 1, 5, none⟩ = some (.slice none 0 0) := cell_keep b1 (by simp [go_sem])
  have q6 : w1.cell? ⟨w.heap.size + 1, 6, none⟩ = some (.int .i64 0) := cell_keep b1 (by simp [go_sem])
  obtain ⟨qf, qz⟩ : (∀ o, w1.frozen? ⟨w.heap.size + 1, o, none⟩ = false) ∧ w.heap.size + 1 < w1.heap.size := by
    have h := b1.size
    simp only [World.size_alloc] at h
    exact ⟨fun o => by rw [(bcell b1).2 _ _ (by simp)]; simp [go_sem], by omega⟩
  have hB1 : Below w.heap.size w w1 := by (repeat (first | exact Below.refl _ _ | assumption | refine Below.drew ?_ | refine balloc ?_ _ | refine bset ?_ (by simp; omega) _ | refine bset ?_ (by simp) _ | refine bstep ?_ (by assumption)))
  clear b1 hn
  by_cases h0 : engF d = 0
  rotate_left
  · have HE : Hid (flushD d = codeE (engF d)) := by unfold Hid flushD; rw [if_pos (by simpa using h0)]
    have hc : (engF d == 0) = false := by simpa using h0
    generalize engF d = c at *
    go_wp2
    refine bodyPost_ret (v := .agg #[.int .i64 c, .int .i64 0, .slice none 0 0, .slice none 0 0, .slice none 0 0, .slice none 0 0, .int .i64 0]) (by simp [results, Tryz.results29, go_sem, q0, q1, q2, q3, q4, q5, q6, qf, qz]) rfl ?_
    rw [HE.out]
    first | exact ⟨_, rfl, ⟨_, engR_nil _ _ c 0 0⟩, by (repeat (first | refine bset ?_ (by simp; omega) _ | refine bset ?_ (by simp) _ | refine balloc ?_ _ | assumption))⟩ | exact ⟨_, _, rfl, engR_nil _ _ c 0 0, by (repeat (first | refine bset ?_ (by simp; omega) _ | refine bset ?_ (by simp) _ | refine balloc ?_ _ | assumption))⟩
  rw [h0]
  have HEF : Hid (engF d = 0) := h0
  clear h0
  have h6 : d.tables.length ≤ 6 := (partsF_inv (engF_inv HEF.out).1).2.2.1
  have HM0 : Hid (d.mem.length = 0 → flushD d = codeE 4) := fun h => by unfold flushD; rw [if_neg (by simpa using HEF.out), if_pos h]
  have HT6 : Hid (¬ d.mem.length = 0 → 6 ≤ d.tables.length → flushD d = codeE 2) := fun h h1 => by unfold flushD; rw [if_neg (by simpa using HEF.out), if_neg h, if_pos h1]
  have HOK : Hid (¬ d.mem.length = 0 → ¬ 6 ≤ d.tables.length → flushD d = ⟨0, 0, ⟨⟨[], []⟩, [], d.mem :: d.tables, d.next⟩⟩) := fun h h1 => by unfold flushD; rw [if_neg (by simpa using HEF.out), if_neg h, if_neg h1]
  by_cases hm : d.mem.length = 0
  · have HE : Hid (flushD d = codeE 4) := HM0.out hm
    have hm1 : ((d.mem.length : Int) == 0) = true := by simpa using hm
    have hm2 : (d.mem.length : Int) = 0 := by omega
    clear HM0 HT6 HOK hm
    generalize d.mem.length = lm at *
    generalize d.tables.length = lt at *
    go_wp2
    refine bodyPost_ret (v := .agg #[.int .i64 4, .int .i64 0, .slice none 0 0, .slice none 0 0, .slice none 0 0, .slice none 0 0, .int .i64 0]) (by simp [results, Tryz.results29, go_sem, q0, q1, q2, q3, q4, q5, q6, qf, qz]) rfl ?_
    rw [HE.out]
    first | exact ⟨_, rfl, ⟨_, engR_nil _ _ 4 0 0⟩, by (repeat (first | refine bset ?_ (by simp; omega) _ | refine bset ?_ (by simp) _ | refine balloc ?_ _ | assumption))⟩ | exact ⟨_, _, rfl, engR_nil _ _ 4 0 0, by (repeat (first | refine bset ?_ (by simp; omega) _ | refine bset ?_ (by simp) _ | refine balloc ?_ _ | assumption))⟩
  have hm1 : ((d.mem.length : Int) == 0) = false := by simpa using hm
  by_cases ht : 6 ≤ d.tables.length
  · have HE : Hid (flushD d = codeE 2) := HT6.out hm ht
    have ht1 : ((d.tables.length : Int) == 6) = true := by simp; omega
    have ht2 : (6 : Int) ≤ (d.tables.length : Int) := by omega
    have ht3 : (d.tables.length : Int) = 6 := by omega
    clear HM0 HT6 HOK
    generalize d.mem.length = lm at *
    generalize d.tables.length = lt at *
    go_wp2
    refine bodyPost_ret (v := .agg #[.int .i64 2, .int .i64 0, .slice none 0 0, .slice none 0 0, .slice none 0 0, .slice none 0 0, .int .i64 0]) (by simp [results, Tryz.results29, go_sem, q0, q1, q2, q3, q4, q5, q6, qf, qz]) rfl ?_
    rw [HE.out]
    first | exact ⟨_, rfl, ⟨_, engR_nil _ _ 2 0 0⟩, by (repeat (first | refine bset ?_ (by simp; omega) _ | refine bset ?_ (by simp) _ | refine balloc ?_ _ | assumption))⟩ | exact ⟨_, _, rfl, engR_nil _ _ 2 0 0, by (repeat (first | refine bset ?_ (by simp; omega) _ | refine bset ?_ (by simp) _ | refine balloc ?_ _ | assumption))⟩
  have ht1 : ((d.tables.length : Int) == 6) = false := by simp; omega
  have ht2 : ¬ (6 : Int) ≤ (d.tables.length : Int) := by omega
  have HE : Hid (flushD d = ⟨0, 0, ⟨⟨[], []⟩, [], d.mem :: d.tables, d.next⟩⟩) := HOK.out hm ht
  clear HM0 HT6 HOK
  have HDL : Hid (d.tables.length ≤ 1048576) := by rw [Hid]; omega
  go_wp2
  refine wp_region_noPanic ?_
  refine region_upto (fun w' => w'.cell? ⟨w.heap.size, 0, none⟩ = some (.slice a1 d.log.synced.length c1) ∧ w'.cell? ⟨w.heap.size, 1, none⟩ = some (.slice a2 d.log.loose.length c2) ∧ w'.cell? ⟨w.heap.size, 2, none⟩ = some (.slice a3 d.mem.length c3) ∧ w'.cell? ⟨w.heap.size, 3, none⟩ = some (.slice a4 d.tables.length c4) ∧ w'.cell? ⟨w.heap.size, 4, none⟩ = some (.int .i64 d.next)) 7 (by kernel_rfl) ⟨cell_keep (by (repeat (first | exact Below.refl _ _ | assumption | refine Below.drew ?_ | refine balloc ?_ _ | refine bset ?_ (by simp; omega) _ | refine bset ?_ (by simp) _ | refine bstep ?_ (by assumption)))) r0, cell_keep (by (repeat (first | exact Below.refl _ _ | assumption | refine Below.drew ?_ | refine balloc ?_ _ | refine bset ?_ (by simp; omega) _ | refine bset ?_ (by simp) _ | refine bstep ?_ (by assumption)))) r1, cell_keep (by (repeat (first | exact Below.refl _ _ | assumption | refine Below.drew ?_ | refine balloc ?_ _ | refine bset ?_ (by simp; omega) _ | refine bset ?_ (by simp) _ | refine bstep ?_ (by assumption)))) r2, cell_keep (by (repeat (first | exact Below.refl _ _ | assumption | refine Below.drew ?_ | refine balloc ?_ _ | refine bset ?_ (by simp; omega) _ | refine bset ?_ (by simp) _ | refine bstep ?_ (by assumption)))) r3, cell_keep (by (repeat (first | exact Below.refl _ _ | assumption | refine Below.drew ?_ | refine balloc ?_ _ | refine bset ?_ (by simp; omega) _ | refine bset ?_ (by simp) _ | refine bstep ?_ (by assumption)))) r4⟩ (fun hS => ?_)
  refine upto_take (i := 0) (v := ?_) rfl (by kernel_rfl) (by kernel_rfl) (by kernel_rfl) (by kernel_rfl) (fun _ _ _ h => h) (by rfl) hS ?_ ?_
  rotate_left
  · intro wS hSw
    try dsimp only at hSw
    first | (go_simp; done) | (go_simp; with_reducible rfl)
  try simp only [Act.put, List.getElem_toArray, List.getElem_cons_zero, List.getElem_cons_succ, List.setIfInBounds_toArray, List.set_cons_zero, List.set_cons_succ]
  refine upto_take (i := 3) (v := ?_) rfl (by kernel_rfl) (by kernel_rfl) (by kernel_rfl) (by kernel_rfl) (fun _ _ _ h => h) (by rfl) hS ?_ ?_
  rotate_left
  · intro wS hSw
    try dsimp only at hSw
    first | (go_simp; done) | (go_simp; with_reducible rfl)
  try simp only [Act.put, List.getElem_toArray, List.getElem_cons_zero, List.getElem_cons_succ, List.setIfInBounds_toArray, List.set_cons_zero, List.set_cons_succ]
  refine upto_take (i := 4) (v := ?_) rfl (by kernel_rfl) (by kernel_rfl) (by kernel_rfl) (by kernel_rfl) (fun _ _ _ h => h) (by rfl) hS ?_ ?_
  rotate_left
  · intro wS hSw
    try dsimp only at hSw
    first | (go_simp; done) | (go_simp; with_reducible rfl)
  try simp only [Act.put, List.getElem_toArray, List.getElem_cons_zero, List.getElem_cons_succ, List.setIfInBounds_toArray, List.set_cons_zero, List.set_cons_succ]
  have hb0 : Below w1.heap.size w1 w1.drew := Below.drew (Below.refl _ _)
  generalize w1.drew = W0 at *
  have hs10 := hb0.size
  have hz0 : w.heap.size + 1 < W0.heap.size := by omega
  refine upto_cons' [(1, 22), (2, 23), (5, 26), (6, 4)] fluC (fluG W0.heap.size d) (by kernel_rfl) hS ?_ ?_ ?_ ?_
  · intro F W W' h hm hF
    have hne : ¬ F w.heap.size := fun e => by have := hF _ e; omega
    exact ⟨hm.cell h.1 hne, hm.cell h.2.1 hne, hm.cell h.2.2.1 hne, hm.cell h.2.2.2.1 hne, hm.cell h.2.2.2.2 hne⟩
  · intro p hp
    simp only [List.mem_cons, List.not_mem_nil, or_false] at hp
    rcases hp with rfl | rfl | rfl | rfl
    · intro y y' F F' W W' h hF hm hap hF' e _
      simp only [fluG] at h ⊢
      rw [e]
      exact ⟨h.1, engnR.mod h.2 hm (fun b hb hf => hap b hf hb)⟩
    · intro y y' F F' W W' h hF hm hap hF' e _
      simp only [fluG] at h ⊢
      rw [e]
      exact ⟨h.1, rowssR.mod h.2 hm (fun b hb hf => hap b hf hb)⟩
    · intro y y' F F' W W' h hF hm hap hF' e _
      simp only [fluG] at h ⊢
      rw [e]
      obtain ⟨a, c, h1, h2⟩ := h
      exact ⟨a, c, h1, rowssR.mod h2 hm (fun b hb hf => hap b hf hb)⟩
    · intro y y' F F' W W' h hF hm hap hF' e _
      simp only [fluG] at h ⊢
      rw [e]
      obtain ⟨B, h1, h2, h3, h3', ⟨g0, g1, g2, g3, g4⟩, h4⟩ := h
      have hne : ¬ F' B := fun hf => hap B hf h2
      exact ⟨B, h1, h2, h3, Nat.lt_of_lt_of_le h3' hm.size, ⟨hm.cell g0 hne, hm.cell g1 hne, hm.cell g2 hne, hm.cell g3 hne, hm.cell g4 hne⟩, fun o => (hm.frozen (a := ⟨B, o, none⟩) h3' hne).trans (h4 o)⟩
  · intro p hp
    simp only [List.mem_cons, List.not_mem_nil, or_false] at hp
    rcases hp with rfl | rfl | rfl | rfl
    all_goals
      refine ⟨_, rfl, rfl, ?_⟩
      intro y W Φ hSW hBW hd K hK
    · clear hd
      refine ⟨?_⟩
      simp only [over, Act.put, List.getElem_toArray, List.getElem_cons_zero, List.getElem_cons_succ, List.map_cons, List.map_nil, List.foldl_cons, List.foldl_nil, List.setIfInBounds_toArray, List.set_cons_zero, List.set_cons_succ] at hK ⊢
      go_simp
      refine (copied_u _ d _ (engnR.below HX.out (bstep hB1 (bstep hb0 hBW))) HWT.out).mono ?_
      rintro e w' ⟨v, F, rfl, o3, hb3⟩
      refine hK _ _ F (Mod.of_below hb3) (fun b hb => .inr (engnR.rng o3 b hb)) ?_
      simp only [fluG, updV]
      obtain ⟨p1, p2, p3, p4, k1, k2, k3, k4, hv⟩ := engn_form (engnR.ofO o3)
      exact ⟨⟨p1, p2, p3, p4, k1, k2, k3, k4, by simpa using hv⟩, by simpa using engnR.base o3 hBW.size⟩
    · have g1 := hd (1, 22) (by simp) (by kernel_rfl) (.inl (by simp [fluC]))
      clear hd
      simp only [fluG] at g1
      obtain ⟨hI, ⟨p1, p2, p3, p4, k1, k2, k3, k4, e1⟩, g1⟩ := g1
      have hbw := hBW.size
      rw [e1] at g1
      refine ⟨?_⟩
      simp only [over, Act.put, List.getElem_toArray, List.getElem_cons_zero, List.getElem_cons_succ, List.map_cons, List.map_nil, List.foldl_cons, List.foldl_nil, List.setIfInBounds_toArray, List.set_cons_zero, List.set_cons_succ] at hK ⊢
      simp only [e1] at hK ⊢
      go_simp
      refine (layersOf_O _ d W0.heap.size (Φ 1) _ g1 hbw HDL.out).mono ?_
      rintro e w' ⟨v, F, rfl, o3, hF, hb3⟩
      refine hK _ _ F (Mod.of_below hb3) (fun b hb => (hF b hb).imp (fun h => ⟨1, by simp [fluC], h⟩) id) ?_
      simp only [fluG, updV]
      obtain ⟨av, cv, hv⟩ := rowss_form (rowssR.ofO o3)
      exact ⟨⟨av, cv, by simpa using hv⟩, by simpa using o3⟩
    · have g1 := hd (2, 23) (by simp) (by kernel_rfl) (.inl (by simp [fluC]))
      clear hd
      simp only [fluG] at g1
      obtain ⟨hI, ⟨a, c, e1⟩, g1⟩ := g1
      rw [e1] at g1
      refine ⟨?_⟩
      simp only [over, Act.put, List.getElem_toArray, List.getElem_cons_zero, List.getElem_cons_succ, List.map_cons, List.map_nil, List.foldl_cons, List.foldl_nil, List.setIfInBounds_toArray, List.set_cons_zero, List.set_cons_succ] at hK ⊢
      simp only [e1] at hK ⊢
      go_simp
      refine hK _ _ (Φ 2) (Mod.refl _ _) (fun b hb => .inl ⟨2, by simp [fluC], hb⟩) ?_
      simp only [fluG, updV]
      exact ⟨a, c, by simp, g1⟩
    · clear hd
      have hbw := hBW.size
      refine ⟨?_⟩
      simp only [over, Act.put, List.getElem_toArray, List.getElem_cons_zero, List.getElem_cons_succ, List.map_cons, List.map_nil, List.foldl_cons, List.foldl_nil, List.setIfInBounds_toArray, List.set_cons_zero, List.set_cons_succ] at hK ⊢
      go_simp
      refine hK _ _ (fun b => b = W.heap.size) (Mod.of_below (by (repeat (first | exact Below.refl _ _ | assumption | refine Below.drew ?_ | refine balloc ?_ _ | refine bset ?_ (by simp; omega) _ | refine bset ?_ (by simp) _ | refine bstep ?_ (by assumption))))) (fun b hb => .inr (by rw [hb]; simp)) ?_
      simp only [fluG, updV]
      exact ⟨W.heap.size, by simp, rfl, hbw, by simp, ⟨by simp [go_sem], by simp [go_sem], by simp [go_sem], by simp [go_sem], by simp [go_sem]⟩, fun o => by simp [go_sem]⟩
  · refine ⟨_, rfl, ?_⟩
    intro y W Φ hSW hBW hd hap K hK
    have g5 := hd (5, 26) (by simp) (by decide)
    have g6 := hd (6, 4) (by simp) (by decide)
    have p56 := hap (5, 26) (by simp) (6, 4) (by simp) (by simp) (by decide) (by decide)
    clear hd hap
    simp only [fluG] at g5 g6
    obtain ⟨hI5, a, c, e5, o5⟩ := g5
    obtain ⟨hI6, B, e6, hFB, hBlo, hBhi, ⟨k0, k1, k2, k3, k4⟩, kf⟩ := g6
    have hnB : ¬ Φ 5 B := fun h => p56 B h hFB
    have hBW1 : Below w1.heap.size w1 W := bstep hb0 hBW
    have hBWw : Below w.heap.size w W := bstep hB1 hBW1
    have hwz := hBWw.size
    generalize (Φ 5) = F5 at *
    clear hFB p56 hI5 hI6
    refine ⟨?_⟩
    simp only [over, Act.put, List.getElem_toArray, List.getElem_cons_zero, List.getElem_cons_succ, List.map_cons, List.map_nil, List.foldl_cons, List.foldl_nil, List.setIfInBounds_toArray, List.set_cons_zero, List.set_cons_succ]
    simp only [e5, e6]
    clear e5 e6 hSW hS
    generalize hln : (d.tables.length + 1) = ln at *
    have HLN : Hid ((d.tables.length + 1) = ln) := hln
    clear hln
    go_simp
    refine hK _ _ ?_
    clear hK K
    refine NoPanic.normal ?_
    have hm5 : Mod (fun b => b = B) W (((((W.setCell ⟨B, 0, none⟩ (.slice none 0 0)).setCell ⟨B, 1, none⟩ (.slice none 0 0)).setCell ⟨B, 2, none⟩ (.slice none 0 0)).setCell ⟨B, 3, none⟩ (.slice a ln c)).setCell ⟨B, 4, none⟩ (.int .i64 d.next)) := ((((Mod.of_set W ⟨B, 0, none⟩ _).trans (Mod.of_set _ ⟨B, 1, none⟩ _)).trans (Mod.of_set _ ⟨B, 2, none⟩ _)).trans (Mod.of_set _ ⟨B, 3, none⟩ _)).trans (Mod.of_set _ ⟨B, 4, none⟩ _)
    have t0 : (((((W.setCell ⟨B, 0, none⟩ (.slice none 0 0)).setCell ⟨B, 1, none⟩ (.slice none 0 0)).setCell ⟨B, 2, none⟩ (.slice none 0 0)).setCell ⟨B, 3, none⟩ (.slice a ln c)).setCell ⟨B, 4, none⟩ (.int .i64 d.next)).cell? ⟨B, 0, none⟩ = some (.slice none 0 0) := by simp [go_sem, k0, k1, k2, k3, k4, kf]
    have t1 : (((((W.setCell ⟨B, 0, none⟩ (.slice none 0 0)).setCell ⟨B, 1, none⟩ (.slice none 0 0)).setCell ⟨B, 2, none⟩ (.slice none 0 0)).setCell ⟨B, 3, none⟩ (.slice a ln c)).setCell ⟨B, 4, none⟩ (.int .i64 d.next)).cell? ⟨B, 1, none⟩ = some (.slice none 0 0) := by simp [go_sem, k0, k1, k2, k3, k4, kf]
    have t2 : (((((W.setCell ⟨B, 0, none⟩ (.slice none 0 0)).setCell ⟨B, 1, none⟩ (.slice none 0 0)).setCell ⟨B, 2, none⟩ (.slice none 0 0)).setCell ⟨B, 3, none⟩ (.slice a ln c)).setCell ⟨B, 4, none⟩ (.int .i64 d.next)).cell? ⟨B, 2, none⟩ = some (.slice none 0 0) := by simp [go_sem, k0, k1, k2, k3, k4, kf]
    have t3 : (((((W.setCell ⟨B, 0, none⟩ (.slice none 0 0)).setCell ⟨B, 1, none⟩ (.slice none 0 0)).setCell ⟨B, 2, none⟩ (.slice none 0 0)).setCell ⟨B, 3, none⟩ (.slice a ln c)).setCell ⟨B, 4, none⟩ (.int .i64 d.next)).cell? ⟨B, 3, none⟩ = some (.slice a ln c) := by simp [go_sem, k0, k1, k2, k3, k4, kf]
    have t4 : (((((W.setCell ⟨B, 0, none⟩ (.slice none 0 0)).setCell ⟨B, 1, none⟩ (.slice none 0 0)).setCell ⟨B, 2, none⟩ (.slice none 0 0)).setCell ⟨B, 3, none⟩ (.slice a ln c)).setCell ⟨B, 4, none⟩ (.int .i64 d.next)).cell? ⟨B, 4, none⟩ = some (.int .i64 d.next) := by simp [go_sem, k0, k1, k2, k3, k4, kf]
    generalize ((((W.setCell ⟨B, 0, none⟩ (.slice none 0 0)).setCell ⟨B, 1, none⟩ (.slice none 0 0)).setCell ⟨B, 2, none⟩ (.slice none 0 0)).setCell ⟨B, 3, none⟩ (.slice a ln c)).setCell ⟨B, 4, none⟩ (.int .i64 d.next) = W5 at *
    have HO5 : Hid (rowssR.O W5 W0.heap.size F5 (.slice a ln c) (d.mem :: d.tables)) := rowssR.mod o5 hm5 (fun b hb e => hnB (e ▸ hb))
    have hne : w.heap.size + 1 ≠ B := by omega
    replace q0 := hm5.cell (cell_keep hBW1 q0) hne
    replace q1 := hm5.cell (cell_keep hBW1 q1) hne
    replace q2 := hm5.cell (cell_keep hBW1 q2) hne
    replace q3 := hm5.cell (cell_keep hBW1 q3) hne
    replace q4 := hm5.cell (cell_keep hBW1 q4) hne
    replace q5 := hm5.cell (cell_keep hBW1 q5) hne
    replace q6 := hm5.cell (cell_keep hBW1 q6) hne
    have qf5 : ∀ o, W5.frozen? ⟨w.heap.size + 1, o, none⟩ = false := fun o => (hm5.frozen (a := ⟨w.heap.size + 1, o, none⟩) (by show w.heap.size + 1 < W.heap.size; have := hBW1.size; omega) hne).trans ((boxKeep ⟨qf, qz⟩ hBW1).1 o)
    have hB5 : Below w.heap.size w W5 := hm5.below hBWw hwz (fun b e => by rw [e]; omega)
    have hz5 : w.heap.size + 1 < W0.heap.size := hz0
    have hW05 : w.heap.size ≤ W0.heap.size := by omega
    clear hm5 k0 k1 k2 k3 k4 kf o5 hnB qf hBW hBW1 hBWw hb0 hB1 r0 r1 r2 r3 r4 hwz hs10 qz
    go_wp2
    refine bodyPost_ret (v := .agg #[.int .i64 0, .int .i64 0, .slice none 0 0, .slice none 0 0, .slice none 0 0, .slice a ln c, .int .i64 d.next]) (by simp [results, Tryz.results29, go_sem, q0, q1, q2, q3, q4, q5, q6, qf5]) rfl ?_
    rw [HE.out]
    have hfin := engR_of (e := ⟨⟨[], []⟩, [], d.mem :: d.tables, d.next⟩) 0 0 (engn_tabs d.next HO5.out)
    first | exact ⟨_, F5, rfl, engRR.base (engRR.set (engRR.set (engRR.set (engRR.set (engRR.set (engRR.set (engRR.set hfin (p := ⟨w.heap.size + 1, 0, none⟩) (.int .i64 0) hz5) (p := ⟨w.heap.size + 1, 1, none⟩) (.int .i64 0) hz5) (p := ⟨w.heap.size + 1, 2, none⟩) (.slice none 0 0) hz5) (p := ⟨w.heap.size + 1, 3, none⟩) (.slice none 0 0) hz5) (p := ⟨w.heap.size + 1, 4, none⟩) (.slice none 0 0) hz5) (p := ⟨w.heap.size + 1, 5, none⟩) (.slice a ln c) hz5) (p := ⟨w.heap.size + 1, 6, none⟩) (.int .i64 d.next) hz5) hW05, by (repeat (first | refine bset ?_ (by simp; omega) _ | refine bset ?_ (by simp) _ | refine balloc ?_ _ | assumption))⟩ | exact ⟨_, rfl, ⟨F5, engRR.base (engRR.set (engRR.set (engRR.set (engRR.set (engRR.set (engRR.set (engRR.set hfin (p := ⟨w.heap.size + 1, 0, none⟩) (.int .i64 0) hz5) (p := ⟨w.heap.size + 1, 1, none⟩) (.int .i64 0) hz5) (p := ⟨w.heap.size + 1, 2, none⟩) (.slice none 0 0) hz5) (p := ⟨w.heap.size + 1, 3, none⟩) (.slice none 0 0) hz5) (p := ⟨w.heap.size + 1, 4, none⟩) (.slice none 0 0) hz5) (p := ⟨w.heap.size + 1, 5, none⟩) (.slice a ln c) hz5) (p := ⟨w.heap.size + 1, 6, none⟩) (.int .i64 d.next) hz5) hW05⟩, by (repeat (first | refine bset ?_ (by simp; omega) _ | refine bset ?_ (by simp) _ | refine balloc ?_ _ | assumption))⟩
end Go.Proofs.YtdfapehonegeeaaGreat

/-
  FlushEngine: the specification's side.
-/
namespace Go.Proofs.YtdfapehonegeeaaGreat
open Go.RowKit
set_option linter.unusedSectionVars false
variable [DecidableEq Wri] [Inhabited Wri] [DecidableEq BytesR] [Inhabited BytesR] [DecidableEq Rw] [Inhabited Rw] [DecidableEq TabR] [Inhabited TabR] [DecidableEq Logg] [Inhabited Logg] [DecidableEq Engn] [Inhabited Engn] [DecidableEq LoggR] [Inhabited LoggR] [DecidableEq RecsR] [Inhabited RecsR] [DecidableEq Leg] [Inhabited Leg] [DecidableEq EngR] [Inhabited EngR]
set_option linter.unusedVariables false
set_option linter.unusedSimpArgs false
attribute [local go_sem ↓] Go.wp_at_zero Go.wp_at_succ

set_option maxRecDepth 20000 in
set_option maxHeartbeats 8000000 in
theorem specFlush_u (x : Value) (d : Engn) (w : World) (hx : engnR.V w x d) (hn : wtEngn d ≤ 1048576) :
    Calls Tryz.prog 28 #[x] w fun e w' => ∃ v F, e = .returned v ∧ engRR.O w' w.heap.size F v (flushD d) ∧ Below w.heap.size w w' := by
  have HX : Hid (engnR.V w x d) := hx
  obtain ⟨a1, a2, a3, a4, c1, c2, c3, c4, rfl⟩ := engn_form hx
  have HWT : Hid (wtEngn d ≤ 1048576) := hn
  clear hx
  go_enter Tryz.func28, Tryz.ntmps28
  go_wp2_with fail
  refine (specEngF_any _ d _ (engnR.below HX.out (by (repeat (first | exact Below.refl _ _ | assumption | refine Below.drew ?_ | refine balloc ?_ _ | refine bset ?_ (by simp; omega) _ | refine bset ?_ (by simp) _ | refine bstep ?_ (by assumption))))) hn).mono ?_
  rintro e w1 ⟨rfl, b1⟩
  have r0 : w1.cell? ⟨w.heap.size, 0, none⟩ = some (.slice a1 d.log.synced.length c1) := cell_keep b1 (by simp [go_sem])
  have r1 : w1.cell? ⟨w.heap.size, 1, none⟩ = some (.slice a2 d.log.loose.length c2) := cell_keep b1 (by simp [go_sem])
  have r2 : w1.cell? ⟨w.heap.size, 2, none⟩ = some (.slice a3 d.mem.length c3) := cell_keep b1 (by simp [go_sem])
  have r3 : w1.cell? ⟨w.heap.size, 3, none⟩ = some (.slice a4 d.tables.length c4) := cell_keep b1 (by simp [go_sem])
  have r4 : w1.cell? ⟨w.heap.size, 4, none⟩ = some (.int .i64 d.next) := cell_keep b1 (by simp [go_sem])
  have q0 : w1.cell? ⟨w.heap.size + 1, 0, none⟩ = some (.int .i64 0) := cell_keep b1 (by simp [go_sem])
  have q1 : w1.cell? ⟨w.heap.size + 1, 1, none⟩ = some (.int .i64 0) := cell_keep b1 (by simp [go_sem])
  have q2 : w1.cell? ⟨w.heap.size + 1, 2, none⟩ = some (.slice none 0 0) := cell_keep b1 (by simp [go_sem])
  have q3 : w1.cell? ⟨w.heap.size + 1, 3, none⟩ = some (.slice none 0 0) := cell_keep b1 (by simp [go_sem])
  have q4 : w1.cell? ⟨w.heap.size + 1, 4, none⟩ = some (.slice none 0 0) := cell_keep b1 (by simp [go_sem])
  have q5 : w1.cell? ⟨w.heap.size + 1, 5, none⟩ = some (.slice none 0 0) := cell_keep b1 (by simp [go_sem])
  have q6 : w1.cell? ⟨w.heap.size + 1, 6, none⟩ = some (.int .i64 0) := cell_keep b1 (by simp [go_sem])
  obtain ⟨qf, qz⟩ : (∀ o, w1.frozen? ⟨w.heap.size + 1, o, none⟩ = false) ∧ w.heap.size + 1 < w1.heap.size := by
    have h := b1.size
    simp only [World.size_alloc] at h
    exact ⟨fun o => by rw [(bcell b1).2 _ _ (by simp)]; simp [go_sem], by omega⟩
  have hB1 : Below w.heap.size w w1 := by (repeat (first | exact Below.refl _ _ | assumption | refine Below.drew ?_ | refine balloc ?_ _ | refine bset ?_ (by simp; omega) _ | refine bset ?_ (by simp) _ | refine bstep ?_ (by assumption)))
  clear b1 hn
  by_cases h0 : engF d = 0
  rotate_left
  · have HE : Hid (flushD d = codeE (engF d)) := by unfold Hid flushD; rw [if_pos (by simpa using h0)]
    have hc : (engF d == 0) = false := by simpa using h0
    generalize engF d = c at *
    go_wp2
    refine bodyPost_ret (v := .agg #[.int .i64 c, .int .i64 0, .slice none 0 0, .slice none 0 0, .slice none 0 0, .slice none 0 0, .int .i64 0]) (by simp [results, Tryz.results28, go_sem, q0, q1, q2, q3, q4, q5, q6, qf, qz]) rfl ?_
    rw [HE.out]
    first | exact ⟨_, rfl, ⟨_, engR_nil _ _ c 0 0⟩, by (repeat (first | refine bset ?_ (by simp; omega) _ | refine bset ?_ (by simp) _ | refine balloc ?_ _ | assumption))⟩ | exact ⟨_, _, rfl, engR_nil _ _ c 0 0, by (repeat (first | refine bset ?_ (by simp; omega) _ | refine bset ?_ (by simp) _ | refine balloc ?_ _ | assumption))⟩
  rw [h0]
  have HEF : Hid (engF d = 0) := h0
  clear h0
  have h6 : d.tables.length ≤ 6 := (partsF_inv (engF_inv HEF.out).1).2.2.1
  have HM0 : Hid (d.mem.length = 0 → flushD d = codeE 4) := fun h => by unfold flushD; rw [if_neg (by simpa using HEF.out), if_pos h]
  have HT6 : Hid (¬ d.mem.length = 0 → 6 ≤ d.tables.length → flushD d = codeE 2) := fun h h1 => by unfold flushD; rw [if_neg (by simpa using HEF.out), if_neg h, if_pos h1]
  have HOK : Hid (¬ d.mem.length = 0 → ¬ 6 ≤ d.tables.length → flushD d = ⟨0, 0, ⟨⟨[], []⟩, [], d.mem :: d.tables, d.next⟩⟩) := fun h h1 => by unfold flushD; rw [if_neg (by simpa using HEF.out), if_neg h, if_neg h1]
  by_cases hm : d.mem.length = 0
  · have HE : Hid (flushD d = codeE 4) := HM0.out hm
    have hm1 : ((d.mem.length : Int) == 0) = true := by simpa using hm
    have hm2 : (d.mem.length : Int) = 0 := by omega
    clear HM0 HT6 HOK hm
    generalize d.mem.length = lm at *
    generalize d.tables.length = lt at *
    go_wp2
    refine bodyPost_ret (v := .agg #[.int .i64 4, .int .i64 0, .slice none 0 0, .slice none 0 0, .slice none 0 0, .slice none 0 0, .int .i64 0]) (by simp [results, Tryz.results28, go_sem, q0, q1, q2, q3, q4, q5, q6, qf, qz]) rfl ?_
    rw [HE.out]
    first | exact ⟨_, rfl, ⟨_, engR_nil _ _ 4 0 0⟩, by (repeat (first | refine bset ?_ (by simp; omega) _ | refine bset ?_ (by simp) _ | refine balloc ?_ _ | assumption))⟩ | exact ⟨_, _, rfl, engR_nil _ _ 4 0 0, by (repeat (first | refine bset ?_ (by simp; omega) _ | refine bset ?_ (by simp) _ | refine balloc ?_ _ | assumption))⟩
  have hm1 : ((d.mem.length : Int) == 0) = false := by simpa using hm
  by_cases ht : 6 ≤ d.tables.length
  · have HE : Hid (flushD d = codeE 2) := HT6.out hm ht
    have ht1 : ((d.tables.length : Int) == 6) = true := by simp; omega
    have ht2 : (6 : Int) ≤ (d.tables.length : Int) := by omega
    have ht3 : (d.tables.length : Int) = 6 := by omega
    clear HM0 HT6 HOK
    generalize d.mem.length = lm at *
    generalize d.tables.length = lt at *
    go_wp2
    refine bodyPost_ret (v := .agg #[.int .i64 2, .int .i64 0, .slice none 0 0, .slice none 0 0, .slice none 0 0, .slice none 0 0, .int .i64 0]) (by simp [results, Tryz.results28, go_sem, q0, q1, q2, q3, q4, q5, q6, qf, qz]) rfl ?_
    rw [HE.out]
    first | exact ⟨_, rfl, ⟨_, engR_nil _ _ 2 0 0⟩, by (repeat (first | refine bset ?_ (by simp; omega) _ | refine bset ?_ (by simp) _ | refine balloc ?_ _ | assumption))⟩ | exact ⟨_, _, rfl, engR_nil _ _ 2 0 0, by (repeat (first | refine bset ?_ (by simp; omega) _ | refine bset ?_ (by simp) _ | refine balloc ?_ _ | assumption))⟩
  have ht1 : ((d.tables.length : Int) == 6) = false := by simp; omega
  have ht2 : ¬ (6 : Int) ≤ (d.tables.length : Int) := by omega
  have HE : Hid (flushD d = ⟨0, 0, ⟨⟨[], []⟩, [], d.mem :: d.tables, d.next⟩⟩) := HOK.out hm ht
  clear HM0 HT6 HOK
  obtain ⟨i0, hif, hz0, hz1, hz2⟩ := info_parts infoRws
  go_wp2_with fail
  refine (l6Copy_u _ d _ (engnR.below HX.out hB1) HWT.out).mono ?_
  rintro e w2 ⟨v2, F2, rfl, o2, b2⟩
  replace r0 := cell_keep b2 r0
  replace r1 := cell_keep b2 r1
  replace r2 := cell_keep b2 r2
  replace r3 := cell_keep b2 r3
  replace r4 := cell_keep b2 r4
  replace q0 := cell_keep b2 q0
  replace q1 := cell_keep b2 q1
  replace q2 := cell_keep b2 q2
  replace q3 := cell_keep b2 q3
  replace q4 := cell_keep b2 q4
  replace q5 := cell_keep b2 q5
  replace q6 := cell_keep b2 q6
  obtain ⟨qf, qz⟩ := boxKeep ⟨qf, qz⟩ b2
  have hB2 := bstep hB1 b2
  obtain ⟨p1, p2, p3, p4, k1, k2, k3, k4, rfl⟩ := engn_form (engnR.ofO o2)
  obtain ⟨u1, u2, u3, u4, G1, G2, G3, e, o1, oM, oT, d12, d13, d23, hF⟩ := o2
  simp only [Value.agg.injEq, Array.mk.injEq, List.cons.injEq, and_true] at e
  obtain ⟨rfl, rfl, rfl, rfl⟩ := e
  obtain ⟨cs, us, fs, hp, hF3⟩ := oT
  have HM2 : Hid (rowsR.O w2 w1.heap.size G2 (.slice p3 d.mem.length k3) d.mem) := oM
  have HP2 : Hid (PO rowsR 32 1 one w2 w1.heap.size (.slice p4 d.tables.length k4) d.tables.length d.tables.length (fun i => d.tables.getD i default) cs us fs) := hp
  have H23 : Hid (∀ b, G2 b → ∀ i, i < d.tables.length → ¬ fs i b) := fun b hb i hi hf => d23 b hb ((hF3 b).2 (.inr ⟨i, hi, hf⟩))
  have hcl : cs.length = d.tables.length := by simpa using hp.row.1
  have hone := tabs_one hp
  have h12 := b2.size
  clear b2 o1 oM hp d12 d13 d23 hF hF3 r0 r1 r2 r3
  go_wp2
  have hX0 : Below w2.heap.size w2 (w2.alloc (.cells #[.slice p1 d.log.synced.length k1, .slice p2 d.log.loose.length k2, .slice p3 d.mem.length k3, .slice p4 d.tables.length k4, .int .i64 d.next] 35)) := balloc (Below.refl _ _) _
  have x2 : (w2.alloc (.cells #[.slice p1 d.log.synced.length k1, .slice p2 d.log.loose.length k2, .slice p3 d.mem.length k3, .slice p4 d.tables.length k4, .int .i64 d.next] 35)).cell? ⟨w2.heap.size, 2, none⟩ = some (.slice p3 d.mem.length k3) := by simp [go_sem]
  have x3 : (w2.alloc (.cells #[.slice p1 d.log.synced.length k1, .slice p2 d.log.loose.length k2, .slice p3 d.mem.length k3, .slice p4 d.tables.length k4, .int .i64 d.next] 35)).cell? ⟨w2.heap.size, 3, none⟩ = some (.slice p4 d.tables.length k4) := by simp [go_sem]
  generalize (w2.alloc (.cells #[.slice p1 d.log.synced.length k1, .slice p2 d.log.loose.length k2, .slice p3 d.mem.length k3, .slice p4 d.tables.length k4, .int .i64 d.next] 35)) = W0 at *
  replace r4 := cell_keep hX0 r4
  replace q0 := cell_keep hX0 q0
  replace q1 := cell_keep hX0 q1
  replace q2 := cell_keep hX0 q2
  replace q3 := cell_keep hX0 q3
  replace q4 := cell_keep hX0 q4
  replace q5 := cell_keep hX0 q5
  replace q6 := cell_keep hX0 q6
  obtain ⟨qf, qz⟩ := boxKeep ⟨qf, qz⟩ hX0
  have hB3 := bstep hB2 hX0
  have h20 := hX0.size
  refine wp_region_noPanic ?_
  refine region_upto (fun w' => w'.cell? ⟨w2.heap.size, 2, none⟩ = some (.slice p3 d.mem.length k3) ∧ w'.cell? ⟨w2.heap.size, 3, none⟩ = some (.slice p4 d.tables.length k4) ∧ w'.cell? ⟨w.heap.size, 4, none⟩ = some (.int .i64 d.next)) 10 (by kernel_rfl) ⟨cell_keep (by (repeat (first | exact Below.refl _ _ | assumption | refine Below.drew ?_ | refine balloc ?_ _ | refine bset ?_ (by simp; omega) _ | refine bset ?_ (by simp) _ | refine bstep ?_ (by assumption)))) x2, cell_keep (by (repeat (first | exact Below.refl _ _ | assumption | refine Below.drew ?_ | refine balloc ?_ _ | refine bset ?_ (by simp; omega) _ | refine bset ?_ (by simp) _ | refine bstep ?_ (by assumption)))) x3, cell_keep (by (repeat (first | exact Below.refl _ _ | assumption | refine Below.drew ?_ | refine balloc ?_ _ | refine bset ?_ (by simp; omega) _ | refine bset ?_ (by simp) _ | refine bstep ?_ (by assumption)))) r4⟩ (fun hS => ?_)
  refine upto_take (i := 0) (v := ?_) rfl (by kernel_rfl) (by kernel_rfl) (by kernel_rfl) (by kernel_rfl) (fun _ _ _ h => h) (by rfl) hS ?_ ?_
  rotate_left
  · intro wS hSw
    try dsimp only at hSw
    first | (go_simp; done) | (go_simp; with_reducible rfl)
  try simp only [Act.put, List.getElem_toArray, List.getElem_cons_zero, List.getElem_cons_succ, List.setIfInBounds_toArray, List.set_cons_zero, List.set_cons_succ]
  refine upto_take (i := 1) (v := ?_) rfl (by kernel_rfl) (by kernel_rfl) (by kernel_rfl) (by kernel_rfl) (fun _ _ _ h => h) (by rfl) hS ?_ ?_
  rotate_left
  · intro wS hSw
    try dsimp only at hSw
    first | (go_simp; done) | (go_simp; with_reducible rfl)
  try simp only [Act.put, List.getElem_toArray, List.getElem_cons_zero, List.getElem_cons_succ, List.setIfInBounds_toArray, List.set_cons_zero, List.set_cons_succ]
  refine upto_take (i := 3) (v := ?_) rfl (by kernel_rfl) (by kernel_rfl) (by kernel_rfl) (by kernel_rfl) (fun _ _ _ h => h) (by rfl) hS ?_ ?_
  rotate_left
  · intro wS hSw
    try dsimp only at hSw
    first | (go_simp; done) | (go_simp; with_reducible rfl)
  try simp only [Act.put, List.getElem_toArray, List.getElem_cons_zero, List.getElem_cons_succ, List.setIfInBounds_toArray, List.set_cons_zero, List.set_cons_succ]
  refine upto_take (i := 4) (v := ?_) rfl (by kernel_rfl) (by kernel_rfl) (by kernel_rfl) (by kernel_rfl) (fun _ _ _ h => h) (by rfl) hS ?_ ?_
  rotate_left
  · intro wS hSw
    try dsimp only at hSw
    first | (go_simp; done) | (go_simp; with_reducible rfl)
  try simp only [Act.put, List.getElem_toArray, List.getElem_cons_zero, List.getElem_cons_succ, List.setIfInBounds_toArray, List.set_cons_zero, List.set_cons_succ]
  refine upto_take (i := 6) (v := ?_) rfl (by kernel_rfl) (by kernel_rfl) (by kernel_rfl) (by kernel_rfl) (fun _ _ _ h => h) (by rfl) hS ?_ ?_
  rotate_left
  · intro wS hSw
    try dsimp only at hSw
    first | (go_simp; done) | (go_simp; with_reducible rfl)
  try simp only [Act.put, List.getElem_toArray, List.getElem_cons_zero, List.getElem_cons_succ, List.setIfInBounds_toArray, List.set_cons_zero, List.set_cons_succ]
  refine upto_take (i := 7) (v := ?_) rfl (by kernel_rfl) (by kernel_rfl) (by kernel_rfl) (by kernel_rfl) (fun _ _ _ h => h) (by rfl) hS ?_ ?_
  rotate_left
  · intro wS hSw
    try dsimp only at hSw
    first | (go_simp; done) | (go_simp; with_reducible rfl)
  try simp only [Act.put, List.getElem_toArray, List.getElem_cons_zero, List.getElem_cons_succ, List.setIfInBounds_toArray, List.set_cons_zero, List.set_cons_succ]
  refine upto_step (i := 2) (by kernel_rfl) rfl ?_
  intro K hK
  go_simp
  have hb4 : Below W0.heap.size W0 (W0.alloc (.cells #[.slice p3 d.mem.length k3] 32)).drew := by (repeat (first | exact Below.refl _ _ | assumption | refine Below.drew ?_ | refine balloc ?_ _ | refine bset ?_ (by simp; omega) _ | refine bset ?_ (by simp) _ | refine bstep ?_ (by assumption)))
  have hS4 : (fun w' : World => w'.cell? ⟨w2.heap.size, 2, none⟩ = some (.slice p3 d.mem.length k3) ∧ w'.cell? ⟨w2.heap.size, 3, none⟩ = some (.slice p4 d.tables.length k4) ∧ w'.cell? ⟨w.heap.size, 4, none⟩ = some (.int .i64 d.next)) (W0.alloc (.cells #[.slice p3 d.mem.length k3] 32)).drew := ⟨cell_keep (by (repeat (first | exact Below.refl _ _ | assumption | refine Below.drew ?_ | refine balloc ?_ _ | refine bset ?_ (by simp; omega) _ | refine bset ?_ (by simp) _ | refine bstep ?_ (by assumption)))) x2, cell_keep (by (repeat (first | exact Below.refl _ _ | assumption | refine Below.drew ?_ | refine balloc ?_ _ | refine bset ?_ (by simp; omega) _ | refine bset ?_ (by simp) _ | refine bstep ?_ (by assumption)))) x3, cell_keep (by (repeat (first | exact Below.refl _ _ | assumption | refine Below.drew ?_ | refine balloc ?_ _ | refine bset ?_ (by simp; omega) _ | refine bset ?_ (by simp) _ | refine bstep ?_ (by assumption)))) r4⟩
  have ho4 : (W0.alloc (.cells #[.slice p3 d.mem.length k3] 32)).drew.ownsRow W0.heap.size 32 1 (.slice (some ⟨W0.heap.size, 0, none⟩) 1 1) 1 [.slice p3 d.mem.length k3] := owns_below (World.ownsRow_lit (base := W0.heap.size) (e := 32) (size := 1) W0 #[.slice p3 d.mem.length k3] 1 (Nat.le_refl _) (by unfold maxLen; omega) rfl) (Below.drew (Below.refl _ _))
  refine hK _ _ (fun _ => hS4) ?_
  clear hK K
  try simp only [Act.put, List.getElem_toArray, List.getElem_cons_zero, List.getElem_cons_succ, List.setIfInBounds_toArray, List.set_cons_zero, List.set_cons_succ]
  generalize (W0.alloc (.cells #[.slice p3 d.mem.length k3] 32)).drew = W4 at *
  have hs4 := hb4.size
  refine upto_step (i := 5) (by kernel_rfl) rfl ?_
  intro K hK
  refine step_appAny W4 rfl _ _ 33 rfl W0.heap.size 32 i0 _ 1 24 Tryz.underlying33 hif hz0 hz1 hz2 rfl (by decide) _ 1 [.slice p3 d.mem.length k3] rfl _ d.tables.length cs rfl ho4 (appAny_below (rowsAny_own HP2.out.row) (bstep hX0 hb4)) (by omega) hone (by unfold maxLen; omega) (by omega) hs4 ?_
  intro v5 w5 o5 g5 hb5
  have hB05 : Below W0.heap.size W0 w5 := hb5 W0 hb4
  have hB25 : Below w2.heap.size w2 w5 := bstep hX0 hB05
  have hown5 : ∀ b, v5.ownBlock = some b → W0.heap.size ≤ b := fun b e => (o5.lt b e).1
  obtain ⟨F5, h5, -⟩ := layers_O rfl HM2.out HP2.out H23.out (owns_base o5 (by omega)) hB25 (fun b e => by have := hown5 b e; omega)
  have HO5 : Hid (rowssR.O w5 w1.heap.size F5 v5 (d.mem :: d.tables)) := h5
  obtain ⟨a, c, rfl⟩ := rowss_form (rowssR.ofO h5)
  have hS5 : (fun w' : World => w'.cell? ⟨w2.heap.size, 2, none⟩ = some (.slice p3 d.mem.length k3) ∧ w'.cell? ⟨w2.heap.size, 3, none⟩ = some (.slice p4 d.tables.length k4) ∧ w'.cell? ⟨w.heap.size, 4, none⟩ = some (.int .i64 d.next)) w5 := ⟨cell_keep hB05 x2, cell_keep hB05 x3, cell_keep hB05 r4⟩
  refine hK _ _ (fun _ => hS5) ?_
  clear hK K h5 hS hS4
  try simp only [Act.put, List.getElem_toArray, List.getElem_cons_zero, List.getElem_cons_succ, List.setIfInBounds_toArray, List.set_cons_zero, List.set_cons_succ]
  replace q0 := cell_keep hB05 q0
  replace q1 := cell_keep hB05 q1
  replace q2 := cell_keep hB05 q2
  replace q3 := cell_keep hB05 q3
  replace q4 := cell_keep hB05 q4
  replace q5 := cell_keep hB05 q5
  replace q6 := cell_keep hB05 q6
  obtain ⟨qf, qz5⟩ := boxKeep ⟨qf, qz⟩ hB05
  have hB5 := bstep hB3 hB05
  have hz5 : w.heap.size + 1 < w1.heap.size := by assumption
  clear ho4 o5 g5 hb5 hown5 hB25 hB05 hb4 hX0 x2 x3 r4
  generalize (d.mem :: d.tables).length = ln at *
  refine upto_take (i := 8) (v := (.agg #[.slice none 0 0, .slice none 0 0, .slice none 0 0, .slice a ln c, .int .i64 d.next])) rfl (by kernel_rfl) (by kernel_rfl) (by kernel_rfl) (by kernel_rfl) (fun _ _ _ h => h) (by rfl) hS5 ?_ ?_
  · intro wS hSw
    try dsimp only at hSw
    go_simp
  try simp only [Act.put, List.getElem_toArray, List.getElem_cons_zero, List.getElem_cons_succ, List.setIfInBounds_toArray, List.set_cons_zero, List.set_cons_succ]
  refine upto_take (i := 9) (v := (.agg #[.int .i64 0, .int .i64 0, .slice none 0 0, .slice none 0 0, .slice none 0 0, .slice a ln c, .int .i64 d.next])) rfl (by kernel_rfl) (by kernel_rfl) (by kernel_rfl) (by kernel_rfl) (fun _ _ _ h => h) (by rfl) hS5 ?_ ?_
  · intro wS hSw
    try dsimp only at hSw
    go_simp
  try simp only [Act.put, List.getElem_toArray, List.getElem_cons_zero, List.getElem_cons_succ, List.setIfInBounds_toArray, List.set_cons_zero, List.set_cons_succ]
  refine upto_step (i := 10) (by kernel_rfl) rfl ?_
  intro K hK
  go_simp
  refine hK _ _ (fun h => absurd rfl h) ?_
  clear hK K hS5
  refine upto_done (by kernel_rfl) ?_
  refine NoPanic.normal ?_
  go_wp2
  refine bodyPost_ret (v := .agg #[.int .i64 0, .int .i64 0, .slice none 0 0, .slice none 0 0, .slice none 0 0, .slice a ln c, .int .i64 d.next]) (by simp [results, Tryz.results28, go_sem, q0, q1, q2, q3, q4, q5, q6, qf]) rfl ?_
  rw [HE.out]
  have hfin := engR_of (e := ⟨⟨[], []⟩, [], d.mem :: d.tables, d.next⟩) 0 0 (engn_tabs d.next HO5.out)
  first | exact ⟨_, F5, rfl, engRR.base (engRR.set (engRR.set (engRR.set (engRR.set (engRR.set (engRR.set (engRR.set hfin (p := ⟨w.heap.size + 1, 0, none⟩) (.int .i64 0) hz5) (p := ⟨w.heap.size + 1, 1, none⟩) (.int .i64 0) hz5) (p := ⟨w.heap.size + 1, 2, none⟩) (.slice none 0 0) hz5) (p := ⟨w.heap.size + 1, 3, none⟩) (.slice none 0 0) hz5) (p := ⟨w.heap.size + 1, 4, none⟩) (.slice none 0 0) hz5) (p := ⟨w.heap.size + 1, 5, none⟩) (.slice a ln c) hz5) (p := ⟨w.heap.size + 1, 6, none⟩) (.int .i64 d.next) hz5) hB1.size, by (repeat (first | refine bset ?_ (by simp; omega) _ | refine bset ?_ (by simp) _ | refine balloc ?_ _ | assumption))⟩ | exact ⟨_, rfl, ⟨F5, engRR.base (engRR.set (engRR.set (engRR.set (engRR.set (engRR.set (engRR.set (engRR.set hfin (p := ⟨w.heap.size + 1, 0, none⟩) (.int .i64 0) hz5) (p := ⟨w.heap.size + 1, 1, none⟩) (.int .i64 0) hz5) (p := ⟨w.heap.size + 1, 2, none⟩) (.slice none 0 0) hz5) (p := ⟨w.heap.size + 1, 3, none⟩) (.slice none 0 0) hz5) (p := ⟨w.heap.size + 1, 4, none⟩) (.slice none 0 0) hz5) (p := ⟨w.heap.size + 1, 5, none⟩) (.slice a ln c) hz5) (p := ⟨w.heap.size + 1, 6, none⟩) (.int .i64 d.next) hz5) hB1.size⟩, by (repeat (first | refine bset ?_ (by simp; omega) _ | refine bset ?_ (by simp) _ | refine balloc ?_ _ | assumption))⟩
end Go.Proofs.YtdfapehonegeeaaGreat


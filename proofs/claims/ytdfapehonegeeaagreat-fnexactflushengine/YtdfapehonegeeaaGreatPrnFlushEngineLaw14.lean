import Derived.Test.YtdfapehonegeeaaGreatPrnFlushEngineLaw12
import Derived.Test.YtdfapehonegeeaaGreatPrnFlushEngineLaw13
import Derived.Test.YtdfapehonegeeaaGreatPrnFlushEngineLaw8
import Derived.Test.YtdfapehonegeeaaGreatPrnFlushEngineLaw4
import Derived.BigQuiet
import Derived.Deep.QuietTactic
import Derived.Test.YtdfapehonegeeaaGreatPrnFlushEngineLaw7
import Derived.Test.YtdfapehonegeeaaGreatPrnFlushEngineLaw11
import Derived.RegionTactic
import Derived.ChangeAlike
import Derived.BigRegion
import Derived.Shelf.Abstract

/-
  A log: its parts on both sides.
-/
namespace Go.Proofs.YtdfapehonegeeaaGreat
open Go.RowKit
set_option linter.unusedSectionVars false
variable [DecidableEq Logg] [Inhabited Logg] [DecidableEq LoggR] [Inhabited LoggR] [DecidableEq BytesR] [Inhabited BytesR] [DecidableEq RecsR] [Inhabited RecsR] [DecidableEq Leg] [Inhabited Leg]
set_option linter.unusedSimpArgs false
attribute [local go_sem ↓] Go.wp_at_zero Go.wp_at_succ

theorem step_appB (Y : World) {ops : Array Oper} {o : Oper} {a : Act} {K : Act → World → Prop} {Q : Exit → Act → World → Prop} {E : Prop} (hgd : o.guard = none) (s x : Operand)
    (ho : o.op = .call { callee := .builtin .append, args := #[s, x], argTypes := #[22, 22] })
    (base : Nat) (v : Value) (xs : List Byte) (hs : a.eval s = v) (u : Value) (ys : List Byte) (hx : a.eval x = u)
    (hown : Y.ownsRow base 5 1 v xs.length (bytesC xs)) (hsrc : AppAny Y u ys.length (bytesC ys)) (hlen : xs.length + ys.length ≤ 1073741824) (hbase : base ≤ Y.heap.size)
    (h : ∀ v' w', w'.ownsRow base 5 1 v' (xs ++ ys).length (bytesC (xs ++ ys)) → Y.grownBy w' v.ownBlock → (∀ W : World, Below base W Y → Below base W w') → K (a.put o.dst v') w') :
    if Region.wanted o (yielded ops a.tmps) = true then Oper.wp Tryz.prog o a Y K Q else E := by
  obtain ⟨i0, hi, hz0, hz1, hz2⟩ := info_parts infoByte
  refine step_appAny Y hgd s x 22 ho base 5 i0 _ 1 1 Tryz.underlying22 hi hz0 hz1 hz2 rfl (by decide) v xs.length (bytesC xs) hs u ys.length (bytesC ys) hx hown hsrc (by rw [length_bytesC]; omega) (bytesC_one ys) (by unfold maxLen; omega) (by omega) hbase ?_
  intro v' w' h1 h2 h3
  refine h v' w' ?_ h2 h3
  rw [List.length_append, bytesC_append]
  exact h1
theorem nil_owns {W Y : World} {base : Nat} (hb : Below (W.alloc (.cells #[] 5)).heap.size (W.alloc (.cells #[] 5)) Y) (g : Nat) (hg : g = W.heap.size) (h : base ≤ g) : Y.ownsRow base 5 1 (.slice (some ⟨g, 0, none⟩) 0 0) ([] : List Byte).length (bytesC []) := by
  subst hg
  exact owns_below (World.ownsRow_lit (base := base) (e := 5) (size := 1) W #[] 0 h (by unfold maxLen; omega) rfl) hb
theorem bytes_nil (w : World) (base : Nat) : bytesR.O w base none_ (.slice none 0 0) [] :=
  ⟨by simpa [bytesC] using World.ownsRow_nil w base 5 1, by funext b; simp [none_, Value.ownBlock]⟩
theorem logg_one {w : World} {base : Nat} {F : Nat → Prop} {v : Value} {xs : List Byte} (h : bytesR.O w base F v xs) : loggR.O w base F (.agg #[v, .slice none 0 0]) ⟨xs, []⟩ :=
  ⟨_, _, F, none_, rfl, h, bytes_nil w base, fun _ _ h => h.elim, fun b => by simp [none_]⟩
theorem recU_le (xs : List Byte) : recU xs ≤ xs.length := by
  have H : ∀ n (xs : List Byte), xs.length ≤ n → recU xs ≤ xs.length := by
    intro n
    induction n with
    | zero => intro xs h; rw [recU_end (frameSz_nil (by omega))]; omega
    | succ n ih =>
      intro xs h
      by_cases hz : frameSz xs = 0
      · rw [recU_end hz]; omega
      · have hp := frameSz_pos hz
        have := ih (xs.drop (frameSz xs)) (by rw [List.length_drop]; omega)
        rw [recU_step hz]
        rw [List.length_drop] at this
        omega
  exact H _ xs (Nat.le_refl _)
def logF (d : Logg) : Int := if 6000 < d.synced.length + d.loose.length then 2 else 0
set_option maxHeartbeats 400000 in
theorem specLogF_any (x : Value) (d : Logg) (w : World) (hx : loggR.V w x d) (hn : wtLogg d ≤ 1048576) :
    Calls Tryz.prog 42 #[x] w fun e w' => e = .returned (.int .i64 (logF d)) ∧ Below w.heap.size w w' := by
  obtain ⟨a1, a2, c1, c2, rfl⟩ := logg_form hx
  unfold wtLogg wtBytes at hn
  unfold logF
  clear hx
  generalize d.synced.length = n1 at *
  generalize d.loose.length = n2 at *
  have v1 : IntKind.i64.wrap ((n1 : Int) + n2) = n1 + n2 := by rw [IntKind.wrap_i64]; omega
  by_cases h : 6000 < n1 + n2
  · have HV := h
    have v2 : (6000 : Int) < (n1 : Int) + n2 := by omega
    go_enter Tryz.func42, Tryz.ntmps42
    go_wp2
    go_ret
    exact ⟨by simp [HV], by (repeat (first | exact Below.refl _ _ | assumption | refine Below.drew ?_ | refine balloc ?_ _ | refine bset ?_ (by simp; omega) _ | refine bset ?_ (by simp) _ | refine bstep ?_ (by assumption)))⟩
  · have HV := h
    have v2 : ¬ (6000 : Int) < (n1 : Int) + n2 := by omega
    go_enter Tryz.func42, Tryz.ntmps42
    go_wp2
    go_ret
    exact ⟨by simp [HV], by (repeat (first | exact Below.refl _ _ | assumption | refine Below.drew ?_ | refine balloc ?_ _ | refine bset ?_ (by simp; omega) _ | refine bset ?_ (by simp) _ | refine bstep ?_ (by assumption)))⟩
set_option maxHeartbeats 400000 in
theorem implLogF_any (x : Value) (d : Logg) (w : World) (hx : loggR.V w x d) (hn : wtLogg d ≤ 1048576) :
    Calls Tryz.prog 107 #[x] w fun e w' => e = .returned (.int .i64 (logF d)) ∧ Below w.heap.size w w' := by
  obtain ⟨a1, a2, c1, c2, rfl⟩ := logg_form hx
  unfold wtLogg wtBytes at hn
  unfold logF
  clear hx
  generalize d.synced.length = n1 at *
  generalize d.loose.length = n2 at *
  have v1 : IntKind.i64.wrap ((n1 : Int) + n2) = n1 + n2 := by rw [IntKind.wrap_i64]; omega
  by_cases h : 6000 < n1 + n2
  · have HV := h
    have v2 : (6000 : Int) < (n1 : Int) + n2 := by omega
    go_enter Tryz.func107, Tryz.ntmps107
    go_wp2
    go_ret
    exact ⟨by simp [HV], by (repeat (first | exact Below.refl _ _ | assumption | refine Below.drew ?_ | refine balloc ?_ _ | refine bset ?_ (by simp; omega) _ | refine bset ?_ (by simp) _ | refine bstep ?_ (by assumption)))⟩
  · have HV := h
    have v2 : ¬ (6000 : Int) < (n1 : Int) + n2 := by omega
    go_enter Tryz.func107, Tryz.ntmps107
    go_wp2
    go_ret
    exact ⟨by simp [HV], by (repeat (first | exact Below.refl _ _ | assumption | refine Below.drew ?_ | refine balloc ?_ _ | refine bset ?_ (by simp; omega) _ | refine bset ?_ (by simp) _ | refine bstep ?_ (by assumption)))⟩
set_option maxHeartbeats 2000000 in
theorem l4Sync_any (x : Value) (d : Logg) (w : World) (hx : loggR.V w x d) (hn : wtLogg d ≤ 1048576) :
    Calls Tryz.prog 66 #[x] w fun e w' => ∃ v F, e = .returned v ∧ loggR.O w' w.heap.size F v ⟨d.synced ++ d.loose, []⟩ ∧ Below w.heap.size w w' := by
  have hX := hx
  obtain ⟨u1, u2, rfl, h1, h2⟩ := hx
  obtain ⟨a1, c1, rfl⟩ := bytes_form h1
  obtain ⟨a2, c2, rfl⟩ := bytes_form h2
  unfold wtLogg wtBytes at hn
  go_enter Tryz.func66, Tryz.ntmps66
  go_wp2
  refine wp_region_noPanic ?_
  refine region_upto (fun w' => Below w.heap.size w w' ∧ w'.cell? ⟨w.heap.size, 0, none⟩ = some (.slice a1 d.synced.length c1) ∧ w'.cell? ⟨w.heap.size, 1, none⟩ = some (.slice a2 d.loose.length c2)) 8 (by kernel_rfl) ⟨by (repeat (first | exact Below.refl _ _ | assumption | refine Below.drew ?_ | refine balloc ?_ _ | refine bset ?_ (by simp; omega) _ | refine bset ?_ (by simp) _ | refine bstep ?_ (by assumption))), by simp [go_sem], by simp [go_sem]⟩ (fun hS => ?_)
  refine upto_take (i := 1) (v := ?_) rfl (by kernel_rfl) (by kernel_rfl) (by kernel_rfl) (by kernel_rfl) (fun _ _ _ h => h) (by rfl) hS ?_ ?_
  rotate_left
  · intro wS hSw
    try dsimp only at hSw
    first | (go_simp; done) | (go_simp; with_reducible rfl)
  try simp only [Act.put, List.getElem_toArray, List.getElem_cons_zero, List.getElem_cons_succ, List.setIfInBounds_toArray, List.set_cons_zero, List.set_cons_succ]
  refine upto_take (i := 2) (v := ?_) rfl (by kernel_rfl) (by kernel_rfl) (by kernel_rfl) (by kernel_rfl) (fun _ _ _ h => h) (by rfl) hS ?_ ?_
  rotate_left
  · intro wS hSw
    try dsimp only at hSw
    first | (go_simp; done) | (go_simp; with_reducible rfl)
  try simp only [Act.put, List.getElem_toArray, List.getElem_cons_zero, List.getElem_cons_succ, List.setIfInBounds_toArray, List.set_cons_zero, List.set_cons_succ]
  refine upto_take (i := 4) (v := ?_) rfl (by kernel_rfl) (by kernel_rfl) (by kernel_rfl) (by kernel_rfl) (fun _ _ _ h => h) (by rfl) hS ?_ ?_
  rotate_left
  · intro wS hSw
    try dsimp only at hSw
    first | (go_simp; done) | (go_simp; with_reducible rfl)
  try simp only [Act.put, List.getElem_toArray, List.getElem_cons_zero, List.getElem_cons_succ, List.setIfInBounds_toArray, List.set_cons_zero, List.set_cons_succ]
  refine upto_take (i := 5) (v := ?_) rfl (by kernel_rfl) (by kernel_rfl) (by kernel_rfl) (by kernel_rfl) (fun _ _ _ h => h) (by rfl) hS ?_ ?_
  rotate_left
  · intro wS hSw
    try dsimp only at hSw
    first | (go_simp; done) | (go_simp; with_reducible rfl)
  try simp only [Act.put, List.getElem_toArray, List.getElem_cons_zero, List.getElem_cons_succ, List.setIfInBounds_toArray, List.set_cons_zero, List.set_cons_succ]
  refine upto_step (i := 0) (by kernel_rfl) rfl ?_
  intro K hK
  go_simp
  refine hK _ _ (fun _ => ⟨by (repeat (first | exact Below.refl _ _ | assumption | refine Below.drew ?_ | refine balloc ?_ _ | refine bset ?_ (by simp; omega) _ | refine bset ?_ (by simp) _ | refine bstep ?_ (by assumption))), by simp [go_sem], by simp [go_sem]⟩) ?_
  clear hK K
  try simp only [Act.put, List.getElem_toArray, List.getElem_cons_zero, List.getElem_cons_succ, List.setIfInBounds_toArray, List.set_cons_zero, List.set_cons_succ]
  refine upto_step (i := 3) (by kernel_rfl) rfl ?_
  intro K hK
  refine step_appB _ rfl _ _ rfl (w.heap.size + 2) (.slice (some ⟨w.heap.size + 2, 0, none⟩) 0 0) [] rfl _ d.synced rfl (nil_owns (W := (w.alloc _).alloc _) (Below.drew (Below.refl _ _)) _ (by simp) (by omega)) (appAny_bytes (bytesR.below h1 (by (repeat (first | exact Below.refl _ _ | assumption | refine Below.drew ?_ | refine balloc ?_ _ | refine bset ?_ (by simp; omega) _ | refine bset ?_ (by simp) _ | refine bstep ?_ (by assumption)))))) (by simp; omega) (by simp) ?_
  intro v6 w6 o6 hg6 hB6
  have hw6 := hB6 ((w.alloc _).alloc _) (Below.drew (Below.alloc (Below.refl _ _) (by simp) _))
  have hb6 : Below w.heap.size w w6 := Below.trans (by (repeat (first | exact Below.refl _ _ | assumption | refine Below.drew ?_ | refine balloc ?_ _ | refine bset ?_ (by simp; omega) _ | refine bset ?_ (by simp) _ | refine bstep ?_ (by assumption)))) (hw6.mono (by omega))
  clear hB6 hg6
  obtain ⟨p6, q6, rfl⟩ := owns_form o6
  have g6 := hw6.size
  simp at g6
  refine hK _ _ (fun _ => ⟨hb6, (hw6.cell (p := ⟨w.heap.size, 0, none⟩) (by simp)).trans (by simp [go_sem]), (hw6.cell (p := ⟨w.heap.size, 1, none⟩) (by simp)).trans (by simp [go_sem])⟩) ?_
  clear hK K
  try simp only [Act.put, List.getElem_toArray, List.getElem_cons_zero, List.getElem_cons_succ, List.setIfInBounds_toArray, List.set_cons_zero, List.set_cons_succ]
  refine upto_step (i := 6) (by kernel_rfl) rfl ?_
  intro K hK
  have k2 : AppAny w6 _ (d.loose).length (bytesC (d.loose)) := appAny_bytes (bytesR.below h2 hb6)
  refine step_appB _ rfl _ _ rfl (w.heap.size + 2) _ ([] ++ d.synced) rfl _ (d.loose) rfl o6 k2 (by simp; omega) g6 ?_
  intro v9 w9 o9 hg9 hB9
  have hw9 := hB9 _ hw6
  have hb9 : Below w.heap.size w w9 := Below.trans (by (repeat (first | exact Below.refl _ _ | assumption | refine Below.drew ?_ | refine balloc ?_ _ | refine bset ?_ (by simp; omega) _ | refine bset ?_ (by simp) _ | refine bstep ?_ (by assumption)))) (hw9.mono (by omega))
  clear hB9 hg9 k2 hw6 hb6 o6 g6
  obtain ⟨p9, q9, rfl⟩ := owns_form o9
  have g9 := hw9.size
  simp at g9
  refine hK _ _ (fun _ => ⟨hb9, (hw9.cell (p := ⟨w.heap.size, 0, none⟩) (by simp)).trans (by simp [go_sem]), (hw9.cell (p := ⟨w.heap.size, 1, none⟩) (by simp)).trans (by simp [go_sem])⟩) ?_
  clear hK K
  try simp only [Act.put, List.getElem_toArray, List.getElem_cons_zero, List.getElem_cons_succ, List.setIfInBounds_toArray, List.set_cons_zero, List.set_cons_succ]
  have hS9 : (fun w' => Below w.heap.size w w' ∧ w'.cell? ⟨w.heap.size, 0, none⟩ = some (.slice a1 d.synced.length c1) ∧ w'.cell? ⟨w.heap.size, 1, none⟩ = some (.slice a2 d.loose.length c2)) w9 := ⟨hb9, (hw9.cell (p := ⟨w.heap.size, 0, none⟩) (by simp)).trans (by simp [go_sem]), (hw9.cell (p := ⟨w.heap.size, 1, none⟩) (by simp)).trans (by simp [go_sem])⟩
  have r0 : w9.cell? ⟨w.heap.size + 1, 0, none⟩ = some (.slice none 0 0) := (hw9.cell (p := ⟨w.heap.size + 1, 0, none⟩) (by simp)).trans (by simp [go_sem])
  have r1 : w9.cell? ⟨w.heap.size + 1, 1, none⟩ = some (.slice none 0 0) := (hw9.cell (p := ⟨w.heap.size + 1, 1, none⟩) (by simp)).trans (by simp [go_sem])
  have rf : ∀ o, w9.frozen? ⟨w.heap.size + 1, o, none⟩ = false := fun o => (hw9.frozen (p := ⟨w.heap.size + 1, o, none⟩) (by simp)).trans (by simp [go_sem])
  have HO : Hid (World.ownsRow w9 (w.heap.size + 2) 5 1 _ _ _) := o9
  clear o9 hw9
  refine upto_take (i := 7) (v := ?_) rfl (by kernel_rfl) (by kernel_rfl) (by kernel_rfl) (by kernel_rfl) (fun _ _ _ h => h) (by rfl) hS9 ?_ ?_
  rotate_left
  · intro wS hSw
    try dsimp only at hSw
    first | (go_simp; done) | (go_simp; with_reducible rfl)
  try simp only [Act.put, List.getElem_toArray, List.getElem_cons_zero, List.getElem_cons_succ, List.setIfInBounds_toArray, List.set_cons_zero, List.set_cons_succ]
  refine upto_step (i := 8) (by kernel_rfl) rfl ?_
  intro K hK
  go_simp
  refine hK _ _ (fun h => absurd rfl h) ?_
  clear hK K
  refine upto_done (by kernel_rfl) ?_
  refine NoPanic.normal ?_
  clear hS hS9
  go_wp2
  have ho : bytesR.O w9 (w.heap.size + 2) _ (.slice p9 (d.synced.length + d.loose.length) q9) (d.synced ++ d.loose) := ⟨by have h := HO.out; simpa using h, rfl⟩
  refine bodyPost_ret (v := .agg #[.slice p9 (d.synced.length + d.loose.length) q9, .slice none 0 0]) ?_ rfl ⟨_, _, rfl, logg_one (bytesR.base (bytesR.set (bytesR.set ho _ (by simp)) _ (by simp)) (by omega)), by (repeat (first | exact Below.refl _ _ | assumption | refine Below.drew ?_ | refine balloc ?_ _ | refine bset ?_ (by simp; omega) _ | refine bset ?_ (by simp) _ | refine bstep ?_ (by assumption)))⟩
  simp [results, Tryz.results66, go_sem, r0, r1]
end Go.Proofs.YtdfapehonegeeaaGreat

/-
  An engine's fault, in mathematics.
-/
namespace Go.Proofs.YtdfapehonegeeaaGreat
open Go.RowKit
set_option linter.unusedSectionVars false
variable [DecidableEq Wri] [Inhabited Wri] [DecidableEq BytesR] [Inhabited BytesR] [DecidableEq Rw] [Inhabited Rw] [DecidableEq TabR] [Inhabited TabR] [DecidableEq Logg] [Inhabited Logg] [DecidableEq Engn] [Inhabited Engn] [DecidableEq LoggR] [Inhabited LoggR] [DecidableEq RecsR] [Inhabited RecsR] [DecidableEq Leg] [Inhabited Leg]
set_option linter.unusedVariables false
set_option linter.unusedSimpArgs false

def belowV (rows : List Rw) (n : Int) : Bool := rows.all fun r => decide (r.ver < n)
def replayF (next : Int) : List (List Byte) → Int → List Rw → Option (List Rw)
  | [], _, out => some out
  | r :: rs, last, out => if (unwD r).code ≠ 0 ∨ unwV r ≤ last ∨ next ≤ unwV r then none else replayF next rs (unwV r) (putsL out (unwD r).rows)
def replayL (d : Logg) (next : Int) : Option (List Rw) := if recU (d.synced ++ d.loose) < d.synced.length + d.loose.length then none else replayF next (recL (d.synced ++ d.loose)) 0 []
def rangeE (e : Engn) : Bool := inR e.next 1 1000000 && belowV e.mem e.next && e.tables.all (fun t => belowV t e.next)
def aboveE (e : Engn) : Bool := e.mem.all fun r => e.tables.all fun t => belowV t r.ver
def partsF (e : Engn) : Int := if logF e.log ≠ 0 then logF e.log else if tabF e.mem ≠ 0 then tabF e.mem else if 6 < e.tables.length then 2 else firstF e.tables
def engF (e : Engn) : Int := if partsF e ≠ 0 then partsF e else if rangeE e = false then 3 else if replayL e.log e.next ≠ some e.mem then 1 else if aboveE e = false then 1 else 0
theorem belowV_iff {rows : List Rw} {n : Int} : belowV rows n = true ↔ ∀ i, i < rows.length → (rows.getD i default).ver < n := by
  unfold belowV
  rw [List.all_eq_true]
  constructor
  · intro h i hi
    have e : rows.getD i default = rows[i] := by simp [List.getD, hi]
    rw [e]
    exact of_decide_eq_true (h rows[i] (List.getElem_mem hi))
  · intro h x hx
    obtain ⟨i, hi, e⟩ := List.mem_iff_getElem.1 hx
    have h1 := h i hi
    have e2 : rows.getD i default = x := by simp [List.getD, hi, e]
    rw [e2] at h1
    exact decide_eq_true h1
theorem belowV_false {rows : List Rw} {n : Int} {i : Nat} (hi : i < rows.length) (h : n ≤ (rows.getD i default).ver) : belowV rows n = false := by
  rw [← Bool.not_eq_true, belowV_iff]
  intro c
  have := c i hi
  omega
theorem all_getD {α : Type} [Inhabited α] {p : α → Bool} {xs : List α} : xs.all p = true ↔ ∀ i, i < xs.length → p (xs.getD i default) = true := by
  rw [List.all_eq_true]
  constructor
  · intro h i hi
    have e : xs.getD i default = xs[i] := by simp [List.getD, hi]
    rw [e]
    exact h _ (List.getElem_mem hi)
  · intro h x hx
    obtain ⟨i, hi, e⟩ := List.mem_iff_getElem.1 hx
    have h1 := h i hi
    have e2 : xs.getD i default = x := by simp [List.getD, hi, e]
    rwa [e2] at h1
theorem all_false {α : Type} [Inhabited α] {p : α → Bool} {xs : List α} {i : Nat} (hi : i < xs.length) (h : p (xs.getD i default) = false) : xs.all p = false := by
  rw [← Bool.not_eq_true, all_getD]
  intro c
  rw [c i hi] at h
  cases h
def RepSo (next : Int) (recs : List (List Byte)) (k : Nat) (last : Int) (out : List Rw) : Prop := k ≤ recs.length ∧ replayF next recs 0 [] = replayF next (recs.drop k) last out
theorem repSo_start (next : Int) (recs : List (List Byte)) : RepSo next recs 0 0 [] := ⟨Nat.zero_le _, rfl⟩
theorem rec_drop {recs : List (List Byte)} {k : Nat} (h : k < recs.length) : recs.drop k = recs.getD k default :: recs.drop (k + 1) := by
  rw [List.drop_eq_getElem_cons h]
  simp [List.getD, h]
theorem repSo_step {next : Int} {recs : List (List Byte)} {k : Nat} {last : Int} {out : List Rw} (h : RepSo next recs k last out) (hk : k < recs.length) (h0 : (unwD (recs.getD k default)).code = 0) (h1 : last < unwV (recs.getD k default)) (h2 : unwV (recs.getD k default) < next) :
    RepSo next recs (k + 1) (unwV (recs.getD k default)) (putsL out (unwD (recs.getD k default)).rows) := by
  refine ⟨hk, ?_⟩
  rw [h.2, rec_drop hk]
  show (if _ then _ else _) = _
  rw [if_neg]
  rintro (c | c | c)
  · exact c h0
  · omega
  · omega
theorem repSo_bad {next : Int} {recs : List (List Byte)} {k : Nat} {last : Int} {out : List Rw} (h : RepSo next recs k last out) (hk : k < recs.length) (h0 : (unwD (recs.getD k default)).code ≠ 0 ∨ unwV (recs.getD k default) ≤ last ∨ next ≤ unwV (recs.getD k default)) : replayF next recs 0 [] = none := by
  rw [h.2, rec_drop hk]
  show (if _ then _ else _) = _
  rw [if_pos h0]
theorem repSo_end {next : Int} {recs : List (List Byte)} {last : Int} {out : List Rw} (h : RepSo next recs recs.length last out) : replayF next recs 0 [] = some out := by
  rw [h.2, List.drop_length]
  rfl
theorem engF_parts {e : Engn} (h : partsF e ≠ 0) : engF e = partsF e := if_pos h
theorem engF_range {e : Engn} (h : partsF e = 0) (h1 : rangeE e = false) : engF e = 3 := by unfold engF; rw [if_neg (by simpa using h), if_pos h1]
theorem engF_log {e : Engn} (h : partsF e = 0) (h1 : rangeE e = true) (h2 : replayL e.log e.next ≠ some e.mem) : engF e = 1 := by unfold engF; rw [if_neg (by simpa using h), if_neg (by rw [h1]; decide), if_pos h2]
theorem engF_above {e : Engn} (h : partsF e = 0) (h1 : rangeE e = true) (h2 : replayL e.log e.next = some e.mem) (h3 : aboveE e = false) : engF e = 1 := by unfold engF; rw [if_neg (by simpa using h), if_neg (by rw [h1]; decide), if_neg (by simpa using h2), if_pos h3]
theorem engF_zero {e : Engn} (h : partsF e = 0) (h1 : rangeE e = true) (h2 : replayL e.log e.next = some e.mem) (h3 : aboveE e = true) : engF e = 0 := by unfold engF; rw [if_neg (by simpa using h), if_neg (by rw [h1]; decide), if_neg (by simpa using h2), if_neg (by rw [h3]; decide)]
theorem partsF_inv {e : Engn} (h : partsF e = 0) : logF e.log = 0 ∧ tabF e.mem = 0 ∧ e.tables.length ≤ 6 ∧ ∀ j, j < e.tables.length → tabF (e.tables.getD j default) = 0 := by
  unfold partsF at h
  split at h
  · rename_i h1; exact absurd h h1
  · rename_i h1
    split at h
    · rename_i h2; exact absurd h h2
    · rename_i h2
      split at h
      · omega
      · rename_i h3
        exact ⟨by simpa using h1, by simpa using h2, by omega, firstF_zero h⟩
theorem unwD_rows (d : List Byte) : (unwD d).rows.length ≤ 8 := by
  unfold unwD
  split
  · simp
  · split
    · simp
    · split
      · rename_i h
        rw [List.length_map]
        exact (wrF_inv h.2).2.1
      · simp
theorem unwD_ver {d : List Byte} (h : (unwD d).code = 0) : (∀ x ∈ (unwD d).rows, x.ver = unwV d) ∧ 1 ≤ (unwD d).rows.length ∧ 1 ≤ unwV d := by
  unfold unwD at h ⊢
  split at h
  · cases h
  · rename_i h8
    rw [if_neg h8]
    split at h
    · cases h
    · rename_i ws hw
      try dsimp only at h
      split at h
      · rename_i hc
        rw [if_pos hc]
        dsimp only
        refine ⟨fun x hx => ?_, by rw [List.length_map]; exact (wrF_inv hc.2).1, ?_⟩
        · obtain ⟨y, _, rfl⟩ := List.mem_map.1 hx
          rfl
        · have := hc.1
          unfold inR at this
          simp at this
          omega
      · cases h
end Go.Proofs.YtdfapehonegeeaaGreat

/-
  Rows compared: l6Below, l6Same, slices.Equal, isAbove, greatestVersion.
-/
namespace Go.Proofs.YtdfapehonegeeaaGreat
open Go.RowKit
set_option linter.unusedSectionVars false
variable [DecidableEq Wri] [Inhabited Wri] [DecidableEq BytesR] [Inhabited BytesR] [DecidableEq Rw] [Inhabited Rw] [DecidableEq TabR] [Inhabited TabR] [DecidableEq Logg] [Inhabited Logg] [DecidableEq Engn] [Inhabited Engn] [DecidableEq LoggR] [Inhabited LoggR] [DecidableEq RecsR] [Inhabited RecsR] [DecidableEq Leg] [Inhabited Leg]
set_option linter.unusedVariables false
set_option linter.unusedSimpArgs false
attribute [local go_sem ↓] Go.wp_at_zero Go.wp_at_succ

theorem eqGuardRow : Tryz.prog.eqGuardType Tryz.prog.depth 76 = false := by kernel_rfl
theorem neqRow (x y : Rw) (w : World) : (binOp .neq 76 (.agg #[.string x.key, .int .i64 x.ver, .string x.val, .bool x.gone]) (.agg #[.string y.key, .int .i64 y.ver, .string y.val, .bool y.gone])).run Tryz.prog w = .ok (.bool (!decide (x = y))) w := by
  rw [run_neq_struct, run_equalIn_struct w 9999 76 _ _ (by kernel_rfl) (by kernel_rfl)]
  have hf : (Tryz.prog.fieldsOf 76).toList = [{ name := "Key", type := 9, offset := 0, embedded := false, tag := "", pkgPath := "", byteOffset := 0 }, { name := "Version", type := 2, offset := 1, embedded := false, tag := "", pkgPath := "", byteOffset := 16 }, { name := "Value", type := 9, offset := 2, embedded := false, tag := "", pkgPath := "", byteOffset := 24 }, { name := "Gone", type := 4, offset := 3, embedded := false, tag := "", pkgPath := "", byteOffset := 40 }] := by kernel_rfl
  rw [hf]
  obtain ⟨a, b, c, d⟩ := x
  obtain ⟨a', b', c', d'⟩ := y
  have t1 : (a.toList == a'.toList) = decide (a = a') := by
    rw [Bool.eq_iff_iff, beq_iff_eq, tl_inj, decide_eq_true_iff]
  have t2 : (c.toList == c'.toList) = decide (c = c') := by
    rw [Bool.eq_iff_iff, beq_iff_eq, tl_inj, decide_eq_true_iff]
  simp [Op.eqFields, go_sem, t1, t2, tl_inj]
  by_cases e1 : a = a' <;> by_cases e2 : b = b' <;> by_cases e3 : c = c' <;> by_cases e4 : d = d' <;> simp [e1, e2, e3, e4]
theorem neRow_of_getD {xs ys : List Rw} {k : Nat} (h : xs.getD k default ≠ ys.getD k default) : decide (xs = ys) = false := by
  simp only [decide_eq_false_iff_not]
  intro e
  rw [e] at h
  exact h rfl
theorem rowsEq_of {xs ys : List Rw} (hl : xs.length = ys.length) (h : ∀ j, j < xs.length → xs.getD j default = ys.getD j default) : xs = ys := by
  apply List.ext_getElem hl
  intro i h1 h2
  have := h i h1
  simpa [List.getD, h1, h2] using this
set_option maxHeartbeats 2000000 in
theorem l6Same_any (x y : Value) (xs ys : List Rw) (w : World) (hx : RowsV w x xs) (hy : RowsV w y ys) :
    Calls Tryz.prog 47 #[x, y] w fun e w' => e = .returned (.bool (decide (xs = ys))) ∧ Below w.heap.size w w' := by
  obtain ⟨ax, cx, rfl, hcx, hmx, hx⟩ := hx
  obtain ⟨ay, cy, rfl, hcy, hmy, hy⟩ := hy
  unfold maxLen at hmx hmy
  by_cases hl : xs.length = ys.length
  · generalize hn' : xs.length = n at *
    have HN : Hid (xs.length = n) := hn'
    have HM : Hid (ys.length = n) := hl.symm
    rw [← hl] at hy hcy ⊢
    clear hn' hl
    go_enter Tryz.func47, Tryz.ntmps47
    go_wp2
    go_loopw [5] (fun i w' => ∃ k : Nat, k ≤ n ∧ i = .int .i64 k ∧ Hid (∀ j, j < k → xs.getD j default = ys.getD j default) ∧ Below w.heap.size w w') (fun i _ => n - (intOf i).toNat)
    case atStart => exact ⟨0, Nat.zero_le _, rfl, fun j hj => absurd hj (Nat.not_lt_zero _), Below.refl _ _⟩
    case round =>
      obtain ⟨k, hk, rfl, HS, hbl⟩ := hrel
      by_cases hlt : k < n
      · obtain ⟨bx, ox, rfl, g1⟩ := hx k hlt
        obtain ⟨b2, o2, rfl, g2⟩ := hy k hlt
        obtain ⟨l, hl⟩ : ∃ l, l = xs.getD k default := ⟨_, rfl⟩
        rw [← hl] at g1
        have HL : Hid (l = xs.getD k default) := hl
        obtain ⟨o, ho⟩ : ∃ o, o = ys.getD k default := ⟨_, rfl⟩
        rw [← ho] at g2
        have HO : Hid (o = ys.getD k default) := ho
        clear hl ho hx hy
        obtain ⟨a1, a2, a3, a4⟩ := rowCells_below hbl g1
        obtain ⟨d1, d2, d3, d4⟩ := rowCells_below hbl g2
        have hnq := neqRow l o
        have hgd := eqGuardRow
        have i1 : (k : Int) < (n : Int) := by omega
        have i2 : (0 : Int) ≤ (k : Int) := by omega
        clear g1 g2
        go_wp2
        go_quiet (fail)
        clear hnq hgd
        generalize hd : decide (l = o) = b
        have HD : Hid (decide (l = o) = b) := hd
        clear hd
        cases b with
        | true =>
          go_wp2
          have he : l = o := of_decide_eq_true HD.out
          refine ⟨⟨k + 1, by omega, by go_num, fun j hj => ?_, bdrN hbl _⟩, by simp [intOf]; omega⟩
          by_cases e : j = k
          · subst e; rw [← HL.out, ← HO.out, he]
          · exact HS.out j (by omega)
        | false =>
          go_wp2
          go_ret
          have he : ¬ l = o := of_decide_eq_false HD.out
          refine ⟨?_, bdrN hbl _⟩
          rw [neRow_of_getD (k := k) (by rw [← HL.out, ← HO.out]; exact he)]
          rfl
      · have hkn : k = n := by omega
        subst hkn
        have i1 : ¬ (k : Int) < (k : Int) := by omega
        go_wp2
        go_ret
        refine ⟨?_, hbl⟩
        have e : xs = ys := rowsEq_of (by rw [HN.out, HM.out]) (by rw [HN.out]; exact HS.out)
        rw [decide_eq_true e]
        rfl
  · have e : decide (xs = ys) = false := by
      simp only [decide_eq_false_iff_not]
      intro e
      rw [e] at hl
      exact hl rfl
    rw [e]
    clear hx hy e
    generalize xs.length = n at *
    generalize ys.length = m at *
    have hl2 : ¬ (n : Int) = (m : Int) := by omega
    have hl3 : ((n : Int) == (m : Int)) = false := by simpa using hl2
    go_enter Tryz.func47, Tryz.ntmps47
    go_wp2
    go_ret
    exact ⟨rfl, Below.refl _ _⟩
set_option maxHeartbeats 2000000 in
theorem equalRows_any (x y : Value) (xs ys : List Rw) (w : World) (hx : RowsV w x xs) (hy : RowsV w y ys) :
    Calls Tryz.prog 56 #[x, y] w fun e w' => e = .returned (.bool (decide (xs = ys))) ∧ Below w.heap.size w w' := by
  obtain ⟨ax, cx, rfl, hcx, hmx, hx⟩ := hx
  obtain ⟨ay, cy, rfl, hcy, hmy, hy⟩ := hy
  unfold maxLen at hmx hmy
  by_cases hl : xs.length = ys.length
  · generalize hn' : xs.length = n at *
    have HN : Hid (xs.length = n) := hn'
    have HM : Hid (ys.length = n) := hl.symm
    rw [← hl] at hy hcy ⊢
    clear hn' hl
    go_enter Tryz.func56, Tryz.ntmps56
    go_wp2
    go_loopw [13] (fun i w' => ∃ k : Nat, k ≤ n ∧ i = .int .i64 k ∧ Hid (∀ j, j < k → xs.getD j default = ys.getD j default) ∧ Below w.heap.size w w') (fun i _ => n - (intOf i).toNat)
    case atStart => exact ⟨0, Nat.zero_le _, rfl, fun j hj => absurd hj (Nat.not_lt_zero _), Below.refl _ _⟩
    case round =>
      obtain ⟨k, hk, rfl, HS, hbl⟩ := hrel
      by_cases hlt : k < n
      · obtain ⟨bx, ox, rfl, g1⟩ := hx k hlt
        obtain ⟨b2, o2, rfl, g2⟩ := hy k hlt
        obtain ⟨l, hl⟩ : ∃ l, l = xs.getD k default := ⟨_, rfl⟩
        rw [← hl] at g1
        have HL : Hid (l = xs.getD k default) := hl
        obtain ⟨o, ho⟩ : ∃ o, o = ys.getD k default := ⟨_, rfl⟩
        rw [← ho] at g2
        have HO : Hid (o = ys.getD k default) := ho
        clear hl ho hx hy
        obtain ⟨a1, a2, a3, a4⟩ := rowCells_below hbl g1
        obtain ⟨d1, d2, d3, d4⟩ := rowCells_below hbl g2
        have hnq := neqRow l o
        have hgd := eqGuardRow
        have i1 : (k : Int) < (n : Int) := by omega
        have i2 : (0 : Int) ≤ (k : Int) := by omega
        clear g1 g2
        go_wp2
        go_quiet (fail)
        clear hnq hgd
        generalize hd : decide (l = o) = b
        have HD : Hid (decide (l = o) = b) := hd
        clear hd
        cases b with
        | true =>
          go_wp2
          have he : l = o := of_decide_eq_true HD.out
          refine ⟨⟨k + 1, by omega, by go_num, fun j hj => ?_, bdrN hbl _⟩, by simp [intOf]; omega⟩
          by_cases e : j = k
          · subst e; rw [← HL.out, ← HO.out, he]
          · exact HS.out j (by omega)
        | false =>
          go_wp2
          go_ret
          have he : ¬ l = o := of_decide_eq_false HD.out
          refine ⟨?_, bdrN hbl _⟩
          rw [neRow_of_getD (k := k) (by rw [← HL.out, ← HO.out]; exact he)]
          rfl
      · have hkn : k = n := by omega
        subst hkn
        have i1 : ¬ (k : Int) < (k : Int) := by omega
        go_wp2
        go_ret
        refine ⟨?_, hbl⟩
        have e : xs = ys := rowsEq_of (by rw [HN.out, HM.out]) (by rw [HN.out]; exact HS.out)
        rw [decide_eq_true e]
        rfl
  · have e : decide (xs = ys) = false := by
      simp only [decide_eq_false_iff_not]
      intro e
      rw [e] at hl
      exact hl rfl
    rw [e]
    clear hx hy e
    generalize xs.length = n at *
    generalize ys.length = m at *
    have hl2 : ¬ (n : Int) = (m : Int) := by omega
    have hl3 : ((n : Int) == (m : Int)) = false := by simpa using hl2
    go_enter Tryz.func56, Tryz.ntmps56
    go_wp2
    go_ret
    exact ⟨rfl, Below.refl _ _⟩
set_option maxHeartbeats 1000000 in
theorem l6Below_any (x : Value) (xs : List Rw) (v : Int) (w : World) (hx : RowsV w x xs) :
    Calls Tryz.prog 45 #[x, .int .i64 v] w fun e w' => e = .returned (.bool (belowV xs v)) ∧ w' = w := by
  obtain ⟨ax, cx, rfl, hcx, hmx, hx⟩ := hx
  unfold maxLen at hmx
  have HT : Hid ((∀ j, j < xs.length → (xs.getD j default).ver < v) → belowV xs v = true) := belowV_iff.2
  have HF : Hid (∀ j, j < xs.length → v ≤ (xs.getD j default).ver → belowV xs v = false) := fun j hj h => belowV_false hj h
  generalize xs.length = n at *
  go_enter Tryz.func45, Tryz.ntmps45
  go_wp2
  go_loopw [5] (fun i w' => ∃ k : Nat, k ≤ n ∧ i = .int .i64 k ∧ Hid (∀ j, j < k → (xs.getD j default).ver < v) ∧ w' = w) (fun i _ => n - (intOf i).toNat)
  case atStart => exact ⟨0, Nat.zero_le _, rfl, fun j hj => absurd hj (Nat.not_lt_zero _), rfl⟩
  case round =>
    obtain ⟨k, hk, rfl, HS, hEq⟩ := hrel
    obtain rfl := hEq.symm
    clear hEq
    by_cases hlt : k < n
    · obtain ⟨bx, ox, rfl, g1⟩ := hx k hlt
      have hF := HF.out k hlt
      obtain ⟨l, hl⟩ : ∃ l, l = xs.getD k default := ⟨_, rfl⟩
      rw [← hl] at g1 hF
      have HL : Hid (l = xs.getD k default) := hl
      clear hl hx
      obtain ⟨a1, a2, a3, a4⟩ := g1
      have i1 : (k : Int) < (n : Int) := by omega
      by_cases hv : v ≤ l.ver
      · have HB : Hid (belowV xs v = false) := hF hv
        clear hF
        go_wp2
        go_ret
        exact ⟨by rw [HB.out]; rfl, rfl⟩
      · have HS2 : Hid (∀ j, j < k + 1 → (xs.getD j default).ver < v) := fun j hj => by
          by_cases e : j = k
          · rw [e, ← HL.out]; omega
          · exact HS.out j (by omega)
        clear hF
        go_wp2
        exact ⟨⟨k + 1, by omega, by go_num, HS2, by first | trivial | rfl⟩, by simp [intOf]; omega⟩
    · have hkn : k = n := by omega
      subst hkn
      have i1 : ¬ (k : Int) < (k : Int) := by omega
      have HB : Hid (belowV xs v = true) := HT.out HS.out
      go_wp2
      go_ret
      exact ⟨by rw [HB.out]; rfl, rfl⟩
def gvR (g : Int) (rows : List Rw) : Int := rows.foldl (fun a r => max a r.ver) g
def gvT (g : Int) (xss : List (List Rw)) : Int := xss.foldl gvR g
theorem gvR_le {n : Int} : ∀ {rows : List Rw} {g : Int}, gvR g rows < n ↔ g < n ∧ belowV rows n = true
  | [], g => by simp [gvR, belowV]
  | x :: r, g => by
    have h := gvR_le (n := n) (rows := r) (g := max g x.ver)
    have e : gvR g (x :: r) = gvR (max g x.ver) r := rfl
    rw [e, h]
    unfold belowV
    simp only [List.all_cons, Bool.and_eq_true, decide_eq_true_eq]
    constructor
    · rintro ⟨a, b⟩; exact ⟨by omega, by omega, b⟩
    · rintro ⟨a, b, c⟩; exact ⟨by omega, c⟩
theorem gvT_le {n : Int} : ∀ {xss : List (List Rw)} {g : Int}, gvT g xss < n ↔ g < n ∧ xss.all (fun t => belowV t n) = true
  | [], g => by simp [gvT]
  | x :: r, g => by
    have h := gvT_le (n := n) (xss := r) (g := gvR g x)
    have e : gvT g (x :: r) = gvT (gvR g x) r := rfl
    rw [e, h, gvR_le]
    simp only [List.all_cons, Bool.and_eq_true]
    constructor
    · rintro ⟨⟨a, b⟩, c⟩; exact ⟨a, b, c⟩
    · rintro ⟨a, b, c⟩; exact ⟨⟨a, b⟩, c⟩
theorem gvR_take {g : Int} {rows : List Rw} {k : Nat} (h : k < rows.length) : gvR g (rows.take (k + 1)) = max (gvR g (rows.take k)) (rows.getD k default).ver := by
  have e : rows.take (k + 1) = rows.take k ++ [rows.getD k default] := by
    rw [List.take_add_one]
    congr 1
    simp [List.getD, h]
  rw [e]
  unfold gvR
  rw [List.foldl_append]
  rfl
theorem gvT_take {g : Int} {xss : List (List Rw)} {k : Nat} (h : k < xss.length) : gvT g (xss.take (k + 1)) = gvR (gvT g (xss.take k)) (xss.getD k default) := by
  have e : xss.take (k + 1) = xss.take k ++ [xss.getD k default] := by
    rw [List.take_add_one]
    congr 1
    simp [List.getD, h]
  rw [e]
  unfold gvT
  rw [List.foldl_append]
  rfl
set_option maxHeartbeats 2000000 in
theorem greatest_any (x : Value) (xss : List (List Rw)) (w : World) (hx : rowssR.V w x xss) :
    Calls Tryz.prog 53 #[x] w fun e w' => e = .returned (.int .i64 (gvT 0 xss)) ∧ Below w.heap.size w w' := by
  obtain ⟨ax, cx, rfl, hcx, hmx, hx⟩ := hx
  unfold maxLen at hmx
  have HA : Hid (gvT 0 (xss.take xss.length) = gvT 0 xss) := by rw [Hid, List.take_length]
  have HT : Hid (∀ k, k < xss.length → gvT 0 (xss.take (k + 1)) = gvR (gvT 0 (xss.take k)) (xss.getD k default)) := fun k hk => gvT_take hk
  generalize xss.length = n at *
  go_enter Tryz.func53, Tryz.ntmps53
  go_wp2
  go_loopw [3, 10] (fun g i W => ∃ k : Nat, k ≤ n ∧ i = .int .i64 k ∧ g = .int .i64 (gvT 0 (xss.take k)) ∧ Below w.heap.size w W) (fun _ i _ => n - (intOf i).toNat)
  case atStart => exact ⟨0, Nat.zero_le _, rfl, rfl, Below.refl _ _⟩
  case round =>
    obtain ⟨k, hk, rfl, rfl, hbl⟩ := hrel
    by_cases hlt : k < n
    · obtain ⟨bx, ox, u, rfl, _, hc, hu⟩ := hx k hlt
      have e1 := HT.out k hlt
      obtain ⟨l, hl⟩ : ∃ l, l = xss.getD k default := ⟨_, rfl⟩
      rw [← hl] at hu e1
      have hc0 := hc 0 (by omega)
      simp [one] at hc0
      have c1 := cell_keep hbl hc0
      have hV := RowsV_below hu.1 hbl
      have HE : Hid (gvT 0 (xss.take (k + 1)) = gvR (gvT 0 (xss.take k)) l) := e1
      clear hl hc hc0 hu e1 hx
      generalize gvT 0 (xss.take k) = g0 at *
      obtain ⟨au, cu, rfl, hcu, hmu, hrow⟩ := hV
      unfold maxLen at hmu
      have HA2 : Hid (gvR g0 (l.take l.length) = gvR g0 l) := by rw [Hid, List.take_length]
      have HT2 : Hid (∀ j, j < l.length → gvR g0 (l.take (j + 1)) = max (gvR g0 (l.take j)) (l.getD j default).ver) := fun j hj => gvR_take hj
      generalize l.length = m at *
      have i1 : (k : Int) < (n : Int) := by omega
      obtain ⟨W0, hW0⟩ : ∃ W0, W0 = wr := ⟨_, rfl⟩
      rw [← hW0] at c1 hbl hrow ⊢
      clear hW0
      go_wp2
      go_loopw [3, 16] (fun g i W => ∃ j : Nat, j ≤ m ∧ i = .int .i64 j ∧ g = .int .i64 (gvR g0 (l.take j)) ∧ Below W0.heap.size W0 W) (fun _ i _ => m - (intOf i).toNat)
      case atStart => exact ⟨0, Nat.zero_le _, rfl, rfl, Below.refl _ _⟩
      case round =>
        obtain ⟨j, hj, rfl, rfl, hb2⟩ := hrel
        by_cases hjm : j < m
        · obtain ⟨b2, o2, rfl, g2⟩ := hrow j hjm
          have e2 := HT2.out j hjm
          obtain ⟨q, hq⟩ : ∃ q, q = l.getD j default := ⟨_, rfl⟩
          rw [← hq] at g2 e2
          have HE2 : Hid (gvR g0 (l.take (j + 1)) = max (gvR g0 (l.take j)) q.ver) := e2
          obtain ⟨d1, d2, d3, d4⟩ := rowCells_below hb2 g2
          clear hq g2 e2 hrow
          generalize gvR g0 (l.take j) = g1 at *
          have i2 : (j : Int) < (m : Int) := by omega
          go_wp2
          all_goals
            refine ⟨⟨j + 1, by omega, by go_num, ?_, by (repeat (first | exact Below.refl _ _ | assumption | refine Below.drew ?_ | refine balloc ?_ _ | refine bset ?_ (by simp; omega) _ | refine bset ?_ (by simp) _ | refine bstep ?_ (by assumption)))⟩, by simp [intOf]; omega⟩
            rw [HE2.out]
            try rfl
        · have hjn : j = m := by omega
          subst hjn
          have i2 : ¬ (j : Int) < (j : Int) := by omega
          rw [HA2.out, ← HE.out]
          go_wp2
          exact ⟨⟨k + 1, by omega, by go_num, rfl, bstep hbl hb2⟩, by simp [intOf]; omega⟩
    · have hkn : k = n := by omega
      subst hkn
      have i1 : ¬ (k : Int) < (k : Int) := by omega
      rw [HA.out]
      go_wp2
      go_ret
      exact ⟨rfl, hbl⟩
end Go.Proofs.YtdfapehonegeeaaGreat

/-
  isAbove; the parts of an engine asked.
-/
namespace Go.Proofs.YtdfapehonegeeaaGreat
open Go.RowKit
set_option linter.unusedSectionVars false
variable [DecidableEq Wri] [Inhabited Wri] [DecidableEq BytesR] [Inhabited BytesR] [DecidableEq Rw] [Inhabited Rw] [DecidableEq TabR] [Inhabited TabR] [DecidableEq Logg] [Inhabited Logg] [DecidableEq Engn] [Inhabited Engn] [DecidableEq LoggR] [Inhabited LoggR] [DecidableEq RecsR] [Inhabited RecsR] [DecidableEq Leg] [Inhabited Leg]
set_option linter.unusedVariables false
set_option linter.unusedSimpArgs false
attribute [local go_sem ↓] Go.wp_at_zero Go.wp_at_succ

def aboveV (rows : List Rw) (n : Int) : Bool := rows.all fun r => decide (n < r.ver)
theorem aboveV_true {rows : List Rw} {n : Int} (h : ∀ i, i < rows.length → n < (rows.getD i default).ver) : aboveV rows n = true := by
  unfold aboveV
  rw [all_getD]
  intro i hi
  exact decide_eq_true (h i hi)
theorem aboveV_false {rows : List Rw} {n : Int} {i : Nat} (hi : i < rows.length) (h : (rows.getD i default).ver ≤ n) : aboveV rows n = false := by
  unfold aboveV
  exact all_false hi (decide_eq_false (by omega))
set_option maxHeartbeats 400000 in
theorem verIs_any (x : Rw) (s : Int) (B : Nat) (w : World) (hc : w.cell? ⟨B, 0, none⟩ = some (.int .i64 s)) :
    Calls Tryz.prog 112 #[.agg #[.string x.key, .int .i64 x.ver, .string x.val, .bool x.gone], .pointer (some ⟨B, 0, none⟩)] w fun e w' => e = .returned (.bool (decide (x.ver ≤ s))) ∧ Below w.heap.size w w' := by
  have hlt := World.block_lt_of_cell? _ _ hc
  dsimp only at hlt
  go_enter Tryz.func112, Tryz.ntmps112
  go_wp2
  go_ret
  exact ⟨rfl, balloc (Below.refl _ _) _⟩
set_option maxHeartbeats 1000000 in
theorem indexVer_any (x : Value) (xs : List Rw) (s : Int) (B : Nat) (w : World) (hx : RowsV w x xs) (hc : w.cell? ⟨B, 0, none⟩ = some (.int .i64 s)) :
    Calls Tryz.prog 152 #[x, .func (.func 112) #[] #[.pointer (some ⟨B, 0, none⟩)]] w fun e w' => (∃ r : Int, e = .returned (.int .i64 r) ∧ ((r = -1 ∧ aboveV xs s = true) ∨ (0 ≤ r ∧ aboveV xs s = false))) ∧ Below w.heap.size w w' := by
  obtain ⟨ax, cx, rfl, hcx, hmx, hx⟩ := hx
  unfold maxLen at hmx
  have HT : Hid ((∀ j, j < xs.length → s < (xs.getD j default).ver) → aboveV xs s = true) := aboveV_true
  have HF : Hid (∀ j, j < xs.length → (xs.getD j default).ver ≤ s → aboveV xs s = false) := fun j hj h => aboveV_false hj h
  generalize hn' : xs.length = n at *
  clear hn'
  go_enter Tryz.func152, Tryz.ntmps152
  go_wp2
  go_loopw [8] (fun i w' => ∃ k : Nat, k ≤ n ∧ i = .int .i64 k ∧ Hid (∀ j, j < k → s < (xs.getD j default).ver) ∧ Below w.heap.size w w') (fun i _ => n - (intOf i).toNat)
  case atStart => exact ⟨0, Nat.zero_le _, rfl, fun j hj => absurd hj (Nat.not_lt_zero _), Below.refl _ _⟩
  case round =>
    obtain ⟨k, hk, rfl, HP, hbl⟩ := hrel
    by_cases hlt : k < n
    · obtain ⟨bx, ox, rfl, g1⟩ := hx k hlt
      obtain ⟨l, hl⟩ : ∃ l, l = xs.getD k default := ⟨_, rfl⟩
      rw [← hl] at g1
      have HLE : Hid (l = xs.getD k default) := hl
      clear hl hx
      obtain ⟨a1, a2, a3, a4⟩ := rowCells_below hbl g1
      have hc2 := cell_keep hbl hc
      have hti : (k : Int) < (n : Int) := by omega
      have eg : ∀ args w, (callFunc 112 args).run Tryz.prog w = .ok (.enter 112 args) w := enters_of Tryz.func112 (by kernel_rfl) rfl
      clear g1
      go_wp2_with fail
      refine (verIs_any l s B _ hc2).mono ?_
      rintro e w1 ⟨rfl, hb1⟩
      have hB := bstep hbl hb1
      clear eg hb1 a1 a2 a3 a4
      by_cases hq : l.ver ≤ s
      · rw [decide_eq_true hq]
        have HQ : Hid (aboveV xs s = false) := HF.out k hlt (by rw [← HLE.out]; exact hq)
        clear hq
        go_wp2
        go_ret
        exact ⟨⟨k, rfl, .inr ⟨by omega, HQ.out⟩⟩, hB⟩
      · rw [decide_eq_false hq]
        have HQ : Hid (∀ j, j < k + 1 → s < (xs.getD j default).ver) := fun j hj => by
          by_cases e : j = k
          · rw [e, ← HLE.out]; omega
          · exact HP.out j (by omega)
        clear hq
        go_wp2
        exact ⟨⟨k + 1, by omega, by go_num, HQ, hB⟩, by simp [intOf]; omega⟩
    · obtain rfl : k = n := by omega
      have hti : ¬ (k : Int) < (k : Int) := by omega
      go_wp2
      go_ret
      exact ⟨⟨-1, rfl, .inl ⟨rfl, HT.out HP.out⟩⟩, hbl⟩
set_option maxHeartbeats 1000000 in
theorem containsVer_any (x : Value) (xs : List Rw) (s : Int) (B : Nat) (w : World) (hx : RowsV w x xs) (hc : w.cell? ⟨B, 0, none⟩ = some (.int .i64 s)) :
    Calls Tryz.prog 111 #[x, .func (.func 112) #[] #[.pointer (some ⟨B, 0, none⟩)]] w fun e w' => e = .returned (.bool (!aboveV xs s)) ∧ Below w.heap.size w w' := by
  have hX := hx
  obtain ⟨ax, cx, rfl, _⟩ := hx
  go_enter Tryz.func111, Tryz.ntmps111
  go_wp2_with fail
  refine (indexVer_any _ xs s B _ hX hc).mono ?_
  rintro e w1 ⟨⟨r, rfl, hr⟩, hb1⟩
  rcases hr with ⟨rfl, hr⟩ | ⟨hr0, hr⟩
  · have HR : Hid (_ = _) := hr
    clear hr
    go_wp2
    go_ret
    exact ⟨by rw [HR.out]; rfl, hb1⟩
  · have HR : Hid (_ = _) := hr
    clear hr
    go_wp2
    go_ret
    exact ⟨by rw [HR.out]; rfl, hb1⟩
set_option maxHeartbeats 1000000 in
theorem isAbove_any (x : Value) (xs : List Rw) (s : Int) (w : World) (hx : RowsV w x xs) :
    Calls Tryz.prog 57 #[x, .int .i64 s] w fun e w' => e = .returned (.bool (aboveV xs s)) ∧ Below w.heap.size w w' := by
  have hX := hx
  obtain ⟨ax, cx, rfl, _⟩ := hx
  go_enter Tryz.func57, Tryz.ntmps57
  go_wp2_with fail
  refine (containsVer_any _ xs s w.heap.size _ (RowsV_below hX (by (repeat (first | exact Below.refl _ _ | assumption | refine Below.drew ?_ | refine balloc ?_ _ | refine bset ?_ (by simp; omega) _ | refine bset ?_ (by simp) _ | refine bstep ?_ (by assumption))))) (by simp [go_sem])).mono ?_
  rintro e w1 ⟨rfl, hb1⟩
  have hB1 : Below w.heap.size w w1 := by (repeat (first | exact Below.refl _ _ | assumption | refine Below.drew ?_ | refine balloc ?_ _ | refine bset ?_ (by simp; omega) _ | refine bset ?_ (by simp) _ | refine bstep ?_ (by assumption)))
  obtain ⟨b, hb⟩ : ∃ b, aboveV xs s = b := ⟨_, rfl⟩
  have HB : Hid (aboveV xs s = b) := hb
  rw [hb]
  clear hb hb1
  go_wp2
  go_ret
  exact ⟨by rw [HB.out]; simp, hB1⟩
end Go.Proofs.YtdfapehonegeeaaGreat


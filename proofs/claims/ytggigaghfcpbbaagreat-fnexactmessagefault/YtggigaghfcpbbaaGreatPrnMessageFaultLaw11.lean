import Derived.Test.YtggigaghfcpbbaaGreatPrnMessageFaultLaw1
import Derived.Deep.RegionHeld3
import Derived.Test.YtggigaghfcpbbaaGreatPrnMessageFaultLaw8
import Derived.Test.YtggigaghfcpbbaaGreatPrnMessageFaultLaw10
import Derived.Test.YtggigaghfcpbbaaGreatPrnMessageFaultLaw9
import Derived.Shelf.Abstract
import Derived.BigQuiet
import Derived.Deep.QuietTactic

/-
  A region that draws its order and ends in one store (number t): what is asked of the world (S) need not hold behind that store.
-/
namespace Go.Proofs.YtggigaghfcpbbaaGreat
open Go.RowKit

section
variable {P : Program} {ops : Array Oper} {Q : Exit → Act → World → Prop} {md : Region.Mode} {S : World → Prop} {t : Nat}

def wpUpto (P : Program) (md : Region.Mode) (ops : Array Oper) (Q : Exit → Act → World → Prop) (S : World → Prop) (t : Nat) : Nat → Array Bool → Act → World → Prop
  | 0, listed, a, w => Region.ready md ops listed = [] ∧ Q .normal a w
  | f + 1, listed, a, w => (Region.ready md ops listed = [] → Q .normal a w) ∧ ∀ i ∈ Region.ready md ops listed, wpOp P ops Q i (fun a' w' => (i ≠ t → S w') ∧ wpUpto P md ops Q S t f (listed.setIfInBounds i true) a' w') a w
theorem upto_any : ∀ (f : Nat) (listed : Array Bool) (a : Act) (w : World), wpUpto P md ops Q S t f listed a w → wpAny P md ops Q f listed a w
  | 0, _, _, _, h => h
  | f + 1, _, _, _, h => ⟨h.1, fun i hi => wpOp_mono (fun _ _ h' => upto_any f _ _ _ h'.2) (h.2 i hi)⟩
theorem upto_step {i : Nat} {o : Oper} {f : Nat} {listed : Array Bool} {a : Act} {w : World} (hr : Region.ready md ops listed = [i]) (hi : ops[i]? = some o)
    (h : ∀ K : Act → World → Prop, (∀ a' w', (i ≠ t → S w') → wpUpto P md ops Q S t f (listed.setIfInBounds i true) a' w' → K a' w') → if Region.wanted o (yielded ops a.tmps) = true then Oper.wp P o a w K Q else K (a.put o.dst undef) w) :
    wpUpto P md ops Q S t (f + 1) listed a w := by
  refine ⟨fun h0 => (by rw [hr] at h0; cases h0), fun j hj => ?_⟩
  rw [hr] at hj
  have e : j = i := by simpa using hj
  subst e
  have h1 := h (fun a' w' => (j ≠ t → S w') ∧ wpUpto P md ops Q S t f (listed.setIfInBounds j true) a' w') (fun _ _ p q => ⟨p, q⟩)
  unfold wpOp
  simp only [hi]
  split
  · rename_i hw
    rw [if_pos hw] at h1
    exact .inl h1
  · rename_i hw
    rw [if_neg hw] at h1
    exact h1
theorem upto_done {listed : Array Bool} {a : Act} {w : World} {f : Nat} (hr : Region.ready md ops listed = []) (h : Q .normal a w) : wpUpto P md ops Q S t f listed a w := by
  cases f with
  | zero => exact ⟨hr, h⟩
  | succ f => exact ⟨fun _ => h, by rw [hr]; simp⟩
theorem region_upto {id : Nat} {a : Act} {w : World} (S : World → Prop) (t : Nat) (hm : P.follows .mixedOrders = true) (hS : S w.drew) (h : S w.drew → wpUpto P .any ops Q S t ops.size (Array.replicate ops.size false) a w.drew) : (Code.region id ops true).wp P Q a w :=
  wp_region_any hm (upto_any _ _ _ _ (h hS))
end

end Go.Proofs.YtggigaghfcpbbaaGreat

/-
  A region that draws its order, none of whose operations breaks what is asked of the world.
-/
namespace Go.Proofs.YtggigaghfcpbbaaGreat
open Go.RowKit

section
variable {P : Program} {ops : Array Oper} {Q : Exit → Act → World → Prop} {md : Region.Mode} {S : World → Prop} {t : Nat}

theorem upto_firstN {i : Nat} {oi : Oper} {v : Value} (hi : ops[i]? = some oi) (hsel : Region.noSelect ops = true) (ht : ops[t]? = none)
    (hQ : ∀ c a w, Q (.panic c) (a.put oi.dst v) w → Q (.panic c) a w) :
    ∀ (f : Nat) (listed : Array Bool) (a : Act) (w : World),
      (∀ j oj, ops[j]? = some oj → j ≠ i → listed.getD j true = false → (∀ e ∈ oj.after, Region.binds md e = true → e.on ≠ i) → oi.apart ops oj = true) →
      i ∈ Region.ready md ops listed → YieldsIf P ops S oi v a → S w →
      wpUpto P md ops Q S t f (listed.setIfInBounds i true) (a.put oi.dst v) w → wpUpto P md ops Q S t (f + 1) listed a w := by
  intro f
  induction f with
  | zero =>
    intro listed a w _ hr hy hS H
    refine ⟨fun h => (by rw [h] at hr; cases hr), fun j hj => ?_⟩
    by_cases hji : j = i
    · subst hji
      exact hy.wpOp hi hS ⟨fun _ => hS, H⟩
    · have hm := ready_mono hj hji
      rw [H.1] at hm
      cases hm
  | succ f ih =>
    intro listed a w hfree hr hy hS H
    refine ⟨fun h => (by rw [h] at hr; cases hr), fun j hj => ?_⟩
    by_cases hji : j = i
    · subst hji
      exact hy.wpOp hi hS ⟨fun _ => hS, H⟩
    · obtain ⟨hjun, oj, hoj, hall⟩ := mem_ready.1 hj
      have hun := (mem_ready.1 hr).1
      have hnl : ¬ listed.getD i false = true := by
        intro h1
        rcases Nat.lt_or_ge i listed.size with h' | h'
        · simp [h'] at hun h1
          rw [hun] at h1
          cases h1
        · simp [Array.getElem?_eq_none h'] at h1
      have hnot : ∀ e ∈ oj.after, Region.binds md e = true → e.on ≠ i := fun e he hb heq => hnl (by rw [← heq]; exact hall e he hb)
      have hjt : j ≠ t := by
        rintro rfl
        rw [ht] at hoj
        cases hoj
      have h1 := H.2 j (ready_mono hj hji)
      have h2 := wpOp_putIf hoj (hfree j oj hoj hji hjun hnot) (fun cs b => Region.noSelect_spec hsel i oi cs b hi) (fun cs b => Region.noSelect_spec hsel j oj cs b hoj) hQ hy h1
      refine wpOp_mono (fun a' w' h3 => ⟨h3.2.1, ih (listed.setIfInBounds j true) a' w' ?_ (ready_mono hr (Ne.symm hji)) h3.1 (h3.2.1 hjt) ?_⟩) h2
      · intro k ok hk hki hunk hno
        refine hfree k ok hk hki ?_ hno
        by_cases hjk : j = k
        · subst hjk; exact hjun
        · rw [getD_set_ne true hjk] at hunk; exact hunk
      · rw [Array.setIfInBounds_comm _ _ hji]
        exact h3.2.2
theorem upto_takeN {i : Nat} {oi : Oper} {v : Value} {f : Nat} {listed : Array Bool} {a : Act} {w : World} (hi : ops[i]? = some oi) (hsel : Region.noSelect ops = true) (ht : ops[t]? = none)
    (hf : Region.free md ops listed i = true) (hr : (Region.ready md ops listed).contains i = true) (hQ : ∀ c a w, Q (.panic c) (a.put oi.dst v) w → Q (.panic c) a w)
    (hwd : Region.wanted oi (yielded ops a.tmps) = true) (hS : S w) (hy : ∀ w, S w → (execOp a.eval oi).run P w = .ok (.value v) w)
    (h : wpUpto P md ops Q S t f (listed.setIfInBounds i true) (a.put oi.dst v) w) : wpUpto P md ops Q S t (f + 1) listed a w :=
  upto_firstN hi hsel ht hQ f listed a w (Region.free_spec hi hf) (by simpa using hr) (Or.inl ⟨hwd, hy⟩) hS h
theorem upto_skipN {i : Nat} {oi : Oper} {f : Nat} {listed : Array Bool} {a : Act} {w : World} (hi : ops[i]? = some oi) (hsel : Region.noSelect ops = true) (ht : ops[t]? = none)
    (hf : Region.free md ops listed i = true) (hr : (Region.ready md ops listed).contains i = true) (hQ : ∀ c a w, Q (.panic c) (a.put oi.dst undef) w → Q (.panic c) a w)
    (hwd : Region.wanted oi (yielded ops a.tmps) = false) (hS : S w)
    (h : ∀ u : Value, wpUpto P md ops Q S t f (listed.setIfInBounds i true) (a.put oi.dst u) w) : wpUpto P md ops Q S t (f + 1) listed a w :=
  upto_firstN hi hsel ht hQ f listed a w (Region.free_spec hi hf) (by simpa using hr) (Or.inr ⟨hwd, rfl⟩) hS (h undef)
end

end Go.Proofs.YtggigaghfcpbbaaGreat

/-
  Messages: mathematics and pieces.
-/
set_option linter.unusedSimpArgs false
set_option linter.unusedVariables false
namespace Go.Proofs.YtggigaghfcpbbaaGreat
open Go.RowKit
set_option linter.unusedSectionVars false
variable [DecidableEq Leg] [Inhabited Leg] [DecidableEq Cont] [Inhabited Cont] [DecidableEq Bal] [Inhabited Bal] [DecidableEq Mrk] [Inhabited Mrk] [DecidableEq Shd] [Inhabited Shd] [DecidableEq Vot] [Inhabited Vot] [DecidableEq Slt] [Inhabited Slt] [DecidableEq Acc] [Inhabited Acc] [DecidableEq Trr] [Inhabited Trr] [DecidableEq Hrd] [Inhabited Hrd] [DecidableEq Ldr] [Inhabited Ldr] [DecidableEq Msg] [Inhabited Msg] [DecidableEq Clu] [Inhabited Clu] [DecidableEq Ledg] [Inhabited Ledg]
attribute [local go_sem ↓] Go.wp_at_zero Go.wp_at_succ

def firstC (cs : List Cont) (id : Int) : Nat := cs.findIdx (fun x => x.id == id)
theorem firstC_hit {cs : List Cont} {id : Int} {k : Nat} (hk : k < cs.length) (h : (cs.getD k default).id = id) (hb : ∀ j, j < k → ¬ (cs.getD j default).id = id) : firstC cs id = k := by
  unfold firstC
  rw [List.findIdx_eq hk]
  refine ⟨?_, fun j hj => ?_⟩
  · simp only [List.getD, List.getElem?_eq_getElem hk, Option.getD_some] at h
    simp [h]
  · have := hb j hj
    simp only [List.getD, List.getElem?_eq_getElem (Nat.lt_trans hj hk), Option.getD_some] at this
    simp [this]
theorem firstC_none {cs : List Cont} {id : Int} (hb : ∀ j, j < cs.length → ¬ (cs.getD j default).id = id) : firstC cs id = cs.length := by
  unfold firstC
  rw [List.findIdx_eq_length]
  intro x hx
  obtain ⟨i, hi, rfl⟩ := List.getElem_of_mem hx
  have := hb i hi
  simp only [List.getD, List.getElem?_eq_getElem hi, Option.getD_some] at this
  simp [this]
def xOf (c : Clu) (m : Msg) : Cont := c.cons.getD (firstC c.cons m.con) default
def oldB (ob ov : Int) : Bool := (decide (ob = -1) && decide (ov = 0)) || (inB ob 0 1000 && inB ov 1 2)
def endTo (c : Clu) (k : Int) : Nat := if k = 1 ∨ k = 6 then c.shards.length else if k = 3 ∨ k = 5 then c.ldrs.length else c.accs.length
def endsB (c : Clu) (m : Msg) : Bool := inB m.to 0 ((endTo c m.kind : Int) - 1) && (if m.kind = 3 ∨ m.kind = 5 then inB m.frm 0 ((c.accs.length : Int) - 1) else if m.kind = 4 then inB m.frm 0 ((c.ldrs.length : Int) - 1) else true)
def saysB (x : Cont) (m : Msg) : Bool := hasS x.legs (if m.kind = 1 ∨ m.kind = 6 then m.to else m.sh) && ((if m.kind = 2 ∨ m.kind = 3 ∨ m.kind = 4 ∨ m.kind = 5 then inB m.bal 0 1000 else true) && ((if m.kind = 2 ∨ m.kind = 3 ∨ m.kind = 6 then inB m.val 1 2 else true) && (if m.kind = 5 then oldB m.ob m.ov else true)))
def bareM (m : Msg) : Msg := ⟨m.kind, m.to, if m.kind = 3 ∨ m.kind = 4 ∨ m.kind = 5 then m.frm else 0, m.con, if m.kind = 2 ∨ m.kind = 3 ∨ m.kind = 4 ∨ m.kind = 5 then m.sh else 0, if m.kind = 2 ∨ m.kind = 3 ∨ m.kind = 4 ∨ m.kind = 5 then m.bal else 0, if m.kind = 2 ∨ m.kind = 3 ∨ m.kind = 6 then m.val else 0, if m.kind = 5 then m.ob else 0, if m.kind = 5 then m.ov else 0⟩
def msgF (c : Clu) (m : Msg) : Int := if inB m.kind 1 6 = true then (if endsB c m = true then (if firstC c.cons m.con < c.cons.length then (if saysB (xOf c m) m = true then (if m = bareM m then 0 else 1) else 3) else 4) else 3) else 5
theorem kinds {k : Int} (h : inB k 1 6 = true) : k = 1 ∨ k = 2 ∨ k = 3 ∨ k = 4 ∨ k = 5 ∨ k = 6 := by have := inBi.1 h; omega
theorem msgF_kind {c : Clu} {m : Msg} (h : inB m.kind 1 6 = false) : msgF c m = 5 := by unfold msgF; rw [h]; rfl
theorem msgF_ends {c : Clu} {m : Msg} (h : inB m.kind 1 6 = true) (h1 : endsB c m = false) : msgF c m = 3 := by unfold msgF; rw [h, h1]; rfl
theorem msgF_none {c : Clu} {m : Msg} (h : inB m.kind 1 6 = true) (h1 : endsB c m = true) (h2 : ¬ firstC c.cons m.con < c.cons.length) : msgF c m = 4 := by unfold msgF; rw [if_pos h, if_pos h1, if_neg h2]
theorem msgF_says {c : Clu} {m : Msg} (h : inB m.kind 1 6 = true) (h1 : endsB c m = true) (h2 : firstC c.cons m.con < c.cons.length) (h3 : saysB (xOf c m) m = false) : msgF c m = 3 := by unfold msgF; rw [if_pos h, if_pos h1, if_pos h2, h3]; rfl
theorem msgF_form {c : Clu} {m : Msg} (h : inB m.kind 1 6 = true) (h1 : endsB c m = true) (h2 : firstC c.cons m.con < c.cons.length) (h3 : saysB (xOf c m) m = true) : msgF c m = if m = bareM m then 0 else 1 := by unfold msgF; rw [if_pos h, if_pos h1, if_pos h2, if_pos h3]
def CluP (w : World) (B : Nat) (c : Clu) : Prop := ∃ a0 c0 a1 c1 a2 c2 a3 c3 v4, w.cell? ⟨B, 0, none⟩ = some (.slice a0 c.cons.length c0) ∧ w.cell? ⟨B, 1, none⟩ = some (.slice a1 c.shards.length c1) ∧ w.cell? ⟨B, 2, none⟩ = some (.slice a2 c.accs.length c2) ∧ w.cell? ⟨B, 3, none⟩ = some (.slice a3 c.ldrs.length c3) ∧ w.cell? ⟨B, 4, none⟩ = some v4 ∧ contsR.V w (.slice a0 c.cons.length c0) c.cons ∧ c.shards.length ≤ 9223372036854775807 ∧ c.accs.length ≤ 9223372036854775807 ∧ c.ldrs.length ≤ 9223372036854775807
theorem CluP.below {w w' : World} {B : Nat} {c : Clu} (h : CluP w B c) (hb : Below w.heap.size w w') : CluP w' B c := by
  obtain ⟨a0, c0, a1, c1, a2, c2, a3, c3, v4, h0, h1, h2, h3, h4, hv, hs⟩ := h
  exact ⟨a0, c0, a1, c1, a2, c2, a3, c3, v4, cell_keep hb h0, cell_keep hb h1, cell_keep hb h2, cell_keep hb h3, cell_keep hb h4, contsR.below hv hb, hs⟩
theorem conts_atM {w : World} {a : Option Addr} {c : Nat} {xs : List Cont} (hx : contsR.V w (.slice a xs.length c) xs) : xs.length ≤ c ∧ c ≤ maxLen ∧ ∀ k, k < xs.length → ∃ b o p q, a = some ⟨b, o, none⟩ ∧ w.cell? ⟨b, o + k * 2, none⟩ = some (.int .i64 (xs.getD k default).id) ∧ w.cell? ⟨b, o + k * 2 + 1, none⟩ = some (.slice p (xs.getD k default).legs.length q) ∧ legsR.V w (.slice p (xs.getD k default).legs.length q) (xs.getD k default).legs := by
  obtain ⟨a', c', e, h1, h2, h3⟩ := hx
  simp only [Value.slice.injEq, true_and] at e
  obtain ⟨rfl, rfl⟩ := e
  refine ⟨h1, h2, fun k hk => ?_⟩
  obtain ⟨b, o, u, e, _, p, hv⟩ := h3 k hk
  obtain ⟨s, rfl, hc⟩ := hv
  obtain ⟨au, cu, rfl⟩ := legs_form hc
  exact ⟨b, o, au, cu, e, p 0 (by omega), p 1 (by omega), hc⟩
theorem eqInVotF (a b c d : Int) (w : World) : (Op.equalIn 9999 43 (.agg #[.int .i64 a, .int .i64 b]) (.agg #[.int .i64 c, .int .i64 d])).run Tryz.prog w = .ok (decide (a = c) && decide (b = d)) w := by
  rw [run_equalIn_struct w 9998 43 _ _ (by kernel_rfl) (by kernel_rfl)]
  have hf : (Tryz.prog.fieldsOf 43).toList = [{ name := "Ballot", type := 2, offset := 0, embedded := false, tag := "", pkgPath := "", byteOffset := 0 }, { name := "Value", type := 2, offset := 1, embedded := false, tag := "", pkgPath := "", byteOffset := 8 }] := by kernel_rfl
  rw [hf]
  simp [Op.eqFields, go_sem]
  by_cases e1 : a = c <;> by_cases e2 : b = d <;> simp [e1, e2]
set_option maxRecDepth 20000 in
theorem eqInMsg (x0 x1 x2 x3 x4 x5 x6 x7 x8 y0 y1 y2 y3 y4 y5 y6 y7 y8 : Int) (w : World) : (Op.equalIn 10000 45 (.agg #[.int .i64 x0, .int .i64 x1, .int .i64 x2, .int .i64 x3, .int .i64 x4, .int .i64 x5, .int .i64 x6, .int .i64 x7, .int .i64 x8]) (.agg #[.int .i64 y0, .int .i64 y1, .int .i64 y2, .int .i64 y3, .int .i64 y4, .int .i64 y5, .int .i64 y6, .int .i64 y7, .int .i64 y8])).run Tryz.prog w = .ok (decide ((⟨x0, x1, x2, x3, x4, x5, x6, x7, x8⟩ : Msg) = ⟨y0, y1, y2, y3, y4, y5, y6, y7, y8⟩)) w := by
  rw [run_equalIn_struct w 9999 45 _ _ (by kernel_rfl) (by kernel_rfl)]
  have hf : (Tryz.prog.fieldsOf 45).toList = [{ name := "Kind", type := 2, offset := 0, embedded := false, tag := "", pkgPath := "", byteOffset := 0 }, { name := "To", type := 2, offset := 1, embedded := false, tag := "", pkgPath := "", byteOffset := 8 }, { name := "From", type := 2, offset := 2, embedded := false, tag := "", pkgPath := "", byteOffset := 16 }, { name := "Contract", type := 2, offset := 3, embedded := false, tag := "", pkgPath := "", byteOffset := 24 }, { name := "Shard", type := 2, offset := 4, embedded := false, tag := "", pkgPath := "", byteOffset := 32 }, { name := "Ballot", type := 2, offset := 5, embedded := false, tag := "", pkgPath := "", byteOffset := 40 }, { name := "Value", type := 2, offset := 6, embedded := false, tag := "", pkgPath := "", byteOffset := 48 }, { name := "Old", type := 43, offset := 7, embedded := false, tag := "", pkgPath := "", byteOffset := 56 }] := by kernel_rfl
  rw [hf]
  have hv := eqInVotF x7 x8 y7 y8 w
  simp only [Msg.mk.injEq]
  by_cases e0 : x0 = y0
  rotate_left
  · simp [Op.eqFields, go_sem, e0]
  by_cases e1 : x1 = y1
  rotate_left
  · simp [Op.eqFields, go_sem, e0, e1]
  by_cases e2 : x2 = y2
  rotate_left
  · simp [Op.eqFields, go_sem, e0, e1, e2]
  by_cases e3 : x3 = y3
  rotate_left
  · simp [Op.eqFields, go_sem, e0, e1, e2, e3]
  by_cases e4 : x4 = y4
  rotate_left
  · simp [Op.eqFields, go_sem, e0, e1, e2, e3, e4]
  by_cases e5 : x5 = y5
  rotate_left
  · simp [Op.eqFields, go_sem, e0, e1, e2, e3, e4, e5]
  by_cases e6 : x6 = y6
  rotate_left
  · simp [Op.eqFields, go_sem, e0, e1, e2, e3, e4, e5, e6]
  simp [Op.eqFields, go_sem, e0, e1, e2, e3, e4, e5, e6, hv]
  by_cases e7 : x7 = y7 <;> by_cases e8 : x8 = y8 <;> simp [e7, e8]
theorem neqMsg (x0 x1 x2 x3 x4 x5 x6 x7 x8 y0 y1 y2 y3 y4 y5 y6 y7 y8 : Int) (w : World) : (binOp .neq 45 (.agg #[.int .i64 x0, .int .i64 x1, .int .i64 x2, .int .i64 x3, .int .i64 x4, .int .i64 x5, .int .i64 x6, .int .i64 x7, .int .i64 x8]) (.agg #[.int .i64 y0, .int .i64 y1, .int .i64 y2, .int .i64 y3, .int .i64 y4, .int .i64 y5, .int .i64 y6, .int .i64 y7, .int .i64 y8])).run Tryz.prog w = .ok (.bool (!decide ((⟨x0, x1, x2, x3, x4, x5, x6, x7, x8⟩ : Msg) = ⟨y0, y1, y2, y3, y4, y5, y6, y7, y8⟩))) w := by
  rw [run_neq_struct, eqInMsg]
  rfl
end Go.Proofs.YtggigaghfcpbbaaGreat

/-
  MessageFault, the document's pieces: lists.
-/
set_option linter.unusedSimpArgs false
set_option linter.unusedVariables false
namespace Go.Proofs.YtggigaghfcpbbaaGreat
open Go.RowKit
set_option linter.unusedSectionVars false
variable [DecidableEq Leg] [Inhabited Leg] [DecidableEq Cont] [Inhabited Cont] [DecidableEq Bal] [Inhabited Bal] [DecidableEq Mrk] [Inhabited Mrk] [DecidableEq Shd] [Inhabited Shd] [DecidableEq Vot] [Inhabited Vot] [DecidableEq Slt] [Inhabited Slt] [DecidableEq Acc] [Inhabited Acc] [DecidableEq Trr] [Inhabited Trr] [DecidableEq Hrd] [Inhabited Hrd] [DecidableEq Ldr] [Inhabited Ldr] [DecidableEq Msg] [Inhabited Msg] [DecidableEq Clu] [Inhabited Clu] [DecidableEq Ledg] [Inhabited Ledg]
attribute [local go_sem ↓] Go.wp_at_zero Go.wp_at_succ

theorem mem_putI (s v : Int) (L : List Int) : s ∈ putI L v ↔ s = v ∨ s ∈ L := by
  unfold putI
  split
  · rename_i h
    have hv : v ∈ L := by
      by_cases hl : ahead L v < L.length
      · rw [List.getD, List.getElem?_eq_getElem hl, Option.getD_some] at h
        rw [← h]
        exact List.getElem_mem hl
      · rw [List.getD, List.getElem?_eq_none (by omega), Option.getD_none] at h
        omega
    exact ⟨fun h => .inr h, fun h => h.elim (fun e => by rw [e]; exact hv) id⟩
  · have e : L = L.take (ahead L v) ++ L.drop (ahead L v) := (List.take_append_drop _ _).symm
    constructor
    · intro h
      rw [List.mem_append, List.mem_append, List.mem_singleton] at h
      rcases h with (h | h) | h
      · exact .inr (List.mem_of_mem_take h)
      · exact .inl h
      · exact .inr (List.mem_of_mem_drop h)
    · intro h
      rw [List.mem_append, List.mem_append, List.mem_singleton]
      rcases h with h | h
      · exact .inl (.inr h)
      · rw [e, List.mem_append] at h
        exact h.elim (fun h => .inl (.inl h)) .inr
theorem putI_len (L : List Int) (v : Int) : (putI L v).length ≤ L.length + 1 := by
  unfold putI
  split
  · omega
  · simp only [List.length_append, List.length_take, List.length_drop, List.length_singleton]
    have := ahead_le L v
    omega
def putsI (xs : List Leg) : List Int := xs.foldl (fun L l => putI L l.sh) []
theorem putsI_snoc (xs : List Leg) (l : Leg) : putsI (xs ++ [l]) = putI (putsI xs) l.sh := by unfold putsI; rw [List.foldl_append]; rfl
theorem putsI_take (xs : List Leg) (k : Nat) (h : k < xs.length) : putI (putsI (xs.take k)) (xs.getD k default).sh = putsI (xs.take (k + 1)) := by
  have e : xs.take (k + 1) = xs.take k ++ [xs.getD k default] := by rw [List.take_add_one]; simp [List.getD, h]
  rw [e, putsI_snoc]
theorem putsI_len : ∀ xs : List Leg, (putsI xs).length ≤ xs.length := fun xs => by
  have h : ∀ k, k ≤ xs.length → (putsI (xs.take k)).length ≤ k := fun k => by
    induction k with
    | zero => intro _; simp [putsI]
    | succ k ih =>
      intro hk
      rw [← putsI_take xs k (by omega)]
      have := putI_len (putsI (xs.take k)) (xs.getD k default).sh
      have := ih (by omega)
      omega
  have := h xs.length (Nat.le_refl _)
  rwa [List.take_length] at this
theorem mem_putsI (xs : List Leg) (s : Int) : decide (s ∈ putsI xs) = hasS xs s := by
  have h : ∀ k, k ≤ xs.length → (s ∈ putsI (xs.take k) ↔ hasS (xs.take k) s = true) := fun k => by
    induction k with
    | zero => intro _; simp [putsI, hasS]
    | succ k ih =>
      intro hk
      rw [← putsI_take xs k (by omega), mem_putI, ih (by omega), hasS_snoc xs k (by omega), Bool.or_eq_true, beq_iff_eq]
      exact ⟨fun h => h.elim (fun h => .inr h.symm) .inl, fun h => h.elim .inr (fun h => .inl h.symm)⟩
  have := h xs.length (Nat.le_refl _)
  rw [List.take_length] at this
  rw [Bool.eq_iff_iff, decide_eq_true_eq]
  exact this
set_option maxRecDepth 20000 in
set_option maxHeartbeats 1000000 in
theorem l1ShardsM_any (id : Int) (x : Value) (xs : List Leg) (w : World) (hx : LegsV w x xs) (hn : xs.length ≤ 1048576) :
    Calls Tryz.prog 72 #[.agg #[.int .i64 id, x]] w fun e w' => ∃ v, e = .returned v ∧ w'.ownsRow w.heap.size 2 1 v (putsI xs).length (intsC (putsI xs)) ∧ Below w.heap.size w w' := by
  obtain ⟨ax, cx, rfl, hcx, hmx, hx⟩ := hx
  unfold maxLen at hmx
  generalize hn' : xs.length = n at *
  have HN : Hid (xs.length = n) := hn'
  clear hn'
  go_enter Tryz.func72, Tryz.ntmps72
  go_wp2
  go_loopw [3, 4] (fun v i w' => ∃ k : Nat, k ≤ n ∧ i = .int .i64 k ∧ w'.ownsRow (w.heap.size + 1) 2 1 v (putsI (xs.take k)).length (intsC (putsI (xs.take k))) ∧ ¬ v = .slice none 0 0 ∧ w'.cell? ⟨w.heap.size, 1, none⟩ = some (.slice ax n cx) ∧ Below w.heap.size w w') (fun _ i _ => n - (intOf i).toNat)
  case atStart =>
    refine ⟨0, Nat.zero_le _, rfl, ?_, by simp, by simp [go_sem], balloc (balloc (Below.refl _ _) _) _⟩
    have := World.ownsRow_lit (base := w.heap.size + 1) (e := 2) (size := 1) (w.alloc (.cells #[.int .i64 id, .slice ax n cx] 66)) #[] 0 (by simp) (by unfold maxLen; omega) rfl
    simpa [putsI, intsC] using this
  case round =>
    obtain ⟨k, hk, rfl, ho, hnn, hbx, hbl⟩ := hrel
    by_cases hlt : k < n
    · obtain ⟨bx, ox, rfl, g1⟩ := hx k hlt
      obtain ⟨l, hl⟩ : ∃ l, l = xs.getD k default := ⟨_, rfl⟩
      rw [← hl] at g1
      have HL : Hid (l = xs.getD k default) := hl
      clear hl hx
      obtain ⟨a1, a2, a3, a4⟩ := legCells_below hbl g1
      have hkx : k < xs.length := by have := HN.out; omega
      have HE := putsI_take xs k hkx
      rw [← HL.out] at HE
      have HE' : Hid (putI (putsI (xs.take k)) l.sh = putsI (xs.take (k + 1))) := HE
      have hle : (putsI (xs.take k)).length ≤ 1048576 := by have := putsI_len (xs.take k); rw [List.length_take] at this; omega
      have hz : w.heap.size < wr.heap.size := World.block_lt_of_cell? _ _ hbx
      obtain ⟨g, cap, hv⟩ : ∃ g cap, u3 = .slice (some ⟨g, 0, none⟩) (putsI (xs.take k)).length cap := by
        rcases ho.2 with ⟨h, _⟩ | ⟨g, cap, cur, h, _⟩
        · exact absurd h hnn
        · exact ⟨g, cap, h⟩
      subst hv
      clear HE hnn
      go_wp2_with fail
      refine (l1Put_any g 0 cap (w.heap.size + 1) (putsI (xs.take k)) l.sh _ (by omega) (by omega) ho).mono ?_
      rintro r w1 ⟨u, rfl, ho1, hnn1, hb1⟩
      rw [HE'.out] at ho1
      have hbx1 := cell_keep hb1 hbx
      have hbl1 := bstep hbl hb1
      clear ho hb1 a1 a2 a3 a4 hbl hbx
      go_wp2
      exact ⟨⟨k + 1, by omega, by go_num, ho1, hnn1, hbx1, hbl1⟩, by simp [intOf]; omega⟩
    · go_wp2
      go_ret
      have hkn : k = n := by omega
      subst hkn
      have t0 : xs.take k = xs := by rw [← HN.out]; exact List.take_length
      rw [t0] at ho
      exact ⟨_, rfl, owns_base ho (by omega), hbl⟩
set_option maxHeartbeats 2000000 in
theorem l1HasM_any (x : Value) (xs : List Int) (c : Int) (w : World) (hx : IntsV w x xs) :
    Calls Tryz.prog 71 #[x, .int .i64 c] w fun e w' => e = .returned (.bool (decide (c ∈ xs))) ∧ w' = w := by
  obtain ⟨ax, cx, rfl, hcx, hmx, hx⟩ := hx
  unfold maxLen at hmx
  have HT : Hid (∀ k, k < xs.length → xs.getD k 0 = c → decide (c ∈ xs) = true) := fun k hk h => decide_eq_true (by rw [← h]; simp [List.getD, hk])
  have HS0 : Hid (∀ k, k < xs.length → ¬ c ∈ xs.take k → ¬ xs.getD k 0 = c → ¬ c ∈ xs.take (k + 1)) := fun k hk h1 h2 => by
    rw [List.take_add_one]
    intro h
    rw [List.mem_append] at h
    rcases h with h | h
    · exact h1 h
    · simp [hk] at h
      exact h2 (by simp [List.getD, hk, h])
  have HE : Hid (¬ c ∈ xs.take xs.length → decide (c ∈ xs) = false) := fun h => decide_eq_false (by rw [List.take_length] at h; exact h)
  generalize hn' : xs.length = n at *
  clear hn'
  go_enter Tryz.func71, Tryz.ntmps71
  go_wp2
  go_loopw [5] (fun i w' => ∃ k : Nat, k ≤ n ∧ i = .int .i64 k ∧ Hid (¬ c ∈ xs.take k) ∧ Hid (w' = w)) (fun i _ => n - (intOf i).toNat)
  case atStart => exact ⟨0, Nat.zero_le _, rfl, by show ¬ c ∈ xs.take 0; simp, rfl⟩
  case round =>
    obtain ⟨k, hk, rfl, HS, HW⟩ := hrel
    by_cases hlt : k < n
    · obtain ⟨bx, ox, rfl, g1⟩ := hx k hlt
      have h1 := HT.out k hlt
      have h2 := HS0.out k hlt HS.out
      generalize xs.getD k 0 = q at *
      have H1 : Hid (q = c → decide (c ∈ xs) = true) := h1
      have H2 : Hid (¬ q = c → ¬ c ∈ xs.take (k + 1)) := h2
      clear hx h1 h2
      rw [← HW.out] at g1
      by_cases he : q = c
      · have HC := H1.out he
        have he' : (q == c) = true := by simp [he]
        clear H1 HS H2
        go_wp2
        go_ret
        exact ⟨by rw [HC]; rfl, HW.out⟩
      · have HC : Hid (¬ c ∈ xs.take (k + 1)) := H2.out he
        have he' : (q == c) = false := by simp [he]
        clear H1 HS H2
        go_wp2
        exact ⟨⟨k + 1, by omega, by go_num, HC, HW⟩, by simp [intOf]; omega⟩
    · have hkn : k = n := by omega
      subst hkn
      have HC := HE.out HS.out
      go_wp2
      go_ret
      exact ⟨by rw [HC]; rfl, HW.out⟩
end Go.Proofs.YtggigaghfcpbbaaGreat


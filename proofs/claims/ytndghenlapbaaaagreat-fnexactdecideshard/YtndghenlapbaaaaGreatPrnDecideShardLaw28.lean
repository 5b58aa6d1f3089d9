import Derived.Test.YtndghenlapbaaaaGreatPrnDecideShardLaw20
import Derived.Test.YtndghenlapbaaaaGreatPrnDecideShardLaw27
import Derived.Test.YtndghenlapbaaaaGreatPrnDecideShardLaw13
import Derived.BigQuiet
import Derived.Deep.QuietTactic
import Derived.Deep.RegionHeld3
import Derived.Test.YtndghenlapbaaaaGreatPrnDecideShardLaw21
import Derived.Test.YtndghenlapbaaaaGreatPrnDecideShardLaw2
import Derived.Test.YtndghenlapbaaaaGreatPrnDecideShardLaw18
import Derived.Test.YtndghenlapbaaaaGreatPrnDecideShardLaw17
import Derived.Test.YtndghenlapbaaaaGreatPrnDecideShardLaw4
import Derived.Shelf.Abstract
import Derived.Laws.CopyRow
import Derived.Laws.Externs
import Derived.Lib.Overlaps
import Derived.Lib.AppendZerosOnto
import Derived.Deep.RegionLaw
set_option linter.unusedSimpArgs false
set_option linter.unusedVariables false
set_option linter.unusedSectionVars false

/-
 Appends, with what they turn.
-/
namespace Go.Proofs.YtndghenlapbaaaaGreat
open Go.RowKit
variable [DecidableEq Leg] [Inhabited Leg] [DecidableEq Mrk] [Inhabited Mrk] [DecidableEq Bal] [Inhabited Bal]
attribute [local go_sem ↓] Go.wp_at_zero Go.wp_at_succ

theorem wp_appG (Y : World) {o : Oper} {a : Act} {K : Act → World → Prop} {Q : Exit → Act → World → Prop} (hgd : o.guard = none) (s x : Operand) (t : TypeId)
  (ho : o.op = .call { callee := .builtin .append, args := #[s, x], argTypes := #[t, t] })
  (e : TypeId) (i : TypeInfo) (z : Value) (size bytes : Nat) (ht : Tryz.prog.underlying t = some (.slice e)) (hi : Tryz.prog.info? e = some i) (hz : i.zero = some z)
  (hsize : i.size = size) (hby : i.bytes = bytes) (hzs : z.cells.size = size) (hsz : 0 < size) (hbs : bytes ≤ 64)
  (base : Nat) (v : Value) (F1 : Nat → Prop) (n : Nat) (cs : List Value) (hs : a.eval s = v) (u : Value) (m : Nat) (ds : List Value) (hx : a.eval x = u)
  (hown : Y.ownsRow base e size v n cs ∧ F1 = (fun b => v.ownBlock = some b)) (hsrc : AppAny Y u m ds) (hl : ds.length = m * size) (h1 : ∀ y ∈ ds, y.oneCell' = true) (hlen : n + m ≤ 1073741824) (hbase : base ≤ Y.heap.size)
  (h : ∀ v' w', (w'.ownsRow base e size v' (n + m) (cs ++ ds) ∧ (fun b => v'.ownBlock = some b) = (fun b => v'.ownBlock = some b)) → Mod F1 Y w' → (∀ b, v'.ownBlock = some b → F1 b ∨ (Y.heap.size ≤ b ∧ b < w'.heap.size)) → K (a.put o.dst v') w') : Oper.wp Tryz.prog o a Y K Q := by
 obtain ⟨hown, hF1⟩ := hown
 rcases hsrc with ⟨c, rfl, hm, hd⟩ | ⟨ad, c, rfl, hc⟩
 ·
  subst hm hd
  have hr := run_append_none_any (P := Tryz.prog) Y base t o.type e i size c ht hi v n cs hown
  unfold Oper.wp execOp
  simp only [ho, resolve, invoke, builtin, Sem.run_bind, Sem.run_pure, Result.andThen_ok, List.map_toArray, List.map_cons, List.map_nil, hs, hx, hr]
  refine h v Y ⟨?_, rfl⟩ (Mod.refl _ _) (fun b hb => .inl (by rw [hF1]; exact hb))
  rw [List.append_nil, Nat.add_zero]
  exact hown
 ·
  have h0 := step_append_at (E := True) (ops := #[]) (Q := Q) (K := K) Y hgd s x t ho base e i z size bytes ht hi hz hsize hby hzs hsz v n cs hs hown ad m c ds hx hl hc h1 (by unfold maxLen; omega) (Nat.le_trans (Nat.mul_le_mul hlen hbs) (by decide)) hbase (by
   intro v' w' h1 h2 h3
   refine h v' w' ⟨h1, rfl⟩ (by rw [hF1]; exact Mod.of_grown h2) (fun b hb => ?_)
   rcases h3 with h3 | h3
   ·
    exact .inl (by rw [hF1]; exact h3 ▸ hb)
   ·
    rw [h3] at hb
    simp only [Option.some.injEq] at hb
    have := (h1.lt b (by rw [h3, hb])).2
    exact .inr ⟨by omega, this⟩)
  rwa [if_pos (by simp [Region.wanted, hgd])] at h0
theorem ite_wantedG {c : Bool} {A B : Prop} (hc : c = true) (h : A) : if c = true then A else B := by rw [if_pos hc]; exact h
theorem wp_app12M (Y : World) {o : Oper} {a : Act} {K : Act → World → Prop} {Q : Exit → Act → World → Prop} (hgd : o.guard = none) (s x : Operand)
  (ho : o.op = .call { callee := .builtin .append, args := #[s, x], argTypes := #[34, 34] })
  (base : Nat) (v : Value) (F1 : Nat → Prop) (xs : List Mrk) (hs : a.eval s = v) (u : Value) (ys : List Mrk) (hx : a.eval x = u)
  (hown : mrksR.O Y base F1 v xs) (hsrc : AppAny Y u ys.length (mrksC ys)) (hlen : xs.length + ys.length ≤ 1073741824) (hbase : base ≤ Y.heap.size)
  (h : ∀ v' w' F', mrksR.O w' base F' v' (xs ++ ys) → Mod F1 Y w' → (∀ b, F' b → F1 b ∨ (Y.heap.size ≤ b ∧ b < w'.heap.size)) → K (a.put o.dst v') w') : Oper.wp Tryz.prog o a Y K Q := by
 obtain ⟨i0, hi, hz0, hz1, hz2⟩ := info_parts infoMrk
 refine wp_appG Y hgd s x 34 ho 89 i0 _ 2 16 Tryz.underlying34 hi hz0 hz1 hz2 rfl (by decide) (by decide) base v F1 xs.length (mrksC xs) hs u ys.length (mrksC ys) hx hown hsrc (by rw [length_mrksC]) (mrks_one10 ys) hlen hbase ?_
 intro v' w' h1 h2 h3
 refine h v' w' _ ⟨?_, rfl⟩ h2 h3
 rw [List.length_append, mrks_app10]
 exact h1.1
theorem wp_app12B (Y : World) {o : Oper} {a : Act} {K : Act → World → Prop} {Q : Exit → Act → World → Prop} (hgd : o.guard = none) (s x : Operand)
  (ho : o.op = .call { callee := .builtin .append, args := #[s, x], argTypes := #[33, 33] })
  (base : Nat) (v : Value) (F1 : Nat → Prop) (xs : List Bal) (hs : a.eval s = v) (u : Value) (ys : List Bal) (hx : a.eval x = u)
  (hown : balsR.O Y base F1 v xs) (hsrc : AppAny Y u ys.length (balsC ys)) (hlen : xs.length + ys.length ≤ 1073741824) (hbase : base ≤ Y.heap.size)
  (h : ∀ v' w' F', balsR.O w' base F' v' (xs ++ ys) → Mod F1 Y w' → (∀ b, F' b → F1 b ∨ (Y.heap.size ≤ b ∧ b < w'.heap.size)) → K (a.put o.dst v') w') : Oper.wp Tryz.prog o a Y K Q := by
 obtain ⟨i0, hi, hz0, hz1, hz2⟩ := info_parts infoBal
 refine wp_appG Y hgd s x 33 ho 99 i0 _ 3 24 Tryz.underlying33 hi hz0 hz1 hz2 rfl (by decide) (by decide) base v F1 xs.length (balsC xs) hs u ys.length (balsC ys) hx hown hsrc (by rw [length_balsC]) (bals_one10 ys) hlen hbase ?_
 intro v' w' h1 h2 h3
 refine h v' w' _ ⟨?_, rfl⟩ h2 h3
 rw [List.length_append, bals_app10]
 exact h1.1
theorem wp_app12I (Y : World) {o : Oper} {a : Act} {K : Act → World → Prop} {Q : Exit → Act → World → Prop} (hgd : o.guard = none) (s x : Operand)
  (ho : o.op = .call { callee := .builtin .append, args := #[s, x], argTypes := #[25, 25] })
  (base : Nat) (v : Value) (F1 : Nat → Prop) (xs : List Int) (hs : a.eval s = v) (u : Value) (ys : List Int) (hx : a.eval x = u)
  (hown : intsR.O Y base F1 v xs) (hsrc : AppAny Y u ys.length (intsC ys)) (hlen : xs.length + ys.length ≤ 1073741824) (hbase : base ≤ Y.heap.size)
  (h : ∀ v' w' F', intsR.O w' base F' v' (xs ++ ys) → Mod F1 Y w' → (∀ b, F' b → F1 b ∨ (Y.heap.size ≤ b ∧ b < w'.heap.size)) → K (a.put o.dst v') w') : Oper.wp Tryz.prog o a Y K Q := by
 obtain ⟨i0, hi, hz0, hz1, hz2⟩ := info_parts infoInt
 refine wp_appG Y hgd s x 25 ho 2 i0 _ 1 8 Tryz.underlying25 hi hz0 hz1 hz2 rfl (by decide) (by decide) base v F1 xs.length (intsC xs) hs u ys.length (intsC ys) hx hown hsrc (by rw [length_intsC', Nat.mul_one]) (ints_one10 ys) hlen hbase ?_
 intro v' w' h1 h2 h3
 refine h v' w' _ ⟨?_, rfl⟩ h2 h3
 rw [List.length_append, ints_app10]
 exact h1.1
theorem lit12M (Y : World) (base : Nat) (hb : base ≤ Y.heap.size) : mrksR.O (Y.alloc (.cells #[] 89)) base (fun b => b = Y.heap.size) (.slice (some ⟨Y.heap.size, 0, none⟩) 0 0) [] :=
 ⟨World.ownsRow_lit (base := base) (e := 89) (size := 2) Y #[] 0 hb (by decide) rfl, by funext b; simp [Value.ownBlock, eq_comm]⟩
theorem lit12B (Y : World) (base : Nat) (hb : base ≤ Y.heap.size) : balsR.O (Y.alloc (.cells #[] 99)) base (fun b => b = Y.heap.size) (.slice (some ⟨Y.heap.size, 0, none⟩) 0 0) [] :=
 ⟨World.ownsRow_lit (base := base) (e := 99) (size := 3) Y #[] 0 hb (by decide) rfl, by funext b; simp [Value.ownBlock, eq_comm]⟩
theorem lit12I (Y : World) (base : Nat) (hb : base ≤ Y.heap.size) : intsR.O (Y.alloc (.cells #[] 2)) base (fun b => b = Y.heap.size) (.slice (some ⟨Y.heap.size, 0, none⟩) 0 0) [] :=
 ⟨World.ownsRow_lit (base := base) (e := 2) (size := 1) Y #[] 0 hb (by decide) rfl, by funext b; simp [Value.ownBlock, eq_comm]⟩
end Go.Proofs.YtndghenlapbaaaaGreat

/-
 A shard copied, the document's.
-/
namespace Go.Proofs.YtndghenlapbaaaaGreat
open Go.RowKit
variable [DecidableEq Leg] [Inhabited Leg] [DecidableEq Mrk] [Inhabited Mrk] [DecidableEq Bal] [Inhabited Bal] [DecidableEq Cont] [Inhabited Cont] [DecidableEq Shd] [Inhabited Shd]
attribute [local go_sem ↓] Go.wp_at_zero Go.wp_at_succ

theorem Mod.frz10 {F : Nat → Prop} {w w' : World} (h : Mod F w w') {a : Addr} (hl : a.block < w.heap.size) (hn : ¬ F a.block) : w'.frozen? a = w.frozen? a := World.frozen?_of_block (h.block a.block hl hn)
theorem Mod.low {F : Nat → Prop} {w w1 w2 : World} (h : Mod F w w1) (k : Below w.heap.size w1 w2) : Mod F w w2 :=
 ⟨k.os.trans h.os, k.tape.trans h.tape, k.output.trans h.output, Nat.le_trans h.size k.size, fun i hi hn => (k.block i hi).trans (h.block i hi hn)⟩
theorem low10 {n : Nat} {w w' : World} {a : Addr} {v : Value} (h : Below n w w') (hb : a.block < n) (hc : w.cell? a = some v) : w'.cell? a = some v := (h.cell (p := a) hb).trans hc
theorem step_appC12 (w : World) {ops : Array Oper} {o : Oper} {a : Act} {K : Act → World → Prop} {Q : Exit → Act → World → Prop} {E : Prop} (hgd : o.guard = none) (s x : Operand)
  (ho : o.op = .call { callee := .builtin .append, args := #[s, x], argTypes := #[35, 35] })
  (base : Nat) (F Fu : Nat → Prop) (v : Value) (xs : List Cont) (y : Cont) (g : Nat) (p : Option Addr) (q : Nat) (hs : a.eval s = v) (hx : a.eval x = .slice (some ⟨g, 0, none⟩) 1 1) (hown : contsR.O w base F v xs) (hu : contR.O w base Fu (.agg #[.int .i64 y.id, .slice p y.legs.length q]) y) (hd : ∀ b, F b → ¬ Fu b)
  (hc : w.cell? ⟨g, 0, none⟩ = some (.int .i64 y.id) ∧ w.cell? ⟨g, 1, none⟩ = some (.slice p y.legs.length q)) (hn : xs.length ≤ 2000000) (hbase : base ≤ w.heap.size)
  (h : ∀ v' w' F', contsR.O w' base F' v' (xs ++ [y]) → Below base w w' → (∀ b, F' b → F b ∨ Fu b ∨ w.heap.size ≤ b) → K (a.put o.dst v') w') :
  if Region.wanted o (yielded ops a.tmps) = true then Oper.wp Tryz.prog o a w K Q else E := by
 obtain ⟨i0, hi, hz0, hz1, hz2⟩ := info_parts infoConts
 exact step_appN w hgd s x 35 ho 44 i0 _ 2 32 Tryz.underlying35 hi hz0 hz1 hz2 rfl (by decide) (by decide) base F Fu v _ xs y ⟨g, 0, none⟩ 1 hs hx hown hu rfl (fun z hz => by
  simp [lvCont, one] at hz
  rcases hz with rfl | rfl <;> rfl) hd (fun j y' hj => by
  match j, hj with
  | 0, hj => simp [lvCont, one] at hj; subst hj; simpa [Addr.add] using hc.1
  | 1, hj => simp [lvCont, one] at hj; subst hj; simpa [Addr.add] using hc.2
  | j + 2, hj => simp [lvCont, one] at hj) hn hbase h
def cp10C : Nat → List Nat
 | 5 => [2]
 | 9 => [6]
 | 13 => [10]
 | 17 => [14]
 | _ => []
def cp10G (base : Nat) (d : Shd) : Nat → (Nat → Value) → (Nat → Prop) → World → Prop
 | 2, y, F, w => balsR.O w base F (y 7) []
 | 5, y, F, w => (∃ a c, y 10 = .slice a d.bals.length c) ∧ balsR.O w base F (y 10) d.bals
 | 6, y, F, w => mrksR.O w base F (y 11) []
 | 9, y, F, w => (∃ a c, y 14 = .slice a d.votes.length c) ∧ mrksR.O w base F (y 14) d.votes
 | 10, y, F, w => mrksR.O w base F (y 15) []
 | 13, y, F, w => (∃ a c, y 18 = .slice a d.done.length c) ∧ mrksR.O w base F (y 18) d.done
 | 14, y, F, w => intsR.O w base F (y 19) []
 | 17, y, F, w => (∃ a c, y 22 = .slice a d.appl.length c) ∧ intsR.O w base F (y 22) d.appl
 | 18, y, F, w => y 23 = .agg #[.int .i64 d.idx, y 10, y 14, .slice none 0 0, y 18, y 22]
 | 19, y, F, w => ∃ B, y 3 = .pointer (some ⟨B, 0, none⟩) ∧ F B ∧ base ≤ B ∧ B < w.heap.size ∧ (w.cell? ⟨B, 0, none⟩ = some (.int .i64 0) ∧ w.cell? ⟨B, 1, none⟩ = some (.slice none 0 0) ∧ w.cell? ⟨B, 2, none⟩ = some (.slice none 0 0) ∧ w.cell? ⟨B, 3, none⟩ = some (.slice none 0 0) ∧ w.cell? ⟨B, 4, none⟩ = some (.slice none 0 0) ∧ w.cell? ⟨B, 5, none⟩ = some (.slice none 0 0)) ∧ ∀ o, w.frozen? ⟨B, o, none⟩ = false
 | _, _, _, _ => True
set_option maxRecDepth 20000 in
set_option maxHeartbeats 8000000 in
theorem l10Copy_u (x : Value) (d : Shd) (w : World) (hx : shdR.V w x d) (hn : d.bals.length ≤ 1048576 ∧ d.votes.length ≤ 1048576 ∧ d.held.length ≤ 1048576 ∧ d.done.length ≤ 1048576 ∧ d.appl.length ≤ 1048576) (hll : ∀ k, k < d.held.length → (d.held.getD k default).legs.length ≤ 1048576) :
  Calls Tryz.prog 64 #[x] w fun e w' => ∃ v F, e = .returned v ∧ shdR.O w' w.heap.size F v d ∧ Below w.heap.size w w' := by
 obtain ⟨u1, u2, u3, u4, u5, rfl, h1, h2, h3, h4, h5⟩ := hx
 have HX3 : Hid (∃ a c, u3 = .slice a d.held.length c ∧ d.held.length ≤ c ∧ c ≤ maxLen ∧ ∀ k, k < d.held.length → ∃ b o p q, a = some ⟨b, o, none⟩ ∧ w.cell? ⟨b, o + k * 2, none⟩ = some (.int .i64 (d.held.getD k default).id) ∧ w.cell? ⟨b, o + k * 2 + 1, none⟩ = some (.slice p (d.held.getD k default).legs.length q) ∧ contR.V w (.agg #[.int .i64 (d.held.getD k default).id, .slice p (d.held.getD k default).legs.length q]) (d.held.getD k default)) := conts_at10 h3
 have HA1 : Hid (∀ W, Below w.heap.size w W → AppAny W u1 d.bals.length (balsC d.bals)) := fun W hW => appAny_bals (balsR.below h1 hW)
 have HA2 : Hid (∀ W, Below w.heap.size w W → AppAny W u2 d.votes.length (mrksC d.votes)) := fun W hW => appAny_mrks10 (mrksR.below h2 hW)
 have HA4 : Hid (∀ W, Below w.heap.size w W → AppAny W u4 d.done.length (mrksC d.done)) := fun W hW => appAny_mrks10 (mrksR.below h4 hW)
 have HA5 : Hid (∀ W, Below w.heap.size w W → AppAny W u5 d.appl.length (intsC d.appl)) := fun W hW => appAny_ints (intsR.below h5 hW)
 obtain ⟨a1, c1, rfl⟩ := bals_form h1
 obtain ⟨a2, c2, rfl⟩ := mrks_form h2
 obtain ⟨a3, c3, rfl⟩ := conts_form h3
 obtain ⟨a4, c4, rfl⟩ := mrks_form h4
 obtain ⟨a5, c5, rfl⟩ := ints_form h5
 obtain ⟨_, _, e3, hc3, hm3, hx3⟩ := HX3.out
 simp only [Value.slice.injEq, true_and] at e3
 obtain ⟨rfl, rfl⟩ := e3
 unfold maxLen at hm3
 have HX : Hid (∀ k, k < d.held.length → ∃ b o p q, a3 = some ⟨b, o, none⟩ ∧ w.cell? ⟨b, o + k * 2, none⟩ = some (.int .i64 (d.held.getD k default).id) ∧ w.cell? ⟨b, o + k * 2 + 1, none⟩ = some (.slice p (d.held.getD k default).legs.length q) ∧ contR.V w (.agg #[.int .i64 (d.held.getD k default).id, .slice p (d.held.getD k default).legs.length q]) (d.held.getD k default)) := hx3
 clear h1 h2 h3 h4 h5 HX3 hx3
 have HLl : Hid (∀ k, k < d.held.length → (d.held.getD k default).legs.length ≤ 1048576) := hll
 have HLn : Hid (d.bals.length ≤ 1048576 ∧ d.votes.length ≤ 1048576 ∧ d.held.length ≤ 1048576 ∧ d.done.length ≤ 1048576 ∧ d.appl.length ≤ 1048576) := hn
 clear hll hn
 obtain ⟨n3, hn3⟩ : ∃ n3, n3 = d.held.length := ⟨_, rfl⟩
 have HN : Hid (d.held.length = n3) := hn3.symm
 rw [← hn3] at hc3 HX HLl ⊢
 clear hn3
 have h3n : n3 ≤ 1048576 := by rw [← HN.out]; exact HLn.out.2.2.1
 go_enter Tryz.func64, Tryz.ntmps64
 go_wp2
 obtain ⟨wq, hwq⟩ : ∃ wq, wq = (w.alloc (.cells #[.int .i64 d.idx, .slice a1 d.bals.length c1, .slice a2 d.votes.length c2, .slice a3 n3 c3, .slice a4 d.done.length c4, .slice a5 d.appl.length c5] 37)).alloc (.cells #[.int .i64 0, .slice none 0 0, .slice none 0 0, .slice none 0 0, .slice none 0 0, .slice none 0 0] 37) := ⟨_, rfl⟩
 have y0 : wq.cell? ⟨w.heap.size, 0, none⟩ = some (.int .i64 d.idx) := by rw [hwq]; simp [go_sem]
 have y1 : wq.cell? ⟨w.heap.size, 1, none⟩ = some (.slice a1 d.bals.length c1) := by rw [hwq]; simp [go_sem]
 have y2 : wq.cell? ⟨w.heap.size, 2, none⟩ = some (.slice a2 d.votes.length c2) := by rw [hwq]; simp [go_sem]
 have y3 : wq.cell? ⟨w.heap.size, 3, none⟩ = some (.slice a3 n3 c3) := by rw [hwq]; simp [go_sem]
 have y4 : wq.cell? ⟨w.heap.size, 4, none⟩ = some (.slice a4 d.done.length c4) := by rw [hwq]; simp [go_sem]
 have y5 : wq.cell? ⟨w.heap.size, 5, none⟩ = some (.slice a5 d.appl.length c5) := by rw [hwq]; simp [go_sem]
 have r0 : wq.cell? ⟨w.heap.size + 1, 0, none⟩ = some (.int .i64 0) := by rw [hwq]; simp [go_sem]
 have r1 : wq.cell? ⟨w.heap.size + 1, 1, none⟩ = some (.slice none 0 0) := by rw [hwq]; simp [go_sem]
 have r2 : wq.cell? ⟨w.heap.size + 1, 2, none⟩ = some (.slice none 0 0) := by rw [hwq]; simp [go_sem]
 have r3 : wq.cell? ⟨w.heap.size + 1, 3, none⟩ = some (.slice none 0 0) := by rw [hwq]; simp [go_sem]
 have r4 : wq.cell? ⟨w.heap.size + 1, 4, none⟩ = some (.slice none 0 0) := by rw [hwq]; simp [go_sem]
 have r5 : wq.cell? ⟨w.heap.size + 1, 5, none⟩ = some (.slice none 0 0) := by rw [hwq]; simp [go_sem]
 have rf : ∀ o, wq.frozen? ⟨w.heap.size + 1, o, none⟩ = false := fun o => by rw [hwq]; simp [go_sem]
 have hBq : Below w.heap.size w wq := by rw [hwq]; (repeat (first | exact bR _ _ | assumption | refine bD ?_ | refine bA ?_ _ | refine bset ?_ (by simp; omega) _ | refine bset ?_ (by simp) _ | refine bS ?_ (by assumption)))
 have zq : w.heap.size + 1 < wq.heap.size := by rw [hwq]; simp
 rw [← hwq]
 clear hwq
 refine wp_region_noPanic ?_
 refine region_upto (fun W => Below wq.heap.size wq W ∧ W.cell? ⟨w.heap.size, 0, none⟩ = some (.int .i64 d.idx) ∧ W.cell? ⟨w.heap.size, 1, none⟩ = some (.slice a1 d.bals.length c1) ∧ W.cell? ⟨w.heap.size, 2, none⟩ = some (.slice a2 d.votes.length c2) ∧ W.cell? ⟨w.heap.size, 3, none⟩ = some (.slice a3 n3 c3) ∧ W.cell? ⟨w.heap.size, 4, none⟩ = some (.slice a4 d.done.length c4) ∧ W.cell? ⟨w.heap.size, 5, none⟩ = some (.slice a5 d.appl.length c5)) 20 (by kernel_rfl) ⟨qBq, cK (qBq) y0, cK (qBq) y1, cK (qBq) y2, cK (qBq) y3, cK (qBq) y4, cK (qBq) y5⟩ (fun hS => ?_)
 refine tK (i := 0) (v := ?_) rfl (by kernel_rfl) hS ?_ ?_
 rotate_left
 ·
  intro wS hSw; (try dsimp only at hSw); go_simp; try with_reducible rfl
 try simp only [Act.put, jA, jB, jC, jD, jE, jF]
 refine tK (i := 1) (v := ?_) rfl (by kernel_rfl) hS ?_ ?_
 rotate_left
 ·
  intro wS hSw; (try dsimp only at hSw); go_simp; try with_reducible rfl
 try simp only [Act.put, jA, jB, jC, jD, jE, jF]
 refine tK (i := 3) (v := ?_) rfl (by kernel_rfl) hS ?_ ?_
 rotate_left
 ·
  intro wS hSw; (try dsimp only at hSw); go_simp; try with_reducible rfl
 try simp only [Act.put, jA, jB, jC, jD, jE, jF]
 refine tK (i := 4) (v := ?_) rfl (by kernel_rfl) hS ?_ ?_
 rotate_left
 ·
  intro wS hSw; (try dsimp only at hSw); go_simp; try with_reducible rfl
 try simp only [Act.put, jA, jB, jC, jD, jE, jF]
 refine tK (i := 7) (v := ?_) rfl (by kernel_rfl) hS ?_ ?_
 rotate_left
 ·
  intro wS hSw; (try dsimp only at hSw); go_simp; try with_reducible rfl
 try simp only [Act.put, jA, jB, jC, jD, jE, jF]
 refine tK (i := 8) (v := ?_) rfl (by kernel_rfl) hS ?_ ?_
 rotate_left
 ·
  intro wS hSw; (try dsimp only at hSw); go_simp; try with_reducible rfl
 try simp only [Act.put, jA, jB, jC, jD, jE, jF]
 refine tK (i := 11) (v := ?_) rfl (by kernel_rfl) hS ?_ ?_
 rotate_left
 ·
  intro wS hSw; (try dsimp only at hSw); go_simp; try with_reducible rfl
 try simp only [Act.put, jA, jB, jC, jD, jE, jF]
 refine tK (i := 12) (v := ?_) rfl (by kernel_rfl) hS ?_ ?_
 rotate_left
 ·
  intro wS hSw; (try dsimp only at hSw); go_simp; try with_reducible rfl
 try simp only [Act.put, jA, jB, jC, jD, jE, jF]
 refine tK (i := 15) (v := ?_) rfl (by kernel_rfl) hS ?_ ?_
 rotate_left
 ·
  intro wS hSw; (try dsimp only at hSw); go_simp; try with_reducible rfl
 try simp only [Act.put, jA, jB, jC, jD, jE, jF]
 refine tK (i := 16) (v := ?_) rfl (by kernel_rfl) hS ?_ ?_
 rotate_left
 ·
  intro wS hSw; (try dsimp only at hSw); go_simp; try with_reducible rfl
 try simp only [Act.put, jA, jB, jC, jD, jE, jF]
 have hb0 : Below wq.heap.size wq wq.drew := Below.drew (Below.refl _ _)
 generalize wq.drew = W0 at *
 have hs10 := hb0.size
 have hz0 : w.heap.size + 1 < W0.heap.size := by omega
 refine upto_cons' [(2, 7), (5, 10), (6, 11), (9, 14), (10, 15), (13, 18), (14, 19), (17, 22), (18, 23), (19, 3)] cp10C (cp10G W0.heap.size d) (by kernel_rfl) hS ?_ ?_ ?_ ?_
 ·
  intro F W W' h hm hF
  have hne : ¬ F w.heap.size := fun e => by have := hF _ e; omega
  exact ⟨hm.below h.1 h.1.size (fun b hb => by have := hF b hb; omega), hm.cell h.2.1 hne, hm.cell h.2.2.1 hne, hm.cell h.2.2.2.1 hne, hm.cell h.2.2.2.2.1 hne, hm.cell h.2.2.2.2.2.1 hne, hm.cell h.2.2.2.2.2.2 hne⟩
 ·
  intro p hp
  simp only [List.mem_cons, List.not_mem_nil, or_false] at hp
  rcases hp with rfl | rfl | rfl | rfl | rfl | rfl | rfl | rfl | rfl | rfl
  all_goals
   intro y y' F F' W W' h hF hm hap hF' e he
  ·
   simp only [cp10G] at h ⊢
   rw [e]
   exact balsR.mod h hm (fun b hb hf => hap b hf hb)
  ·
   simp only [cp10G] at h ⊢
   rw [e]
   exact ⟨h.1, balsR.mod h.2 hm (fun b hb hf => hap b hf hb)⟩
  ·
   simp only [cp10G] at h ⊢
   rw [e]
   exact mrksR.mod h hm (fun b hb hf => hap b hf hb)
  ·
   simp only [cp10G] at h ⊢
   rw [e]
   exact ⟨h.1, mrksR.mod h.2 hm (fun b hb hf => hap b hf hb)⟩
  ·
   simp only [cp10G] at h ⊢
   rw [e]
   exact mrksR.mod h hm (fun b hb hf => hap b hf hb)
  ·
   simp only [cp10G] at h ⊢
   rw [e]
   exact ⟨h.1, mrksR.mod h.2 hm (fun b hb hf => hap b hf hb)⟩
  ·
   simp only [cp10G] at h ⊢
   rw [e]
   exact intsR.mod h hm (fun b hb hf => hap b hf hb)
  ·
   simp only [cp10G] at h ⊢
   rw [e]
   exact ⟨h.1, intsR.mod h.2 hm (fun b hb hf => hap b hf hb)⟩
  ·
   have e1 := he (5, 10) (by simp) (by kernel_rfl)
   have e2 := he (9, 14) (by simp) (by kernel_rfl)
   have e3 := he (13, 18) (by simp) (by kernel_rfl)
   have e4 := he (17, 22) (by simp) (by kernel_rfl)
   simp only [cp10G] at h ⊢
   rw [e, e1, e2, e3, e4]
   exact h
  ·
   simp only [cp10G] at h ⊢
   rw [e]
   obtain ⟨B, h1, h2, h3, h3', ⟨g0, g1, g2, g3, g4, g5⟩, h4⟩ := h
   have hne : ¬ F' B := fun hf => hap B hf h2
   exact ⟨B, h1, h2, h3, Nat.lt_of_lt_of_le h3' hm.size, ⟨hm.cell g0 hne, hm.cell g1 hne, hm.cell g2 hne, hm.cell g3 hne, hm.cell g4 hne, hm.cell g5 hne⟩, fun o => (hm.frz10 (a := ⟨B, o, none⟩) h3' hne).trans (h4 o)⟩
 ·
  intro p hp
  simp only [List.mem_cons, List.not_mem_nil, or_false] at hp
  rcases hp with rfl | rfl | rfl | rfl | rfl | rfl | rfl | rfl | rfl | rfl
  all_goals
   refine ⟨_, rfl, rfl, ?_⟩
   intro y W Φ hSW hBW hd K hK
  ·
   clear hd
   refine ⟨?_⟩
   simp only [over, Act.put, jA, jB, jC, List.map_cons, List.map_nil, List.foldl_cons, List.foldl_nil, jD, jE, jF] at hK ⊢
   go_simp
   refine hK _ _ (fun b => b = W.heap.size) (Mod.of_below (qBq)) (fun b hb => .inr (by rw [hb]; simp)) ?_
   simp only [cp10G, updV]
   exact lit12B W _ hBW.size
  ·
   have g0 := (hd (2, 7) (by simp) (by kernel_rfl) (.inl (by simp [cp10C]))).2
   clear hd
   simp only [cp10G] at g0
   refine ⟨?_⟩
   simp only [over, Act.put, jA, jB, jC, List.map_cons, List.map_nil, List.foldl_cons, List.foldl_nil, jD, jE, jF] at hK ⊢
   refine ite_wantedG rfl ?_
   refine wp_app12B W ?hg1 (.tmp 7) (.tmp 9) ?ho1 W0.heap.size (y 7) (Φ 2) [] ?hs1 (.slice a1 d.bals.length c1) d.bals ?hx1 g0 (HA1.out W (bS hBq hSW.1)) (by have := HLn.out; simp; omega) hBW.size ?_
   case hg1 => rfl
   case ho1 => rfl
   case hs1 => rfl
   case hx1 => rfl
   intro v' w' F' hO hm hl
   simp only [List.nil_append] at hO
   refine hK _ _ F' (hm.mono (fun b hb => ⟨2, by simp [cp10C], hb⟩)) (fun b hb => (hl b hb).imp (fun h => ⟨2, by simp [cp10C], h⟩) (fun h => h)) ?_
   simp only [cp10G, updV]
   obtain ⟨av, cv, hv⟩ := owns_form hO.1
   exact ⟨⟨av, cv, by simpa using hv⟩, by simpa using hO⟩
  ·
   clear hd
   refine ⟨?_⟩
   simp only [over, Act.put, jA, jB, jC, List.map_cons, List.map_nil, List.foldl_cons, List.foldl_nil, jD, jE, jF] at hK ⊢
   go_simp
   refine hK _ _ (fun b => b = W.heap.size) (Mod.of_below (qBq)) (fun b hb => .inr (by rw [hb]; simp)) ?_
   simp only [cp10G, updV]
   exact lit12M W _ hBW.size
  ·
   have g0 := (hd (6, 11) (by simp) (by kernel_rfl) (.inl (by simp [cp10C]))).2
   clear hd
   simp only [cp10G] at g0
   refine ⟨?_⟩
   simp only [over, Act.put, jA, jB, jC, List.map_cons, List.map_nil, List.foldl_cons, List.foldl_nil, jD, jE, jF] at hK ⊢
   refine ite_wantedG rfl ?_
   refine wp_app12M W ?hg1 (.tmp 11) (.tmp 13) ?ho1 W0.heap.size (y 11) (Φ 6) [] ?hs1 (.slice a2 d.votes.length c2) d.votes ?hx1 g0 (HA2.out W (bS hBq hSW.1)) (by have := HLn.out; simp; omega) hBW.size ?_
   case hg1 => rfl
   case ho1 => rfl
   case hs1 => rfl
   case hx1 => rfl
   intro v' w' F' hO hm hl
   simp only [List.nil_append] at hO
   refine hK _ _ F' (hm.mono (fun b hb => ⟨6, by simp [cp10C], hb⟩)) (fun b hb => (hl b hb).imp (fun h => ⟨6, by simp [cp10C], h⟩) (fun h => h)) ?_
   simp only [cp10G, updV]
   obtain ⟨av, cv, hv⟩ := owns_form hO.1
   exact ⟨⟨av, cv, by simpa using hv⟩, by simpa using hO⟩
  ·
   clear hd
   refine ⟨?_⟩
   simp only [over, Act.put, jA, jB, jC, List.map_cons, List.map_nil, List.foldl_cons, List.foldl_nil, jD, jE, jF] at hK ⊢
   go_simp
   refine hK _ _ (fun b => b = W.heap.size) (Mod.of_below (qBq)) (fun b hb => .inr (by rw [hb]; simp)) ?_
   simp only [cp10G, updV]
   exact lit12M W _ hBW.size
  ·
   have g0 := (hd (10, 15) (by simp) (by kernel_rfl) (.inl (by simp [cp10C]))).2
   clear hd
   simp only [cp10G] at g0
   refine ⟨?_⟩
   simp only [over, Act.put, jA, jB, jC, List.map_cons, List.map_nil, List.foldl_cons, List.foldl_nil, jD, jE, jF] at hK ⊢
   refine ite_wantedG rfl ?_
   refine wp_app12M W ?hg1 (.tmp 15) (.tmp 17) ?ho1 W0.heap.size (y 15) (Φ 10) [] ?hs1 (.slice a4 d.done.length c4) d.done ?hx1 g0 (HA4.out W (bS hBq hSW.1)) (by have := HLn.out; simp; omega) hBW.size ?_
   case hg1 => rfl
   case ho1 => rfl
   case hs1 => rfl
   case hx1 => rfl
   intro v' w' F' hO hm hl
   simp only [List.nil_append] at hO
   refine hK _ _ F' (hm.mono (fun b hb => ⟨10, by simp [cp10C], hb⟩)) (fun b hb => (hl b hb).imp (fun h => ⟨10, by simp [cp10C], h⟩) (fun h => h)) ?_
   simp only [cp10G, updV]
   obtain ⟨av, cv, hv⟩ := owns_form hO.1
   exact ⟨⟨av, cv, by simpa using hv⟩, by simpa using hO⟩
  ·
   clear hd
   refine ⟨?_⟩
   simp only [over, Act.put, jA, jB, jC, List.map_cons, List.map_nil, List.foldl_cons, List.foldl_nil, jD, jE, jF] at hK ⊢
   go_simp
   refine hK _ _ (fun b => b = W.heap.size) (Mod.of_below (qBq)) (fun b hb => .inr (by rw [hb]; simp)) ?_
   simp only [cp10G, updV]
   exact lit12I W _ hBW.size
  ·
   have g0 := (hd (14, 19) (by simp) (by kernel_rfl) (.inl (by simp [cp10C]))).2
   clear hd
   simp only [cp10G] at g0
   refine ⟨?_⟩
   simp only [over, Act.put, jA, jB, jC, List.map_cons, List.map_nil, List.foldl_cons, List.foldl_nil, jD, jE, jF] at hK ⊢
   refine ite_wantedG rfl ?_
   refine wp_app12I W ?hg1 (.tmp 19) (.tmp 21) ?ho1 W0.heap.size (y 19) (Φ 14) [] ?hs1 (.slice a5 d.appl.length c5) d.appl ?hx1 g0 (HA5.out W (bS hBq hSW.1)) (by have := HLn.out; simp; omega) hBW.size ?_
   case hg1 => rfl
   case ho1 => rfl
   case hs1 => rfl
   case hx1 => rfl
   intro v' w' F' hO hm hl
   simp only [List.nil_append] at hO
   refine hK _ _ F' (hm.mono (fun b hb => ⟨14, by simp [cp10C], hb⟩)) (fun b hb => (hl b hb).imp (fun h => ⟨14, by simp [cp10C], h⟩) (fun h => h)) ?_
   simp only [cp10G, updV]
   obtain ⟨av, cv, hv⟩ := owns_form hO.1
   exact ⟨⟨av, cv, by simpa using hv⟩, by simpa using hO⟩
  ·
   have g1 := (hd (5, 10) (by simp) (by kernel_rfl) (.inr (by decide))).2
   have g2 := (hd (9, 14) (by simp) (by kernel_rfl) (.inr (by decide))).2
   have g3 := (hd (13, 18) (by simp) (by kernel_rfl) (.inr (by decide))).2
   have g4 := (hd (17, 22) (by simp) (by kernel_rfl) (.inr (by decide))).2
   clear hd
   simp only [cp10G] at g1 g2 g3 g4
   obtain ⟨⟨q1, s1, e1⟩, _⟩ := g1
   obtain ⟨⟨q2, s2, e2⟩, _⟩ := g2
   obtain ⟨⟨q3, s3, e3⟩, _⟩ := g3
   obtain ⟨⟨q4, s4, e4⟩, _⟩ := g4
   refine ⟨?_⟩
   simp only [over, Act.put, jA, jB, jC, List.map_cons, List.map_nil, List.foldl_cons, List.foldl_nil, jD, jE, jF] at hK ⊢
   simp only [e1, e2, e3, e4] at hK ⊢
   go_simp
   refine hK _ _ (fun _ => False) (Mod.refl _ _) (fun b hb => hb.elim) ?_
   simp only [cp10G, updV]
   simp [e1, e2, e3, e4]
  ·
   clear hd
   have hbw := hBW.size
   refine ⟨?_⟩
   simp only [over, Act.put, jA, jB, jC, List.map_cons, List.map_nil, List.foldl_cons, List.foldl_nil, jD, jE, jF] at hK ⊢
   go_simp
   refine hK _ _ (fun b => b = W.heap.size) (Mod.of_below (qBq)) (fun b hb => .inr (by rw [hb]; simp)) ?_
   simp only [cp10G, updV]
   exact ⟨W.heap.size, by simp, rfl, hbw, by simp, ⟨by simp [go_sem], by simp [go_sem], by simp [go_sem], by simp [go_sem], by simp [go_sem], by simp [go_sem]⟩, fun o => by simp [go_sem]⟩
 ·
  refine ⟨_, rfl, ?_⟩
  intro y W Φ hSW hBW hd hap K hK
  have g1 := hd (5, 10) (by simp) (by decide)
  have g2 := hd (9, 14) (by simp) (by decide)
  have g3 := hd (13, 18) (by simp) (by decide)
  have g4 := hd (17, 22) (by simp) (by decide)
  have g18 := (hd (18, 23) (by simp) (by decide)).2
  have g19 := hd (19, 3) (by simp) (by decide)
  have p1 := hap (5, 10) (by simp) (19, 3) (by simp) (by simp) (by decide) (by decide)
  have p2 := hap (9, 14) (by simp) (19, 3) (by simp) (by simp) (by decide) (by decide)
  have p3 := hap (13, 18) (by simp) (19, 3) (by simp) (by simp) (by decide) (by decide)
  have p4 := hap (17, 22) (by simp) (19, 3) (by simp) (by simp) (by decide) (by decide)
  have x12 := hap (5, 10) (by simp) (9, 14) (by simp) (by simp) (by decide) (by decide)
  have x13 := hap (5, 10) (by simp) (13, 18) (by simp) (by simp) (by decide) (by decide)
  have x14 := hap (5, 10) (by simp) (17, 22) (by simp) (by simp) (by decide) (by decide)
  have x23 := hap (9, 14) (by simp) (13, 18) (by simp) (by simp) (by decide) (by decide)
  have x24 := hap (9, 14) (by simp) (17, 22) (by simp) (by simp) (by decide) (by decide)
  have x34 := hap (13, 18) (by simp) (17, 22) (by simp) (by simp) (by decide) (by decide)
  clear hd hap
  simp only [cp10G] at g1 g2 g3 g4 g18 g19
  obtain ⟨i1, ⟨q1, s1, e1⟩, o1⟩ := g1
  obtain ⟨i2, ⟨q2, s2, e2⟩, o2⟩ := g2
  obtain ⟨i3, ⟨q4, s4, e4⟩, o4⟩ := g3
  obtain ⟨i4, ⟨q5, s5, e5⟩, o5⟩ := g4
  obtain ⟨_, B, eB, hFB, hBlo, hBhi, ⟨k0, k1, k2, k3, k4, k5⟩, kf⟩ := g19
  rw [e1] at o1 g18
  rw [e2] at o2 g18
  rw [e4] at o4 g18
  rw [e5] at o5 g18
  have hBW1 : Below wq.heap.size wq W := bS hb0 hBW
  generalize Φ 5 = F1 at *
  generalize Φ 9 = F2 at *
  generalize Φ 13 = F4 at *
  generalize Φ 17 = F5 at *
  have n1 : ¬ F1 B := fun h => p1 B h hFB
  have n2 : ¬ F2 B := fun h => p2 B h hFB
  have n4 : ¬ F4 B := fun h => p3 B h hFB
  have n5 : ¬ F5 B := fun h => p4 B h hFB
  clear hFB p1 p2 p3 p4 i1 i2 i3 i4 e1 e2 e4 e5
  refine ⟨?_⟩
  simp only [over, Act.put, jA, jB, jC, List.map_cons, List.map_nil, List.foldl_cons, List.foldl_nil, jD, jE, jF]
  simp only [g18, eB]
  clear g18 eB hSW hS
  go_simp
  refine hK _ _ ?_
  clear hK K
  refine NoPanic.normal ?_
  have hmB : Mod (fun b => b = B) W ((((((W.setCell ⟨B, 0, none⟩ (.int .i64 d.idx)).setCell ⟨B, 1, none⟩ (.slice q1 d.bals.length s1)).setCell ⟨B, 2, none⟩ (.slice q2 d.votes.length s2)).setCell ⟨B, 3, none⟩ (.slice none 0 0)).setCell ⟨B, 4, none⟩ (.slice q4 d.done.length s4)).setCell ⟨B, 5, none⟩ (.slice q5 d.appl.length s5)) := (((((Mod.of_set W ⟨B, 0, none⟩ _).trans (Mod.of_set _ ⟨B, 1, none⟩ _)).trans (Mod.of_set _ ⟨B, 2, none⟩ _)).trans (Mod.of_set _ ⟨B, 3, none⟩ _)).trans (Mod.of_set _ ⟨B, 4, none⟩ _)).trans (Mod.of_set _ ⟨B, 5, none⟩ _)
  have t0 : ((((((W.setCell ⟨B, 0, none⟩ (.int .i64 d.idx)).setCell ⟨B, 1, none⟩ (.slice q1 d.bals.length s1)).setCell ⟨B, 2, none⟩ (.slice q2 d.votes.length s2)).setCell ⟨B, 3, none⟩ (.slice none 0 0)).setCell ⟨B, 4, none⟩ (.slice q4 d.done.length s4)).setCell ⟨B, 5, none⟩ (.slice q5 d.appl.length s5)).cell? ⟨B, 0, none⟩ = some (.int .i64 d.idx) := by simp [go_sem, k0, k1, k2, k3, k4, k5, kf]
  have t1 : ((((((W.setCell ⟨B, 0, none⟩ (.int .i64 d.idx)).setCell ⟨B, 1, none⟩ (.slice q1 d.bals.length s1)).setCell ⟨B, 2, none⟩ (.slice q2 d.votes.length s2)).setCell ⟨B, 3, none⟩ (.slice none 0 0)).setCell ⟨B, 4, none⟩ (.slice q4 d.done.length s4)).setCell ⟨B, 5, none⟩ (.slice q5 d.appl.length s5)).cell? ⟨B, 1, none⟩ = some (.slice q1 d.bals.length s1) := by simp [go_sem, k0, k1, k2, k3, k4, k5, kf]
  have t2 : ((((((W.setCell ⟨B, 0, none⟩ (.int .i64 d.idx)).setCell ⟨B, 1, none⟩ (.slice q1 d.bals.length s1)).setCell ⟨B, 2, none⟩ (.slice q2 d.votes.length s2)).setCell ⟨B, 3, none⟩ (.slice none 0 0)).setCell ⟨B, 4, none⟩ (.slice q4 d.done.length s4)).setCell ⟨B, 5, none⟩ (.slice q5 d.appl.length s5)).cell? ⟨B, 2, none⟩ = some (.slice q2 d.votes.length s2) := by simp [go_sem, k0, k1, k2, k3, k4, k5, kf]
  have t3 : ((((((W.setCell ⟨B, 0, none⟩ (.int .i64 d.idx)).setCell ⟨B, 1, none⟩ (.slice q1 d.bals.length s1)).setCell ⟨B, 2, none⟩ (.slice q2 d.votes.length s2)).setCell ⟨B, 3, none⟩ (.slice none 0 0)).setCell ⟨B, 4, none⟩ (.slice q4 d.done.length s4)).setCell ⟨B, 5, none⟩ (.slice q5 d.appl.length s5)).cell? ⟨B, 3, none⟩ = some (.slice none 0 0) := by simp [go_sem, k0, k1, k2, k3, k4, k5, kf]
  have t4 : ((((((W.setCell ⟨B, 0, none⟩ (.int .i64 d.idx)).setCell ⟨B, 1, none⟩ (.slice q1 d.bals.length s1)).setCell ⟨B, 2, none⟩ (.slice q2 d.votes.length s2)).setCell ⟨B, 3, none⟩ (.slice none 0 0)).setCell ⟨B, 4, none⟩ (.slice q4 d.done.length s4)).setCell ⟨B, 5, none⟩ (.slice q5 d.appl.length s5)).cell? ⟨B, 4, none⟩ = some (.slice q4 d.done.length s4) := by simp [go_sem, k0, k1, k2, k3, k4, k5, kf]
  have t5 : ((((((W.setCell ⟨B, 0, none⟩ (.int .i64 d.idx)).setCell ⟨B, 1, none⟩ (.slice q1 d.bals.length s1)).setCell ⟨B, 2, none⟩ (.slice q2 d.votes.length s2)).setCell ⟨B, 3, none⟩ (.slice none 0 0)).setCell ⟨B, 4, none⟩ (.slice q4 d.done.length s4)).setCell ⟨B, 5, none⟩ (.slice q5 d.appl.length s5)).cell? ⟨B, 5, none⟩ = some (.slice q5 d.appl.length s5) := by simp [go_sem, k0, k1, k2, k3, k4, k5, kf]
  have tf : ∀ o, ((((((W.setCell ⟨B, 0, none⟩ (.int .i64 d.idx)).setCell ⟨B, 1, none⟩ (.slice q1 d.bals.length s1)).setCell ⟨B, 2, none⟩ (.slice q2 d.votes.length s2)).setCell ⟨B, 3, none⟩ (.slice none 0 0)).setCell ⟨B, 4, none⟩ (.slice q4 d.done.length s4)).setCell ⟨B, 5, none⟩ (.slice q5 d.appl.length s5)).frozen? ⟨B, o, none⟩ = false := fun o => by simp [go_sem, kf]
  have zB : B < ((((((W.setCell ⟨B, 0, none⟩ (.int .i64 d.idx)).setCell ⟨B, 1, none⟩ (.slice q1 d.bals.length s1)).setCell ⟨B, 2, none⟩ (.slice q2 d.votes.length s2)).setCell ⟨B, 3, none⟩ (.slice none 0 0)).setCell ⟨B, 4, none⟩ (.slice q4 d.done.length s4)).setCell ⟨B, 5, none⟩ (.slice q5 d.appl.length s5)).heap.size := by simpa using hBhi
  generalize (((((W.setCell ⟨B, 0, none⟩ (.int .i64 d.idx)).setCell ⟨B, 1, none⟩ (.slice q1 d.bals.length s1)).setCell ⟨B, 2, none⟩ (.slice q2 d.votes.length s2)).setCell ⟨B, 3, none⟩ (.slice none 0 0)).setCell ⟨B, 4, none⟩ (.slice q4 d.done.length s4)).setCell ⟨B, 5, none⟩ (.slice q5 d.appl.length s5) = W1 at *
  have HO1 : Hid (balsR.O W1 W0.heap.size F1 (.slice q1 d.bals.length s1) d.bals) := balsR.mod o1 hmB (fun b hb e => n1 (e ▸ hb))
  have HO2 : Hid (mrksR.O W1 W0.heap.size F2 (.slice q2 d.votes.length s2) d.votes) := mrksR.mod o2 hmB (fun b hb e => n2 (e ▸ hb))
  have HO4 : Hid (mrksR.O W1 W0.heap.size F4 (.slice q4 d.done.length s4) d.done) := mrksR.mod o4 hmB (fun b hb e => n4 (e ▸ hb))
  have HO5 : Hid (intsR.O W1 W0.heap.size F5 (.slice q5 d.appl.length s5) d.appl) := intsR.mod o5 hmB (fun b hb e => n5 (e ▸ hb))
  have HNB : Hid (¬ F1 B ∧ ¬ F2 B ∧ ¬ F4 B ∧ ¬ F5 B) := ⟨n1, n2, n4, n5⟩
  have HXX : Hid (FApart F1 F2 ∧ FApart F1 F4 ∧ FApart F1 F5 ∧ FApart F2 F4 ∧ FApart F2 F5 ∧ FApart F4 F5) := ⟨x12, x13, x14, x23, x24, x34⟩
  have hB1q : Below wq.heap.size wq W1 := hmB.below hBW1 hBW1.size (fun b e => by rw [e]; omega)
  clear o1 o2 o4 o5 n1 n2 n4 n5 x12 x13 x14 x23 x24 x34 hmB k0 k1 k2 k3 k4 k5 kf hBhi hBW hBW1
  replace y0 := cK hB1q y0
  replace y1 := cK hB1q y1
  replace y2 := cK hB1q y2
  replace y3 := cK hB1q y3
  replace y4 := cK hB1q y4
  replace y5 := cK hB1q y5
  replace r0 := cK hB1q r0
  replace r1 := cK hB1q r1
  replace r2 := cK hB1q r2
  replace r3 := cK hB1q r3
  replace r4 := cK hB1q r4
  replace r5 := cK hB1q r5
  replace rf : ∀ o, W1.frozen? ⟨w.heap.size + 1, o, none⟩ = false := fun o => by rw [(bcell hB1q).2 _ _ zq]; exact rf o
  have hB1w : Below w.heap.size w W1 := bS hBq hB1q
  have zW1 : wq.heap.size ≤ W1.heap.size := hB1q.size
  go_wp2
  go_loopw [4] (fun i w' => ∃ (k : Nat) (a : Option Addr) (c : Nat) (F : Nat → Prop), k ≤ n3 ∧ i = .int .i64 k ∧ Hid (contsR.O w' W1.heap.size F (.slice a k c) (d.held.take k)) ∧ Hid (Mod (fun b => b = B) W1 w') ∧ w'.cell? ⟨B, 0, none⟩ = some (.int .i64 d.idx) ∧ w'.cell? ⟨B, 1, none⟩ = some (.slice q1 d.bals.length s1) ∧ w'.cell? ⟨B, 2, none⟩ = some (.slice q2 d.votes.length s2) ∧ w'.cell? ⟨B, 3, none⟩ = some (.slice a k c) ∧ w'.cell? ⟨B, 4, none⟩ = some (.slice q4 d.done.length s4) ∧ w'.cell? ⟨B, 5, none⟩ = some (.slice q5 d.appl.length s5) ∧ (∀ o, w'.frozen? ⟨B, o, none⟩ = false)) (fun i _ => n3 - (intOf i).toNat)
  case atStart => exact ⟨0, none, 0, _, Nat.zero_le _, rfl, conts_nil _ _, Mod.refl _ _, t0, t1, t2, t3, t4, t5, tf⟩
  case round =>
   obtain ⟨k, as_, cs_, F, hk, rfl, HO, HM, t0', t1', t2', t3', t4', t5', tf'⟩ := hrel
   have zr : W1.heap.size ≤ wr.heap.size := HM.out.size
   have hne : ∀ b, b < wq.heap.size → b ≠ B := fun b hb => by omega
   have hBr : Below w.heap.size w wr := HM.out.below hB1w hB1w.size (fun b e => by rw [e]; omega)
   have yr0 := HM.out.cell y0 (hne _ (by dsimp only; omega))
   have yr3 := HM.out.cell y3 (hne _ (by dsimp only; omega))
   by_cases hlt : k < n3
   ·
    obtain ⟨bx, ox, pp, qq, rfl, g0, g1, hV⟩ := HX.out k hlt
    have hcw := HLl.out k hlt
    obtain ⟨l, hl⟩ : ∃ l, l = d.held.getD k default := ⟨_, rfl⟩
    rw [← hl] at g0 g1 hV hcw
    have HL : Hid (d.held.take (k + 1) = d.held.take k ++ [l]) := by
     show _ = _
     rw [List.take_succ_eq_append_getElem (by rw [HN.out]; exact hlt), hl]
     simp [List.getD, show k < d.held.length by rw [HN.out]; exact hlt]
    clear hl
    have HCp : Hid (∀ W, Below w.heap.size w W → Calls Tryz.prog 67 #[.agg #[.int .i64 l.id, .slice pp l.legs.length qq]] W fun e w' => ∃ v F, e = .returned v ∧ contR.O w' W.heap.size F v l ∧ Below W.heap.size W w') := fun W hW => l10Contract_u _ l W (contR.below hV hW) hcw
    clear hV
    have zbw0 : bx < w.heap.size := wL w _ g0
    replace g0 := cK hBr g0
    replace g1 := cK hBr g1
    have zb : bx < wr.heap.size := wL wr _ g0
    have k1 : (k : Int) < n3 := by omega
    have k2 : (0 : Int) ≤ k := by omega
    have zBr : B < wr.heap.size := wL wr _ t0'
    have HBW : Hid (∀ W, Below W1.heap.size wr W → Below w.heap.size w W) := fun W h => Below.trans hBr (h.mono (by have := hB1w.size; omega))
    have hbd : Below wr.heap.size wr wr.drew := qBq
    go_wp2
    refine wp_region_noPanic ?_
    refine region_upto (fun W => Below W1.heap.size wr W ∧ W.cell? ⟨B, 3, none⟩ = some (.slice as_ k cs_) ∧ W.cell? ⟨w.heap.size, 3, none⟩ = some (.slice (some ⟨bx, ox, none⟩) n3 c3) ∧ W.cell? ⟨bx, ox + k * 2, none⟩ = some (.int .i64 l.id) ∧ W.cell? ⟨bx, ox + k * 2 + 1, none⟩ = some (.slice pp l.legs.length qq)) 11 (by kernel_rfl) ⟨hbd.mono zr, cK hbd t3', cK hbd yr3, cK hbd g0, cK hbd g1⟩ (fun hS => ?_)
    refine tK (i := 0) (v := ?_) rfl (by kernel_rfl) hS ?_ ?_
    rotate_left
    ·
     intro wS hSw; (try dsimp only at hSw); go_simp; try with_reducible rfl
    try simp only [Act.put, jA, jB, jC, jD, jE, jF]
    refine tK (i := 1) (v := ?_) rfl (by kernel_rfl) hS ?_ ?_
    rotate_left
    ·
     intro wS hSw; (try dsimp only at hSw); go_simp; try with_reducible rfl
    try simp only [Act.put, jA, jB, jC, jD, jE, jF]
    refine tK (i := 2) (v := ?_) rfl (by kernel_rfl) hS ?_ ?_
    rotate_left
    ·
     intro wS hSw; (try dsimp only at hSw); go_simp; try with_reducible rfl
    try simp only [Act.put, jA, jB, jC, jD, jE, jF]
    refine tK (i := 3) (v := ?_) rfl (by kernel_rfl) hS ?_ ?_
    rotate_left
    ·
     intro wS hSw; (try dsimp only at hSw); go_simp; try with_reducible rfl
    try simp only [Act.put, jA, jB, jC, jD, jE, jF]
    refine tK (i := 4) (v := ?_) rfl (by kernel_rfl) hS ?_ ?_
    rotate_left
    ·
     intro wS hSw; (try dsimp only at hSw); go_simp; try with_reducible rfl
    try simp only [Act.put, jA, jB, jC, jD, jE, jF]
    refine tK (i := 5) (v := ?_) rfl (by kernel_rfl) hS ?_ ?_
    rotate_left
    ·
     intro wS hSw; (try dsimp only at hSw); go_simp; try with_reducible rfl
    try simp only [Act.put, jA, jB, jC, jD, jE, jF]
    refine tK (i := 6) (v := ?_) rfl (by kernel_rfl) hS ?_ ?_
    rotate_left
    ·
     intro wS hSw; (try dsimp only at hSw); go_simp; try with_reducible rfl
    try simp only [Act.put, jA, jB, jC, jD, jE, jF]
    refine upto_step (i := 7) (by kernel_rfl) rfl ?_
    intro K hK
    go_simp
    refine (HCp.out _ (HBW.out _ hS.1)).mono ?_
    rintro e w2 ⟨v2, F2', rfl, o2, hb2⟩
    obtain ⟨a2', c2', rfl⟩ := cont_cells o2
    have hb2' : Below wr.heap.size wr w2 := bS hbd hb2
    have hS2 := And.intro (hb2'.mono zr) (And.intro (cK hb2 hS.2.1) (And.intro (cK hb2 hS.2.2.1) (And.intro (cK hb2 hS.2.2.2.1) (cK hb2 hS.2.2.2.2))))
    refine hK _ _ (fun _ => hS2) ?_
    clear hK K
    have HU : Hid (contR.O w2 W1.heap.size F2' (.agg #[.int .i64 l.id, .slice a2' l.legs.length c2']) l) := contR.base o2 (by have := hbd.size; omega)
    have HF2 : Hid (∀ b, F2' b → wr.heap.size ≤ b) := fun b hb => by have := (contR.rng o2 b hb).1; have := hbd.size; omega
    have HO2' : Hid (contsR.O w2 W1.heap.size F (.slice as_ k cs_) (d.held.take k)) := contsR.keep HO.out hb2'
    have HFl : Hid (∀ b, F b → b < wr.heap.size) := fun b hb => (contsR.rng HO.out b hb).2
    clear o2 hS hb2
    have hS := hS2
    clear hS2
    try simp only [Act.put, jA, jB, jC, jD, jE, jF]
    refine upto_step (i := 8) (by kernel_rfl) rfl ?_
    intro K hK
    go_simp
    obtain ⟨w3, hw3⟩ : ∃ w3, w3 = w2.alloc (.cells #[.int .i64 l.id, .slice a2' l.legs.length c2'] 44) := ⟨_, rfl⟩
    rw [← hw3]
    have hb3 : Below w2.heap.size w2 w3 := by rw [hw3]; (repeat (first | exact bR _ _ | assumption | refine bD ?_ | refine bA ?_ _ | refine bset ?_ (by simp; omega) _ | refine bset ?_ (by simp) _ | refine bS ?_ (by assumption)))
    have v0 : w3.cell? ⟨w2.heap.size, 0, none⟩ = some (.int .i64 l.id) := by rw [hw3]; simp [go_sem]
    have v1 : w3.cell? ⟨w2.heap.size, 1, none⟩ = some (.slice a2' l.legs.length c2') := by rw [hw3]; simp [go_sem]
    clear hw3
    have hb3' : Below wr.heap.size wr w3 := bS hb2' hb3
    have hS2 := And.intro (hb3'.mono zr) (And.intro (cK hb3 hS.2.1) (And.intro (cK hb3 hS.2.2.1) (And.intro (cK hb3 hS.2.2.2.1) (cK hb3 hS.2.2.2.2))))
    refine hK _ _ (fun _ => hS2) ?_
    clear hK K hS
    have hS := hS2
    clear hS2
    try simp only [Act.put, jA, jB, jC, jD, jE, jF]
    refine upto_step (i := 9) (by kernel_rfl) rfl ?_
    intro K hK
    refine step_appC12 w3 rfl _ _ rfl W1.heap.size F F2' _ (d.held.take k) l w2.heap.size a2' c2' rfl rfl ?a1 ?a2 ?a3 ?a4 ?a5 ?a6 ?_
    case a1 => exact contsR.keep HO2'.out hb3
    case a2 => exact contR.keep HU.out hb3
    case a3 => exact fun b h1 h2 => by have := HFl.out b h1; have := HF2.out b h2; omega
    case a4 => exact ⟨v0, v1⟩
    case a5 => rw [List.length_take, HN.out]; omega
    case a6 => have := hb3'.size; omega
    intro v4 w4 F4' o4 hb4 _
    rw [← HL.out] at o4
    obtain ⟨a4', c4', e4⟩ := conts_form (contsR.ofO o4)
    rw [show (d.held.take (k + 1)).length = k + 1 by rw [List.length_take, HN.out]; omega] at e4
    subst e4
    have HO4' : Hid (contsR.O w4 W1.heap.size F4' (.slice a4' (k + 1) c4') (d.held.take (k + 1))) := o4
    have HR4 : Hid (∀ b, F4' b → W1.heap.size ≤ b) := fun b hb => (contsR.rng o4 b hb).1
    have hb14 : Below W1.heap.size wr w4 := Below.trans (hb3'.mono zr) hb4
    have zbw : bx < W1.heap.size := by have := hB1w.size; omega
    have hS2 := And.intro hb14 (And.intro (low10 hb4 zB hS.2.1) (And.intro (low10 hb4 (show w.heap.size < W1.heap.size by omega) hS.2.2.1) (And.intro (low10 hb4 zbw hS.2.2.2.1) (low10 hb4 zbw hS.2.2.2.2))))
    refine hK _ _ (fun _ => hS2) ?_
    clear hK K hS
    have hS := hS2
    clear hS2 o4
    have HM4 : Hid (Mod (fun b => b = B) W1 w4) := Mod.low HM.out hb14
    have z40 := low10 hb14 zB t0'
    have z41 := low10 hb14 zB t1'
    have z42 := low10 hb14 zB t2'
    have z43 := low10 hb14 zB t3'
    have z44 := low10 hb14 zB t4'
    have z45 := low10 hb14 zB t5'
    have z4f : ∀ o, w4.frozen? ⟨B, o, none⟩ = false := fun o => by rw [hb14.frozen (p := ⟨B, o, none⟩) zB]; exact tf' o
    try simp only [Act.put, jA, jB, jC, jD, jE, jF]
    refine upto_step (i := 10) (by kernel_rfl) rfl ?_
    intro K hK
    go_simp
    refine hK _ _ (fun _ => hS) ?_
    clear hK K
    try simp only [Act.put, jA, jB, jC, jD, jE, jF]
    refine upto_step (i := 11) (by kernel_rfl) rfl ?_
    intro K hK
    go_simp
    refine hK _ _ (fun h => absurd rfl h) ?_
    clear hK K
    refine upto_done (by kernel_rfl) ?_
    refine NoPanic.normal ?_
    clear t0' t1' t2' t3' t4' t5' tf' hS
    go_wp2
    refine ⟨⟨k + 1, a4', c4', F4', by omega, by go_num, ?_, ?_, by simp [go_sem, z40], by simp [go_sem, z41], by simp [go_sem, z42], by simp [go_sem, z43, z4f], by simp [go_sem, z44], by simp [go_sem, z45], fun o => by simp [go_sem, z4f]⟩, by simp [intOf]; omega⟩
    ·
     exact contsR.mod HO4'.out (Mod.of_set w4 ⟨B, 3, none⟩ _) (fun b hb e => by have := HR4.out b hb; dsimp only at e; omega)
    ·
     exact HM4.out.trans (Mod.of_set w4 ⟨B, 3, none⟩ _)
   ·
    have hkn : k = n3 := by omega
    subst hkn
    have ho := HO.out
    rw [List.take_of_length_le (by rw [HN.out]; exact Nat.le_refl _)] at ho
    have HO2' : Hid (contsR.O wr W1.heap.size F (.slice as_ k cs_) d.held) := ho
    have HFr : Hid (∀ b, F b → W1.heap.size ≤ b) := fun b hb => (contsR.rng ho b hb).1
    clear ho HO
    have P1 : Hid (balsR.O wr W0.heap.size F1 (.slice q1 d.bals.length s1) d.bals) := balsR.mod HO1.out HM.out (fun b hb e => HNB.out.1 (e ▸ hb))
    have P2 : Hid (mrksR.O wr W0.heap.size F2 (.slice q2 d.votes.length s2) d.votes) := mrksR.mod HO2.out HM.out (fun b hb e => HNB.out.2.1 (e ▸ hb))
    have P4 : Hid (mrksR.O wr W0.heap.size F4 (.slice q4 d.done.length s4) d.done) := mrksR.mod HO4.out HM.out (fun b hb e => HNB.out.2.2.1 (e ▸ hb))
    have P5 : Hid (intsR.O wr W0.heap.size F5 (.slice q5 d.appl.length s5) d.appl) := intsR.mod HO5.out HM.out (fun b hb e => HNB.out.2.2.2 (e ▸ hb))
    have HR : Hid ((∀ b, F1 b → b < W1.heap.size) ∧ (∀ b, F2 b → b < W1.heap.size) ∧ (∀ b, F4 b → b < W1.heap.size) ∧ (∀ b, F5 b → b < W1.heap.size)) := ⟨fun b hb => (balsR.rng HO1.out b hb).2, fun b hb => (mrksR.rng HO2.out b hb).2, fun b hb => (mrksR.rng HO4.out b hb).2, fun b hb => (intsR.rng HO5.out b hb).2⟩
    have qr0 := HM.out.cell r0 (hne _ zq)
    have qr1 := HM.out.cell r1 (hne _ zq)
    have qr2 := HM.out.cell r2 (hne _ zq)
    have qr3 := HM.out.cell r3 (hne _ zq)
    have qr4 := HM.out.cell r4 (hne _ zq)
    have qr5 := HM.out.cell r5 (hne _ zq)
    have qrf : ∀ o, wr.frozen? ⟨w.heap.size + 1, o, none⟩ = false := fun o => (HM.out.frz10 (a := ⟨w.heap.size + 1, o, none⟩) (by dsimp only; omega) (hne _ (by dsimp only; omega))).trans (rf o)
    clear HM HO1 HO2 HO4 HO5 HNB t0 t1 t2 t3 t4 t5 tf r0 r1 r2 r3 r4 r5 rf y0 y1 y2 y3 y4 y5 hB1q hB1w
    go_wp2
    refine bodyPost_ret (v := .agg #[.int .i64 d.idx, .slice q1 d.bals.length s1, .slice q2 d.votes.length s2, .slice as_ k cs_, .slice q4 d.done.length s4, .slice q5 d.appl.length s5]) (by simp [results, Tryz.results64, go_sem, qr0, qr1, qr2, qr3, qr4, qr5, qrf]) rfl ⟨_, _, rfl, ⟨_, _, _, _, _, F1, F2, F, F4, F5, rfl, balsR.base (set6 balsR P1.out (by omega) _ _ _ _ _ _) (by omega), mrksR.base (set6 mrksR P2.out (by omega) _ _ _ _ _ _) (by omega), contsR.base (set6 contsR HO2'.out (by omega) _ _ _ _ _ _) (by omega), mrksR.base (set6 mrksR P4.out (by omega) _ _ _ _ _ _) (by omega), intsR.base (set6 intsR P5.out (by omega) _ _ _ _ _ _) (by omega), ?_, ?_, ?_, ?_, ?_, ?_, ?_, ?_, ?_, ?_, fun b => Iff.rfl⟩, by (repeat (first | refine bset ?_ (by simp; omega) _ | refine bset ?_ (by simp) _ | refine bA ?_ _ | assumption))⟩
    all_goals
     intro b h h'
     obtain ⟨u1, u2, u4, u5⟩ := HR.out
     obtain ⟨x12, x14, x15, x24, x25, x45⟩ := HXX.out
     first | exact x12 b h h' | exact x14 b h h' | exact x15 b h h' | exact x24 b h h' | exact x25 b h h' | exact x45 b h h' | (have := u1 b h; have := HFr.out b h'; omega) | (have := u2 b h; have := HFr.out b h'; omega) | (have := HFr.out b h; have := u4 b h'; omega) | (have := HFr.out b h; have := u5 b h'; omega)
end Go.Proofs.YtndghenlapbaaaaGreat

/-
 One list of a shard in another's place.
-/
namespace Go.Proofs.YtndghenlapbaaaaGreat
open Go.RowKit
variable [DecidableEq Leg] [Inhabited Leg] [DecidableEq Mrk] [Inhabited Mrk] [DecidableEq Bal] [Inhabited Bal] [DecidableEq Cont] [Inhabited Cont] [DecidableEq Shd] [Inhabited Shd] [DecidableEq ShdR] [Inhabited ShdR]
attribute [local go_sem ↓] Go.wp_at_zero Go.wp_at_succ

theorem shd_bals {w : World} {base : Nat} {F : Nat → Prop} {u1 u2 u3 u4 u5 : Value} {d : Shd} (h : shdR.O w base F (.agg #[.int .i64 d.idx, u1, u2, u3, u4, u5]) d) :
  ∃ Fj, balsR.O w base Fj u1 d.bals ∧ (∀ b, Fj b → F b) ∧ ∀ (w' : World) (Fj' : Nat → Prop) (v : Value) (ys : List Bal), balsR.O w' base Fj' v ys → Mod Fj w w' → (∀ b, Fj' b → Fj b ∨ w.heap.size ≤ b) →
   ∃ F', shdR.O w' base F' (.agg #[.int .i64 d.idx, v, u2, u3, u4, u5]) ⟨d.idx, ys, d.votes, d.held, d.done, d.appl⟩ ∧ ∀ b, F' b → F b ∨ w.heap.size ≤ b := by
 obtain ⟨v1, v2, v3, v4, v5, F1, F2, F3, F4, F5, e, h1, h2, h3, h4, h5, s12, s13, s14, s15, s23, s24, s25, s34, s35, s45, hF⟩ := h
 simp only [Value.agg.injEq, Array.mk.injEq, List.cons.injEq, and_true, true_and] at e
 obtain ⟨rfl, rfl, rfl, rfl, rfl⟩ := e
 refine ⟨F1, h1, fun b hb => (hF b).2 (.inl (hb)), fun w' Fj' v ys ho hm hn => ⟨fun b => Fj' b ∨ F2 b ∨ F3 b ∨ F4 b ∨ F5 b, ⟨_, _, _, _, _, Fj', F2, F3, F4, F5, rfl, ho, mrksR.mod h2 hm (fun b hb hj => s12 b hj hb), contsR.mod h3 hm (fun b hb hj => s13 b hj hb), mrksR.mod h4 hm (fun b hb hj => s14 b hj hb), intsR.mod h5 hm (fun b hb hj => s15 b hj hb), fun b hj hi => (hn b hj).elim (fun h => s12 b h hi) (fun h => by have := (mrksR.rng h2 b hi).2; omega), fun b hj hi => (hn b hj).elim (fun h => s13 b h hi) (fun h => by have := (contsR.rng h3 b hi).2; omega), fun b hj hi => (hn b hj).elim (fun h => s14 b h hi) (fun h => by have := (mrksR.rng h4 b hi).2; omega), fun b hj hi => (hn b hj).elim (fun h => s15 b h hi) (fun h => by have := (intsR.rng h5 b hi).2; omega), s23, s24, s25, s34, s35, s45, fun b => Iff.rfl⟩, fun b hb => ?_⟩⟩
 rcases hb with hb | hb | hb | hb | hb
 ·
  exact (hn b hb).imp (fun h => (hF b).2 (.inl (h))) id
 ·
  exact .inl ((hF b).2 (.inr (.inl (hb))))
 ·
  exact .inl ((hF b).2 (.inr (.inr (.inl (hb)))))
 ·
  exact .inl ((hF b).2 (.inr (.inr (.inr (.inl (hb))))))
 ·
  exact .inl ((hF b).2 (.inr (.inr (.inr (.inr (hb))))))
theorem shd_held {w : World} {base : Nat} {F : Nat → Prop} {u1 u2 u3 u4 u5 : Value} {d : Shd} (h : shdR.O w base F (.agg #[.int .i64 d.idx, u1, u2, u3, u4, u5]) d) :
  ∃ Fj, contsR.O w base Fj u3 d.held ∧ (∀ b, Fj b → F b) ∧ ∀ (w' : World) (Fj' : Nat → Prop) (v : Value) (ys : List Cont), contsR.O w' base Fj' v ys → Mod Fj w w' → (∀ b, Fj' b → Fj b ∨ w.heap.size ≤ b) →
   ∃ F', shdR.O w' base F' (.agg #[.int .i64 d.idx, u1, u2, v, u4, u5]) ⟨d.idx, d.bals, d.votes, ys, d.done, d.appl⟩ ∧ ∀ b, F' b → F b ∨ w.heap.size ≤ b := by
 obtain ⟨v1, v2, v3, v4, v5, F1, F2, F3, F4, F5, e, h1, h2, h3, h4, h5, s12, s13, s14, s15, s23, s24, s25, s34, s35, s45, hF⟩ := h
 simp only [Value.agg.injEq, Array.mk.injEq, List.cons.injEq, and_true, true_and] at e
 obtain ⟨rfl, rfl, rfl, rfl, rfl⟩ := e
 refine ⟨F3, h3, fun b hb => (hF b).2 (.inr (.inr (.inl (hb)))), fun w' Fj' v ys ho hm hn => ⟨fun b => F1 b ∨ F2 b ∨ Fj' b ∨ F4 b ∨ F5 b, ⟨_, _, _, _, _, F1, F2, Fj', F4, F5, rfl, balsR.mod h1 hm (fun b hb hj => s13 b hb hj), mrksR.mod h2 hm (fun b hb hj => s23 b hb hj), ho, mrksR.mod h4 hm (fun b hb hj => s34 b hj hb), intsR.mod h5 hm (fun b hb hj => s35 b hj hb), s12, fun b hi hj => (hn b hj).elim (fun h => s13 b hi h) (fun h => by have := (balsR.rng h1 b hi).2; omega), s14, s15, fun b hi hj => (hn b hj).elim (fun h => s23 b hi h) (fun h => by have := (mrksR.rng h2 b hi).2; omega), s24, s25, fun b hj hi => (hn b hj).elim (fun h => s34 b h hi) (fun h => by have := (mrksR.rng h4 b hi).2; omega), fun b hj hi => (hn b hj).elim (fun h => s35 b h hi) (fun h => by have := (intsR.rng h5 b hi).2; omega), s45, fun b => Iff.rfl⟩, fun b hb => ?_⟩⟩
 rcases hb with hb | hb | hb | hb | hb
 ·
  exact .inl ((hF b).2 (.inl (hb)))
 ·
  exact .inl ((hF b).2 (.inr (.inl (hb))))
 ·
  exact (hn b hb).imp (fun h => (hF b).2 (.inr (.inr (.inl (h))))) id
 ·
  exact .inl ((hF b).2 (.inr (.inr (.inr (.inl (hb))))))
 ·
  exact .inl ((hF b).2 (.inr (.inr (.inr (.inr (hb))))))
theorem shd_done {w : World} {base : Nat} {F : Nat → Prop} {u1 u2 u3 u4 u5 : Value} {d : Shd} (h : shdR.O w base F (.agg #[.int .i64 d.idx, u1, u2, u3, u4, u5]) d) :
  ∃ Fj, mrksR.O w base Fj u4 d.done ∧ (∀ b, Fj b → F b) ∧ ∀ (w' : World) (Fj' : Nat → Prop) (v : Value) (ys : List Mrk), mrksR.O w' base Fj' v ys → Mod Fj w w' → (∀ b, Fj' b → Fj b ∨ w.heap.size ≤ b) →
   ∃ F', shdR.O w' base F' (.agg #[.int .i64 d.idx, u1, u2, u3, v, u5]) ⟨d.idx, d.bals, d.votes, d.held, ys, d.appl⟩ ∧ ∀ b, F' b → F b ∨ w.heap.size ≤ b := by
 obtain ⟨v1, v2, v3, v4, v5, F1, F2, F3, F4, F5, e, h1, h2, h3, h4, h5, s12, s13, s14, s15, s23, s24, s25, s34, s35, s45, hF⟩ := h
 simp only [Value.agg.injEq, Array.mk.injEq, List.cons.injEq, and_true, true_and] at e
 obtain ⟨rfl, rfl, rfl, rfl, rfl⟩ := e
 refine ⟨F4, h4, fun b hb => (hF b).2 (.inr (.inr (.inr (.inl (hb))))), fun w' Fj' v ys ho hm hn => ⟨fun b => F1 b ∨ F2 b ∨ F3 b ∨ Fj' b ∨ F5 b, ⟨_, _, _, _, _, F1, F2, F3, Fj', F5, rfl, balsR.mod h1 hm (fun b hb hj => s14 b hb hj), mrksR.mod h2 hm (fun b hb hj => s24 b hb hj), contsR.mod h3 hm (fun b hb hj => s34 b hb hj), ho, intsR.mod h5 hm (fun b hb hj => s45 b hj hb), s12, s13, fun b hi hj => (hn b hj).elim (fun h => s14 b hi h) (fun h => by have := (balsR.rng h1 b hi).2; omega), s15, s23, fun b hi hj => (hn b hj).elim (fun h => s24 b hi h) (fun h => by have := (mrksR.rng h2 b hi).2; omega), s25, fun b hi hj => (hn b hj).elim (fun h => s34 b hi h) (fun h => by have := (contsR.rng h3 b hi).2; omega), s35, fun b hj hi => (hn b hj).elim (fun h => s45 b h hi) (fun h => by have := (intsR.rng h5 b hi).2; omega), fun b => Iff.rfl⟩, fun b hb => ?_⟩⟩
 rcases hb with hb | hb | hb | hb | hb
 ·
  exact .inl ((hF b).2 (.inl (hb)))
 ·
  exact .inl ((hF b).2 (.inr (.inl (hb))))
 ·
  exact .inl ((hF b).2 (.inr (.inr (.inl (hb)))))
 ·
  exact (hn b hb).imp (fun h => (hF b).2 (.inr (.inr (.inr (.inl (h)))))) id
 ·
  exact .inl ((hF b).2 (.inr (.inr (.inr (.inr (hb))))))
theorem shd_appl {w : World} {base : Nat} {F : Nat → Prop} {u1 u2 u3 u4 u5 : Value} {d : Shd} (h : shdR.O w base F (.agg #[.int .i64 d.idx, u1, u2, u3, u4, u5]) d) :
  ∃ Fj, intsR.O w base Fj u5 d.appl ∧ (∀ b, Fj b → F b) ∧ ∀ (w' : World) (Fj' : Nat → Prop) (v : Value) (ys : List Int), intsR.O w' base Fj' v ys → Mod Fj w w' → (∀ b, Fj' b → Fj b ∨ w.heap.size ≤ b) →
   ∃ F', shdR.O w' base F' (.agg #[.int .i64 d.idx, u1, u2, u3, u4, v]) ⟨d.idx, d.bals, d.votes, d.held, d.done, ys⟩ ∧ ∀ b, F' b → F b ∨ w.heap.size ≤ b := by
 obtain ⟨v1, v2, v3, v4, v5, F1, F2, F3, F4, F5, e, h1, h2, h3, h4, h5, s12, s13, s14, s15, s23, s24, s25, s34, s35, s45, hF⟩ := h
 simp only [Value.agg.injEq, Array.mk.injEq, List.cons.injEq, and_true, true_and] at e
 obtain ⟨rfl, rfl, rfl, rfl, rfl⟩ := e
 refine ⟨F5, h5, fun b hb => (hF b).2 (.inr (.inr (.inr (.inr (hb))))), fun w' Fj' v ys ho hm hn => ⟨fun b => F1 b ∨ F2 b ∨ F3 b ∨ F4 b ∨ Fj' b, ⟨_, _, _, _, _, F1, F2, F3, F4, Fj', rfl, balsR.mod h1 hm (fun b hb hj => s15 b hb hj), mrksR.mod h2 hm (fun b hb hj => s25 b hb hj), contsR.mod h3 hm (fun b hb hj => s35 b hb hj), mrksR.mod h4 hm (fun b hb hj => s45 b hb hj), ho, s12, s13, s14, fun b hi hj => (hn b hj).elim (fun h => s15 b hi h) (fun h => by have := (balsR.rng h1 b hi).2; omega), s23, s24, fun b hi hj => (hn b hj).elim (fun h => s25 b hi h) (fun h => by have := (mrksR.rng h2 b hi).2; omega), s34, fun b hi hj => (hn b hj).elim (fun h => s35 b hi h) (fun h => by have := (contsR.rng h3 b hi).2; omega), fun b hi hj => (hn b hj).elim (fun h => s45 b hi h) (fun h => by have := (mrksR.rng h4 b hi).2; omega), fun b => Iff.rfl⟩, fun b hb => ?_⟩⟩
 rcases hb with hb | hb | hb | hb | hb
 ·
  exact .inl ((hF b).2 (.inl (hb)))
 ·
  exact .inl ((hF b).2 (.inr (.inl (hb))))
 ·
  exact .inl ((hF b).2 (.inr (.inr (.inl (hb)))))
 ·
  exact .inl ((hF b).2 (.inr (.inr (.inr (.inl (hb))))))
 ·
  exact (hn b hb).imp (fun h => (hF b).2 (.inr (.inr (.inr (.inr (h)))))) id
theorem shdR_of {w : World} {base : Nat} {F : Nat → Prop} {u1 u2 u3 u4 u5 : Value} {d : Shd} (c v : Int) (h : shdR.O w base F (.agg #[.int .i64 d.idx, u1, u2, u3, u4, u5]) d) : shdRR.O w base F (.agg #[.int .i64 c, .int .i64 v, .int .i64 d.idx, u1, u2, u3, u4, u5]) ⟨c, v, d⟩ :=
 ⟨_, _, _, _, _, F, rfl, h, fun _ => Iff.rfl⟩
theorem shd_formO {w : World} {base : Nat} {F : Nat → Prop} {v : Value} {x : Shd} (h : shdR.O w base F v x) : ∃ a1 a2 a3 a4 a5 c1 c2 c3 c4 c5, v = .agg #[.int .i64 x.idx, .slice a1 x.bals.length c1, .slice a2 x.votes.length c2, .slice a3 x.held.length c3, .slice a4 x.done.length c4, .slice a5 x.appl.length c5] := shd_form (shdR.ofO h)
theorem shd_nil (w : World) (base : Nat) : ∃ F, shdR.O w base F (.agg #[.int .i64 0, .slice none 0 0, .slice none 0 0, .slice none 0 0, .slice none 0 0, .slice none 0 0]) ⟨0, [], [], [], [], []⟩ :=
 ⟨fun _ => False, _, _, _, _, _, (fun _ => False), (fun _ => False), (fun _ => False), (fun _ => False), (fun _ => False), rfl, ⟨World.ownsRow_nil _ _ _ _, by funext b; simp [Value.ownBlock]⟩, ⟨World.ownsRow_nil _ _ _ _, by funext b; simp [Value.ownBlock]⟩, conts_nil w base, ⟨World.ownsRow_nil _ _ _ _, by funext b; simp [Value.ownBlock]⟩, ⟨World.ownsRow_nil _ _ _ _, by funext b; simp [Value.ownBlock]⟩, fun _ h _ => h, fun _ h _ => h, fun _ h _ => h, fun _ h _ => h, fun _ h _ => h, fun _ h _ => h, fun _ h _ => h, fun _ h _ => h, fun _ h _ => h, fun _ h _ => h, fun b => by simp⟩
theorem setR8 {α : Type} (R : Rep α) {W : World} {base B : Nat} {F : Nat → Prop} {v : Value} {x : α} (h : R.O W base F v x) (hB : ¬ F B) (u0 u1 u2 u3 u4 u5 u6 u7 : Value) :
  R.O ((((((((W.setCell ⟨B, 0, none⟩ u0).setCell ⟨B, 1, none⟩ u1).setCell ⟨B, 2, none⟩ u2).setCell ⟨B, 3, none⟩ u3).setCell ⟨B, 4, none⟩ u4).setCell ⟨B, 5, none⟩ u5).setCell ⟨B, 6, none⟩ u6).setCell ⟨B, 7, none⟩ u7) base F v x :=
 have hn : ∀ b, F b → ¬ (b = B) := fun b hb e => hB (e ▸ hb)
 R.mod (R.mod (R.mod (R.mod (R.mod (R.mod (R.mod (R.mod h (Mod.of_set W ⟨B, 0, none⟩ u0) hn) (Mod.of_set _ ⟨B, 1, none⟩ u1) hn) (Mod.of_set _ ⟨B, 2, none⟩ u2) hn) (Mod.of_set _ ⟨B, 3, none⟩ u3) hn) (Mod.of_set _ ⟨B, 4, none⟩ u4) hn) (Mod.of_set _ ⟨B, 5, none⟩ u5) hn) (Mod.of_set _ ⟨B, 6, none⟩ u6) hn) (Mod.of_set _ ⟨B, 7, none⟩ u7) hn
theorem setR6 {α : Type} (R : Rep α) {W : World} {base B : Nat} {F : Nat → Prop} {v : Value} {x : α} (h : R.O W base F v x) (hB : ¬ F B) (u0 u1 u2 u3 u4 u5 : Value) :
  R.O ((((((W.setCell ⟨B, 0, none⟩ u0).setCell ⟨B, 1, none⟩ u1).setCell ⟨B, 2, none⟩ u2).setCell ⟨B, 3, none⟩ u3).setCell ⟨B, 4, none⟩ u4).setCell ⟨B, 5, none⟩ u5) base F v x :=
 have hn : ∀ b, F b → ¬ (b = B) := fun b hb e => hB (e ▸ hb)
 R.mod (R.mod (R.mod (R.mod (R.mod (R.mod h (Mod.of_set W ⟨B, 0, none⟩ u0) hn) (Mod.of_set _ ⟨B, 1, none⟩ u1) hn) (Mod.of_set _ ⟨B, 2, none⟩ u2) hn) (Mod.of_set _ ⟨B, 3, none⟩ u3) hn) (Mod.of_set _ ⟨B, 4, none⟩ u4) hn) (Mod.of_set _ ⟨B, 5, none⟩ u5) hn
theorem setR1 {α : Type} (R : Rep α) {W : World} {base B o : Nat} {F : Nat → Prop} {v : Value} {x : α} (h : R.O W base F v x) (hB : ¬ F B) (u : Value) : R.O (W.setCell ⟨B, o, none⟩ u) base F v x :=
 have hn : ∀ b, F b → ¬ (b = B) := fun b hb e => hB (e ▸ hb)
 R.mod h (Mod.of_set W ⟨B, o, none⟩ u) hn
end Go.Proofs.YtndghenlapbaaaaGreat

/-
 slices.Insert of one slot into slots that own their memory.
-/
namespace Go.Proofs.YtndghenlapbaaaaGreat
open Go.RowKit Go.Shelf
variable [DecidableEq Mrk] [Inhabited Mrk] [DecidableEq Bal] [Inhabited Bal] [DecidableEq Ledg] [Inhabited Ledg] [DecidableEq Leg] [Inhabited Leg]

theorem run_copyM (w : World) (dT sT ty elem : TypeId) (sz g o dLen dCap : Nat) (a : Addr) (sLen sCap m : Nat) (cur : Array Value) (t : TypeId) (cs : List Value)
  (hu : Tryz.prog.underlying dT = some (.slice elem)) (hs : (Tryz.prog.info? elem).map (·.size) = some sz)
  (hg : w.heap[g]? = some (.cells cur t (0, 0))) (hm : Nat.min sLen dLen = m) (hn : cs.length = m * sz)
  (hsrc : ∀ j v, cs[j]? = some v → w.cell? (a.add j) = some v) (hfit : o + cs.length ≤ cur.size) (h1 : ∀ v ∈ cs, v.oneCell' = true) :
  (Builtin.copy_ #[dT, sT] ty #[.slice (some ⟨g, o, none⟩) dLen dCap, .slice (some a) sLen sCap]).run Tryz.prog w =
   .ok (goInt m) (w.setRow g (cur.toList.take o ++ cs ++ cur.toList.drop (o + cs.length)).toArray) := by
 have hl := run_loadCells_list (P := Tryz.prog) w a cs hsrc
 have hst := run_storeCells_at Tryz.prog g o t cs 0 cur w hg (by simpa using hfit) h1
 cases hq : Tryz.prog.info? elem with
 | none => simp [hq] at hs
 | some i =>
  have hi : i.size = sz := by simpa [hq] using hs
  rw [hn] at hl
  simp [Builtin.copy_, run_underlying hu, Builtin.lenOf, Builtin.firstCells, sizeOf, typeInfo, hq, hi, hm, hl, hst]
theorem wpl_copyM (w : World) {ops : Array Oper} {rest : List Oper} {o : Oper} {a : Act} {Q : Exit → Act → World → Prop} (hgd : o.guard = none) (d s : Operand) (t t' : TypeId)
  (ho : o.op = .call { callee := .builtin .copy, args := #[d, s], argTypes := #[t, t'] }) (v u : Value) (hd : a.eval d = v) (hs : a.eval s = u) {v' : Value} {w' : World}
  (hr : (Builtin.copy_ #[t, t'] o.type #[v, u]).run Tryz.prog w = .ok v' w') (h : wpList Tryz.prog ops Q rest (a.put o.dst v') w') : wpList Tryz.prog ops Q (o :: rest) a w := by
 refine wpList_plain hgd fun K hK => ?_
 unfold Oper.wp execOp
 simp only [ho, resolve, invoke, builtin, Sem.run_bind, Sem.run_pure, Result.andThen_ok, List.map_toArray, List.map_cons, List.map_nil, hd, hs, hr]
 exact hK _ _ h
theorem step_copyM {ops : Array Oper} {o : Oper} {a : Act} {w : World} {K : Act → World → Prop} {Q : Exit → Act → World → Prop} {E : Prop} (hgd : o.guard = none) (d s : Operand) (t t' : TypeId)
  (ho : o.op = .call { callee := .builtin .copy, args := #[d, s], argTypes := #[t, t'] }) (v u : Value) (hd : a.eval d = v) (hs : a.eval s = u) {v' : Value} {w' : World}
  (hr : (Builtin.copy_ #[t, t'] o.type #[v, u]).run Tryz.prog w = .ok v' w') (hK : K (a.put o.dst v') w') :
  if Region.wanted o (yielded ops a.tmps) = true then Oper.wp Tryz.prog o a w K Q else E := by
 have hw : Region.wanted o (yielded ops a.tmps) = true := by simp [Region.wanted, hgd]
 rw [if_pos hw]
 unfold Oper.wp execOp
 simp only [ho, resolve, invoke, builtin, Sem.run_bind, Sem.run_pure, Result.andThen_ok, List.map_toArray, List.map_cons, List.map_nil, hd, hs, hr]
 exact hK
theorem mod_setRowM (w : World) (g : Nat) (cs : Array Value) : Mod (fun b => b = g) w (w.setRow g cs) :=
 ⟨rfl, rfl, rfl, by simp [World.setRow], fun k _ hn => setRow_other w g k cs hn⟩
theorem addr_addM (b o j : Nat) : (⟨b, o, none⟩ : Addr).add j = ⟨b, o + j, none⟩ := by
 by_cases hj0 : j = 0
 ·
  subst hj0; simp [Addr.add]
 ·
  simp [Addr.add, hj0]
theorem cell_rowM {w : World} {g j : Nat} {cur : Array Value} {t : TypeId} {fr : Nat × Nat} {v : Value} (hg : w.heap[g]? = some (.cells cur t fr)) (h : cur.toList[j]? = some v) : w.cell? ⟨g, j, none⟩ = some v := by
 have : cur[j]? = some v := by rw [← Array.getElem?_toList]; exact h
 simp [World.cell?, hg, this]
theorem heap_newM (w : World) (o : Obj) : (w.alloc o).heap[w.heap.size]? = some o := by
 show (w.heap.push o)[w.heap.size]? = some o
 simp [Array.getElem?_push]
theorem shift_rowM {cur cs vs : List Value} {k m : Nat} (hk : k ≤ cs.length) (hc : cur.take cs.length = cs) (hl : cs.length + m ≤ cur.length) (hv : vs.length = m) :
  ((((cur.take (k + m) ++ cs.drop k ++ cur.drop (k + m + (cs.drop k).length)).take k ++ vs ++ (cur.take (k + m) ++ cs.drop k ++ cur.drop (k + m + (cs.drop k).length)).drop (k + vs.length)).length = cur.length) ∧
  ((cur.take (k + m) ++ cs.drop k ++ cur.drop (k + m + (cs.drop k).length)).take k ++ vs ++ (cur.take (k + m) ++ cs.drop k ++ cur.drop (k + m + (cs.drop k).length)).drop (k + vs.length)).take (cs.length + m) = cs.take k ++ vs ++ cs.drop k) := by
 subst hv
 have h1 : (cur.take (k + vs.length) ++ cs.drop k ++ cur.drop (k + vs.length + (cs.drop k).length)).take k = cs.take k := by
  rw [List.append_assoc, List.take_append_of_le_length (by rw [List.length_take]; omega), List.take_take]
  conv => rhs; rw [← hc, List.take_take]
  congr 1
  omega
 have h2 : (cur.take (k + vs.length) ++ cs.drop k ++ cur.drop (k + vs.length + (cs.drop k).length)).drop (k + vs.length) = cs.drop k ++ cur.drop (k + vs.length + (cs.drop k).length) := by
  rw [List.append_assoc, List.drop_append_of_le_length (by rw [List.length_take]; omega), List.drop_take]
  simp
 rw [h1, h2]
 have hd : (cs.drop k).length = cs.length - k := List.length_drop ..
 constructor
 ·
  simp only [List.length_append, List.length_take, List.length_drop]
  omega
 ·
  rw [← List.append_assoc, List.take_append_of_le_length (by simp only [List.length_append, List.length_take, List.length_drop]; omega), List.take_of_length_le (by simp only [List.length_append, List.length_take, List.length_drop]; omega)]
set_option maxHeartbeats 4000000 in
set_option maxRecDepth 100000 in
theorem insertM_shift (g n c i vb : Nat) (cs vs : List Value) (cur : Array Value) (w : World) (hg : w.heap[g]? = some (.cells cur 89 (0, 0))) (hi : i < n) (hroom : n + 1 ≤ c) (hc63 : c ≤ 9223372036854775807) (hvb : vb ≠ g)
  (hcur : cur.size = c * 2) (hcl : cs.length = n * 2) (ht : cur.toList.take (n * 2) = cs) (hvl : vs.length = 2) (hv : w.heap[vb]? = some (.cells vs.toArray 89 (0, 0))) (h1c : ∀ v ∈ cs, v.oneCell' = true) (h1v : ∀ v ∈ vs, v.oneCell' = true) :
  Calls Tryz.prog 110 #[.slice (some ⟨g, 0, none⟩) n c, .int .i64 i, .slice (some ⟨vb, 0, none⟩) 1 1] w fun e w' =>
   e = .returned (.slice (some ⟨g, 0, none⟩) (n + 1) c) ∧ ∃ cur' : Array Value, w'.heap[g]? = some (.cells cur' 89 (0, 0)) ∧ cur'.size = c * 2 ∧ cur'.toList.take ((n + 1) * 2) = cs.take (i * 2) ++ vs ++ cs.drop (i * 2) ∧ Mod (fun b => b = g) w w' := by
 have hz2 : ¬ ((i : Int) = (n : Int)) := by omega
 have hsz : (Tryz.prog.info? 89).map (·.size) = some 2 := by
  obtain ⟨i0, hi0, _, h1, _⟩ := info_parts infoMrk
  rw [hi0]; simp [h1]
 have hzz : ∀ w, (Go.sizeOf 89).run Tryz.prog w = .ok 2 w := fun w => by
  obtain ⟨i0, hi0, _, h1, _⟩ := info_parts infoMrk
  simp [sizeOf, typeInfo, hi0, h1]
 have hov : ∀ lb cb, (callFunc 139 #[.slice (some ⟨vb, 0, none⟩) 1 1, .slice (some ⟨g, (i + 1) * 2, none⟩) lb cb]).run Tryz.prog w = .ok (.value (.bool false)) w := fun lb cb => by
  rw [run_callFunc_extern Tryz.func139 (by kernel_rfl) (by kernel_rfl) (by kernel_rfl) (e := Extern.SlicesOverlaps.overlaps #[34, 34] #[4]) (by kernel_rfl),
   Lib.run_overlaps_apart w 34 4 89 Tryz.underlying34 2 hzz ⟨vb, 0, none⟩ ⟨g, (i + 1) * 2, none⟩ 1 1 lb cb hvb 89 89 2 (c * 2) (by simp [World.shape?, hv, hvl]) (by simp [World.shape?, hg, hcur]) (by omega) (by simp [World.frozen?, hv]) (by simp [World.frozen?, hv])]
  rfl
 have hdl : (cs.drop (i * 2)).length = (n - i) * 2 := by rw [List.length_drop, hcl]; omega
 have hb1 : (0 : Int) ≤ (i : Int) + 1 := by omega
 have hw1 : IntKind.i64.wrap ((i : Int) + 1) = (i : Int) + 1 := by rw [IntKind.wrap_i64]; omega
 have htn : ((i : Int) + 1).toNat = i + 1 := by omega
 have hin : i ≤ n := by omega
 have hb2 : ¬ (c = i + 1) := by omega
 have hb3 : (i : Int) ≤ (n : Int) + 1 := by omega
 have hb4 : ¬ (c = i) := by omega
 obtain ⟨A1, hA1⟩ : ∃ A1 : Array Value, A1 = (cur.toList.take ((i + 1) * 2) ++ cs.drop (i * 2) ++ cur.toList.drop ((i + 1) * 2 + (cs.drop (i * 2)).length)).toArray := ⟨_, rfl⟩
 have hcp1 : ∀ ty dl dc sl sc, dl = n - i → sl = n + 1 - i → (Builtin.copy_ #[34, 34] ty #[.slice (some ⟨g, (i + 1) * 2, none⟩) dl dc, .slice (some ⟨g, i * 2, none⟩) sl sc]).run Tryz.prog w.drew = .ok (goInt ((n - i : Nat) : Int)) (w.drew.setRow g A1) := fun ty dl dc sl sc e1 e2 => by
  rw [hA1]
  refine run_copyM w.drew _ _ ty 89 2 g ((i + 1) * 2) dl dc ⟨g, i * 2, none⟩ sl sc (n - i) cur 89 (cs.drop (i * 2)) Tryz.underlying34 hsz hg (by simp only [Nat.min_def]; split <;> omega) hdl (fun j v hj => ?_) (by rw [hdl, hcur]; omega) (fun v hv => h1c v (List.mem_of_mem_drop hv))
  rw [addr_addM]
  refine cell_rowM hg ?_
  rw [List.getElem?_drop, ← ht, List.getElem?_take] at hj
  split at hj
  ·
   exact hj
  ·
   cases hj
 have hA1s : A1.size = c * 2 := by
  rw [hA1]
  simp only [List.size_toArray, List.length_append, List.length_take, List.length_drop, Array.length_toList]
  rw [hcl]
  omega
 have hg1 : (w.drew.setRow g A1).heap[g]? = some (.cells A1 89 (0, 0)) := setRow_heap w.drew g cur A1 _ _ hg
 have hv1 : (w.drew.setRow g A1).heap[vb]? = some (.cells vs.toArray 89 (0, 0)) := (setRow_other w.drew g vb A1 hvb).trans hv
 obtain ⟨W1, hW1⟩ : ∃ W1, W1 = w.drew.setRow g A1 := ⟨_, rfl⟩
 rw [← hW1] at hg1 hv1 hcp1
 have hm1 : Mod (fun b => b = g) w W1 := by
  rw [hW1]
  exact (Mod.of_below (Below.drew (Below.refl _ _))).trans (mod_setRowM _ _ _)
 obtain ⟨A2, hA2⟩ : ∃ A2 : Array Value, A2 = (A1.toList.take (i * 2) ++ vs ++ A1.toList.drop (i * 2 + vs.length)).toArray := ⟨_, rfl⟩
 have hcp2 : ∀ (W : World), W.heap[g]? = some (.cells A1 89 (0, 0)) → W.heap[vb]? = some (.cells vs.toArray 89 (0, 0)) → ∀ ty dc, (Builtin.copy_ #[34, 34] ty #[.slice (some ⟨g, i * 2, none⟩) (n + 1 - i) dc, .slice (some ⟨vb, 0, none⟩) 1 1]).run Tryz.prog W = .ok (goInt 1) (W.setRow g A2) := fun W hW1 hW2 ty dc => by
  rw [hA2]
  refine run_copyM W _ _ ty 89 2 g (i * 2) (n + 1 - i) dc ⟨vb, 0, none⟩ 1 1 1 A1 89 vs Tryz.underlying34 hsz hW1 (by simp only [Nat.min_def]; split <;> omega) (by omega) (fun j v hj => ?_) (by rw [hvl, hA1s]; omega) h1v
  rw [addr_addM]
  exact cell_rowM hW2 (by simpa using hj)
 have hfin : A2.size = c * 2 ∧ A2.toList.take ((n + 1) * 2) = cs.take (i * 2) ++ vs ++ cs.drop (i * 2) := by
  have h := shift_rowM (cur := cur.toList) (cs := cs) (vs := vs) (k := i * 2) (m := 2) (by rw [hcl]; omega) (by rw [hcl]; exact ht) (by rw [hcl, Array.length_toList, hcur]; omega) hvl
  rw [hA2, hA1]
  rw [show (i + 1) * 2 = i * 2 + 2 by omega, show (n + 1) * 2 = cs.length + 2 by rw [hcl]; omega]
  refine ⟨?_, h.2⟩
  rw [List.size_toArray]
  have h1 := h.1
  have h2 : cur.toList.length = c * 2 := by rw [Array.length_toList, hcur]
  rw [h2] at h1
  exact h1
 clear hA1 hA2 hW1
 have HF : Hid (A2.size = c * 2 ∧ A2.toList.take ((n + 1) * 2) = cs.take (i * 2) ++ vs ++ cs.drop (i * 2)) := hfin
 clear hfin
 go_enter Tryz.func110, Tryz.ntmps110
 go_wp2_with (simp only [hov])
 go_region_law (refine step_copyM rfl (.tmp 73) (.tmp 76) 34 34 rfl _ _ (by simp [Act.eval, Act.put]) (by simp [Act.eval, Act.put]) (hcp1 _ _ _ _ _ (by omega) (by omega)) ?_)
 go_wp2_with (at_builtin; refine wpl_copyM _ rfl _ _ 34 34 rfl _ _ rfl rfl (hcp2 _ hg1 hv1 _ _) ?_)
 go_ret
 refine ⟨rfl, A2, setRow_heap _ g A1 A2 _ _ hg1, HF.out.1, HF.out.2, hm1.trans (mod_setRowM _ _ _)⟩
end Go.Proofs.YtndghenlapbaaaaGreat


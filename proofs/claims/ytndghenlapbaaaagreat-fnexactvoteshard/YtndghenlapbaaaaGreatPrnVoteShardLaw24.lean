import Derived.Test.YtndghenlapbaaaaGreatPrnVoteShardLaw23
import Derived.Test.YtndghenlapbaaaaGreatPrnVoteShardLaw14
import Derived.BigQuiet
import Derived.Deep.QuietTactic
import Derived.Deep.RegionHeld3
import Derived.Test.YtndghenlapbaaaaGreatPrnVoteShardLaw13
import Derived.Test.YtndghenlapbaaaaGreatPrnVoteShardLaw4
import Derived.Test.YtndghenlapbaaaaGreatPrnVoteShardLaw2
import Derived.Shelf.Abstract
import Derived.Laws.CopyRow
import Derived.Laws.Externs
import Derived.Lib.Overlaps
import Derived.Lib.AppendZerosOnto
import Derived.Deep.RegionLaw
import Derived.Maps.AppendAt
set_option linter.unusedSimpArgs false
set_option linter.unusedVariables false
set_option linter.unusedSectionVars false

/-
 One list of a shard in another's place.
-/
namespace Go.Proofs.YtndghenlapbaaaaGreat
open Go.RowKit
variable [DecidableEq Leg] [Inhabited Leg] [DecidableEq Mrk] [Inhabited Mrk] [DecidableEq Bal] [Inhabited Bal] [DecidableEq Cont] [Inhabited Cont] [DecidableEq Shd] [Inhabited Shd] [DecidableEq ShdR] [Inhabited ShdR]
attribute [local go_sem ↓] Go.wp_at_zero Go.wp_at_succ

theorem shd_votes {w : World} {base : Nat} {F : Nat → Prop} {u1 u2 u3 u4 u5 : Value} {d : Shd} (h : shdR.O w base F (.agg #[.int .i64 d.idx, u1, u2, u3, u4, u5]) d) :
  ∃ Fj, mrksR.O w base Fj u2 d.votes ∧ (∀ b, Fj b → F b) ∧ ∀ (w' : World) (Fj' : Nat → Prop) (v : Value) (ys : List Mrk), mrksR.O w' base Fj' v ys → Mod Fj w w' → (∀ b, Fj' b → Fj b ∨ w.heap.size ≤ b) →
   ∃ F', shdR.O w' base F' (.agg #[.int .i64 d.idx, u1, v, u3, u4, u5]) ⟨d.idx, d.bals, ys, d.held, d.done, d.appl⟩ ∧ ∀ b, F' b → F b ∨ w.heap.size ≤ b := by
 obtain ⟨v1, v2, v3, v4, v5, F1, F2, F3, F4, F5, e, h1, h2, h3, h4, h5, s12, s13, s14, s15, s23, s24, s25, s34, s35, s45, hF⟩ := h
 simp only [Value.agg.injEq, Array.mk.injEq, List.cons.injEq, and_true, true_and] at e
 obtain ⟨rfl, rfl, rfl, rfl, rfl⟩ := e
 refine ⟨F2, h2, fun b hb => (hF b).2 (.inr (.inl (hb))), fun w' Fj' v ys ho hm hn => ⟨fun b => F1 b ∨ Fj' b ∨ F3 b ∨ F4 b ∨ F5 b, ⟨_, _, _, _, _, F1, Fj', F3, F4, F5, rfl, balsR.mod h1 hm (fun b hb hj => s12 b hb hj), ho, contsR.mod h3 hm (fun b hb hj => s23 b hj hb), mrksR.mod h4 hm (fun b hb hj => s24 b hj hb), intsR.mod h5 hm (fun b hb hj => s25 b hj hb), fun b hi hj => (hn b hj).elim (fun h => s12 b hi h) (fun h => by have := (balsR.rng h1 b hi).2; omega), s13, s14, s15, fun b hj hi => (hn b hj).elim (fun h => s23 b h hi) (fun h => by have := (contsR.rng h3 b hi).2; omega), fun b hj hi => (hn b hj).elim (fun h => s24 b h hi) (fun h => by have := (mrksR.rng h4 b hi).2; omega), fun b hj hi => (hn b hj).elim (fun h => s25 b h hi) (fun h => by have := (intsR.rng h5 b hi).2; omega), s34, s35, s45, fun b => Iff.rfl⟩, fun b hb => ?_⟩⟩
 rcases hb with hb | hb | hb | hb | hb
 ·
  exact .inl ((hF b).2 (.inl (hb)))
 ·
  exact (hn b hb).imp (fun h => (hF b).2 (.inr (.inl (h)))) id
 ·
  exact .inl ((hF b).2 (.inr (.inr (.inl (hb)))))
 ·
  exact .inl ((hF b).2 (.inr (.inr (.inr (.inl (hb))))))
 ·
  exact .inl ((hF b).2 (.inr (.inr (.inr (.inr (hb))))))
theorem shd_held {w : World} {base : Nat} {F : Nat → Prop} {u1 u2 u3 u4 u5 : Value} {d : Shd} (h : shdR.O w base F (.agg #[.int .i64 d.idx, u1, u2, u3, u4, u5]) d) :
  ∃ Fj, contsR.O w base Fj u3 d.held ∧ (∀ b, Fj b → F b) ∧ ∀ (w' : World) (Fj' : Nat → Prop) (v : Value) (ys : List Cont), contsR.O w' base Fj' v ys → Mod Fj w w' → (∀ b, Fj' b → Fj b ∨ w.heap.size ≤ b) →
   ∃ F', shdR.O w' base F' (.agg #[.int .i64 d.idx, u1, u2, v, u4, u5]) ⟨d.idx, d.bals, d.votes, ys, d.done, d.appl⟩ ∧ ∀ b, F' b → F b ∨ w.heap.size ≤ b := by
 obtain ⟨v1, v2, v3, v4, v5, F1, F2, F3, F4, F5, e, h1, h2, h3, h4, h5, s12, s13, s14, s15, s23, s24, s25, s34, s35, s45, hF⟩ := h
 simp only [Value.agg.injEq, Array.mk.injEq, List.cons.injEq, and_true, true_and] at e
 obtain ⟨rfl, rfl, rfl, rfl, rfl⟩ := e
 refine ⟨F3, h3, fun b hb => (hF b).2 (.inr (.inr (.inl (hb)))), fun w' Fj' v ys ho hm hn => ⟨fun b => F1 b ∨ F2 b ∨ Fj' b ∨ F4 b ∨ F5 b, ⟨_, _, _, _, _, F1, F2, Fj', F4, F5, rfl, balsR.mod h1 hm (fun b hb hj => s13 b hb hj), mrksR.mod h2 hm (fun b hb hj => s23 b hb hj), ho, mrksR.mod h4 hm (fun b hb hj => s34 b hj hb), intsR.mod h5 hm (fun b hb hj => s35 b hj hb), s12, fun b hi hj => (hn b hj).elim (fun h => s13 b hi h) (fun h => by have := (balsR.rng h1 b hi).2; omega), s14, s15, fun b hi hj => (hn b hj).elim (fun h => s23 b hi h) (fun h => by have := (mrksR.rng h2 b hi).2; omega), s24, s25, fun b hj hi => (hn b hj).elim (fun h => s34 b h hi) (fun h => by have := (mrksR.rng h4 b hi).2; omega), fun b hj hi => (hn b hj).elim (fun h => s35 b h hi) (fun h => by have := (intsR.rng h5 b hi).2; omega), s45, fun b => Iff.rfl⟩, fun b hb => ?_⟩⟩
 rcases hb with hb | hb | hb | hb | hb
 ·
  exact .inl ((hF b).2 (.inl (hb)))
 ·
  exact .inl ((hF b).2 (.inr (.inl (hb))))
 ·
  exact (hn b hb).imp (fun h => (hF b).2 (.inr (.inr (.inl (h))))) id
 ·
  exact .inl ((hF b).2 (.inr (.inr (.inr (.inl (hb))))))
 ·
  exact .inl ((hF b).2 (.inr (.inr (.inr (.inr (hb))))))
theorem shdR_of {w : World} {base : Nat} {F : Nat → Prop} {u1 u2 u3 u4 u5 : Value} {d : Shd} (c v : Int) (h : shdR.O w base F (.agg #[.int .i64 d.idx, u1, u2, u3, u4, u5]) d) : shdRR.O w base F (.agg #[.int .i64 c, .int .i64 v, .int .i64 d.idx, u1, u2, u3, u4, u5]) ⟨c, v, d⟩ :=
 ⟨_, _, _, _, _, F, rfl, h, fun _ => Iff.rfl⟩
theorem shd_formO {w : World} {base : Nat} {F : Nat → Prop} {v : Value} {x : Shd} (h : shdR.O w base F v x) : ∃ a1 a2 a3 a4 a5 c1 c2 c3 c4 c5, v = .agg #[.int .i64 x.idx, .slice a1 x.bals.length c1, .slice a2 x.votes.length c2, .slice a3 x.held.length c3, .slice a4 x.done.length c4, .slice a5 x.appl.length c5] := shd_form (shdR.ofO h)
theorem shd_nil (w : World) (base : Nat) : ∃ F, shdR.O w base F (.agg #[.int .i64 0, .slice none 0 0, .slice none 0 0, .slice none 0 0, .slice none 0 0, .slice none 0 0]) ⟨0, [], [], [], [], []⟩ :=
 ⟨fun _ => False, _, _, _, _, _, (fun _ => False), (fun _ => False), (fun _ => False), (fun _ => False), (fun _ => False), rfl, ⟨World.ownsRow_nil _ _ _ _, by funext b; simp [Value.ownBlock]⟩, ⟨World.ownsRow_nil _ _ _ _, by funext b; simp [Value.ownBlock]⟩, conts_nil w base, ⟨World.ownsRow_nil _ _ _ _, by funext b; simp [Value.ownBlock]⟩, ⟨World.ownsRow_nil _ _ _ _, by funext b; simp [Value.ownBlock]⟩, fun _ h _ => h, fun _ h _ => h, fun _ h _ => h, fun _ h _ => h, fun _ h _ => h, fun _ h _ => h, fun _ h _ => h, fun _ h _ => h, fun _ h _ => h, fun _ h _ => h, fun b => by simp⟩
theorem setR8 {α : Type} (R : Rep α) {W : World} {base B : Nat} {F : Nat → Prop} {v : Value} {x : α} (h : R.O W base F v x) (hB : ¬ F B) (u0 u1 u2 u3 u4 u5 u6 u7 : Value) :
  R.O ((((((((W.setCell ⟨B, 0, none⟩ u0).setCell ⟨B, 1, none⟩ u1).setCell ⟨B, 2, none⟩ u2).setCell ⟨B, 3, none⟩ u3).setCell ⟨B, 4, none⟩ u4).setCell ⟨B, 5, none⟩ u5).setCell ⟨B, 6, none⟩ u6).setCell ⟨B, 7, none⟩ u7) base F v x :=
 have hn : ∀ b, F b → ¬ (b = B) := fun b hb e => hB (e ▸ hb)
 R.mod (R.mod (R.mod (R.mod (R.mod (R.mod (R.mod (R.mod h (Mod.of_set W ⟨B, 0, none⟩ u0) hn) (Mod.of_set _ ⟨B, 1, none⟩ u1) hn) (Mod.of_set _ ⟨B, 2, none⟩ u2) hn) (Mod.of_set _ ⟨B, 3, none⟩ u3) hn) (Mod.of_set _ ⟨B, 4, none⟩ u4) hn) (Mod.of_set _ ⟨B, 5, none⟩ u5) hn) (Mod.of_set _ ⟨B, 6, none⟩ u6) hn) (Mod.of_set _ ⟨B, 7, none⟩ u7) hn
theorem setR6 {α : Type} (R : Rep α) {W : World} {base B : Nat} {F : Nat → Prop} {v : Value} {x : α} (h : R.O W base F v x) (hB : ¬ F B) (u0 u1 u2 u3 u4 u5 : Value) :
  R.O ((((((W.setCell ⟨B, 0, none⟩ u0).setCell ⟨B, 1, none⟩ u1).setCell ⟨B, 2, none⟩ u2).setCell ⟨B, 3, none⟩ u3).setCell ⟨B, 4, none⟩ u4).setCell ⟨B, 5, none⟩ u5) base F v x :=
 have hn : ∀ b, F b → ¬ (b = B) := fun b hb e => hB (e ▸ hb)
 R.mod (R.mod (R.mod (R.mod (R.mod (R.mod h (Mod.of_set W ⟨B, 0, none⟩ u0) hn) (Mod.of_set _ ⟨B, 1, none⟩ u1) hn) (Mod.of_set _ ⟨B, 2, none⟩ u2) hn) (Mod.of_set _ ⟨B, 3, none⟩ u3) hn) (Mod.of_set _ ⟨B, 4, none⟩ u4) hn) (Mod.of_set _ ⟨B, 5, none⟩ u5) hn
theorem setR1 {α : Type} (R : Rep α) {W : World} {base B o : Nat} {F : Nat → Prop} {v : Value} {x : α} (h : R.O W base F v x) (hB : ¬ F B) (u : Value) : R.O (W.setCell ⟨B, o, none⟩ u) base F v x :=
 have hn : ∀ b, F b → ¬ (b = B) := fun b hb e => hB (e ▸ hb)
 R.mod h (Mod.of_set W ⟨B, o, none⟩ u) hn
end Go.Proofs.YtndghenlapbaaaaGreat

/-
 slices.Insert of one slot into slots that own their memory.
-/
namespace Go.Proofs.YtndghenlapbaaaaGreat
open Go.RowKit Go.Shelf
variable [DecidableEq Mrk] [Inhabited Mrk] [DecidableEq Bal] [Inhabited Bal] [DecidableEq Ledg] [Inhabited Ledg] [DecidableEq Leg] [Inhabited Leg]

theorem run_copyM (w : World) (dT sT ty elem : TypeId) (sz g o dLen dCap : Nat) (a : Addr) (sLen sCap m : Nat) (cur : Array Value) (t : TypeId) (cs : List Value)
  (hu : Tryz.prog.underlying dT = some (.slice elem)) (hs : (Tryz.prog.info? elem).map (·.size) = some sz)
  (hg : w.heap[g]? = some (.cells cur t (0, 0))) (hm : Nat.min sLen dLen = m) (hn : cs.length = m * sz)
  (hsrc : ∀ j v, cs[j]? = some v → w.cell? (a.add j) = some v) (hfit : o + cs.length ≤ cur.size) (h1 : ∀ v ∈ cs, v.oneCell' = true) :
  (Builtin.copy_ #[dT, sT] ty #[.slice (some ⟨g, o, none⟩) dLen dCap, .slice (some a) sLen sCap]).run Tryz.prog w =
   .ok (goInt m) (w.setRow g (cur.toList.take o ++ cs ++ cur.toList.drop (o + cs.length)).toArray) := by
 have hl := run_loadCells_list (P := Tryz.prog) w a cs hsrc
 have hst := run_storeCells_at Tryz.prog g o t cs 0 cur w hg (by simpa using hfit) h1
 cases hq : Tryz.prog.info? elem with
 | none => simp [hq] at hs
 | some i =>
  have hi : i.size = sz := by simpa [hq] using hs
  rw [hn] at hl
  simp [Builtin.copy_, run_underlying hu, Builtin.lenOf, Builtin.firstCells, sizeOf, typeInfo, hq, hi, hm, hl, hst]
theorem wpl_copyM (w : World) {ops : Array Oper} {rest : List Oper} {o : Oper} {a : Act} {Q : Exit → Act → World → Prop} (hgd : o.guard = none) (d s : Operand) (t t' : TypeId)
  (ho : o.op = .call { callee := .builtin .copy, args := #[d, s], argTypes := #[t, t'] }) (v u : Value) (hd : a.eval d = v) (hs : a.eval s = u) {v' : Value} {w' : World}
  (hr : (Builtin.copy_ #[t, t'] o.type #[v, u]).run Tryz.prog w = .ok v' w') (h : wpList Tryz.prog ops Q rest (a.put o.dst v') w') : wpList Tryz.prog ops Q (o :: rest) a w := by
 refine wpList_plain hgd fun K hK => ?_
 unfold Oper.wp execOp
 simp only [ho, resolve, invoke, builtin, Sem.run_bind, Sem.run_pure, Result.andThen_ok, List.map_toArray, List.map_cons, List.map_nil, hd, hs, hr]
 exact hK _ _ h
theorem step_copyM {ops : Array Oper} {o : Oper} {a : Act} {w : World} {K : Act → World → Prop} {Q : Exit → Act → World → Prop} {E : Prop} (hgd : o.guard = none) (d s : Operand) (t t' : TypeId)
  (ho : o.op = .call { callee := .builtin .copy, args := #[d, s], argTypes := #[t, t'] }) (v u : Value) (hd : a.eval d = v) (hs : a.eval s = u) {v' : Value} {w' : World}
  (hr : (Builtin.copy_ #[t, t'] o.type #[v, u]).run Tryz.prog w = .ok v' w') (hK : K (a.put o.dst v') w') :
  if Region.wanted o (yielded ops a.tmps) = true then Oper.wp Tryz.prog o a w K Q else E := by
 have hw : Region.wanted o (yielded ops a.tmps) = true := by simp [Region.wanted, hgd]
 rw [if_pos hw]
 unfold Oper.wp execOp
 simp only [ho, resolve, invoke, builtin, Sem.run_bind, Sem.run_pure, Result.andThen_ok, List.map_toArray, List.map_cons, List.map_nil, hd, hs, hr]
 exact hK
theorem mod_setRowM (w : World) (g : Nat) (cs : Array Value) : Mod (fun b => b = g) w (w.setRow g cs) :=
 ⟨rfl, rfl, rfl, by simp [World.setRow], fun k _ hn => setRow_other w g k cs hn⟩
theorem addr_addM (b o j : Nat) : (⟨b, o, none⟩ : Addr).add j = ⟨b, o + j, none⟩ := by
 by_cases hj0 : j = 0
 ·
  subst hj0; simp [Addr.add]
 ·
  simp [Addr.add, hj0]
theorem cell_rowM {w : World} {g j : Nat} {cur : Array Value} {t : TypeId} {fr : Nat × Nat} {v : Value} (hg : w.heap[g]? = some (.cells cur t fr)) (h : cur.toList[j]? = some v) : w.cell? ⟨g, j, none⟩ = some v := by
 have : cur[j]? = some v := by rw [← Array.getElem?_toList]; exact h
 simp [World.cell?, hg, this]
theorem heap_newM (w : World) (o : Obj) : (w.alloc o).heap[w.heap.size]? = some o := by
 show (w.heap.push o)[w.heap.size]? = some o
 simp [Array.getElem?_push]
theorem shift_rowM {cur cs vs : List Value} {k m : Nat} (hk : k ≤ cs.length) (hc : cur.take cs.length = cs) (hl : cs.length + m ≤ cur.length) (hv : vs.length = m) :
  ((((cur.take (k + m) ++ cs.drop k ++ cur.drop (k + m + (cs.drop k).length)).take k ++ vs ++ (cur.take (k + m) ++ cs.drop k ++ cur.drop (k + m + (cs.drop k).length)).drop (k + vs.length)).length = cur.length) ∧
  ((cur.take (k + m) ++ cs.drop k ++ cur.drop (k + m + (cs.drop k).length)).take k ++ vs ++ (cur.take (k + m) ++ cs.drop k ++ cur.drop (k + m + (cs.drop k).length)).drop (k + vs.length)).take (cs.length + m) = cs.take k ++ vs ++ cs.drop k) := by
 subst hv
 have h1 : (cur.take (k + vs.length) ++ cs.drop k ++ cur.drop (k + vs.length + (cs.drop k).length)).take k = cs.take k := by
  rw [List.append_assoc, List.take_append_of_le_length (by rw [List.length_take]; omega), List.take_take]
  conv => rhs; rw [← hc, List.take_take]
  congr 1
  omega
 have h2 : (cur.take (k + vs.length) ++ cs.drop k ++ cur.drop (k + vs.length + (cs.drop k).length)).drop (k + vs.length) = cs.drop k ++ cur.drop (k + vs.length + (cs.drop k).length) := by
  rw [List.append_assoc, List.drop_append_of_le_length (by rw [List.length_take]; omega), List.drop_take]
  simp
 rw [h1, h2]
 have hd : (cs.drop k).length = cs.length - k := List.length_drop ..
 constructor
 ·
  simp only [List.length_append, List.length_take, List.length_drop]
  omega
 ·
  rw [← List.append_assoc, List.take_append_of_le_length (by simp only [List.length_append, List.length_take, List.length_drop]; omega), List.take_of_length_le (by simp only [List.length_append, List.length_take, List.length_drop]; omega)]
set_option maxHeartbeats 4000000 in
set_option maxRecDepth 100000 in
theorem insertM_shift (g n c i vb : Nat) (cs vs : List Value) (cur : Array Value) (w : World) (hg : w.heap[g]? = some (.cells cur 89 (0, 0))) (hi : i < n) (hroom : n + 1 ≤ c) (hc63 : c ≤ 9223372036854775807) (hvb : vb ≠ g)
  (hcur : cur.size = c * 2) (hcl : cs.length = n * 2) (ht : cur.toList.take (n * 2) = cs) (hvl : vs.length = 2) (hv : w.heap[vb]? = some (.cells vs.toArray 89 (0, 0))) (h1c : ∀ v ∈ cs, v.oneCell' = true) (h1v : ∀ v ∈ vs, v.oneCell' = true) :
  Calls Tryz.prog 110 #[.slice (some ⟨g, 0, none⟩) n c, .int .i64 i, .slice (some ⟨vb, 0, none⟩) 1 1] w fun e w' =>
   e = .returned (.slice (some ⟨g, 0, none⟩) (n + 1) c) ∧ ∃ cur' : Array Value, w'.heap[g]? = some (.cells cur' 89 (0, 0)) ∧ cur'.size = c * 2 ∧ cur'.toList.take ((n + 1) * 2) = cs.take (i * 2) ++ vs ++ cs.drop (i * 2) ∧ Mod (fun b => b = g) w w' := by
 have hz2 : ¬ ((i : Int) = (n : Int)) := by omega
 have hsz : (Tryz.prog.info? 89).map (·.size) = some 2 := by
  obtain ⟨i0, hi0, _, h1, _⟩ := info_parts infoMrk
  rw [hi0]; simp [h1]
 have hzz : ∀ w, (Go.sizeOf 89).run Tryz.prog w = .ok 2 w := fun w => by
  obtain ⟨i0, hi0, _, h1, _⟩ := info_parts infoMrk
  simp [sizeOf, typeInfo, hi0, h1]
 have hov : ∀ lb cb, (callFunc 139 #[.slice (some ⟨vb, 0, none⟩) 1 1, .slice (some ⟨g, (i + 1) * 2, none⟩) lb cb]).run Tryz.prog w = .ok (.value (.bool false)) w := fun lb cb => by
  rw [run_callFunc_extern Tryz.func139 (by kernel_rfl) (by kernel_rfl) (by kernel_rfl) (e := Extern.SlicesOverlaps.overlaps #[34, 34] #[4]) (by kernel_rfl),
   Lib.run_overlaps_apart w 34 4 89 Tryz.underlying34 2 hzz ⟨vb, 0, none⟩ ⟨g, (i + 1) * 2, none⟩ 1 1 lb cb hvb 89 89 2 (c * 2) (by simp [World.shape?, hv, hvl]) (by simp [World.shape?, hg, hcur]) (by omega) (by simp [World.frozen?, hv]) (by simp [World.frozen?, hv])]
  rfl
 have hdl : (cs.drop (i * 2)).length = (n - i) * 2 := by rw [List.length_drop, hcl]; omega
 have hb1 : (0 : Int) ≤ (i : Int) + 1 := by omega
 have hw1 : IntKind.i64.wrap ((i : Int) + 1) = (i : Int) + 1 := by rw [IntKind.wrap_i64]; omega
 have htn : ((i : Int) + 1).toNat = i + 1 := by omega
 have hin : i ≤ n := by omega
 have hb2 : ¬ (c = i + 1) := by omega
 have hb3 : (i : Int) ≤ (n : Int) + 1 := by omega
 have hb4 : ¬ (c = i) := by omega
 obtain ⟨A1, hA1⟩ : ∃ A1 : Array Value, A1 = (cur.toList.take ((i + 1) * 2) ++ cs.drop (i * 2) ++ cur.toList.drop ((i + 1) * 2 + (cs.drop (i * 2)).length)).toArray := ⟨_, rfl⟩
 have hcp1 : ∀ ty dl dc sl sc, dl = n - i → sl = n + 1 - i → (Builtin.copy_ #[34, 34] ty #[.slice (some ⟨g, (i + 1) * 2, none⟩) dl dc, .slice (some ⟨g, i * 2, none⟩) sl sc]).run Tryz.prog w.drew = .ok (goInt ((n - i : Nat) : Int)) (w.drew.setRow g A1) := fun ty dl dc sl sc e1 e2 => by
  rw [hA1]
  refine run_copyM w.drew _ _ ty 89 2 g ((i + 1) * 2) dl dc ⟨g, i * 2, none⟩ sl sc (n - i) cur 89 (cs.drop (i * 2)) Tryz.underlying34 hsz hg (by simp only [Nat.min_def]; split <;> omega) hdl (fun j v hj => ?_) (by rw [hdl, hcur]; omega) (fun v hv => h1c v (List.mem_of_mem_drop hv))
  rw [addr_addM]
  refine cell_rowM hg ?_
  rw [List.getElem?_drop, ← ht, List.getElem?_take] at hj
  split at hj
  ·
   exact hj
  ·
   cases hj
 have hA1s : A1.size = c * 2 := by
  rw [hA1]
  simp only [List.size_toArray, List.length_append, List.length_take, List.length_drop, Array.length_toList]
  rw [hcl]
  omega
 have hg1 : (w.drew.setRow g A1).heap[g]? = some (.cells A1 89 (0, 0)) := setRow_heap w.drew g cur A1 _ _ hg
 have hv1 : (w.drew.setRow g A1).heap[vb]? = some (.cells vs.toArray 89 (0, 0)) := (setRow_other w.drew g vb A1 hvb).trans hv
 obtain ⟨W1, hW1⟩ : ∃ W1, W1 = w.drew.setRow g A1 := ⟨_, rfl⟩
 rw [← hW1] at hg1 hv1 hcp1
 have hm1 : Mod (fun b => b = g) w W1 := by
  rw [hW1]
  exact (Mod.of_below (Below.drew (Below.refl _ _))).trans (mod_setRowM _ _ _)
 obtain ⟨A2, hA2⟩ : ∃ A2 : Array Value, A2 = (A1.toList.take (i * 2) ++ vs ++ A1.toList.drop (i * 2 + vs.length)).toArray := ⟨_, rfl⟩
 have hcp2 : ∀ (W : World), W.heap[g]? = some (.cells A1 89 (0, 0)) → W.heap[vb]? = some (.cells vs.toArray 89 (0, 0)) → ∀ ty dc, (Builtin.copy_ #[34, 34] ty #[.slice (some ⟨g, i * 2, none⟩) (n + 1 - i) dc, .slice (some ⟨vb, 0, none⟩) 1 1]).run Tryz.prog W = .ok (goInt 1) (W.setRow g A2) := fun W hW1 hW2 ty dc => by
  rw [hA2]
  refine run_copyM W _ _ ty 89 2 g (i * 2) (n + 1 - i) dc ⟨vb, 0, none⟩ 1 1 1 A1 89 vs Tryz.underlying34 hsz hW1 (by simp only [Nat.min_def]; split <;> omega) (by omega) (fun j v hj => ?_) (by rw [hvl, hA1s]; omega) h1v
  rw [addr_addM]
  exact cell_rowM hW2 (by simpa using hj)
 have hfin : A2.size = c * 2 ∧ A2.toList.take ((n + 1) * 2) = cs.take (i * 2) ++ vs ++ cs.drop (i * 2) := by
  have h := shift_rowM (cur := cur.toList) (cs := cs) (vs := vs) (k := i * 2) (m := 2) (by rw [hcl]; omega) (by rw [hcl]; exact ht) (by rw [hcl, Array.length_toList, hcur]; omega) hvl
  rw [hA2, hA1]
  rw [show (i + 1) * 2 = i * 2 + 2 by omega, show (n + 1) * 2 = cs.length + 2 by rw [hcl]; omega]
  refine ⟨?_, h.2⟩
  rw [List.size_toArray]
  have h1 := h.1
  have h2 : cur.toList.length = c * 2 := by rw [Array.length_toList, hcur]
  rw [h2] at h1
  exact h1
 clear hA1 hA2 hW1
 have HF : Hid (A2.size = c * 2 ∧ A2.toList.take ((n + 1) * 2) = cs.take (i * 2) ++ vs ++ cs.drop (i * 2)) := hfin
 clear hfin
 go_enter Tryz.func110, Tryz.ntmps110
 go_wp2_with (simp only [hov])
 go_region_law (refine step_copyM rfl (.tmp 73) (.tmp 76) 34 34 rfl _ _ (by simp [Act.eval, Act.put]) (by simp [Act.eval, Act.put]) (hcp1 _ _ _ _ _ (by omega) (by omega)) ?_)
 go_wp2_with (at_builtin; refine wpl_copyM _ rfl _ _ 34 34 rfl _ _ rfl rfl (hcp2 _ hg1 hv1 _ _) ?_)
 go_ret
 refine ⟨rfl, A2, setRow_heap _ g A1 A2 _ _ hg1, HF.out.1, HF.out.2, hm1.trans (mod_setRowM _ _ _)⟩
end Go.Proofs.YtndghenlapbaaaaGreat

/-
 slices.Insert at the end.
-/
namespace Go.Proofs.YtndghenlapbaaaaGreat
open Go.RowKit Go.Shelf
variable [DecidableEq Mrk] [Inhabited Mrk] [DecidableEq Bal] [Inhabited Bal] [DecidableEq Ledg] [Inhabited Ledg] [DecidableEq Leg] [Inhabited Leg]

set_option maxHeartbeats 4000000 in
set_option maxRecDepth 100000 in
theorem insertM_end (base : Nat) (v : Value) (n vb : Nat) (cs vs : List Value) (w : World) (hown : w.ownsRow base 89 2 v n cs) (hn : n ≤ 1048576) (hbase : base ≤ w.heap.size)
  (hvl : vs.length = 2) (hv : w.heap[vb]? = some (.cells vs.toArray 89 (0, 0))) (h1v : ∀ v ∈ vs, v.oneCell' = true) :
  Calls Tryz.prog 110 #[v, .int .i64 n, .slice (some ⟨vb, 0, none⟩) 1 1] w fun e w' =>
   ∃ v', e = .returned v' ∧ w'.ownsRow base 89 2 v' (n + 1) (cs ++ vs) ∧ w.grownBy w' v.ownBlock ∧ (v'.ownBlock = v.ownBlock ∨ v'.ownBlock = some w.heap.size) := by
 obtain ⟨i0, hi, hz0, hz1, hz2⟩ := info_parts infoMrk
 have HV : Hid (∀ j u, vs[j]? = some u → w.cell? ((⟨vb, 0, none⟩ : Addr).add j) = some u) := fun j u hj => by
  rw [addr_addM]
  exact cell_rowM hv (by simpa using hj)
 obtain ⟨a, c, rfl⟩ := owns_form hown
 have hnc : n ≤ c := by
  rcases hown.2 with ⟨_, h⟩ | ⟨g, cap, cur, h, _, _, h2, _⟩
  ·
   omega
  ·
   simp only [Value.slice.injEq] at h; omega
 have hcm : c ≤ 9223372036854775807 := by
  rcases hown.2 with ⟨h, _⟩ | ⟨g, cap, cur, h, _, _, h2, h3, _⟩
  ·
   simp only [Value.slice.injEq] at h; omega
  ·
   simp only [Value.slice.injEq] at h; unfold maxLen at h3; omega
 rcases Nat.eq_or_lt_of_le hnc with rfl | h0
 all_goals
  try (have hck : ¬ c = n := by omega)
  go_enter Tryz.func110, Tryz.ntmps110
  go_wp2_with (at_builtin; refine wpList_append_own_at w rfl (.tmp 23) (.tmp 24) 34 rfl base 89 i0 _ 2 16 Tryz.underlying34 hi hz0 hz1 hz2 rfl (by decide) _ n cs rfl hown ⟨vb, 0, none⟩ 1 1 vs rfl hvl HV.out h1v ?_ ?_ hbase ?_)
  ·
   unfold maxLen; omega
  ·
   omega
  intro v' w' h1 h2 h3 h4
  obtain ⟨a', c', rfl⟩ := owns_form h1
  go_wp2
  go_ret
  exact ⟨_, rfl, h1, h2, h4⟩
end Go.Proofs.YtndghenlapbaaaaGreat

/-
 slices.Insert where there is no room.
-/
namespace Go.Proofs.YtndghenlapbaaaaGreat
open Go.RowKit Go.Shelf
variable [DecidableEq Mrk] [Inhabited Mrk] [DecidableEq Bal] [Inhabited Bal] [DecidableEq Ledg] [Inhabited Ledg] [DecidableEq Leg] [Inhabited Leg]

set_option maxHeartbeats 4000000 in
set_option maxRecDepth 100000 in
theorem insertM_grow (g n c i vb : Nat) (cs vs : List Value) (w : World) (hi : i < n) (hnc : n ≤ c) (hroom : c < n + 1) (hbig : n ≤ 1048576)
  (hcl : cs.length = n * 2) (hcs : ∀ j v, cs[j]? = some v → w.cell? ⟨g, j, none⟩ = some v) (hvl : vs.length = 2) (hv : w.heap[vb]? = some (.cells vs.toArray 89 (0, 0))) (h1c : ∀ v ∈ cs, v.oneCell' = true) (h1v : ∀ v ∈ vs, v.oneCell' = true) :
  Calls Tryz.prog 110 #[.slice (some ⟨g, 0, none⟩) n c, .int .i64 i, .slice (some ⟨vb, 0, none⟩) 1 1] w fun e w' =>
   ∃ G, e = .returned (.slice (some ⟨w.heap.size, 0, none⟩) (n + 1) G) ∧ ∃ cur' : Array Value, w'.heap[w.heap.size]? = some (.cells cur' 89 (0, 0)) ∧ n + 1 ≤ G ∧ G ≤ maxLen ∧ cur'.size = G * 2 ∧ cur'.toList.take ((n + 1) * 2) = cs.take (i * 2) ++ vs ++ cs.drop (i * 2) ∧ Mod (fun _ => False) w w' := by
 obtain ⟨i0, hi0, hz0, hzs, hzb⟩ := info_parts infoMrk
 have hsz : (Tryz.prog.info? 89).map (·.size) = some 2 := by rw [hi0]; simp [hzs]
 have hz2 : ¬ ((i : Int) = (n : Int)) := by omega
 have hz3 : (c : Int) < (n : Int) + 1 := by omega
 have hgw : g < w.heap.size := wL w ⟨g, 0, none⟩ (hcs 0 _ (List.getElem?_eq_getElem (by omega)))
 have hvw : vb < w.heap.size := (Array.getElem?_eq_some_iff.1 hv).1
 have hkk : (n : Int) + 1 - (i : Int) = ((n + 1 - i : Nat) : Int) := by omega
 have hik : i + (n + 1 - i) = n + 1 := by omega
 obtain ⟨Z, hZ⟩ : ∃ Z : Value, Z = .agg #[.int .i64 0, .int .i64 0] := ⟨_, rfl⟩
 rw [← hZ] at hz0
 have hZs : Z.cells.size = 2 := by rw [hZ]; rfl
 have hold : (Builtin.firstCells i0.size i (.slice (some ⟨g, 0, none⟩) i c)).run Tryz.prog w.drew = .ok (cs.take (i * 2)).toArray w.drew := by
  rw [hzs]
  exact run_firstCells_some w.drew 2 i ⟨g, 0, none⟩ i c (cs.take (i * 2)) (by rw [List.length_take]; omega) (fun j v hj => by
   rw [addr_addM, Nat.zero_add]
   rw [List.getElem?_take] at hj
   split at hj
   ·
    exact hcs j v hj
   ·
    cases hj)
 have hrz : ∀ ty, (Builtin.append_ #[34, 3] ty #[.slice (some ⟨g, 0, none⟩) i c, .int .i64 ((n : Int) + 1 - (i : Int))]).run Tryz.prog w =
   .ok (.slice (some ⟨w.heap.size, 0, none⟩) (n + 1) (grownCap w (n + 1) c 89)) (w.drew.alloc (.cells ((cs.take (i * 2)).toArray ++ Builtin.zeroCells Z.cells (n + 1 - i) ++ Builtin.zeroCells Z.cells (grownCap w (n + 1) c 89 - (n + 1))) 89)) := fun ty => by
  have h := Lib.run_append_grow_zeros w 34 3 ty 89 i0 _ .i64 .i64 Tryz.underlying34 Tryz.underlying3 hi0 hz0 (some ⟨g, 0, none⟩) i c (cs.take (i * 2)) hold (n + 1 - i) (by omega) (by omega) (by omega) (by omega) (by rw [hzb]; omega) (by rw [hzb, hik]; exact growslice_fits hroom (by omega))
  rw [hik] at h
  rw [hkk]
  exact h
 obtain ⟨G, hG⟩ : ∃ G, G = grownCap w (n + 1) c 89 := ⟨_, rfl⟩
 obtain ⟨ROW, hROW⟩ : ∃ ROW : Array Value, ROW = (cs.take (i * 2)).toArray ++ Builtin.zeroCells Z.cells (n + 1 - i) ++ Builtin.zeroCells Z.cells (G - (n + 1)) := ⟨_, rfl⟩
 rw [← hG] at hrz
 rw [← hROW] at hrz
 have hGn : n + 1 ≤ G := by rw [hG]; exact grownCap_ge w _ _ _
 have hGm : G ≤ maxLen := by
  rw [hG]
  exact grownCap_le_maxLen w (n + 1) c 89 (by unfold maxLen; omega)
 have hRl : ROW.size = G * 2 := by
  rw [hROW]
  simp [Builtin.zeroCells, hZs, List.length_take, hcl]
  omega
 have hR1 : ROW.toList.take (i * 2) = cs.take (i * 2) := by
  rw [hROW]
  simp only [Array.toList_append, List.append_assoc]
  rw [List.take_append_of_le_length (by simp [hcl]; omega)]
  rw [List.take_of_length_le (by simp; omega)]
 obtain ⟨W1, hW1⟩ : ∃ W1, W1 = w.drew.alloc (.cells ROW 89) := ⟨_, rfl⟩
 rw [← hW1] at hrz
 have hg1 : W1.heap[w.heap.size]? = some (.cells ROW 89 (0, 0)) := by rw [hW1]; exact heap_newM w.drew _
 have hm1 : Mod (fun b => b = w.heap.size) w W1 := by
  rw [hW1]
  exact (Mod.of_below (Below.drew (Below.refl _ _))).trans ((Mod.refl _ _).alloc _)
 have hv1 : W1.heap[vb]? = some (.cells vs.toArray 89 (0, 0)) := (hm1.block vb hvw (by omega)).trans hv
 have hcs1 : ∀ j v, cs[j]? = some v → W1.cell? ⟨g, j, none⟩ = some v := fun j v hj => hm1.cell (hcs j v hj) (by dsimp only; omega)
 obtain ⟨A1, hA1⟩ : ∃ A1 : Array Value, A1 = (ROW.toList.take (i * 2) ++ vs ++ ROW.toList.drop (i * 2 + vs.length)).toArray := ⟨_, rfl⟩
 have hcpA : ∀ (W : World), W.heap[w.heap.size]? = some (.cells ROW 89 (0, 0)) → W.heap[vb]? = some (.cells vs.toArray 89 (0, 0)) → ∀ ty dc, (Builtin.copy_ #[34, 34] ty #[.slice (some ⟨w.heap.size, i * 2, none⟩) (n + 1 - i) dc, .slice (some ⟨vb, 0, none⟩) 1 1]).run Tryz.prog W = .ok (goInt 1) (W.setRow w.heap.size A1) := fun W hWa hWb ty dc => by
  rw [hA1]
  refine run_copyM W _ _ ty 89 2 w.heap.size (i * 2) (n + 1 - i) dc ⟨vb, 0, none⟩ 1 1 1 ROW 89 vs Tryz.underlying34 hsz hWa (by simp only [Nat.min_def]; split <;> omega) (by omega) (fun j v hj => ?_) (by rw [hvl, hRl]; omega) h1v
  rw [addr_addM]
  exact cell_rowM hWb (by simpa using hj)
 have hA1s : A1.size = G * 2 := by
  rw [hA1]
  simp only [List.size_toArray, List.length_append, List.length_take, List.length_drop, Array.length_toList]
  rw [hRl, hvl]
  omega
 have hdl : (cs.drop (i * 2)).length = (n - i) * 2 := by rw [List.length_drop, hcl]; omega
 obtain ⟨A2, hA2⟩ : ∃ A2 : Array Value, A2 = (A1.toList.take ((i + 1) * 2) ++ cs.drop (i * 2) ++ A1.toList.drop ((i + 1) * 2 + (cs.drop (i * 2)).length)).toArray := ⟨_, rfl⟩
 have hcpB : ∀ (W : World), W.heap[w.heap.size]? = some (.cells A1 89 (0, 0)) → (∀ j v, cs[j]? = some v → W.cell? ⟨g, j, none⟩ = some v) → ∀ ty dl dc sl sc, dl = n - i → sl = n - i → (Builtin.copy_ #[34, 34] ty #[.slice (some ⟨w.heap.size, (i + 1) * 2, none⟩) dl dc, .slice (some ⟨g, i * 2, none⟩) sl sc]).run Tryz.prog W = .ok (goInt ((n - i : Nat) : Int)) (W.setRow w.heap.size A2) := fun W hWa hWc ty dl dc sl sc e1 e2 => by
  rw [hA2]
  refine run_copyM W _ _ ty 89 2 w.heap.size ((i + 1) * 2) dl dc ⟨g, i * 2, none⟩ sl sc (n - i) A1 89 (cs.drop (i * 2)) Tryz.underlying34 hsz hWa (by simp only [Nat.min_def]; split <;> omega) hdl (fun j v hj => ?_) (by rw [hdl, hA1s]; omega) (fun v hv => h1c v (List.mem_of_mem_drop hv))
  rw [addr_addM]
  rw [List.getElem?_drop] at hj
  exact hWc _ v hj
 have hfin : A2.size = G * 2 ∧ A2.toList.take ((n + 1) * 2) = cs.take (i * 2) ++ vs ++ cs.drop (i * 2) := by
  have hA1t : A1.toList.take ((i + 1) * 2) = cs.take (i * 2) ++ vs := by
   rw [hA1, hR1]
   simp only []
   rw [List.take_append_of_le_length (by simp only [List.length_append, List.length_take, hcl, hvl]; omega), List.take_of_length_le (by simp only [List.length_append, List.length_take, hcl, hvl]; omega)]
  constructor
  ·
   rw [hA2]
   simp only [List.size_toArray, List.length_append, List.length_take, List.length_drop, Array.length_toList]
   rw [hA1s, hcl]
   omega
  ·
   rw [hA2, hA1t]
   simp only []
   rw [List.take_append_of_le_length (by simp only [List.length_append, List.length_take, List.length_drop, hcl, hvl]; omega), List.take_of_length_le (by simp only [List.length_append, List.length_take, List.length_drop, hcl, hvl]; omega)]
 have HF : Hid (A2.size = G * 2 ∧ A2.toList.take ((n + 1) * 2) = cs.take (i * 2) ++ vs ++ cs.drop (i * 2)) := hfin
 have HG : Hid (n + 1 ≤ G ∧ G ≤ maxLen) := ⟨hGn, hGm⟩
 have HM : Hid (Mod (fun b => b = w.heap.size) w W1) := hm1
 have hG63 : G ≤ 9223372036854775807 := by unfold maxLen at hGm; omega
 clear hfin hA1 hA2 hW1 hROW hG hold hRl hR1 hGm hm1 hkk hik hi0 hz0 hZ hZs hzs hzb
 have hGi : ¬ (G = i) := by omega
 have hGim : ¬ (G = i + 1) := by omega
 have hci : ¬ (c = i) := by omega
 have hw1 : IntKind.i64.wrap ((i : Int) + 1) = (i : Int) + 1 := by rw [IntKind.wrap_i64]; omega
 have htn : ((i : Int) + 1).toNat = i + 1 := by omega
 have hb1 : (0 : Int) ≤ (i : Int) + 1 := by omega
 have hin : i ≤ n := by omega
 have hb3 : (i : Int) ≤ (n : Int) := by omega
 have hb5 : (i : Int) ≤ (n : Int) + 1 := by omega
 have hb6 : (i : Int) + 1 ≤ (n : Int) + 1 := by omega
 obtain ⟨N, hN⟩ : ∃ N, N = w.heap.size := ⟨_, rfl⟩
 rw [← hN] at hrz hg1 hcpA hcpB ⊢
 have HN : Hid (N = w.heap.size) := hN
 clear hN
 have hg2 : (W1.setRow N A1).heap[N]? = some (.cells A1 89 (0, 0)) := setRow_heap W1 N ROW A1 _ _ hg1
 have hcs2 : ∀ j v, cs[j]? = some v → (W1.setRow N A1).cell? ⟨g, j, none⟩ = some v := fun j v hj => (mod_setRowM W1 N A1).cell (hcs1 j v hj) (by dsimp only; have := HN.out; omega)
 obtain ⟨W2, hW2⟩ : ∃ W2, W2 = W1.setRow N A1 := ⟨_, rfl⟩
 rw [← hW2] at hg2 hcs2
 have HM2 : Hid (Mod (fun b => b = N) w W2) := by
  rw [Hid, hW2, HN.out]
  exact HM.out.trans (mod_setRowM _ _ _)
 have hcpA' := hcpA W1 hg1 hv1
 rw [← hW2] at hcpA'
 clear hW2 hcpA
 have hcpB' := hcpB W2.drew hg2 hcs2
 clear hcpB
 have hg3 : (W2.drew.setRow N A2).heap[N]? = some (.cells A2 89 (0, 0)) := setRow_heap W2.drew N A1 A2 _ _ hg2
 obtain ⟨W3, hW3⟩ : ∃ W3, W3 = W2.drew.setRow N A2 := ⟨_, rfl⟩
 rw [← hW3] at hg3 hcpB'
 have HM3 : Hid (Mod (fun _ => False) w W3) := by
  have h : Mod (fun b => b = N) w W3 := by
   rw [hW3]
   exact (HM2.out.trans (Mod.of_below (Below.drew (Below.refl _ _)))).trans (mod_setRowM _ _ _)
  exact ⟨h.os, h.tape, h.output, h.size, fun k hk _ => h.block k hk (by have := HN.out; omega)⟩
 clear hW3
 go_enter Tryz.func110, Tryz.ntmps110
 go_wp2_with (first
  | (at_builtin; refine Lib.wpList_append_run _ rfl _ _ _ _ rfl _ _ rfl rfl _ _ (hrz _) ?_)
  | (at_builtin; refine wpl_copyM _ rfl _ _ 34 34 rfl _ _ rfl rfl (hcpA' _ _) ?_))
 go_region_law (refine step_copyM rfl (.tmp 50) (.tmp 53) 34 34 rfl _ _ (by simp [Act.eval, Act.put]) (by simp [Act.eval, Act.put]) (hcpB' _ _ _ _ _ (by omega) (by omega)) ?_)
 go_wp2
 go_ret
 exact ⟨G, rfl, A2, hg3, HG.out.1, HG.out.2, HF.out.1, HF.out.2, HM3.out⟩
end Go.Proofs.YtndghenlapbaaaaGreat


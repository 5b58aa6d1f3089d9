/-
  slices.Insert of one row into rows that own their memory.
-/
import Derived.Test.YtdfapehonegeeaaPutA
import Derived.Laws.CopyRow
import Derived.Laws.Externs
import Derived.Lib.Overlaps
import Derived.Lib.AppendZerosOnto
import Derived.Deep.RegionLaw
namespace Go.Proofs.Ytdfapehonegeeaa
open Go.RowKit Go.Shelf
set_option linter.unusedSectionVars false
variable [DecidableEq Rw] [Inhabited Rw] [DecidableEq TabR] [Inhabited TabR]
set_option linter.unusedVariables false
set_option linter.unusedSimpArgs false

/-- copy between rows whose elements have several cells -/
theorem run_copyN (w : World) (dT sT ty elem : TypeId) (sz g o dLen dCap : Nat) (a : Addr) (sLen sCap m : Nat) (cur : Array Value) (t : TypeId) (cs : List Value)
    (hu : Try.prog.underlying dT = some (.slice elem)) (hs : (Try.prog.info? elem).map (·.size) = some sz)
    (hg : w.heap[g]? = some (.cells cur t (0, 0))) (hm : Nat.min sLen dLen = m) (hn : cs.length = m * sz)
    (hsrc : ∀ j v, cs[j]? = some v → w.cell? (a.add j) = some v) (hfit : o + cs.length ≤ cur.size) (h1 : ∀ v ∈ cs, v.oneCell' = true) :
    (Builtin.copy_ #[dT, sT] ty #[.slice (some ⟨g, o, none⟩) dLen dCap, .slice (some a) sLen sCap]).run Try.prog w =
      .ok (goInt m) (w.setRow g (cur.toList.take o ++ cs ++ cur.toList.drop (o + cs.length)).toArray) := by
  have hl := run_loadCells_list (P := Try.prog) w a cs hsrc
  have hst := run_storeCells_at Try.prog g o t cs 0 cur w hg (by simpa using hfit) h1
  cases hq : Try.prog.info? elem with
  | none => simp [hq] at hs
  | some i =>
    have hi : i.size = sz := by simpa [hq] using hs
    rw [hn] at hl
    simp [Builtin.copy_, run_underlying hu, Builtin.lenOf, Builtin.firstCells, sizeOf, typeInfo, hq, hi, hm, hl, hst]
theorem wpl_copyN (w : World) {ops : Array Oper} {rest : List Oper} {o : Oper} {a : Act} {Q : Exit → Act → World → Prop} (hgd : o.guard = none) (d s : Operand) (t t' : TypeId)
    (ho : o.op = .call { callee := .builtin .copy, args := #[d, s], argTypes := #[t, t'] }) (v u : Value) (hd : a.eval d = v) (hs : a.eval s = u) {v' : Value} {w' : World}
    (hr : (Builtin.copy_ #[t, t'] o.type #[v, u]).run Try.prog w = .ok v' w') (h : wpList Try.prog ops Q rest (a.put o.dst v') w') : wpList Try.prog ops Q (o :: rest) a w := by
  refine wpList_plain hgd fun K hK => ?_
  unfold Oper.wp execOp
  simp only [ho, resolve, invoke, builtin, Sem.run_bind, Sem.run_pure, Result.andThen_ok, List.map_toArray, List.map_cons, List.map_nil, hd, hs, hr]
  exact hK _ _ h
theorem step_copyN {ops : Array Oper} {o : Oper} {a : Act} {w : World} {K : Act → World → Prop} {Q : Exit → Act → World → Prop} {E : Prop} (hgd : o.guard = none) (d s : Operand) (t t' : TypeId)
    (ho : o.op = .call { callee := .builtin .copy, args := #[d, s], argTypes := #[t, t'] }) (v u : Value) (hd : a.eval d = v) (hs : a.eval s = u) {v' : Value} {w' : World}
    (hr : (Builtin.copy_ #[t, t'] o.type #[v, u]).run Try.prog w = .ok v' w') (hK : K (a.put o.dst v') w') :
    if Region.wanted o (yielded ops a.tmps) = true then Oper.wp Try.prog o a w K Q else E := by
  have hw : Region.wanted o (yielded ops a.tmps) = true := by simp [Region.wanted, hgd]
  rw [if_pos hw]
  unfold Oper.wp execOp
  simp only [ho, resolve, invoke, builtin, Sem.run_bind, Sem.run_pure, Result.andThen_ok, List.map_toArray, List.map_cons, List.map_nil, hd, hs, hr]
  exact hK

theorem mod_setRow (w : World) (g : Nat) (cs : Array Value) : Mod (fun b => b = g) w (w.setRow g cs) :=
  ⟨rfl, rfl, rfl, by simp [World.setRow], fun k _ hn => setRow_other w g k cs hn⟩
theorem addr_add (b o j : Nat) : (⟨b, o, none⟩ : Addr).add j = ⟨b, o + j, none⟩ := by
  by_cases hj0 : j = 0
  · subst hj0; simp [Addr.add]
  · simp [Addr.add, hj0]
theorem cell_row {w : World} {g j : Nat} {cur : Array Value} {t : TypeId} {fr : Nat × Nat} {v : Value} (hg : w.heap[g]? = some (.cells cur t fr)) (h : cur.toList[j]? = some v) : w.cell? ⟨g, j, none⟩ = some v := by
  have : cur[j]? = some v := by rw [← Array.getElem?_toList]; exact h
  simp [World.cell?, hg, this]

/-- the row behind a shift -/
theorem shift_row {cur cs vs : List Value} {k m : Nat} (hk : k ≤ cs.length) (hc : cur.take cs.length = cs) (hl : cs.length + m ≤ cur.length) (hv : vs.length = m) :
    ((((cur.take (k + m) ++ cs.drop k ++ cur.drop (k + m + (cs.drop k).length)).take k ++ vs ++ (cur.take (k + m) ++ cs.drop k ++ cur.drop (k + m + (cs.drop k).length)).drop (k + vs.length)).length = cur.length) ∧
    ((cur.take (k + m) ++ cs.drop k ++ cur.drop (k + m + (cs.drop k).length)).take k ++ vs ++ (cur.take (k + m) ++ cs.drop k ++ cur.drop (k + m + (cs.drop k).length)).drop (k + vs.length)).take (cs.length + m) = cs.take k ++ vs ++ cs.drop k) := by
  subst hv
  have h1 : (cur.take (k + vs.length) ++ cs.drop k ++ cur.drop (k + vs.length + (cs.drop k).length)).take k = cs.take k := by
    rw [List.append_assoc, List.take_append_of_le_length (by rw [List.length_take]; omega), List.take_take]
    conv => rhs; rw [← hc, List.take_take]
    congr 1
    omega
  have h2 : (cur.take (k + vs.length) ++ cs.drop k ++ cur.drop (k + vs.length + (cs.drop k).length)).drop (k + vs.length) = cs.drop k ++ cur.drop (k + vs.length + (cs.drop k).length) := by
    rw [List.append_assoc, List.drop_append_of_le_length (by rw [List.length_take]; omega), List.drop_take]
    simp
  rw [h1, h2]
  have hd : (cs.drop k).length = cs.length - k := List.length_drop ..
  constructor
  · simp only [List.length_append, List.length_take, List.length_drop]
    omega
  · rw [← List.append_assoc, List.take_append_of_le_length (by simp only [List.length_append, List.length_take, List.length_drop]; omega), List.take_of_length_le (by simp only [List.length_append, List.length_take, List.length_drop]; omega)]

set_option maxHeartbeats 4000000 in
set_option maxRecDepth 100000 in
theorem insert_shift (g n c i vb : Nat) (cs vs : List Value) (cur : Array Value) (w : World) (hg : w.heap[g]? = some (.cells cur 32 (0, 0))) (hi : i < n) (hroom : n + 1 ≤ c) (hc63 : c ≤ 9223372036854775807) (hvb : vb ≠ g)
    (hcur : cur.size = c * 4) (hcl : cs.length = n * 4) (ht : cur.toList.take (n * 4) = cs) (hvl : vs.length = 4) (hv : w.heap[vb]? = some (.cells vs.toArray 32 (0, 0))) (h1c : ∀ v ∈ cs, v.oneCell' = true) (h1v : ∀ v ∈ vs, v.oneCell' = true) :
    Calls Try.prog 127 #[.slice (some ⟨g, 0, none⟩) n c, .int .i64 i, .slice (some ⟨vb, 0, none⟩) 1 1] w fun e w' =>
      e = .returned (.slice (some ⟨g, 0, none⟩) (n + 1) c) ∧ ∃ cur' : Array Value, w'.heap[g]? = some (.cells cur' 32 (0, 0)) ∧ cur'.size = c * 4 ∧ cur'.toList.take ((n + 1) * 4) = cs.take (i * 4) ++ vs ++ cs.drop (i * 4) ∧ Mod (fun b => b = g) w w' := by
  have hz2 : ¬ ((i : Int) = (n : Int)) := by omega
  have hsz : (Try.prog.info? 32).map (·.size) = some 4 := by
    obtain ⟨i0, hi0, _, h1, _⟩ := info_parts infoRw
    rw [hi0]; simp [h1]
  have hzz : ∀ w, (Go.sizeOf 32).run Try.prog w = .ok 4 w := fun w => by
    obtain ⟨i0, hi0, _, h1, _⟩ := info_parts infoRw
    simp [sizeOf, typeInfo, hi0, h1]
  have hov : ∀ lb cb, (callFunc 134 #[.slice (some ⟨vb, 0, none⟩) 1 1, .slice (some ⟨g, (i + 1) * 4, none⟩) lb cb]).run Try.prog w = .ok (.value (.bool false)) w := fun lb cb => by
    rw [run_callFunc_extern Try.func134 (by kernel_rfl) (by kernel_rfl) (by kernel_rfl) (e := Extern.SlicesOverlaps.overlaps #[26, 26] #[4]) (by kernel_rfl),
      Lib.run_overlaps_apart w 26 4 32 Try.underlying26 4 hzz ⟨vb, 0, none⟩ ⟨g, (i + 1) * 4, none⟩ 1 1 lb cb hvb 32 32 4 (c * 4) (by simp [World.shape?, hv, hvl]) (by simp [World.shape?, hg, hcur]) (by omega) (by simp [World.frozen?, hv]) (by simp [World.frozen?, hv])]
    rfl
  have hdl : (cs.drop (i * 4)).length = (n - i) * 4 := by rw [List.length_drop, hcl]; omega
  have hb1 : (0 : Int) ≤ (i : Int) + 1 := by omega
  have hw1 : IntKind.i64.wrap ((i : Int) + 1) = (i : Int) + 1 := by rw [IntKind.wrap_i64]; omega
  have htn : ((i : Int) + 1).toNat = i + 1 := by omega
  have hin : i ≤ n := by omega
  have hb2 : ¬ (c = i + 1) := by omega
  have hb3 : (i : Int) ≤ (n : Int) + 1 := by omega
  have hb4 : ¬ (c = i) := by omega
  obtain ⟨A1, hA1⟩ : ∃ A1 : Array Value, A1 = (cur.toList.take ((i + 1) * 4) ++ cs.drop (i * 4) ++ cur.toList.drop ((i + 1) * 4 + (cs.drop (i * 4)).length)).toArray := ⟨_, rfl⟩
  have hcp1 : ∀ ty dl dc sl sc, dl = n - i → sl = n + 1 - i → (Builtin.copy_ #[26, 26] ty #[.slice (some ⟨g, (i + 1) * 4, none⟩) dl dc, .slice (some ⟨g, i * 4, none⟩) sl sc]).run Try.prog w.drew = .ok (goInt ((n - i : Nat) : Int)) (w.drew.setRow g A1) := fun ty dl dc sl sc e1 e2 => by
    rw [hA1]
    refine run_copyN w.drew _ _ ty 32 4 g ((i + 1) * 4) dl dc ⟨g, i * 4, none⟩ sl sc (n - i) cur 32 (cs.drop (i * 4)) Try.underlying26 hsz hg (by simp only [Nat.min_def]; split <;> omega) hdl (fun j v hj => ?_) (by rw [hdl, hcur]; omega) (fun v hv => h1c v (List.mem_of_mem_drop hv))
    rw [addr_add]
    refine cell_row hg ?_
    rw [List.getElem?_drop, ← ht, List.getElem?_take] at hj
    split at hj
    · exact hj
    · cases hj
  have hA1s : A1.size = c * 4 := by
    rw [hA1]
    simp only [List.size_toArray, List.length_append, List.length_take, List.length_drop, Array.length_toList]
    rw [hcl]
    omega
  have hg1 : (w.drew.setRow g A1).heap[g]? = some (.cells A1 32 (0, 0)) := setRow_heap w.drew g cur A1 _ _ hg
  have hv1 : (w.drew.setRow g A1).heap[vb]? = some (.cells vs.toArray 32 (0, 0)) := (setRow_other w.drew g vb A1 hvb).trans hv
  obtain ⟨W1, hW1⟩ : ∃ W1, W1 = w.drew.setRow g A1 := ⟨_, rfl⟩
  rw [← hW1] at hg1 hv1 hcp1
  have hm1 : Mod (fun b => b = g) w W1 := by
    rw [hW1]
    exact (Mod.of_below (Below.drew (Below.refl _ _))).trans (mod_setRow _ _ _)
  obtain ⟨A2, hA2⟩ : ∃ A2 : Array Value, A2 = (A1.toList.take (i * 4) ++ vs ++ A1.toList.drop (i * 4 + vs.length)).toArray := ⟨_, rfl⟩
  have hcp2 : ∀ (W : World), W.heap[g]? = some (.cells A1 32 (0, 0)) → W.heap[vb]? = some (.cells vs.toArray 32 (0, 0)) → ∀ ty dc, (Builtin.copy_ #[26, 26] ty #[.slice (some ⟨g, i * 4, none⟩) (n + 1 - i) dc, .slice (some ⟨vb, 0, none⟩) 1 1]).run Try.prog W = .ok (goInt 1) (W.setRow g A2) := fun W hW1 hW2 ty dc => by
    rw [hA2]
    refine run_copyN W _ _ ty 32 4 g (i * 4) (n + 1 - i) dc ⟨vb, 0, none⟩ 1 1 1 A1 32 vs Try.underlying26 hsz hW1 (by simp only [Nat.min_def]; split <;> omega) (by omega) (fun j v hj => ?_) (by rw [hvl, hA1s]; omega) h1v
    rw [addr_add]
    exact cell_row hW2 (by simpa using hj)
  have hfin : A2.size = c * 4 ∧ A2.toList.take ((n + 1) * 4) = cs.take (i * 4) ++ vs ++ cs.drop (i * 4) := by
    have h := shift_row (cur := cur.toList) (cs := cs) (vs := vs) (k := i * 4) (m := 4) (by rw [hcl]; omega) (by rw [hcl]; exact ht) (by rw [hcl, Array.length_toList, hcur]; omega) hvl
    rw [hA2, hA1]
    rw [show (i + 1) * 4 = i * 4 + 4 by omega, show (n + 1) * 4 = cs.length + 4 by rw [hcl]; omega]
    refine ⟨?_, h.2⟩
    rw [List.size_toArray]
    have h1 := h.1
    have h2 : cur.toList.length = c * 4 := by rw [Array.length_toList, hcur]
    rw [h2] at h1
    exact h1
  clear hA1 hA2 hW1
  have HF : Hid (A2.size = c * 4 ∧ A2.toList.take ((n + 1) * 4) = cs.take (i * 4) ++ vs ++ cs.drop (i * 4)) := hfin
  clear hfin
  go_enter Try.func127, Try.ntmps127
  go_wp2_with (simp only [hov])
  go_region_law (refine step_copyN rfl (.tmp 73) (.tmp 76) 26 26 rfl _ _ (by simp [Act.eval, Act.put]) (by simp [Act.eval, Act.put]) (hcp1 _ _ _ _ _ (by omega) (by omega)) ?_)
  go_wp2_with (at_builtin; refine wpl_copyN _ rfl _ _ 26 26 rfl _ _ rfl rfl (hcp2 _ hg1 hv1 _ _) ?_)
  go_ret
  refine ⟨rfl, A2, setRow_heap _ g A1 A2 _ _ hg1, HF.out.1, HF.out.2, hm1.trans (mod_setRow _ _ _)⟩

end Go.Proofs.Ytdfapehonegeeaa

import Derived.Test.YteebglgbeijolaaPrnTablesLaw10
import Derived.Test.YteebglgbeijolaaPrnTablesLaw8
import Derived.Test.YteebglgbeijolaaPrnTablesLaw7
import Derived.Test.YteebglgbeijolaaPrnTablesLaw3
import Derived.Laws.CopyRow
import Derived.Laws.Externs
import Derived.Lib.Overlaps
import Derived.Lib.AppendZerosOnto
import Derived.Deep.RegionLaw
import Derived.Test.YteebglgbeijolaaPrnTablesLaw5

/-
  What is made compact reads alike, what is merged has all rows: in mathematics.
-/
namespace Go.Proofs.Yteebglgbeijolaa
open Go.RowKit
set_option linter.unusedSectionVars false
variable [DecidableEq Rw] [Inhabited Rw] [DecidableEq TabR] [Inhabited TabR]
set_option linter.unusedVariables false
set_option linter.unusedSimpArgs false

theorem tabF_rises {xs : List Rw} (hr : Rises xs) (hf : ∀ x ∈ xs, rowFault x = 0) (hl : xs.length ≤ 200) : tabF xs = 0 := by
  refine tabF_zero hl (fun j hj => ?_)
  unfold tabAt
  have e : xs.getD j default = xs[j] := by simp [List.getD, hj]
  rw [if_neg (by rw [e]; simpa using hf _ (List.getElem_mem hj)), if_neg]
  rintro ⟨h0, h1⟩
  have e2 : xs.getD (j - 1) default = xs[j - 1]'(by omega) := by simp [List.getD, show j - 1 < xs.length by omega]
  rw [e, e2] at h1
  have h2 := List.pairwise_iff_getElem.1 hr (j - 1) j (by omega) hj (by omega)
  rw [h2] at h1
  cases h1
def sameKV (a b : Rw) : Prop := a.key = b.key ∧ a.ver = b.ver
theorem mem_putL_keep : ∀ {ys : List Rw} {r x : Rw}, x ∈ ys → x ∈ putL ys r
  | [], _, _, h => by cases h
  | y :: ys, r, x, h => by
    unfold putL
    split
    · rcases List.mem_cons.1 h with rfl | h
      · exact List.mem_cons_self ..
      · exact List.mem_cons_of_mem _ (mem_putL_keep h)
    · split
      · exact List.mem_cons_of_mem _ h
      · exact h
theorem same_of_ahead {a b : Rw} (h : ahead a b ≠ true) (k : ahead b a ≠ true) : sameKV a b := by
  have h1 : 0 ≤ cmpR a b := (ahead_not a b).1 (by simpa using h)
  have h2 : 0 ≤ cmpR b a := (ahead_not b a).1 (by simpa using k)
  rw [cmpR_flip a b] at h2
  have h0 : cmpR a b = 0 := by omega
  unfold cmpR orI at h0
  split at h0
  · rename_i hc
    refine ⟨(cmpB_zero _ _).1 hc, ?_⟩
    unfold cmpI at h0
    split at h0
    · omega
    · split at h0 <;> omega
  · rename_i hc
    exact absurd h0 hc
theorem putL_has : ∀ (ys : List Rw) (r : Rw), ∃ y ∈ putL ys r, sameKV y r
  | [], r => ⟨r, by simp [putL], rfl, rfl⟩
  | y :: ys, r => by
    unfold putL
    split
    · obtain ⟨z, hz, e⟩ := putL_has ys r
      exact ⟨z, List.mem_cons_of_mem _ hz, e⟩
    · split
      · exact ⟨r, List.mem_cons_self .., rfl, rfl⟩
      · rename_i h1 h2
        exact ⟨y, List.mem_cons_self .., same_of_ahead h1 h2⟩
theorem mem_putsL_keep : ∀ {l ys : List Rw} {x : Rw}, x ∈ ys → x ∈ putsL ys l
  | [], _, _, h => h
  | r :: l, ys, x, h => by
    rw [putsL_cons]
    exact mem_putsL_keep (mem_putL_keep h)
theorem putsL_has : ∀ {l : List Rw} (ys : List Rw) {r : Rw}, r ∈ l → ∃ y ∈ putsL ys l, sameKV y r
  | [], _, _, h => by cases h
  | x :: l, ys, r, h => by
    rw [putsL_cons]
    rcases List.mem_cons.1 h with rfl | h
    · obtain ⟨y, hy, e⟩ := putL_has ys r
      exact ⟨y, mem_putsL_keep hy, e⟩
    · exact putsL_has _ h
theorem flatTo_mem {f : Nat → List Rw} : ∀ {n i : Nat}, i < n → ∀ r ∈ f i, r ∈ flatTo f n
  | 0, _, h, _, _ => by omega
  | n + 1, i, h, r, hr => by
    have e : flatTo f (n + 1) = flatTo f n ++ f n := rfl
    rw [e, List.mem_append]
    by_cases hi : i = n
    · subst hi; exact .inr hr
    · exact .inl (flatTo_mem (by omega) r hr)
theorem mergeL_has {xss : List (List Rw)} {i : Nat} (hi : i < xss.length) {r : Rw} (hr : r ∈ xss.getD i default) : ∃ y ∈ mergeL xss, sameKV y r :=
  putsL_has [] (flatTo_mem (f := fun i => xss.getD i default) hi r hr)
theorem mergeL_first {xss : List (List Rw)} (h0 : 0 < xss.length) (ht : tabF (xss.getD 0 default) = 0) {r : Rw} (hr : r ∈ xss.getD 0 default) : r ∈ mergeL xss := by
  unfold mergeL
  obtain ⟨t, ht2⟩ := flatTo_le (fun i => xss.getD i default) (k := 1) (n := xss.length) (by omega)
  rw [← ht2, putsL_app]
  refine mem_putsL_keep ?_
  have e : flatTo (fun i => xss.getD i default) 1 = xss.getD 0 default := by
    show [] ++ _ = _
    rw [List.nil_append]
  rw [e, putsL_of (rises_of ht) _ (fun _ h => h), List.mem_filter]
  exact ⟨hr, by simpa using hr⟩
theorem mergeD_ok {xss : List (List Rw)} (h : (mergeD xss).code = 0) : mergeD xss = ⟨0, mergeL xss⟩ ∧ tabF (mergeL xss) = 0 ∧ (mergeL xss).length ≤ 200 ∧ ∀ j, j < xss.length → tabF (xss.getD j default) = 0 := by
  unfold mergeD at h ⊢
  split at h
  · cases h
  · rename_i h8
    rw [if_neg h8]
    split at h
    · rename_i h1; exact absurd h h1
    · rename_i h1
      rw [if_neg h1]
      split at h
      · cases h
      · rename_i h2
        rw [if_neg h2]
        have hz := firstF_zero (xss := xss) (by simpa using h1)
        exact ⟨rfl, tabF_rises (putsL_rises rises_nil) (mergeL_small hz) (by omega), by omega, hz⟩
end Go.Proofs.Yteebglgbeijolaa

/-
  slices.Insert of one row into rows that own their memory.
-/
namespace Go.Proofs.Yteebglgbeijolaa
open Go.RowKit Go.Shelf
set_option linter.unusedSectionVars false
variable [DecidableEq Rw] [Inhabited Rw] [DecidableEq TabR] [Inhabited TabR]
set_option linter.unusedVariables false
set_option linter.unusedSimpArgs false

theorem run_copyN (w : World) (dT sT ty elem : TypeId) (sz g o dLen dCap : Nat) (a : Addr) (sLen sCap m : Nat) (cur : Array Value) (t : TypeId) (cs : List Value)
    (hu : Try.prog.underlying dT = some (.slice elem)) (hs : (Try.prog.info? elem).map (·.size) = some sz)
    (hg : w.heap[g]? = some (.cells cur t (0, 0))) (hm : Nat.min sLen dLen = m) (hn : cs.length = m * sz)
    (hsrc : ∀ j v, cs[j]? = some v → w.cell? (a.add j) = some v) (hfit : o + cs.length ≤ cur.size) (h1 : ∀ v ∈ cs, v.oneCell' = true) :
    (Builtin.copy_ #[dT, sT] ty #[.slice (some ⟨g, o, none⟩) dLen dCap, .slice (some a) sLen sCap]).run Try.prog w =
      .ok (goInt m) (w.setRow g (cur.toList.take o ++ cs ++ cur.toList.drop (o + cs.length)).toArray) := by
  have hl := run_loadCells_list (P := Try.prog) w a cs hsrc
  have hst := run_storeCells_at Try.prog g o t cs 0 cur w hg (by simpa using hfit) h1
  cases hq : Try.prog.info? elem with
  | none => simp [hq] at hs
  | some i =>
    have hi : i.size = sz := by simpa [hq] using hs
    rw [hn] at hl
    simp [Builtin.copy_, run_underlying hu, Builtin.lenOf, Builtin.firstCells, sizeOf, typeInfo, hq, hi, hm, hl, hst]
theorem wpl_copyN (w : World) {ops : Array Oper} {rest : List Oper} {o : Oper} {a : Act} {Q : Exit → Act → World → Prop} (hgd : o.guard = none) (d s : Operand) (t t' : TypeId)
    (ho : o.op = .call { callee := .builtin .copy, args := #[d, s], argTypes := #[t, t'] }) (v u : Value) (hd : a.eval d = v) (hs : a.eval s = u) {v' : Value} {w' : World}
    (hr : (Builtin.copy_ #[t, t'] o.type #[v, u]).run Try.prog w = .ok v' w') (h : wpList Try.prog ops Q rest (a.put o.dst v') w') : wpList Try.prog ops Q (o :: rest) a w := by
  refine wpList_plain hgd fun K hK => ?_
  unfold Oper.wp execOp
  simp only [ho, resolve, invoke, builtin, Sem.run_bind, Sem.run_pure, Result.andThen_ok, List.map_toArray, List.map_cons, List.map_nil, hd, hs, hr]
  exact hK _ _ h
theorem step_copyN {ops : Array Oper} {o : Oper} {a : Act} {w : World} {K : Act → World → Prop} {Q : Exit → Act → World → Prop} {E : Prop} (hgd : o.guard = none) (d s : Operand) (t t' : TypeId)
    (ho : o.op = .call { callee := .builtin .copy, args := #[d, s], argTypes := #[t, t'] }) (v u : Value) (hd : a.eval d = v) (hs : a.eval s = u) {v' : Value} {w' : World}
    (hr : (Builtin.copy_ #[t, t'] o.type #[v, u]).run Try.prog w = .ok v' w') (hK : K (a.put o.dst v') w') :
    if Region.wanted o (yielded ops a.tmps) = true then Oper.wp Try.prog o a w K Q else E := by
  have hw : Region.wanted o (yielded ops a.tmps) = true := by simp [Region.wanted, hgd]
  rw [if_pos hw]
  unfold Oper.wp execOp
  simp only [ho, resolve, invoke, builtin, Sem.run_bind, Sem.run_pure, Result.andThen_ok, List.map_toArray, List.map_cons, List.map_nil, hd, hs, hr]
  exact hK
theorem mod_setRow (w : World) (g : Nat) (cs : Array Value) : Mod (fun b => b = g) w (w.setRow g cs) :=
  ⟨rfl, rfl, rfl, by simp [World.setRow], fun k _ hn => setRow_other w g k cs hn⟩
theorem addr_add (b o j : Nat) : (⟨b, o, none⟩ : Addr).add j = ⟨b, o + j, none⟩ := by
  by_cases hj0 : j = 0
  · subst hj0; simp [Addr.add]
  · simp [Addr.add, hj0]
theorem cell_row {w : World} {g j : Nat} {cur : Array Value} {t : TypeId} {fr : Nat × Nat} {v : Value} (hg : w.heap[g]? = some (.cells cur t fr)) (h : cur.toList[j]? = some v) : w.cell? ⟨g, j, none⟩ = some v := by
  have : cur[j]? = some v := by rw [← Array.getElem?_toList]; exact h
  simp [World.cell?, hg, this]
theorem shift_row {cur cs vs : List Value} {k m : Nat} (hk : k ≤ cs.length) (hc : cur.take cs.length = cs) (hl : cs.length + m ≤ cur.length) (hv : vs.length = m) :
    ((((cur.take (k + m) ++ cs.drop k ++ cur.drop (k + m + (cs.drop k).length)).take k ++ vs ++ (cur.take (k + m) ++ cs.drop k ++ cur.drop (k + m + (cs.drop k).length)).drop (k + vs.length)).length = cur.length) ∧
    ((cur.take (k + m) ++ cs.drop k ++ cur.drop (k + m + (cs.drop k).length)).take k ++ vs ++ (cur.take (k + m) ++ cs.drop k ++ cur.drop (k + m + (cs.drop k).length)).drop (k + vs.length)).take (cs.length + m) = cs.take k ++ vs ++ cs.drop k) := by
  subst hv
  have h1 : (cur.take (k + vs.length) ++ cs.drop k ++ cur.drop (k + vs.length + (cs.drop k).length)).take k = cs.take k := by
    rw [List.append_assoc, List.take_append_of_le_length (by rw [List.length_take]; omega), List.take_take]
    conv => rhs; rw [← hc, List.take_take]
    congr 1
    omega
  have h2 : (cur.take (k + vs.length) ++ cs.drop k ++ cur.drop (k + vs.length + (cs.drop k).length)).drop (k + vs.length) = cs.drop k ++ cur.drop (k + vs.length + (cs.drop k).length) := by
    rw [List.append_assoc, List.drop_append_of_le_length (by rw [List.length_take]; omega), List.drop_take]
    simp
  rw [h1, h2]
  have hd : (cs.drop k).length = cs.length - k := List.length_drop ..
  constructor
  · simp only [List.length_append, List.length_take, List.length_drop]
    omega
  · rw [← List.append_assoc, List.take_append_of_le_length (by simp only [List.length_append, List.length_take, List.length_drop]; omega), List.take_of_length_le (by simp only [List.length_append, List.length_take, List.length_drop]; omega)]
set_option maxHeartbeats 4000000 in
set_option maxRecDepth 100000 in
theorem insert_shift (g n c i vb : Nat) (cs vs : List Value) (cur : Array Value) (w : World) (hg : w.heap[g]? = some (.cells cur 61 (0, 0))) (hi : i < n) (hroom : n + 1 ≤ c) (hc63 : c ≤ 9223372036854775807) (hvb : vb ≠ g)
    (hcur : cur.size = c * 4) (hcl : cs.length = n * 4) (ht : cur.toList.take (n * 4) = cs) (hvl : vs.length = 4) (hv : w.heap[vb]? = some (.cells vs.toArray 61 (0, 0))) (h1c : ∀ v ∈ cs, v.oneCell' = true) (h1v : ∀ v ∈ vs, v.oneCell' = true) :
    Calls Try.prog 146 #[.slice (some ⟨g, 0, none⟩) n c, .int .i64 i, .slice (some ⟨vb, 0, none⟩) 1 1] w fun e w' =>
      e = .returned (.slice (some ⟨g, 0, none⟩) (n + 1) c) ∧ ∃ cur' : Array Value, w'.heap[g]? = some (.cells cur' 61 (0, 0)) ∧ cur'.size = c * 4 ∧ cur'.toList.take ((n + 1) * 4) = cs.take (i * 4) ++ vs ++ cs.drop (i * 4) ∧ Mod (fun b => b = g) w w' := by
  have hz2 : ¬ ((i : Int) = (n : Int)) := by omega
  have hsz : (Try.prog.info? 61).map (·.size) = some 4 := by
    obtain ⟨i0, hi0, _, h1, _⟩ := info_parts infoRw
    rw [hi0]; simp [h1]
  have hzz : ∀ w, (Go.sizeOf 61).run Try.prog w = .ok 4 w := fun w => by
    obtain ⟨i0, hi0, _, h1, _⟩ := info_parts infoRw
    simp [sizeOf, typeInfo, hi0, h1]
  have hov : ∀ lb cb, (callFunc 164 #[.slice (some ⟨vb, 0, none⟩) 1 1, .slice (some ⟨g, (i + 1) * 4, none⟩) lb cb]).run Try.prog w = .ok (.value (.bool false)) w := fun lb cb => by
    rw [run_callFunc_extern Try.func164 (by kernel_rfl) (by kernel_rfl) (by kernel_rfl) (e := Extern.SlicesOverlaps.overlaps #[55, 55] #[4]) (by kernel_rfl),
      Lib.run_overlaps_apart w 55 4 61 Try.underlying55 4 hzz ⟨vb, 0, none⟩ ⟨g, (i + 1) * 4, none⟩ 1 1 lb cb hvb 61 61 4 (c * 4) (by simp [World.shape?, hv, hvl]) (by simp [World.shape?, hg, hcur]) (by omega) (by simp [World.frozen?, hv]) (by simp [World.frozen?, hv])]
    rfl
  have hdl : (cs.drop (i * 4)).length = (n - i) * 4 := by rw [List.length_drop, hcl]; omega
  have hb1 : (0 : Int) ≤ (i : Int) + 1 := by omega
  have hw1 : IntKind.i64.wrap ((i : Int) + 1) = (i : Int) + 1 := by rw [IntKind.wrap_i64]; omega
  have htn : ((i : Int) + 1).toNat = i + 1 := by omega
  have hin : i ≤ n := by omega
  have hb2 : ¬ (c = i + 1) := by omega
  have hb3 : (i : Int) ≤ (n : Int) + 1 := by omega
  have hb4 : ¬ (c = i) := by omega
  obtain ⟨A1, hA1⟩ : ∃ A1 : Array Value, A1 = (cur.toList.take ((i + 1) * 4) ++ cs.drop (i * 4) ++ cur.toList.drop ((i + 1) * 4 + (cs.drop (i * 4)).length)).toArray := ⟨_, rfl⟩
  have hcp1 : ∀ ty dl dc sl sc, dl = n - i → sl = n + 1 - i → (Builtin.copy_ #[55, 55] ty #[.slice (some ⟨g, (i + 1) * 4, none⟩) dl dc, .slice (some ⟨g, i * 4, none⟩) sl sc]).run Try.prog w.drew = .ok (goInt ((n - i : Nat) : Int)) (w.drew.setRow g A1) := fun ty dl dc sl sc e1 e2 => by
    rw [hA1]
    refine run_copyN w.drew _ _ ty 61 4 g ((i + 1) * 4) dl dc ⟨g, i * 4, none⟩ sl sc (n - i) cur 61 (cs.drop (i * 4)) Try.underlying55 hsz hg (by simp only [Nat.min_def]; split <;> omega) hdl (fun j v hj => ?_) (by rw [hdl, hcur]; omega) (fun v hv => h1c v (List.mem_of_mem_drop hv))
    rw [addr_add]
    refine cell_row hg ?_
    rw [List.getElem?_drop, ← ht, List.getElem?_take] at hj
    split at hj
    · exact hj
    · cases hj
  have hA1s : A1.size = c * 4 := by
    rw [hA1]
    simp only [List.size_toArray, List.length_append, List.length_take, List.length_drop, Array.length_toList]
    rw [hcl]
    omega
  have hg1 : (w.drew.setRow g A1).heap[g]? = some (.cells A1 61 (0, 0)) := setRow_heap w.drew g cur A1 _ _ hg
  have hv1 : (w.drew.setRow g A1).heap[vb]? = some (.cells vs.toArray 61 (0, 0)) := (setRow_other w.drew g vb A1 hvb).trans hv
  obtain ⟨W1, hW1⟩ : ∃ W1, W1 = w.drew.setRow g A1 := ⟨_, rfl⟩
  rw [← hW1] at hg1 hv1 hcp1
  have hm1 : Mod (fun b => b = g) w W1 := by
    rw [hW1]
    exact (Mod.of_below (Below.drew (Below.refl _ _))).trans (mod_setRow _ _ _)
  obtain ⟨A2, hA2⟩ : ∃ A2 : Array Value, A2 = (A1.toList.take (i * 4) ++ vs ++ A1.toList.drop (i * 4 + vs.length)).toArray := ⟨_, rfl⟩
  have hcp2 : ∀ (W : World), W.heap[g]? = some (.cells A1 61 (0, 0)) → W.heap[vb]? = some (.cells vs.toArray 61 (0, 0)) → ∀ ty dc, (Builtin.copy_ #[55, 55] ty #[.slice (some ⟨g, i * 4, none⟩) (n + 1 - i) dc, .slice (some ⟨vb, 0, none⟩) 1 1]).run Try.prog W = .ok (goInt 1) (W.setRow g A2) := fun W hW1 hW2 ty dc => by
    rw [hA2]
    refine run_copyN W _ _ ty 61 4 g (i * 4) (n + 1 - i) dc ⟨vb, 0, none⟩ 1 1 1 A1 61 vs Try.underlying55 hsz hW1 (by simp only [Nat.min_def]; split <;> omega) (by omega) (fun j v hj => ?_) (by rw [hvl, hA1s]; omega) h1v
    rw [addr_add]
    exact cell_row hW2 (by simpa using hj)
  have hfin : A2.size = c * 4 ∧ A2.toList.take ((n + 1) * 4) = cs.take (i * 4) ++ vs ++ cs.drop (i * 4) := by
    have h := shift_row (cur := cur.toList) (cs := cs) (vs := vs) (k := i * 4) (m := 4) (by rw [hcl]; omega) (by rw [hcl]; exact ht) (by rw [hcl, Array.length_toList, hcur]; omega) hvl
    rw [hA2, hA1]
    rw [show (i + 1) * 4 = i * 4 + 4 by omega, show (n + 1) * 4 = cs.length + 4 by rw [hcl]; omega]
    refine ⟨?_, h.2⟩
    rw [List.size_toArray]
    have h1 := h.1
    have h2 : cur.toList.length = c * 4 := by rw [Array.length_toList, hcur]
    rw [h2] at h1
    exact h1
  clear hA1 hA2 hW1
  have HF : Hid (A2.size = c * 4 ∧ A2.toList.take ((n + 1) * 4) = cs.take (i * 4) ++ vs ++ cs.drop (i * 4)) := hfin
  clear hfin
  go_enter Try.func146, Try.ntmps146
  go_wp2_with (simp only [hov])
  go_region_law (refine step_copyN rfl (.tmp 73) (.tmp 76) 55 55 rfl _ _ (by simp [Act.eval, Act.put]) (by simp [Act.eval, Act.put]) (hcp1 _ _ _ _ _ (by omega) (by omega)) ?_)
  go_wp2_with (at_builtin; refine wpl_copyN _ rfl _ _ 55 55 rfl _ _ rfl rfl (hcp2 _ hg1 hv1 _ _) ?_)
  go_ret
  refine ⟨rfl, A2, setRow_heap _ g A1 A2 _ _ hg1, HF.out.1, HF.out.2, hm1.trans (mod_setRow _ _ _)⟩
end Go.Proofs.Yteebglgbeijolaa

/-
  slices.Insert at the end.
-/
namespace Go.Proofs.Yteebglgbeijolaa
open Go.RowKit Go.Shelf
set_option linter.unusedSectionVars false
variable [DecidableEq Rw] [Inhabited Rw] [DecidableEq TabR] [Inhabited TabR]
set_option linter.unusedVariables false
set_option linter.unusedSimpArgs false

set_option maxHeartbeats 4000000 in
set_option maxRecDepth 100000 in
theorem insert_end (base : Nat) (v : Value) (n vb : Nat) (cs vs : List Value) (w : World) (hown : w.ownsRow base 61 4 v n cs) (hn : n ≤ 1048576) (hbase : base ≤ w.heap.size)
    (hvl : vs.length = 4) (hv : w.heap[vb]? = some (.cells vs.toArray 61 (0, 0))) (h1v : ∀ v ∈ vs, v.oneCell' = true) :
    Calls Try.prog 146 #[v, .int .i64 n, .slice (some ⟨vb, 0, none⟩) 1 1] w fun e w' =>
      ∃ v', e = .returned v' ∧ w'.ownsRow base 61 4 v' (n + 1) (cs ++ vs) ∧ w.grownBy w' v.ownBlock ∧ (v'.ownBlock = v.ownBlock ∨ v'.ownBlock = some w.heap.size) := by
  obtain ⟨i0, hi, hz0, hz1, hz2⟩ := info_parts infoRw
  have HV : Hid (∀ j u, vs[j]? = some u → w.cell? ((⟨vb, 0, none⟩ : Addr).add j) = some u) := fun j u hj => by
    rw [addr_add]
    exact cell_row hv (by simpa using hj)
  obtain ⟨a, c, rfl⟩ := owns_form hown
  have hnc : n ≤ c := by
    rcases hown.2 with ⟨_, h⟩ | ⟨g, cap, cur, h, _, _, h2, _⟩
    · omega
    · simp only [Value.slice.injEq] at h; omega
  have hcm : c ≤ 9223372036854775807 := by
    rcases hown.2 with ⟨h, _⟩ | ⟨g, cap, cur, h, _, _, h2, h3, _⟩
    · simp only [Value.slice.injEq] at h; omega
    · simp only [Value.slice.injEq] at h; unfold maxLen at h3; omega
  rcases Nat.eq_or_lt_of_le hnc with rfl | h0
  all_goals
    try (have hck : ¬ c = n := by omega)
    go_enter Try.func146, Try.ntmps146
    go_wp2_with (at_builtin; refine wpList_append_own_at w rfl (.tmp 23) (.tmp 24) 55 rfl base 61 i0 _ 4 48 Try.underlying55 hi hz0 hz1 hz2 rfl (by decide) _ n cs rfl hown ⟨vb, 0, none⟩ 1 1 vs rfl hvl HV.out h1v ?_ ?_ hbase ?_)
    · unfold maxLen; omega
    · omega
    intro v' w' h1 h2 h3 h4
    obtain ⟨a', c', rfl⟩ := owns_form h1
    go_wp2
    go_ret
    exact ⟨_, rfl, h1, h2, h4⟩
end Go.Proofs.Yteebglgbeijolaa

/-
  slices.Insert where there is no room.
-/
namespace Go.Proofs.Yteebglgbeijolaa
open Go.RowKit Go.Shelf
set_option linter.unusedSectionVars false
variable [DecidableEq Rw] [Inhabited Rw] [DecidableEq TabR] [Inhabited TabR]
set_option linter.unusedVariables false
set_option linter.unusedSimpArgs false

set_option maxHeartbeats 4000000 in
set_option maxRecDepth 100000 in
theorem insert_grow (g n c i vb : Nat) (cs vs : List Value) (w : World) (hi : i < n) (hnc : n ≤ c) (hroom : c < n + 1) (hbig : n ≤ 1048576)
    (hcl : cs.length = n * 4) (hcs : ∀ j v, cs[j]? = some v → w.cell? ⟨g, j, none⟩ = some v) (hvl : vs.length = 4) (hv : w.heap[vb]? = some (.cells vs.toArray 61 (0, 0))) (h1c : ∀ v ∈ cs, v.oneCell' = true) (h1v : ∀ v ∈ vs, v.oneCell' = true) :
    Calls Try.prog 146 #[.slice (some ⟨g, 0, none⟩) n c, .int .i64 i, .slice (some ⟨vb, 0, none⟩) 1 1] w fun e w' =>
      ∃ G, e = .returned (.slice (some ⟨w.heap.size, 0, none⟩) (n + 1) G) ∧ ∃ cur' : Array Value, w'.heap[w.heap.size]? = some (.cells cur' 61 (0, 0)) ∧ n + 1 ≤ G ∧ G ≤ maxLen ∧ cur'.size = G * 4 ∧ cur'.toList.take ((n + 1) * 4) = cs.take (i * 4) ++ vs ++ cs.drop (i * 4) ∧ Mod (fun _ => False) w w' := by
  obtain ⟨i0, hi0, hz0, hzs, hzb⟩ := info_parts infoRw
  have hsz : (Try.prog.info? 61).map (·.size) = some 4 := by rw [hi0]; simp [hzs]
  have hz2 : ¬ ((i : Int) = (n : Int)) := by omega
  have hz3 : (c : Int) < (n : Int) + 1 := by omega
  have hgw : g < w.heap.size := World.block_lt_of_cell? w ⟨g, 0, none⟩ (hcs 0 _ (List.getElem?_eq_getElem (by omega)))
  have hvw : vb < w.heap.size := (Array.getElem?_eq_some_iff.1 hv).1
  have hkk : (n : Int) + 1 - (i : Int) = ((n + 1 - i : Nat) : Int) := by omega
  have hik : i + (n + 1 - i) = n + 1 := by omega
  obtain ⟨Z, hZ⟩ : ∃ Z : Value, Z = .agg #[.string ⟨#[]⟩, .int .i64 0, .string ⟨#[]⟩, .bool false] := ⟨_, rfl⟩
  rw [← hZ] at hz0
  have hZs : Z.cells.size = 4 := by rw [hZ]; rfl
  have hold : (Builtin.firstCells i0.size i (.slice (some ⟨g, 0, none⟩) i c)).run Try.prog w.drew = .ok (cs.take (i * 4)).toArray w.drew := by
    rw [hzs]
    exact run_firstCells_some w.drew 4 i ⟨g, 0, none⟩ i c (cs.take (i * 4)) (by rw [List.length_take]; omega) (fun j v hj => by
      rw [addr_add, Nat.zero_add]
      rw [List.getElem?_take] at hj
      split at hj
      · exact hcs j v hj
      · cases hj)
  have hrz : ∀ ty, (Builtin.append_ #[55, 3] ty #[.slice (some ⟨g, 0, none⟩) i c, .int .i64 ((n : Int) + 1 - (i : Int))]).run Try.prog w =
      .ok (.slice (some ⟨w.heap.size, 0, none⟩) (n + 1) (grownCap w (n + 1) c 61)) (w.drew.alloc (.cells ((cs.take (i * 4)).toArray ++ Builtin.zeroCells Z.cells (n + 1 - i) ++ Builtin.zeroCells Z.cells (grownCap w (n + 1) c 61 - (n + 1))) 61)) := fun ty => by
    have h := Lib.run_append_grow_zeros w 55 3 ty 61 i0 _ .i64 .i64 Try.underlying55 Try.underlying3 hi0 hz0 (some ⟨g, 0, none⟩) i c (cs.take (i * 4)) hold (n + 1 - i) (by omega) (by omega) (by omega) (by omega) (by rw [hzb]; omega) (by rw [hzb, hik]; exact growslice_fits hroom (by omega))
    rw [hik] at h
    rw [hkk]
    exact h
  obtain ⟨G, hG⟩ : ∃ G, G = grownCap w (n + 1) c 61 := ⟨_, rfl⟩
  obtain ⟨ROW, hROW⟩ : ∃ ROW : Array Value, ROW = (cs.take (i * 4)).toArray ++ Builtin.zeroCells Z.cells (n + 1 - i) ++ Builtin.zeroCells Z.cells (G - (n + 1)) := ⟨_, rfl⟩
  rw [← hG] at hrz
  rw [← hROW] at hrz
  have hGn : n + 1 ≤ G := by rw [hG]; exact grownCap_ge w _ _ _
  have hGm : G ≤ maxLen := by
    rw [hG]
    exact grownCap_le_maxLen w (n + 1) c 61 (by unfold maxLen; omega)
  have hRl : ROW.size = G * 4 := by
    rw [hROW]
    simp [Builtin.zeroCells, hZs, List.length_take, hcl]
    omega
  have hR1 : ROW.toList.take (i * 4) = cs.take (i * 4) := by
    rw [hROW]
    simp only [Array.toList_append, List.append_assoc]
    rw [List.take_append_of_le_length (by simp [hcl]; omega)]
    rw [List.take_of_length_le (by simp; omega)]
  obtain ⟨W1, hW1⟩ : ∃ W1, W1 = w.drew.alloc (.cells ROW 61) := ⟨_, rfl⟩
  rw [← hW1] at hrz
  have hg1 : W1.heap[w.heap.size]? = some (.cells ROW 61 (0, 0)) := by rw [hW1]; exact World.alloc_heap_new w.drew _
  have hm1 : Mod (fun b => b = w.heap.size) w W1 := by
    rw [hW1]
    exact (Mod.of_below (Below.drew (Below.refl _ _))).trans (mod_alloc _ _ _)
  have hv1 : W1.heap[vb]? = some (.cells vs.toArray 61 (0, 0)) := (hm1.block vb hvw (by omega)).trans hv
  have hcs1 : ∀ j v, cs[j]? = some v → W1.cell? ⟨g, j, none⟩ = some v := fun j v hj => hm1.cell (hcs j v hj) (by dsimp only; omega)
  obtain ⟨A1, hA1⟩ : ∃ A1 : Array Value, A1 = (ROW.toList.take (i * 4) ++ vs ++ ROW.toList.drop (i * 4 + vs.length)).toArray := ⟨_, rfl⟩
  have hcpA : ∀ (W : World), W.heap[w.heap.size]? = some (.cells ROW 61 (0, 0)) → W.heap[vb]? = some (.cells vs.toArray 61 (0, 0)) → ∀ ty dc, (Builtin.copy_ #[55, 55] ty #[.slice (some ⟨w.heap.size, i * 4, none⟩) (n + 1 - i) dc, .slice (some ⟨vb, 0, none⟩) 1 1]).run Try.prog W = .ok (goInt 1) (W.setRow w.heap.size A1) := fun W hWa hWb ty dc => by
    rw [hA1]
    refine run_copyN W _ _ ty 61 4 w.heap.size (i * 4) (n + 1 - i) dc ⟨vb, 0, none⟩ 1 1 1 ROW 61 vs Try.underlying55 hsz hWa (by simp only [Nat.min_def]; split <;> omega) (by omega) (fun j v hj => ?_) (by rw [hvl, hRl]; omega) h1v
    rw [addr_add]
    exact cell_row hWb (by simpa using hj)
  have hA1s : A1.size = G * 4 := by
    rw [hA1]
    simp only [List.size_toArray, List.length_append, List.length_take, List.length_drop, Array.length_toList]
    rw [hRl, hvl]
    omega
  have hdl : (cs.drop (i * 4)).length = (n - i) * 4 := by rw [List.length_drop, hcl]; omega
  obtain ⟨A2, hA2⟩ : ∃ A2 : Array Value, A2 = (A1.toList.take ((i + 1) * 4) ++ cs.drop (i * 4) ++ A1.toList.drop ((i + 1) * 4 + (cs.drop (i * 4)).length)).toArray := ⟨_, rfl⟩
  have hcpB : ∀ (W : World), W.heap[w.heap.size]? = some (.cells A1 61 (0, 0)) → (∀ j v, cs[j]? = some v → W.cell? ⟨g, j, none⟩ = some v) → ∀ ty dl dc sl sc, dl = n - i → sl = n - i → (Builtin.copy_ #[55, 55] ty #[.slice (some ⟨w.heap.size, (i + 1) * 4, none⟩) dl dc, .slice (some ⟨g, i * 4, none⟩) sl sc]).run Try.prog W = .ok (goInt ((n - i : Nat) : Int)) (W.setRow w.heap.size A2) := fun W hWa hWc ty dl dc sl sc e1 e2 => by
    rw [hA2]
    refine run_copyN W _ _ ty 61 4 w.heap.size ((i + 1) * 4) dl dc ⟨g, i * 4, none⟩ sl sc (n - i) A1 61 (cs.drop (i * 4)) Try.underlying55 hsz hWa (by simp only [Nat.min_def]; split <;> omega) hdl (fun j v hj => ?_) (by rw [hdl, hA1s]; omega) (fun v hv => h1c v (List.mem_of_mem_drop hv))
    rw [addr_add]
    rw [List.getElem?_drop] at hj
    exact hWc _ v hj
  have hfin : A2.size = G * 4 ∧ A2.toList.take ((n + 1) * 4) = cs.take (i * 4) ++ vs ++ cs.drop (i * 4) := by
    have hA1t : A1.toList.take ((i + 1) * 4) = cs.take (i * 4) ++ vs := by
      rw [hA1, hR1]
      simp only []
      rw [List.take_append_of_le_length (by simp only [List.length_append, List.length_take, hcl, hvl]; omega), List.take_of_length_le (by simp only [List.length_append, List.length_take, hcl, hvl]; omega)]
    constructor
    · rw [hA2]
      simp only [List.size_toArray, List.length_append, List.length_take, List.length_drop, Array.length_toList]
      rw [hA1s, hcl]
      omega
    · rw [hA2, hA1t]
      simp only []
      rw [List.take_append_of_le_length (by simp only [List.length_append, List.length_take, List.length_drop, hcl, hvl]; omega), List.take_of_length_le (by simp only [List.length_append, List.length_take, List.length_drop, hcl, hvl]; omega)]
  have HF : Hid (A2.size = G * 4 ∧ A2.toList.take ((n + 1) * 4) = cs.take (i * 4) ++ vs ++ cs.drop (i * 4)) := hfin
  have HG : Hid (n + 1 ≤ G ∧ G ≤ maxLen) := ⟨hGn, hGm⟩
  have HM : Hid (Mod (fun b => b = w.heap.size) w W1) := hm1
  have hG63 : G ≤ 9223372036854775807 := by unfold maxLen at hGm; omega
  clear hfin hA1 hA2 hW1 hROW hG hold hRl hR1 hGm hm1 hkk hik hi0 hz0 hZ hZs hzs hzb
  have hGi : ¬ (G = i) := by omega
  have hGim : ¬ (G = i + 1) := by omega
  have hci : ¬ (c = i) := by omega
  have hw1 : IntKind.i64.wrap ((i : Int) + 1) = (i : Int) + 1 := by rw [IntKind.wrap_i64]; omega
  have htn : ((i : Int) + 1).toNat = i + 1 := by omega
  have hb1 : (0 : Int) ≤ (i : Int) + 1 := by omega
  have hin : i ≤ n := by omega
  have hb3 : (i : Int) ≤ (n : Int) := by omega
  have hb5 : (i : Int) ≤ (n : Int) + 1 := by omega
  have hb6 : (i : Int) + 1 ≤ (n : Int) + 1 := by omega
  obtain ⟨N, hN⟩ : ∃ N, N = w.heap.size := ⟨_, rfl⟩
  rw [← hN] at hrz hg1 hcpA hcpB ⊢
  have HN : Hid (N = w.heap.size) := hN
  clear hN
  have hg2 : (W1.setRow N A1).heap[N]? = some (.cells A1 61 (0, 0)) := setRow_heap W1 N ROW A1 _ _ hg1
  have hcs2 : ∀ j v, cs[j]? = some v → (W1.setRow N A1).cell? ⟨g, j, none⟩ = some v := fun j v hj => (mod_setRow W1 N A1).cell (hcs1 j v hj) (by dsimp only; have := HN.out; omega)
  obtain ⟨W2, hW2⟩ : ∃ W2, W2 = W1.setRow N A1 := ⟨_, rfl⟩
  rw [← hW2] at hg2 hcs2
  have HM2 : Hid (Mod (fun b => b = N) w W2) := by
    rw [Hid, hW2, HN.out]
    exact HM.out.trans (mod_setRow _ _ _)
  have hcpA' := hcpA W1 hg1 hv1
  rw [← hW2] at hcpA'
  clear hW2 hcpA
  have hcpB' := hcpB W2.drew hg2 hcs2
  clear hcpB
  have hg3 : (W2.drew.setRow N A2).heap[N]? = some (.cells A2 61 (0, 0)) := setRow_heap W2.drew N A1 A2 _ _ hg2
  obtain ⟨W3, hW3⟩ : ∃ W3, W3 = W2.drew.setRow N A2 := ⟨_, rfl⟩
  rw [← hW3] at hg3 hcpB'
  have HM3 : Hid (Mod (fun _ => False) w W3) := by
    have h : Mod (fun b => b = N) w W3 := by
      rw [hW3]
      exact (HM2.out.trans (Mod.of_below (Below.drew (Below.refl _ _)))).trans (mod_setRow _ _ _)
    exact ⟨h.os, h.tape, h.output, h.size, fun k hk _ => h.block k hk (by have := HN.out; omega)⟩
  clear hW3
  go_enter Try.func146, Try.ntmps146
  go_wp2_with (first
    | (at_builtin; refine Lib.wpList_append_run _ rfl _ _ _ _ rfl _ _ rfl rfl _ _ (hrz _) ?_)
    | (at_builtin; refine wpl_copyN _ rfl _ _ 55 55 rfl _ _ rfl rfl (hcpA' _ _) ?_))
  go_region_law (refine step_copyN rfl (.tmp 50) (.tmp 53) 55 55 rfl _ _ (by simp [Act.eval, Act.put]) (by simp [Act.eval, Act.put]) (hcpB' _ _ _ _ _ (by omega) (by omega)) ?_)
  go_wp2
  go_ret
  exact ⟨G, rfl, A2, hg3, HG.out.1, HG.out.2, HF.out.1, HF.out.2, HM3.out⟩
end Go.Proofs.Yteebglgbeijolaa


/-
  slices.Insert where there is no room.
-/
import Derived.Test.YtdfapehonegeeaaIns
import Derived.Test.YtdfapehonegeeaaItr
namespace Go.Proofs.Ytdfapehonegeeaa
open Go.RowKit Go.Shelf
set_option linter.unusedSectionVars false
variable [DecidableEq Rw] [Inhabited Rw] [DecidableEq TabR] [Inhabited TabR]
set_option linter.unusedVariables false
set_option linter.unusedSimpArgs false

set_option maxHeartbeats 4000000 in
set_option maxRecDepth 100000 in
theorem insert_grow (g n c i vb : Nat) (cs vs : List Value) (w : World) (hi : i < n) (hnc : n ≤ c) (hroom : c < n + 1) (hbig : n ≤ 1048576)
    (hcl : cs.length = n * 4) (hcs : ∀ j v, cs[j]? = some v → w.cell? ⟨g, j, none⟩ = some v) (hvl : vs.length = 4) (hv : w.heap[vb]? = some (.cells vs.toArray 32 (0, 0))) (h1c : ∀ v ∈ cs, v.oneCell' = true) (h1v : ∀ v ∈ vs, v.oneCell' = true) :
    Calls Try.prog 127 #[.slice (some ⟨g, 0, none⟩) n c, .int .i64 i, .slice (some ⟨vb, 0, none⟩) 1 1] w fun e w' =>
      ∃ G, e = .returned (.slice (some ⟨w.heap.size, 0, none⟩) (n + 1) G) ∧ ∃ cur' : Array Value, w'.heap[w.heap.size]? = some (.cells cur' 32 (0, 0)) ∧ n + 1 ≤ G ∧ G ≤ maxLen ∧ cur'.size = G * 4 ∧ cur'.toList.take ((n + 1) * 4) = cs.take (i * 4) ++ vs ++ cs.drop (i * 4) ∧ Mod (fun _ => False) w w' := by
  obtain ⟨i0, hi0, hz0, hzs, hzb⟩ := info_parts infoRw
  have hsz : (Try.prog.info? 32).map (·.size) = some 4 := by rw [hi0]; simp [hzs]
  have hz2 : ¬ ((i : Int) = (n : Int)) := by omega
  have hz3 : (c : Int) < (n : Int) + 1 := by omega
  have hgw : g < w.heap.size := World.block_lt_of_cell? w ⟨g, 0, none⟩ (hcs 0 _ (List.getElem?_eq_getElem (by omega)))
  have hvw : vb < w.heap.size := (Array.getElem?_eq_some_iff.1 hv).1
  have hkk : (n : Int) + 1 - (i : Int) = ((n + 1 - i : Nat) : Int) := by omega
  have hik : i + (n + 1 - i) = n + 1 := by omega
  obtain ⟨Z, hZ⟩ : ∃ Z : Value, Z = .agg #[.string ⟨#[]⟩, .int .i64 0, .string ⟨#[]⟩, .bool false] := ⟨_, rfl⟩
  rw [← hZ] at hz0
  have hZs : Z.cells.size = 4 := by rw [hZ]; rfl
  have hold : (Builtin.firstCells i0.size i (.slice (some ⟨g, 0, none⟩) i c)).run Try.prog w.drew = .ok (cs.take (i * 4)).toArray w.drew := by
    rw [hzs]
    exact run_firstCells_some w.drew 4 i ⟨g, 0, none⟩ i c (cs.take (i * 4)) (by rw [List.length_take]; omega) (fun j v hj => by
      rw [addr_add, Nat.zero_add]
      rw [List.getElem?_take] at hj
      split at hj
      · exact hcs j v hj
      · cases hj)
  have hrz : ∀ ty, (Builtin.append_ #[26, 3] ty #[.slice (some ⟨g, 0, none⟩) i c, .int .i64 ((n : Int) + 1 - (i : Int))]).run Try.prog w =
      .ok (.slice (some ⟨w.heap.size, 0, none⟩) (n + 1) (grownCap w (n + 1) c 32)) (w.drew.alloc (.cells ((cs.take (i * 4)).toArray ++ Builtin.zeroCells Z.cells (n + 1 - i) ++ Builtin.zeroCells Z.cells (grownCap w (n + 1) c 32 - (n + 1))) 32)) := fun ty => by
    have h := Lib.run_append_grow_zeros w 26 3 ty 32 i0 _ .i64 .i64 Try.underlying26 Try.underlying3 hi0 hz0 (some ⟨g, 0, none⟩) i c (cs.take (i * 4)) hold (n + 1 - i) (by omega) (by omega) (by omega) (by omega) (by rw [hzb]; omega) (by rw [hzb, hik]; exact growslice_fits hroom (by omega))
    rw [hik] at h
    rw [hkk]
    exact h
  obtain ⟨G, hG⟩ : ∃ G, G = grownCap w (n + 1) c 32 := ⟨_, rfl⟩
  obtain ⟨ROW, hROW⟩ : ∃ ROW : Array Value, ROW = (cs.take (i * 4)).toArray ++ Builtin.zeroCells Z.cells (n + 1 - i) ++ Builtin.zeroCells Z.cells (G - (n + 1)) := ⟨_, rfl⟩
  rw [← hG] at hrz
  rw [← hROW] at hrz
  have hGn : n + 1 ≤ G := by rw [hG]; exact grownCap_ge w _ _ _
  have hGm : G ≤ maxLen := by
    rw [hG]
    exact grownCap_le_maxLen w (n + 1) c 32 (by unfold maxLen; omega)
  have hRl : ROW.size = G * 4 := by
    rw [hROW]
    simp [Builtin.zeroCells, hZs, List.length_take, hcl]
    omega
  have hR1 : ROW.toList.take (i * 4) = cs.take (i * 4) := by
    rw [hROW]
    simp only [Array.toList_append, List.append_assoc]
    rw [List.take_append_of_le_length (by simp [hcl]; omega)]
    rw [List.take_of_length_le (by simp; omega)]
  obtain ⟨W1, hW1⟩ : ∃ W1, W1 = w.drew.alloc (.cells ROW 32) := ⟨_, rfl⟩
  rw [← hW1] at hrz
  have hg1 : W1.heap[w.heap.size]? = some (.cells ROW 32 (0, 0)) := by rw [hW1]; exact World.alloc_heap_new w.drew _
  have hm1 : Mod (fun b => b = w.heap.size) w W1 := by
    rw [hW1]
    exact (Mod.of_below (Below.drew (Below.refl _ _))).trans (mod_alloc _ _ _)
  have hv1 : W1.heap[vb]? = some (.cells vs.toArray 32 (0, 0)) := (hm1.block vb hvw (by omega)).trans hv
  have hcs1 : ∀ j v, cs[j]? = some v → W1.cell? ⟨g, j, none⟩ = some v := fun j v hj => hm1.cell (hcs j v hj) (by dsimp only; omega)
  obtain ⟨A1, hA1⟩ : ∃ A1 : Array Value, A1 = (ROW.toList.take (i * 4) ++ vs ++ ROW.toList.drop (i * 4 + vs.length)).toArray := ⟨_, rfl⟩
  have hcpA : ∀ (W : World), W.heap[w.heap.size]? = some (.cells ROW 32 (0, 0)) → W.heap[vb]? = some (.cells vs.toArray 32 (0, 0)) → ∀ ty dc, (Builtin.copy_ #[26, 26] ty #[.slice (some ⟨w.heap.size, i * 4, none⟩) (n + 1 - i) dc, .slice (some ⟨vb, 0, none⟩) 1 1]).run Try.prog W = .ok (goInt 1) (W.setRow w.heap.size A1) := fun W hWa hWb ty dc => by
    rw [hA1]
    refine run_copyN W _ _ ty 32 4 w.heap.size (i * 4) (n + 1 - i) dc ⟨vb, 0, none⟩ 1 1 1 ROW 32 vs Try.underlying26 hsz hWa (by simp only [Nat.min_def]; split <;> omega) (by omega) (fun j v hj => ?_) (by rw [hvl, hRl]; omega) h1v
    rw [addr_add]
    exact cell_row hWb (by simpa using hj)
  have hA1s : A1.size = G * 4 := by
    rw [hA1]
    simp only [List.size_toArray, List.length_append, List.length_take, List.length_drop, Array.length_toList]
    rw [hRl, hvl]
    omega
  have hdl : (cs.drop (i * 4)).length = (n - i) * 4 := by rw [List.length_drop, hcl]; omega
  obtain ⟨A2, hA2⟩ : ∃ A2 : Array Value, A2 = (A1.toList.take ((i + 1) * 4) ++ cs.drop (i * 4) ++ A1.toList.drop ((i + 1) * 4 + (cs.drop (i * 4)).length)).toArray := ⟨_, rfl⟩
  have hcpB : ∀ (W : World), W.heap[w.heap.size]? = some (.cells A1 32 (0, 0)) → (∀ j v, cs[j]? = some v → W.cell? ⟨g, j, none⟩ = some v) → ∀ ty dl dc sl sc, dl = n - i → sl = n - i → (Builtin.copy_ #[26, 26] ty #[.slice (some ⟨w.heap.size, (i + 1) * 4, none⟩) dl dc, .slice (some ⟨g, i * 4, none⟩) sl sc]).run Try.prog W = .ok (goInt ((n - i : Nat) : Int)) (W.setRow w.heap.size A2) := fun W hWa hWc ty dl dc sl sc e1 e2 => by
    rw [hA2]
    refine run_copyN W _ _ ty 32 4 w.heap.size ((i + 1) * 4) dl dc ⟨g, i * 4, none⟩ sl sc (n - i) A1 32 (cs.drop (i * 4)) Try.underlying26 hsz hWa (by simp only [Nat.min_def]; split <;> omega) hdl (fun j v hj => ?_) (by rw [hdl, hA1s]; omega) (fun v hv => h1c v (List.mem_of_mem_drop hv))
    rw [addr_add]
    rw [List.getElem?_drop] at hj
    exact hWc _ v hj
  have hfin : A2.size = G * 4 ∧ A2.toList.take ((n + 1) * 4) = cs.take (i * 4) ++ vs ++ cs.drop (i * 4) := by
    have hA1t : A1.toList.take ((i + 1) * 4) = cs.take (i * 4) ++ vs := by
      rw [hA1, hR1]
      simp only []
      rw [List.take_append_of_le_length (by simp only [List.length_append, List.length_take, hcl, hvl]; omega), List.take_of_length_le (by simp only [List.length_append, List.length_take, hcl, hvl]; omega)]
    constructor
    · rw [hA2]
      simp only [List.size_toArray, List.length_append, List.length_take, List.length_drop, Array.length_toList]
      rw [hA1s, hcl]
      omega
    · rw [hA2, hA1t]
      simp only []
      rw [List.take_append_of_le_length (by simp only [List.length_append, List.length_take, List.length_drop, hcl, hvl]; omega), List.take_of_length_le (by simp only [List.length_append, List.length_take, List.length_drop, hcl, hvl]; omega)]
  have HF : Hid (A2.size = G * 4 ∧ A2.toList.take ((n + 1) * 4) = cs.take (i * 4) ++ vs ++ cs.drop (i * 4)) := hfin
  have HG : Hid (n + 1 ≤ G ∧ G ≤ maxLen) := ⟨hGn, hGm⟩
  have HM : Hid (Mod (fun b => b = w.heap.size) w W1) := hm1
  have hG63 : G ≤ 9223372036854775807 := by unfold maxLen at hGm; omega
  clear hfin hA1 hA2 hW1 hROW hG hold hRl hR1 hGm hm1 hkk hik hi0 hz0 hZ hZs hzs hzb
  have hGi : ¬ (G = i) := by omega
  have hGim : ¬ (G = i + 1) := by omega
  have hci : ¬ (c = i) := by omega
  have hw1 : IntKind.i64.wrap ((i : Int) + 1) = (i : Int) + 1 := by rw [IntKind.wrap_i64]; omega
  have htn : ((i : Int) + 1).toNat = i + 1 := by omega
  have hb1 : (0 : Int) ≤ (i : Int) + 1 := by omega
  have hin : i ≤ n := by omega
  have hb3 : (i : Int) ≤ (n : Int) := by omega
  have hb5 : (i : Int) ≤ (n : Int) + 1 := by omega
  have hb6 : (i : Int) + 1 ≤ (n : Int) + 1 := by omega
  obtain ⟨N, hN⟩ : ∃ N, N = w.heap.size := ⟨_, rfl⟩
  rw [← hN] at hrz hg1 hcpA hcpB ⊢
  have HN : Hid (N = w.heap.size) := hN
  clear hN
  have hg2 : (W1.setRow N A1).heap[N]? = some (.cells A1 32 (0, 0)) := setRow_heap W1 N ROW A1 _ _ hg1
  have hcs2 : ∀ j v, cs[j]? = some v → (W1.setRow N A1).cell? ⟨g, j, none⟩ = some v := fun j v hj => (mod_setRow W1 N A1).cell (hcs1 j v hj) (by dsimp only; have := HN.out; omega)
  obtain ⟨W2, hW2⟩ : ∃ W2, W2 = W1.setRow N A1 := ⟨_, rfl⟩
  rw [← hW2] at hg2 hcs2
  have HM2 : Hid (Mod (fun b => b = N) w W2) := by
    rw [Hid, hW2, HN.out]
    exact HM.out.trans (mod_setRow _ _ _)
  have hcpA' := hcpA W1 hg1 hv1
  rw [← hW2] at hcpA'
  clear hW2 hcpA
  have hcpB' := hcpB W2.drew hg2 hcs2
  clear hcpB
  have hg3 : (W2.drew.setRow N A2).heap[N]? = some (.cells A2 32 (0, 0)) := setRow_heap W2.drew N A1 A2 _ _ hg2
  obtain ⟨W3, hW3⟩ : ∃ W3, W3 = W2.drew.setRow N A2 := ⟨_, rfl⟩
  rw [← hW3] at hg3 hcpB'
  have HM3 : Hid (Mod (fun _ => False) w W3) := by
    have h : Mod (fun b => b = N) w W3 := by
      rw [hW3]
      exact (HM2.out.trans (Mod.of_below (Below.drew (Below.refl _ _)))).trans (mod_setRow _ _ _)
    exact ⟨h.os, h.tape, h.output, h.size, fun k hk _ => h.block k hk (by have := HN.out; omega)⟩
  clear hW3
  go_enter Try.func127, Try.ntmps127
  go_wp2_with (first
    | (at_builtin; refine Lib.wpList_append_run _ rfl _ _ _ _ rfl _ _ rfl rfl _ _ (hrz _) ?_)
    | (at_builtin; refine wpl_copyN _ rfl _ _ 26 26 rfl _ _ rfl rfl (hcpA' _ _) ?_))
  go_region_law (refine step_copyN rfl (.tmp 50) (.tmp 53) 26 26 rfl _ _ (by simp [Act.eval, Act.put]) (by simp [Act.eval, Act.put]) (hcpB' _ _ _ _ _ (by omega) (by omega)) ?_)
  go_wp2
  go_ret
  exact ⟨G, rfl, A2, hg3, HG.out.1, HG.out.2, HF.out.1, HF.out.2, HM3.out⟩

end Go.Proofs.Ytdfapehonegeeaa

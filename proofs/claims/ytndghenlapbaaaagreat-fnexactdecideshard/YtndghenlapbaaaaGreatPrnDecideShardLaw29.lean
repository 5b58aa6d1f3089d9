import Derived.Test.YtndghenlapbaaaaGreatPrnDecideShardLaw28
import Derived.Maps.AppendAt
import Derived.Test.YtndghenlapbaaaaGreatPrnDecideShardLaw22
import Derived.Test.YtndghenlapbaaaaGreatPrnDecideShardLaw19
import Derived.BigQuiet
import Derived.Deep.QuietTactic
import Derived.Deep.RegionHeld3
set_option linter.unusedSectionVars false
set_option linter.unusedVariables false
set_option linter.unusedSimpArgs false

/-
 slices.Insert at the end.
-/
namespace Go.Proofs.YtndghenlapbaaaaGreat
open Go.RowKit Go.Shelf
variable [DecidableEq Mrk] [Inhabited Mrk] [DecidableEq Bal] [Inhabited Bal] [DecidableEq Ledg] [Inhabited Ledg] [DecidableEq Leg] [Inhabited Leg]

set_option maxHeartbeats 4000000 in
set_option maxRecDepth 100000 in
theorem insertM_end (base : Nat) (v : Value) (n vb : Nat) (cs vs : List Value) (w : World) (hown : w.ownsRow base 89 2 v n cs) (hn : n ≤ 1048576) (hbase : base ≤ w.heap.size)
  (hvl : vs.length = 2) (hv : w.heap[vb]? = some (.cells vs.toArray 89 (0, 0))) (h1v : ∀ v ∈ vs, v.oneCell' = true) :
  Calls Tryz.prog 110 #[v, .int .i64 n, .slice (some ⟨vb, 0, none⟩) 1 1] w fun e w' =>
   ∃ v', e = .returned v' ∧ w'.ownsRow base 89 2 v' (n + 1) (cs ++ vs) ∧ w.grownBy w' v.ownBlock ∧ (v'.ownBlock = v.ownBlock ∨ v'.ownBlock = some w.heap.size) := by
 obtain ⟨i0, hi, hz0, hz1, hz2⟩ := info_parts infoMrk
 have HV : Hid (∀ j u, vs[j]? = some u → w.cell? ((⟨vb, 0, none⟩ : Addr).add j) = some u) := fun j u hj => by
  rw [addr_addM]
  exact cell_rowM hv (by simpa using hj)
 obtain ⟨a, c, rfl⟩ := owns_form hown
 have hnc : n ≤ c := by
  rcases hown.2 with ⟨_, h⟩ | ⟨g, cap, cur, h, _, _, h2, _⟩
  ·
   omega
  ·
   simp only [Value.slice.injEq] at h; omega
 have hcm : c ≤ 9223372036854775807 := by
  rcases hown.2 with ⟨h, _⟩ | ⟨g, cap, cur, h, _, _, h2, h3, _⟩
  ·
   simp only [Value.slice.injEq] at h; omega
  ·
   simp only [Value.slice.injEq] at h; unfold maxLen at h3; omega
 rcases Nat.eq_or_lt_of_le hnc with rfl | h0
 all_goals
  try (have hck : ¬ c = n := by omega)
  go_enter Tryz.func110, Tryz.ntmps110
  go_wp2_with (at_builtin; refine wpList_append_own_at w rfl (.tmp 23) (.tmp 24) 34 rfl base 89 i0 _ 2 16 Tryz.underlying34 hi hz0 hz1 hz2 rfl (by decide) _ n cs rfl hown ⟨vb, 0, none⟩ 1 1 vs rfl hvl HV.out h1v ?_ ?_ hbase ?_)
  ·
   unfold maxLen; omega
  ·
   omega
  intro v' w' h1 h2 h3 h4
  obtain ⟨a', c', rfl⟩ := owns_form h1
  go_wp2
  go_ret
  exact ⟨_, rfl, h1, h2, h4⟩
end Go.Proofs.YtndghenlapbaaaaGreat

/-
 slices.Insert where there is no room.
-/
namespace Go.Proofs.YtndghenlapbaaaaGreat
open Go.RowKit Go.Shelf
variable [DecidableEq Mrk] [Inhabited Mrk] [DecidableEq Bal] [Inhabited Bal] [DecidableEq Ledg] [Inhabited Ledg] [DecidableEq Leg] [Inhabited Leg]

set_option maxHeartbeats 4000000 in
set_option maxRecDepth 100000 in
theorem insertM_grow (g n c i vb : Nat) (cs vs : List Value) (w : World) (hi : i < n) (hnc : n ≤ c) (hroom : c < n + 1) (hbig : n ≤ 1048576)
  (hcl : cs.length = n * 2) (hcs : ∀ j v, cs[j]? = some v → w.cell? ⟨g, j, none⟩ = some v) (hvl : vs.length = 2) (hv : w.heap[vb]? = some (.cells vs.toArray 89 (0, 0))) (h1c : ∀ v ∈ cs, v.oneCell' = true) (h1v : ∀ v ∈ vs, v.oneCell' = true) :
  Calls Tryz.prog 110 #[.slice (some ⟨g, 0, none⟩) n c, .int .i64 i, .slice (some ⟨vb, 0, none⟩) 1 1] w fun e w' =>
   ∃ G, e = .returned (.slice (some ⟨w.heap.size, 0, none⟩) (n + 1) G) ∧ ∃ cur' : Array Value, w'.heap[w.heap.size]? = some (.cells cur' 89 (0, 0)) ∧ n + 1 ≤ G ∧ G ≤ maxLen ∧ cur'.size = G * 2 ∧ cur'.toList.take ((n + 1) * 2) = cs.take (i * 2) ++ vs ++ cs.drop (i * 2) ∧ Mod (fun _ => False) w w' := by
 obtain ⟨i0, hi0, hz0, hzs, hzb⟩ := info_parts infoMrk
 have hsz : (Tryz.prog.info? 89).map (·.size) = some 2 := by rw [hi0]; simp [hzs]
 have hz2 : ¬ ((i : Int) = (n : Int)) := by omega
 have hz3 : (c : Int) < (n : Int) + 1 := by omega
 have hgw : g < w.heap.size := wL w ⟨g, 0, none⟩ (hcs 0 _ (List.getElem?_eq_getElem (by omega)))
 have hvw : vb < w.heap.size := (Array.getElem?_eq_some_iff.1 hv).1
 have hkk : (n : Int) + 1 - (i : Int) = ((n + 1 - i : Nat) : Int) := by omega
 have hik : i + (n + 1 - i) = n + 1 := by omega
 obtain ⟨Z, hZ⟩ : ∃ Z : Value, Z = .agg #[.int .i64 0, .int .i64 0] := ⟨_, rfl⟩
 rw [← hZ] at hz0
 have hZs : Z.cells.size = 2 := by rw [hZ]; rfl
 have hold : (Builtin.firstCells i0.size i (.slice (some ⟨g, 0, none⟩) i c)).run Tryz.prog w.drew = .ok (cs.take (i * 2)).toArray w.drew := by
  rw [hzs]
  exact run_firstCells_some w.drew 2 i ⟨g, 0, none⟩ i c (cs.take (i * 2)) (by rw [List.length_take]; omega) (fun j v hj => by
   rw [addr_addM, Nat.zero_add]
   rw [List.getElem?_take] at hj
   split at hj
   ·
    exact hcs j v hj
   ·
    cases hj)
 have hrz : ∀ ty, (Builtin.append_ #[34, 3] ty #[.slice (some ⟨g, 0, none⟩) i c, .int .i64 ((n : Int) + 1 - (i : Int))]).run Tryz.prog w =
   .ok (.slice (some ⟨w.heap.size, 0, none⟩) (n + 1) (grownCap w (n + 1) c 89)) (w.drew.alloc (.cells ((cs.take (i * 2)).toArray ++ Builtin.zeroCells Z.cells (n + 1 - i) ++ Builtin.zeroCells Z.cells (grownCap w (n + 1) c 89 - (n + 1))) 89)) := fun ty => by
  have h := Lib.run_append_grow_zeros w 34 3 ty 89 i0 _ .i64 .i64 Tryz.underlying34 Tryz.underlying3 hi0 hz0 (some ⟨g, 0, none⟩) i c (cs.take (i * 2)) hold (n + 1 - i) (by omega) (by omega) (by omega) (by omega) (by rw [hzb]; omega) (by rw [hzb, hik]; exact growslice_fits hroom (by omega))
  rw [hik] at h
  rw [hkk]
  exact h
 obtain ⟨G, hG⟩ : ∃ G, G = grownCap w (n + 1) c 89 := ⟨_, rfl⟩
 obtain ⟨ROW, hROW⟩ : ∃ ROW : Array Value, ROW = (cs.take (i * 2)).toArray ++ Builtin.zeroCells Z.cells (n + 1 - i) ++ Builtin.zeroCells Z.cells (G - (n + 1)) := ⟨_, rfl⟩
 rw [← hG] at hrz
 rw [← hROW] at hrz
 have hGn : n + 1 ≤ G := by rw [hG]; exact grownCap_ge w _ _ _
 have hGm : G ≤ maxLen := by
  rw [hG]
  exact grownCap_le_maxLen w (n + 1) c 89 (by unfold maxLen; omega)
 have hRl : ROW.size = G * 2 := by
  rw [hROW]
  simp [Builtin.zeroCells, hZs, List.length_take, hcl]
  omega
 have hR1 : ROW.toList.take (i * 2) = cs.take (i * 2) := by
  rw [hROW]
  simp only [Array.toList_append, List.append_assoc]
  rw [List.take_append_of_le_length (by simp [hcl]; omega)]
  rw [List.take_of_length_le (by simp; omega)]
 obtain ⟨W1, hW1⟩ : ∃ W1, W1 = w.drew.alloc (.cells ROW 89) := ⟨_, rfl⟩
 rw [← hW1] at hrz
 have hg1 : W1.heap[w.heap.size]? = some (.cells ROW 89 (0, 0)) := by rw [hW1]; exact heap_newM w.drew _
 have hm1 : Mod (fun b => b = w.heap.size) w W1 := by
  rw [hW1]
  exact (Mod.of_below (Below.drew (Below.refl _ _))).trans ((Mod.refl _ _).alloc _)
 have hv1 : W1.heap[vb]? = some (.cells vs.toArray 89 (0, 0)) := (hm1.block vb hvw (by omega)).trans hv
 have hcs1 : ∀ j v, cs[j]? = some v → W1.cell? ⟨g, j, none⟩ = some v := fun j v hj => hm1.cell (hcs j v hj) (by dsimp only; omega)
 obtain ⟨A1, hA1⟩ : ∃ A1 : Array Value, A1 = (ROW.toList.take (i * 2) ++ vs ++ ROW.toList.drop (i * 2 + vs.length)).toArray := ⟨_, rfl⟩
 have hcpA : ∀ (W : World), W.heap[w.heap.size]? = some (.cells ROW 89 (0, 0)) → W.heap[vb]? = some (.cells vs.toArray 89 (0, 0)) → ∀ ty dc, (Builtin.copy_ #[34, 34] ty #[.slice (some ⟨w.heap.size, i * 2, none⟩) (n + 1 - i) dc, .slice (some ⟨vb, 0, none⟩) 1 1]).run Tryz.prog W = .ok (goInt 1) (W.setRow w.heap.size A1) := fun W hWa hWb ty dc => by
  rw [hA1]
  refine run_copyM W _ _ ty 89 2 w.heap.size (i * 2) (n + 1 - i) dc ⟨vb, 0, none⟩ 1 1 1 ROW 89 vs Tryz.underlying34 hsz hWa (by simp only [Nat.min_def]; split <;> omega) (by omega) (fun j v hj => ?_) (by rw [hvl, hRl]; omega) h1v
  rw [addr_addM]
  exact cell_rowM hWb (by simpa using hj)
 have hA1s : A1.size = G * 2 := by
  rw [hA1]
  simp only [List.size_toArray, List.length_append, List.length_take, List.length_drop, Array.length_toList]
  rw [hRl, hvl]
  omega
 have hdl : (cs.drop (i * 2)).length = (n - i) * 2 := by rw [List.length_drop, hcl]; omega
 obtain ⟨A2, hA2⟩ : ∃ A2 : Array Value, A2 = (A1.toList.take ((i + 1) * 2) ++ cs.drop (i * 2) ++ A1.toList.drop ((i + 1) * 2 + (cs.drop (i * 2)).length)).toArray := ⟨_, rfl⟩
 have hcpB : ∀ (W : World), W.heap[w.heap.size]? = some (.cells A1 89 (0, 0)) → (∀ j v, cs[j]? = some v → W.cell? ⟨g, j, none⟩ = some v) → ∀ ty dl dc sl sc, dl = n - i → sl = n - i → (Builtin.copy_ #[34, 34] ty #[.slice (some ⟨w.heap.size, (i + 1) * 2, none⟩) dl dc, .slice (some ⟨g, i * 2, none⟩) sl sc]).run Tryz.prog W = .ok (goInt ((n - i : Nat) : Int)) (W.setRow w.heap.size A2) := fun W hWa hWc ty dl dc sl sc e1 e2 => by
  rw [hA2]
  refine run_copyM W _ _ ty 89 2 w.heap.size ((i + 1) * 2) dl dc ⟨g, i * 2, none⟩ sl sc (n - i) A1 89 (cs.drop (i * 2)) Tryz.underlying34 hsz hWa (by simp only [Nat.min_def]; split <;> omega) hdl (fun j v hj => ?_) (by rw [hdl, hA1s]; omega) (fun v hv => h1c v (List.mem_of_mem_drop hv))
  rw [addr_addM]
  rw [List.getElem?_drop] at hj
  exact hWc _ v hj
 have hfin : A2.size = G * 2 ∧ A2.toList.take ((n + 1) * 2) = cs.take (i * 2) ++ vs ++ cs.drop (i * 2) := by
  have hA1t : A1.toList.take ((i + 1) * 2) = cs.take (i * 2) ++ vs := by
   rw [hA1, hR1]
   simp only []
   rw [List.take_append_of_le_length (by simp only [List.length_append, List.length_take, hcl, hvl]; omega), List.take_of_length_le (by simp only [List.length_append, List.length_take, hcl, hvl]; omega)]
  constructor
  ·
   rw [hA2]
   simp only [List.size_toArray, List.length_append, List.length_take, List.length_drop, Array.length_toList]
   rw [hA1s, hcl]
   omega
  ·
   rw [hA2, hA1t]
   simp only []
   rw [List.take_append_of_le_length (by simp only [List.length_append, List.length_take, List.length_drop, hcl, hvl]; omega), List.take_of_length_le (by simp only [List.length_append, List.length_take, List.length_drop, hcl, hvl]; omega)]
 have HF : Hid (A2.size = G * 2 ∧ A2.toList.take ((n + 1) * 2) = cs.take (i * 2) ++ vs ++ cs.drop (i * 2)) := hfin
 have HG : Hid (n + 1 ≤ G ∧ G ≤ maxLen) := ⟨hGn, hGm⟩
 have HM : Hid (Mod (fun b => b = w.heap.size) w W1) := hm1
 have hG63 : G ≤ 9223372036854775807 := by unfold maxLen at hGm; omega
 clear hfin hA1 hA2 hW1 hROW hG hold hRl hR1 hGm hm1 hkk hik hi0 hz0 hZ hZs hzs hzb
 have hGi : ¬ (G = i) := by omega
 have hGim : ¬ (G = i + 1) := by omega
 have hci : ¬ (c = i) := by omega
 have hw1 : IntKind.i64.wrap ((i : Int) + 1) = (i : Int) + 1 := by rw [IntKind.wrap_i64]; omega
 have htn : ((i : Int) + 1).toNat = i + 1 := by omega
 have hb1 : (0 : Int) ≤ (i : Int) + 1 := by omega
 have hin : i ≤ n := by omega
 have hb3 : (i : Int) ≤ (n : Int) := by omega
 have hb5 : (i : Int) ≤ (n : Int) + 1 := by omega
 have hb6 : (i : Int) + 1 ≤ (n : Int) + 1 := by omega
 obtain ⟨N, hN⟩ : ∃ N, N = w.heap.size := ⟨_, rfl⟩
 rw [← hN] at hrz hg1 hcpA hcpB ⊢
 have HN : Hid (N = w.heap.size) := hN
 clear hN
 have hg2 : (W1.setRow N A1).heap[N]? = some (.cells A1 89 (0, 0)) := setRow_heap W1 N ROW A1 _ _ hg1
 have hcs2 : ∀ j v, cs[j]? = some v → (W1.setRow N A1).cell? ⟨g, j, none⟩ = some v := fun j v hj => (mod_setRowM W1 N A1).cell (hcs1 j v hj) (by dsimp only; have := HN.out; omega)
 obtain ⟨W2, hW2⟩ : ∃ W2, W2 = W1.setRow N A1 := ⟨_, rfl⟩
 rw [← hW2] at hg2 hcs2
 have HM2 : Hid (Mod (fun b => b = N) w W2) := by
  rw [Hid, hW2, HN.out]
  exact HM.out.trans (mod_setRowM _ _ _)
 have hcpA' := hcpA W1 hg1 hv1
 rw [← hW2] at hcpA'
 clear hW2 hcpA
 have hcpB' := hcpB W2.drew hg2 hcs2
 clear hcpB
 have hg3 : (W2.drew.setRow N A2).heap[N]? = some (.cells A2 89 (0, 0)) := setRow_heap W2.drew N A1 A2 _ _ hg2
 obtain ⟨W3, hW3⟩ : ∃ W3, W3 = W2.drew.setRow N A2 := ⟨_, rfl⟩
 rw [← hW3] at hg3 hcpB'
 have HM3 : Hid (Mod (fun _ => False) w W3) := by
  have h : Mod (fun b => b = N) w W3 := by
   rw [hW3]
   exact (HM2.out.trans (Mod.of_below (Below.drew (Below.refl _ _)))).trans (mod_setRowM _ _ _)
  exact ⟨h.os, h.tape, h.output, h.size, fun k hk _ => h.block k hk (by have := HN.out; omega)⟩
 clear hW3
 go_enter Tryz.func110, Tryz.ntmps110
 go_wp2_with (first
  | (at_builtin; refine Lib.wpList_append_run _ rfl _ _ _ _ rfl _ _ rfl rfl _ _ (hrz _) ?_)
  | (at_builtin; refine wpl_copyM _ rfl _ _ 34 34 rfl _ _ rfl rfl (hcpA' _ _) ?_))
 go_region_law (refine step_copyM rfl (.tmp 50) (.tmp 53) 34 34 rfl _ _ (by simp [Act.eval, Act.put]) (by simp [Act.eval, Act.put]) (hcpB' _ _ _ _ _ (by omega) (by omega)) ?_)
 go_wp2
 go_ret
 exact ⟨G, rfl, A2, hg3, HG.out.1, HG.out.2, HF.out.1, HF.out.2, HM3.out⟩
end Go.Proofs.YtndghenlapbaaaaGreat

/-
 slices.Insert of one mark, whatever room there is.
-/
namespace Go.Proofs.YtndghenlapbaaaaGreat
open Go.RowKit Go.Shelf
variable [DecidableEq Mrk] [Inhabited Mrk] [DecidableEq Bal] [Inhabited Bal] [DecidableEq Ledg] [Inhabited Ledg] [DecidableEq Leg] [Inhabited Leg]

theorem mrksC_app (xs ys : List Mrk) : mrksC (xs ++ ys) = mrksC xs ++ mrksC ys := by simp [mrksC]
theorem mrksC_len (xs : List Mrk) : (mrksC xs).length = xs.length * 2 := by
 induction xs with
 | nil => rfl
 | cons x xs ih =>
  have e : mrksC (x :: xs) = mrkC x ++ mrksC xs := by simp [mrksC]
  have hl : (mrkC x).length = 2 := rfl
  rw [e, List.length_append, ih, hl, List.length_cons]
  omega
theorem mrkC_one (x : Mrk) : ∀ u ∈ mrkC x, u.oneCell' = true := by
 intro u hu
 simp [mrkC] at hu
 rcases hu with rfl | rfl <;> rfl
theorem mrksC_oneC (xs : List Mrk) : ∀ u ∈ mrksC xs, u.oneCell' = true := by
 intro u hu
 unfold mrksC at hu
 obtain ⟨x, _, h⟩ := List.mem_flatMap.1 hu
 exact mrkC_one x u h
theorem mrksC_take (xs : List Mrk) (i : Nat) : mrksC (xs.take i) = (mrksC xs).take (i * 2) := by
 induction xs generalizing i with
 | nil => simp [mrksC]
 | cons x xs ih =>
  cases i with
  | zero => simp [mrksC]
  | succ i =>
   have e : mrksC (x :: xs) = mrkC x ++ mrksC xs := by simp [mrksC]
   have e2 : mrksC ((x :: xs).take (i + 1)) = mrkC x ++ mrksC (xs.take i) := by simp [mrksC]
   have hl : (mrkC x).length = 2 := rfl
   rw [e, e2, ih, List.take_append]
   rw [List.take_of_length_le (l := mrkC x) (by omega), hl, show (i + 1) * 2 - 2 = i * 2 by omega]
theorem mrksC_drop (xs : List Mrk) (i : Nat) : mrksC (xs.drop i) = (mrksC xs).drop (i * 2) := by
 induction xs generalizing i with
 | nil => simp [mrksC]
 | cons x xs ih =>
  cases i with
  | zero => simp [mrksC]
  | succ i =>
   have e : mrksC (x :: xs) = mrkC x ++ mrksC xs := by simp [mrksC]
   have e2 : mrksC ((x :: xs).drop (i + 1)) = mrksC (xs.drop i) := by simp [mrksC]
   have hl : (mrkC x).length = 2 := rfl
   rw [e, e2, ih, List.drop_append]
   rw [List.drop_of_length_le (l := mrkC x) (by omega), hl, show (i + 1) * 2 - 2 = i * 2 by omega, List.nil_append]
def InsM (base : Nat) (v : Value) (ys : List Mrk) (w : World) (e : Ending) (w' : World) : Prop :=
 ∃ v', e = .returned v' ∧ w'.ownsRow base 89 2 v' ys.length (mrksC ys) ∧ Mod (fun b => v.ownBlock = some b) w w' ∧ (∀ b, v'.ownBlock = some b → v.ownBlock = some b ∨ (w.heap.size ≤ b ∧ b < w'.heap.size))
theorem insertM_any (base : Nat) (v : Value) (i vb : Nat) (xs : List Mrk) (r : Mrk) (w : World) (hown : w.ownsRow base 89 2 v xs.length (mrksC xs)) (hi : i ≤ xs.length) (hn : xs.length ≤ 1048000) (hbase : base ≤ w.heap.size)
  (hv : w.heap[vb]? = some (.cells (mrkC r).toArray 89 (0, 0))) (hvb : v.ownBlock ≠ some vb) :
  Calls Tryz.prog 110 #[v, .int .i64 i, .slice (some ⟨vb, 0, none⟩) 1 1] w (InsM base v (xs.take i ++ [r] ++ xs.drop i) w) := by
 have hl : (xs.take i ++ [r] ++ xs.drop i).length = xs.length + 1 := by simp only [List.length_append, List.length_take, List.length_drop, List.length_cons, List.length_nil]; omega
 have hcc : mrksC (xs.take i ++ [r] ++ xs.drop i) = (mrksC xs).take (i * 2) ++ mrkC r ++ (mrksC xs).drop (i * 2) := by
  rw [mrksC_app, mrksC_app, mrksC_take, mrksC_drop]
  simp [mrksC]
 have hcl : (mrksC xs).length = xs.length * 2 := mrksC_len xs
 unfold InsM
 rw [hl, hcc]
 by_cases hie : i = xs.length
 ·
  subst hie
  refine (insertM_end base v xs.length vb (mrksC xs) (mrkC r) w hown (by omega) hbase rfl hv (mrkC_one r)).mono ?_
  rintro e w' ⟨v', rfl, h1, h2, h3⟩
  refine ⟨v', rfl, ?_, Mod.of_grown h2, fun b hb => ?_⟩
  ·
   rw [List.take_of_length_le (by omega), List.drop_of_length_le (by omega), List.append_nil]
   exact h1
  ·
   rcases h3 with h3 | h3
   ·
    exact .inl (h3 ▸ hb)
   ·
    rw [h3] at hb
    simp only [Option.some.injEq] at hb
    have := (h1.lt b (by rw [h3, hb])).2
    exact .inr ⟨by omega, this⟩
 ·
  rcases hown.2 with ⟨_, h0⟩ | ⟨g, cap, cur, rfl, hbg, hg, hnc, hcm, hcs, htake⟩
  ·
   omega
  ·
   have hne : vb ≠ g := fun e => hvb (by rw [e]; rfl)
   have hgl : g < w.heap.size := (Array.getElem?_eq_some_iff.1 hg).1
   by_cases hroom : xs.length + 1 ≤ cap
   ·
    refine (insertM_shift g xs.length cap i vb (mrksC xs) (mrkC r) cur w hg (by omega) hroom (by unfold maxLen at hcm; omega) hne hcs hcl htake rfl hv (mrksC_oneC xs) (mrkC_one r)).mono ?_
    rintro e w' ⟨rfl, cur', h1, h2, h3, h4⟩
    refine ⟨_, rfl, ⟨?_, .inr ⟨g, cap, cur', rfl, hbg, h1, hroom, hcm, h2, h3⟩⟩, h4.mono (fun b h => by rw [h]; rfl), fun b hb => .inl hb⟩
    rw [← hcc, mrksC_len, hl]
   ·
    refine (insertM_grow g xs.length cap i vb (mrksC xs) (mrkC r) w (by omega) hnc (by omega) (by omega) hcl (fun j v hj => ?_) rfl hv (mrksC_oneC xs) (mrkC_one r)).mono ?_
    ·
     refine cell_rowM hg ?_
     rw [← htake, List.getElem?_take] at hj
     split at hj
     ·
      exact hj
     ·
      cases hj
    ·
     rintro e w' ⟨G, rfl, cur', h1, h2, h3, h4, h5, h6⟩
     have hlt := (Array.getElem?_eq_some_iff.1 h1).1
     refine ⟨_, rfl, ⟨?_, .inr ⟨w.heap.size, G, cur', rfl, hbase, h1, h2, h3, h4, h5⟩⟩, h6.mono (fun b h => h.elim), fun b hb => ?_⟩
     ·
      rw [← hcc, mrksC_len, hl]
     ·
      simp only [Value.ownBlock, Option.some.injEq] at hb
      exact .inr ⟨by omega, by omega⟩
end Go.Proofs.YtndghenlapbaaaaGreat

/-
 A mark put in its place, a vote written: the program's.
-/
namespace Go.Proofs.YtndghenlapbaaaaGreat
open Go.RowKit
variable [DecidableEq Leg] [Inhabited Leg] [DecidableEq Mrk] [Inhabited Mrk] [DecidableEq Bal] [Inhabited Bal] [DecidableEq Cont] [Inhabited Cont] [DecidableEq Shd] [Inhabited Shd] [DecidableEq ShdR] [Inhabited ShdR] [DecidableEq Rw] [Inhabited Rw] [DecidableEq Ledg] [Inhabited Ledg] [DecidableEq LedgR] [Inhabited LedgR] [DecidableEq OutcR] [Inhabited OutcR]
attribute [local go_sem ↓] Go.wp_at_zero Go.wp_at_succ

set_option maxRecDepth 20000 in
set_option maxHeartbeats 4000000 in
theorem withMark_u (x : Value) (xs : List Mrk) (m : Mrk) (base : Nat) (F : Nat → Prop) (w : World) (hx : mrksR.O w base F x xs) (hbase : base ≤ w.heap.size) (hn : xs.length ≤ 1000) (hr : ∀ i j, i < j → j < xs.length → (xs.getD i default).con < (xs.getD j default).con) :
  Calls Tryz.prog 77 #[x, .agg #[.int .i64 m.con, .int .i64 m.val]] w fun e w' => ∃ v F', e = .returned v ∧ mrksR.O w' base F' v (putM xs m) ∧ Mod F w w' ∧ ∀ b, F' b → F b ∨ w.heap.size ≤ b := by
 have HP : Hid (∀ W, Below w.heap.size w W → Calls Tryz.prog 74 #[x, .int .i64 m.con] W (PlM xs m.con W)) := fun W hW => markPlace_any x xs m.con W (mrksR.below (mrksR.ofO hx) hW) (by omega) hr
 obtain ⟨ho, hF⟩ := hx
 have HI : Hid (∀ W i vb, Below w.heap.size w W → i ≤ xs.length → W.heap[vb]? = some (.cells (mrkC m).toArray 89 (0, 0)) → w.heap.size ≤ vb → Calls Tryz.prog 110 #[x, .int .i64 i, .slice (some ⟨vb, 0, none⟩) 1 1] W (InsM base x (xs.take i ++ [m] ++ xs.drop i) W)) := fun W i vb hW hi hv hl => insertM_any base x i vb xs m W (owns_below ho hW) hi (by omega) (Nat.le_trans hbase hW.size) hv (fun e => by have := (ho.lt _ e).2; omega)
 have HQ : Hid (∀ i, i ≤ xs.length → (∀ k, k < i → (xs.getD k default).con < m.con) → (∀ k, i ≤ k → k < xs.length → m.con ≤ (xs.getD k default).con) → putM xs m = xs.take i ++ [m] ++ xs.drop i) := fun i hi h1 h2 => by
  unfold putM
  rw [posM_eq hi h1 (fun h => by have := h2 i (Nat.le_refl _) h; omega)]
 have HF : Hid (F = fun b => x.ownBlock = some b) := hF
 obtain ⟨ax, cx, rfl⟩ := owns_form ho
 clear ho hF hr
 obtain ⟨n, hn'⟩ : ∃ n, n = xs.length := ⟨_, rfl⟩
 rw [← hn'] at HP HI HQ HF hn ⊢
 have HN : Hid (xs.length = n) := hn'.symm
 clear hn'
 go_enter Tryz.func77, Tryz.ntmps77
 go_wp2_with fail
 refine (HP.out _ (qBq)).mono ?_
 rintro e w1 ⟨i, hi, rfl, p1, p2, hb1⟩
 have HE : Hid (putM xs m = xs.take i ++ [m] ++ xs.drop i) := HQ.out i (by rw [← HN.out]; exact hi) p1 (by rw [HN.out] at p2; exact p2)
 have hi' : i ≤ n := by rw [← HN.out]; exact hi
 have hB1 : Below w.heap.size w w1 := bS (qBq) hb1
 have x0 : w1.cell? ⟨w.heap.size, 0, none⟩ = some (.int .i64 m.con) := cK hb1 (by simp [go_sem])
 have x1 : w1.cell? ⟨w.heap.size, 1, none⟩ = some (.int .i64 m.val) := cK hb1 (by simp [go_sem])
 have hz1 := hB1.size
 generalize decide (i < xs.length ∧ (xs.getD i default).con = m.con) = fd at *
 clear HP HQ p1 p2 hb1 hi
 go_wp2_with fail
 refine (HI.out _ i w1.heap.size (qBq) hi' (World.alloc_heap_new w1 _) hz1).mono ?_
 rintro e w2 ⟨v2, rfl, o2, m2, l2⟩
 go_wp2
 go_ret
 refine ⟨_, _, rfl, ⟨?_, rfl⟩, ?_, fun b hb => ?_⟩
 ·
  rw [HE.out]; exact o2
 ·
  rw [HF.out]; exact (Mod.of_below (qBq)).trans m2
 ·
  rw [HF.out]
  exact (l2 b hb).imp id (fun h => by have := h.1; simp at this; omega)
end Go.Proofs.YtndghenlapbaaaaGreat


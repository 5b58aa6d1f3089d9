import Derived.Test.YtndghenlapbaaaaGreatPrnVoteShardLaw25
import Derived.Maps.AppendAt
import Derived.Test.YtndghenlapbaaaaGreatPrnVoteShardLaw22
import Derived.Test.YtndghenlapbaaaaGreatPrnVoteShardLaw21
import Derived.BigQuiet
import Derived.Deep.QuietTactic
import Derived.Deep.RegionHeld3
import Derived.Test.YtndghenlapbaaaaGreatPrnVoteShardLaw2
set_option linter.unusedSectionVars false
set_option linter.unusedVariables false
set_option linter.unusedSimpArgs false

/-
 slices.Insert where there is no room.
-/
namespace Go.Proofs.YtndghenlapbaaaaGreat
open Go.RowKit Go.Shelf
variable [DecidableEq Leg] [Inhabited Leg] [DecidableEq Cont] [Inhabited Cont] [DecidableEq Bal] [Inhabited Bal] [DecidableEq Ledg] [Inhabited Ledg]

set_option maxHeartbeats 4000000 in
set_option maxRecDepth 100000 in
theorem insertC_grow (g n c i vb : Nat) (cs vs : List Value) (w : World) (hi : i < n) (hnc : n ≤ c) (hroom : c < n + 1) (hbig : n ≤ 1048576)
  (hcl : cs.length = n * 2) (hcs : ∀ j v, cs[j]? = some v → w.cell? ⟨g, j, none⟩ = some v) (hvl : vs.length = 2) (hv : w.heap[vb]? = some (.cells vs.toArray 44 (0, 0))) (h1c : ∀ v ∈ cs, v.oneCell' = true) (h1v : ∀ v ∈ vs, v.oneCell' = true) :
  Calls Tryz.prog 83 #[.slice (some ⟨g, 0, none⟩) n c, .int .i64 i, .slice (some ⟨vb, 0, none⟩) 1 1] w fun e w' =>
   ∃ G, e = .returned (.slice (some ⟨w.heap.size, 0, none⟩) (n + 1) G) ∧ ∃ cur' : Array Value, w'.heap[w.heap.size]? = some (.cells cur' 44 (0, 0)) ∧ n + 1 ≤ G ∧ G ≤ maxLen ∧ cur'.size = G * 2 ∧ cur'.toList.take ((n + 1) * 2) = cs.take (i * 2) ++ vs ++ cs.drop (i * 2) ∧ Mod (fun _ => False) w w' := by
 obtain ⟨i0, hi0, hz0, hzs, hzb⟩ := info_parts infoConts
 have hsz : (Tryz.prog.info? 44).map (·.size) = some 2 := by rw [hi0]; simp [hzs]
 have hz2 : ¬ ((i : Int) = (n : Int)) := by omega
 have hz3 : (c : Int) < (n : Int) + 1 := by omega
 have hgw : g < w.heap.size := wL w ⟨g, 0, none⟩ (hcs 0 _ (List.getElem?_eq_getElem (by omega)))
 have hvw : vb < w.heap.size := (Array.getElem?_eq_some_iff.1 hv).1
 have hkk : (n : Int) + 1 - (i : Int) = ((n + 1 - i : Nat) : Int) := by omega
 have hik : i + (n + 1 - i) = n + 1 := by omega
 obtain ⟨Z, hZ⟩ : ∃ Z : Value, Z = .agg #[.int .i64 0, .slice none 0 0] := ⟨_, rfl⟩
 rw [← hZ] at hz0
 have hZs : Z.cells.size = 2 := by rw [hZ]; rfl
 have hold : (Builtin.firstCells i0.size i (.slice (some ⟨g, 0, none⟩) i c)).run Tryz.prog w.drew = .ok (cs.take (i * 2)).toArray w.drew := by
  rw [hzs]
  exact run_firstCells_some w.drew 2 i ⟨g, 0, none⟩ i c (cs.take (i * 2)) (by rw [List.length_take]; omega) (fun j v hj => by
   rw [addr_addC, Nat.zero_add]
   rw [List.getElem?_take] at hj
   split at hj
   ·
    exact hcs j v hj
   ·
    cases hj)
 have hrz : ∀ ty, (Builtin.append_ #[35, 3] ty #[.slice (some ⟨g, 0, none⟩) i c, .int .i64 ((n : Int) + 1 - (i : Int))]).run Tryz.prog w =
   .ok (.slice (some ⟨w.heap.size, 0, none⟩) (n + 1) (grownCap w (n + 1) c 44)) (w.drew.alloc (.cells ((cs.take (i * 2)).toArray ++ Builtin.zeroCells Z.cells (n + 1 - i) ++ Builtin.zeroCells Z.cells (grownCap w (n + 1) c 44 - (n + 1))) 44)) := fun ty => by
  have h := Lib.run_append_grow_zeros w 35 3 ty 44 i0 _ .i64 .i64 Tryz.underlying35 Tryz.underlying3 hi0 hz0 (some ⟨g, 0, none⟩) i c (cs.take (i * 2)) hold (n + 1 - i) (by omega) (by omega) (by omega) (by omega) (by rw [hzb]; omega) (by rw [hzb, hik]; exact growslice_fits hroom (by omega))
  rw [hik] at h
  rw [hkk]
  exact h
 obtain ⟨G, hG⟩ : ∃ G, G = grownCap w (n + 1) c 44 := ⟨_, rfl⟩
 obtain ⟨ROW, hROW⟩ : ∃ ROW : Array Value, ROW = (cs.take (i * 2)).toArray ++ Builtin.zeroCells Z.cells (n + 1 - i) ++ Builtin.zeroCells Z.cells (G - (n + 1)) := ⟨_, rfl⟩
 rw [← hG] at hrz
 rw [← hROW] at hrz
 have hGn : n + 1 ≤ G := by rw [hG]; exact grownCap_ge w _ _ _
 have hGm : G ≤ maxLen := by
  rw [hG]
  exact grownCap_le_maxLen w (n + 1) c 44 (by unfold maxLen; omega)
 have hRl : ROW.size = G * 2 := by
  rw [hROW]
  simp [Builtin.zeroCells, hZs, List.length_take, hcl]
  omega
 have hR1 : ROW.toList.take (i * 2) = cs.take (i * 2) := by
  rw [hROW]
  simp only [Array.toList_append, List.append_assoc]
  rw [List.take_append_of_le_length (by simp [hcl]; omega)]
  rw [List.take_of_length_le (by simp; omega)]
 obtain ⟨W1, hW1⟩ : ∃ W1, W1 = w.drew.alloc (.cells ROW 44) := ⟨_, rfl⟩
 rw [← hW1] at hrz
 have hg1 : W1.heap[w.heap.size]? = some (.cells ROW 44 (0, 0)) := by rw [hW1]; exact heap_newC w.drew _
 have hm1 : Mod (fun b => b = w.heap.size) w W1 := by
  rw [hW1]
  exact (Mod.of_below (Below.drew (Below.refl _ _))).trans ((Mod.refl _ _).alloc _)
 have hv1 : W1.heap[vb]? = some (.cells vs.toArray 44 (0, 0)) := (hm1.block vb hvw (by omega)).trans hv
 have hcs1 : ∀ j v, cs[j]? = some v → W1.cell? ⟨g, j, none⟩ = some v := fun j v hj => hm1.cell (hcs j v hj) (by dsimp only; omega)
 obtain ⟨A1, hA1⟩ : ∃ A1 : Array Value, A1 = (ROW.toList.take (i * 2) ++ vs ++ ROW.toList.drop (i * 2 + vs.length)).toArray := ⟨_, rfl⟩
 have hcpA : ∀ (W : World), W.heap[w.heap.size]? = some (.cells ROW 44 (0, 0)) → W.heap[vb]? = some (.cells vs.toArray 44 (0, 0)) → ∀ ty dc, (Builtin.copy_ #[35, 35] ty #[.slice (some ⟨w.heap.size, i * 2, none⟩) (n + 1 - i) dc, .slice (some ⟨vb, 0, none⟩) 1 1]).run Tryz.prog W = .ok (goInt 1) (W.setRow w.heap.size A1) := fun W hWa hWb ty dc => by
  rw [hA1]
  refine run_copyC W _ _ ty 44 2 w.heap.size (i * 2) (n + 1 - i) dc ⟨vb, 0, none⟩ 1 1 1 ROW 44 vs Tryz.underlying35 hsz hWa (by simp only [Nat.min_def]; split <;> omega) (by omega) (fun j v hj => ?_) (by rw [hvl, hRl]; omega) h1v
  rw [addr_addC]
  exact cell_rowC hWb (by simpa using hj)
 have hA1s : A1.size = G * 2 := by
  rw [hA1]
  simp only [List.size_toArray, List.length_append, List.length_take, List.length_drop, Array.length_toList]
  rw [hRl, hvl]
  omega
 have hdl : (cs.drop (i * 2)).length = (n - i) * 2 := by rw [List.length_drop, hcl]; omega
 obtain ⟨A2, hA2⟩ : ∃ A2 : Array Value, A2 = (A1.toList.take ((i + 1) * 2) ++ cs.drop (i * 2) ++ A1.toList.drop ((i + 1) * 2 + (cs.drop (i * 2)).length)).toArray := ⟨_, rfl⟩
 have hcpB : ∀ (W : World), W.heap[w.heap.size]? = some (.cells A1 44 (0, 0)) → (∀ j v, cs[j]? = some v → W.cell? ⟨g, j, none⟩ = some v) → ∀ ty dl dc sl sc, dl = n - i → sl = n - i → (Builtin.copy_ #[35, 35] ty #[.slice (some ⟨w.heap.size, (i + 1) * 2, none⟩) dl dc, .slice (some ⟨g, i * 2, none⟩) sl sc]).run Tryz.prog W = .ok (goInt ((n - i : Nat) : Int)) (W.setRow w.heap.size A2) := fun W hWa hWc ty dl dc sl sc e1 e2 => by
  rw [hA2]
  refine run_copyC W _ _ ty 44 2 w.heap.size ((i + 1) * 2) dl dc ⟨g, i * 2, none⟩ sl sc (n - i) A1 44 (cs.drop (i * 2)) Tryz.underlying35 hsz hWa (by simp only [Nat.min_def]; split <;> omega) hdl (fun j v hj => ?_) (by rw [hdl, hA1s]; omega) (fun v hv => h1c v (List.mem_of_mem_drop hv))
  rw [addr_addC]
  rw [List.getElem?_drop] at hj
  exact hWc _ v hj
 have hfin : A2.size = G * 2 ∧ A2.toList.take ((n + 1) * 2) = cs.take (i * 2) ++ vs ++ cs.drop (i * 2) := by
  have hA1t : A1.toList.take ((i + 1) * 2) = cs.take (i * 2) ++ vs := by
   rw [hA1, hR1]
   simp only []
   rw [List.take_append_of_le_length (by simp only [List.length_append, List.length_take, hcl, hvl]; omega), List.take_of_length_le (by simp only [List.length_append, List.length_take, hcl, hvl]; omega)]
  constructor
  ·
   rw [hA2]
   simp only [List.size_toArray, List.length_append, List.length_take, List.length_drop, Array.length_toList]
   rw [hA1s, hcl]
   omega
  ·
   rw [hA2, hA1t]
   simp only []
   rw [List.take_append_of_le_length (by simp only [List.length_append, List.length_take, List.length_drop, hcl, hvl]; omega), List.take_of_length_le (by simp only [List.length_append, List.length_take, List.length_drop, hcl, hvl]; omega)]
 have HF : Hid (A2.size = G * 2 ∧ A2.toList.take ((n + 1) * 2) = cs.take (i * 2) ++ vs ++ cs.drop (i * 2)) := hfin
 have HG : Hid (n + 1 ≤ G ∧ G ≤ maxLen) := ⟨hGn, hGm⟩
 have HM : Hid (Mod (fun b => b = w.heap.size) w W1) := hm1
 have hG63 : G ≤ 9223372036854775807 := by unfold maxLen at hGm; omega
 clear hfin hA1 hA2 hW1 hROW hG hold hRl hR1 hGm hm1 hkk hik hi0 hz0 hZ hZs hzs hzb
 have hGi : ¬ (G = i) := by omega
 have hGim : ¬ (G = i + 1) := by omega
 have hci : ¬ (c = i) := by omega
 have hw1 : IntKind.i64.wrap ((i : Int) + 1) = (i : Int) + 1 := by rw [IntKind.wrap_i64]; omega
 have htn : ((i : Int) + 1).toNat = i + 1 := by omega
 have hb1 : (0 : Int) ≤ (i : Int) + 1 := by omega
 have hin : i ≤ n := by omega
 have hb3 : (i : Int) ≤ (n : Int) := by omega
 have hb5 : (i : Int) ≤ (n : Int) + 1 := by omega
 have hb6 : (i : Int) + 1 ≤ (n : Int) + 1 := by omega
 obtain ⟨N, hN⟩ : ∃ N, N = w.heap.size := ⟨_, rfl⟩
 rw [← hN] at hrz hg1 hcpA hcpB ⊢
 have HN : Hid (N = w.heap.size) := hN
 clear hN
 have hg2 : (W1.setRow N A1).heap[N]? = some (.cells A1 44 (0, 0)) := setRow_heap W1 N ROW A1 _ _ hg1
 have hcs2 : ∀ j v, cs[j]? = some v → (W1.setRow N A1).cell? ⟨g, j, none⟩ = some v := fun j v hj => (mod_setRowC W1 N A1).cell (hcs1 j v hj) (by dsimp only; have := HN.out; omega)
 obtain ⟨W2, hW2⟩ : ∃ W2, W2 = W1.setRow N A1 := ⟨_, rfl⟩
 rw [← hW2] at hg2 hcs2
 have HM2 : Hid (Mod (fun b => b = N) w W2) := by
  rw [Hid, hW2, HN.out]
  exact HM.out.trans (mod_setRowC _ _ _)
 have hcpA' := hcpA W1 hg1 hv1
 rw [← hW2] at hcpA'
 clear hW2 hcpA
 have hcpB' := hcpB W2.drew hg2 hcs2
 clear hcpB
 have hg3 : (W2.drew.setRow N A2).heap[N]? = some (.cells A2 44 (0, 0)) := setRow_heap W2.drew N A1 A2 _ _ hg2
 obtain ⟨W3, hW3⟩ : ∃ W3, W3 = W2.drew.setRow N A2 := ⟨_, rfl⟩
 rw [← hW3] at hg3 hcpB'
 have HM3 : Hid (Mod (fun _ => False) w W3) := by
  have h : Mod (fun b => b = N) w W3 := by
   rw [hW3]
   exact (HM2.out.trans (Mod.of_below (Below.drew (Below.refl _ _)))).trans (mod_setRowC _ _ _)
  exact ⟨h.os, h.tape, h.output, h.size, fun k hk _ => h.block k hk (by have := HN.out; omega)⟩
 clear hW3
 go_enter Tryz.func83, Tryz.ntmps83
 go_wp2_with (first
  | (at_builtin; refine Lib.wpList_append_run _ rfl _ _ _ _ rfl _ _ rfl rfl _ _ (hrz _) ?_)
  | (at_builtin; refine wpl_copyC _ rfl _ _ 35 35 rfl _ _ rfl rfl (hcpA' _ _) ?_))
 go_region_law (refine step_copyC rfl (.tmp 50) (.tmp 53) 35 35 rfl _ _ (by simp [Act.eval, Act.put]) (by simp [Act.eval, Act.put]) (hcpB' _ _ _ _ _ (by omega) (by omega)) ?_)
 go_wp2
 go_ret
 exact ⟨G, rfl, A2, hg3, HG.out.1, HG.out.2, HF.out.1, HF.out.2, HM3.out⟩
end Go.Proofs.YtndghenlapbaaaaGreat

/-
 slices.Insert of one contract, whatever room there is.
-/
namespace Go.Proofs.YtndghenlapbaaaaGreat
open Go.RowKit Go.Shelf
variable [DecidableEq Leg] [Inhabited Leg] [DecidableEq Cont] [Inhabited Cont] [DecidableEq Bal] [Inhabited Bal] [DecidableEq Ledg] [Inhabited Ledg]

theorem cont_cellsI {w : World} {base : Nat} {F : Nat → Prop} {u : Value} {x : Cont} (h : contR.O w base F u x) : ∃ a c, u = .agg #[.int .i64 x.id, .slice a x.legs.length c] ∧ lvCont u = [.int .i64 x.id, .slice a x.legs.length c] := by
 obtain ⟨u1, F1, rfl, h1, _⟩ := h
 obtain ⟨a, c, rfl⟩ := owns_form h1.1
 exact ⟨a, c, rfl, rfl⟩
theorem cont_one2 {w : World} {base : Nat} {F : Nat → Prop} {u : Value} {x : Cont} (h : contR.O w base F u x) : (lvCont u).length = 2 ∧ ∀ y ∈ lvCont u, y.oneCell' = true := by
 obtain ⟨a, c, rfl, e⟩ := cont_cellsI h
 rw [e]
 refine ⟨rfl, fun y hy => ?_⟩
 simp at hy
 rcases hy with rfl | rfl <;> rfl
theorem conts_one {w : World} {base : Nat} {v : Value} {n : Nat} {d : Nat → Cont} {cs : List Value} {us : Nat → Value} {fs : Nat → Nat → Prop} (hp : PO contR 44 2 lvCont w base v n n d cs us fs) : ∀ y ∈ cs, y.oneCell' = true := by
 intro y hy
 obtain ⟨k, hk, rfl⟩ := List.getElem_of_mem hy
 have hcl : cs.length = n * 2 := hp.row.1
 have h1 := hp.cell (k / 2) (by omega) (k % 2) (by omega)
 have e : k / 2 * 2 + k % 2 = k := by omega
 rw [e, List.getElem?_eq_getElem hk] at h1
 exact (cont_one2 (hp.el (k / 2) (by omega))).2 _ (List.mem_of_getElem? h1.symm)
theorem insertC_any (base : Nat) (v : Value) (i vb : Nat) (xs : List Cont) (u : Value) (x : Cont) (F Fu : Nat → Prop) (w : World) (hown : contsR.O w base F v xs) (hi : i ≤ xs.length) (hn : xs.length ≤ 1048000) (hbase : base ≤ w.heap.size)
  (hu : contR.O w base Fu u x) (hd : ∀ b, F b → ¬ Fu b) (hv : w.heap[vb]? = some (.cells (lvCont u).toArray 44 (0, 0))) (hvb : v.ownBlock ≠ some vb) :
  Calls Tryz.prog 83 #[v, .int .i64 i, .slice (some ⟨vb, 0, none⟩) 1 1] w fun e w' =>
   ∃ v' F', e = .returned v' ∧ contsR.O w' base F' v' (xs.take i ++ [x] ++ xs.drop i) ∧ Mod (fun b => v.ownBlock = some b) w w' ∧ (∀ b, F' b → F b ∨ Fu b ∨ w.heap.size ≤ b) := by
 obtain ⟨cs, us, fs, hp, hF⟩ := hown
 have hcl : cs.length = xs.length * 2 := hp.row.1
 obtain ⟨hul, hu1⟩ := cont_one2 hu
 have h1c := conts_one hp
 have hown := hp.row
 have fin : ∀ (v' : Value) (w' : World), w'.ownsRow base 44 2 v' (xs.length + 1) (cs.take (i * 2) ++ lvCont u ++ cs.drop (i * 2)) → Mod (fun b => v.ownBlock = some b) w w' → (∀ b, v'.ownBlock = some b → v.ownBlock = some b ∨ w.heap.size ≤ b) →
   ∃ F', contsR.O w' base F' v' (xs.take i ++ [x] ++ xs.drop i) ∧ (∀ b, F' b → F b ∨ Fu b ∨ w.heap.size ≤ b) := fun v' w' h1 h2 h3 => NO.ins hp hF hi hu hul hd h1 h2 h3
 by_cases hie : i = xs.length
 ·
  subst hie
  refine (insertC_end base v xs.length vb cs (lvCont u) w hown (by omega) hbase hul hv hu1).mono ?_
  rintro e w' ⟨v', rfl, h1, h2, h3⟩
  have h4 : ∀ b, v'.ownBlock = some b → v.ownBlock = some b ∨ w.heap.size ≤ b := fun b hb => by
   rcases h3 with h3 | h3
   ·
    exact .inl (h3 ▸ hb)
   ·
    rw [h3] at hb
    simp only [Option.some.injEq] at hb
    exact .inr (by omega)
  obtain ⟨F', h5, h6⟩ := fin v' w' (by rw [List.take_of_length_le (by omega), List.drop_of_length_le (by omega), List.append_nil]; exact h1) (Mod.of_grown h2) h4
  exact ⟨v', F', rfl, h5, Mod.of_grown h2, h6⟩
 ·
  rcases hown.2 with ⟨_, h0⟩ | ⟨g, cap, cur, rfl, hbg, hg, hnc, hcm, hcs, htake⟩
  ·
   omega
  ·
   have hne : vb ≠ g := fun e => hvb (by rw [e]; rfl)
   have hgl : g < w.heap.size := (Array.getElem?_eq_some_iff.1 hg).1
   have hcl2 : (cs.take (i * 2) ++ lvCont u ++ cs.drop (i * 2)).length = (xs.length + 1) * 2 := by
    simp only [List.length_append, List.length_take, List.length_drop, hul, hcl]
    omega
   by_cases hroom : xs.length + 1 ≤ cap
   ·
    refine (insertC_shift g xs.length cap i vb cs (lvCont u) cur w hg (by omega) hroom (by unfold maxLen at hcm; omega) hne hcs hcl htake hul hv h1c hu1).mono ?_
    rintro e w' ⟨rfl, cur', h1, h2, h3, h4⟩
    obtain ⟨F', h5, h6⟩ := fin (.slice (some ⟨g, 0, none⟩) (xs.length + 1) cap) w' ⟨hcl2, .inr ⟨g, cap, cur', rfl, hbg, h1, hroom, hcm, h2, h3⟩⟩ (h4.mono (fun b h => by rw [h]; rfl)) (fun b hb => .inl hb)
    exact ⟨_, F', rfl, h5, h4.mono (fun b h => by rw [h]; rfl), h6⟩
   ·
    refine (insertC_grow g xs.length cap i vb cs (lvCont u) w (by omega) hnc (by omega) (by omega) hcl (fun j v hj => ?_) hul hv h1c hu1).mono ?_
    ·
     refine cell_rowC hg ?_
     rw [← htake, List.getElem?_take] at hj
     split at hj
     ·
      exact hj
     ·
      cases hj
    ·
     rintro e w' ⟨G, rfl, cur', h1, h2, h3, h4, h5, h6⟩
     have h6' : Mod (fun b => (Value.slice (some ⟨g, 0, none⟩) xs.length cap).ownBlock = some b) w w' := h6.mono (fun b h => h.elim)
     obtain ⟨F', h7, h8⟩ := fin (.slice (some ⟨w.heap.size, 0, none⟩) (xs.length + 1) G) w' ⟨hcl2, .inr ⟨w.heap.size, G, cur', rfl, hbase, h1, h2, h3, h4, h5⟩⟩ h6' (fun b hb => by simp only [Value.ownBlock, Option.some.injEq] at hb; exact .inr (by omega))
     exact ⟨_, F', rfl, h7, h6', h8⟩
end Go.Proofs.YtndghenlapbaaaaGreat

/-
 What a shard is asked; a shard without a fault.
-/
namespace Go.Proofs.YtndghenlapbaaaaGreat
open Go.RowKit
variable [DecidableEq Rw] [Inhabited Rw] [DecidableEq Bal] [Inhabited Bal] [DecidableEq Ledg] [Inhabited Ledg] [DecidableEq Leg] [Inhabited Leg] [DecidableEq Cont] [Inhabited Cont] [DecidableEq LedgR] [Inhabited LedgR] [DecidableEq OutcR] [Inhabited OutcR] [DecidableEq Mrk] [Inhabited Mrk] [DecidableEq Shd] [Inhabited Shd] [DecidableEq ShdR] [Inhabited ShdR]
attribute [local go_sem ↓] Go.wp_at_zero Go.wp_at_succ

def askedC (d : Shd) (c : Cont) : Int := if shdF d = 0 then (if contractFault c.id c.legs = 0 then (if (onSh d.idx c.legs).length = 0 then 4 else 0) else contractFault c.id c.legs) else shdF d
theorem conts_own {w : World} {base : Nat} {F : Nat → Prop} {v : Value} {xs : List Cont} (h : contsR.O w base F v xs) {b : Nat} (e : v.ownBlock = some b) : F b := by
 obtain ⟨cs, us, fs, hp, hF⟩ := h
 exact (hF b).2 (.inl e)
def heldD (d : Shd) (c : Cont) : Shd := ⟨d.idx, d.bals, d.votes, putC d.held c, d.done, d.appl⟩
def HoldE (d : Shd) (c : Cont) (w : World) (e : Ending) (w' : World) : Prop :=
 ((readyB d c = true ∧ ∃ v F, e = .returned v ∧ shdR.O w' w.heap.size F v (heldD d c)) ∨ (readyB d c = false ∧ ∃ q, e = .panicked [{ v := refV q, recovered := false }])) ∧ Below w.heap.size w w'
theorem apartC_ready {d : Shd} {c : Cont} : (apartC d.idx d.held c.legs = 0 ↔ d.held.any (touchF d c) = false) := by
 unfold apartC
 rw [apartB_touch]
 constructor
 ·
  intro h
  cases e : d.held.any (touchF d c) with
  | false => rfl
  | true =>
   rw [if_pos (by unfold touchF at e; exact e)] at h
   omega
 ·
  intro h
  unfold touchF at h
  rw [h]
  rfl
structure ShdOk (d : Shd) : Prop where
 base : baseF d.idx d.bals = 0
 ls : LsOk d
 held : HeldOk d
theorem shdOk_of {d : Shd} (h : shdF d = 0) : ShdOk d := by
 have h0 : listsF d = 0 := by
  unfold shdF at h
  split at h
  ·
   assumption
  ·
   rename_i h1; exact absurd h h1
 obtain ⟨h1, h2, h3⟩ := listsF_ok h0
 exact ⟨h1, h2, h3⟩
theorem bals_len {bs : List Bal} (h : balFault bs = 0) : bs.length ≤ 1000000 := by
 have := (balsOk_of h).len
 omega
set_option maxRecDepth 20000 in
set_option maxHeartbeats 4000000 in
theorem asked_any (x y : Value) (d : Shd) (c : Cont) (w : World) (hx : shdR.V w x d) (hy : contR.V w y c) :
  Calls Tryz.prog 34 #[x, y] w fun e w' => e = .returned (.int .i64 (askedC d c)) ∧ Below w.heap.size w w' := by
 have HSf : Hid (∀ W, Below w.heap.size w W → Calls Tryz.prog 55 #[x] W fun e w' => e = .returned (.int .i64 (shdF d)) ∧ Below W.heap.size W w') := fun W hW => implShdF_any x d W (shdR.below hx hW)
 obtain ⟨uy, rfl, hy⟩ := hy
 have HCf : Hid (∀ W, Below w.heap.size w W → Calls Tryz.prog 72 #[.agg #[.int .i64 c.id, uy]] W fun e w' => e = .returned (.int .i64 (contractFault c.id c.legs)) ∧ Below W.heap.size W w') := fun W hW => implFault_any c.id uy c.legs W (legsR.below hy hW)
 have HLe : Hid (∀ W, Below w.heap.size w W → contractFault c.id c.legs = 0 → Calls Tryz.prog 73 #[uy, .int .i64 d.idx] W fun e w' => ∃ v, e = .returned v ∧ w'.ownsRow W.heap.size 93 4 v (onSh d.idx c.legs).length (legsC (onSh d.idx c.legs)) ∧ Below W.heap.size W w') := fun W hW hcf => legsOn_any uy c.legs d.idx W (legsR.below hy hW) (by have := cf_len hcf; omega)
 obtain ⟨a1, a2, a3, a4, a5, c1, c2, c3, c4, c5, rfl⟩ := shd_form hx
 obtain ⟨ax, cx, rfl⟩ := legs_form hy
 clear hx hy
 have HE0 : Hid (¬ shdF d = 0 → askedC d c = shdF d) := fun h => by unfold askedC; rw [if_neg h]
 have HE1 : Hid (shdF d = 0 → ¬ contractFault c.id c.legs = 0 → askedC d c = contractFault c.id c.legs) := fun h h1 => by unfold askedC; rw [if_pos h, if_neg h1]
 have HE2 : Hid (shdF d = 0 → contractFault c.id c.legs = 0 → (onSh d.idx c.legs).length = 0 → askedC d c = 4) := fun h h1 h2 => by unfold askedC; rw [if_pos h, if_pos h1, if_pos h2]
 have HE3 : Hid (shdF d = 0 → contractFault c.id c.legs = 0 → ¬ (onSh d.idx c.legs).length = 0 → askedC d c = 0) := fun h h1 h2 => by unfold askedC; rw [if_pos h, if_pos h1, if_neg h2]
 generalize d.bals.length = n1 at *
 generalize d.votes.length = n2 at *
 generalize d.held.length = n3 at *
 generalize d.done.length = n4 at *
 generalize d.appl.length = n5 at *
 generalize c.legs.length = nx at *
 generalize askedC d c = Z at *
 generalize shdF d = sf at *
 generalize contractFault c.id c.legs = cf at *
 go_enter Tryz.func34, Tryz.ntmps34
 go_wp2_with fail
 refine (HSf.out _ (qBq)).mono ?_
 rintro e w1 ⟨rfl, hb1⟩
 have hB1 : Below w.heap.size w w1 := bS (qBq) hb1
 have y0 : w1.cell? ⟨w.heap.size, 0, none⟩ = some (.int .i64 d.idx) := cK hb1 (by simp [go_sem])
 have y1 : w1.cell? ⟨w.heap.size, 1, none⟩ = some (.slice a1 n1 c1) := cK hb1 (by simp [go_sem])
 have y2 : w1.cell? ⟨w.heap.size, 2, none⟩ = some (.slice a2 n2 c2) := cK hb1 (by simp [go_sem])
 have y3 : w1.cell? ⟨w.heap.size, 3, none⟩ = some (.slice a3 n3 c3) := cK hb1 (by simp [go_sem])
 have y4 : w1.cell? ⟨w.heap.size, 4, none⟩ = some (.slice a4 n4 c4) := cK hb1 (by simp [go_sem])
 have y5 : w1.cell? ⟨w.heap.size, 5, none⟩ = some (.slice a5 n5 c5) := cK hb1 (by simp [go_sem])
 have x0 : w1.cell? ⟨w.heap.size + 1, 0, none⟩ = some (.int .i64 c.id) := cK hb1 (by simp [go_sem])
 have x1 : w1.cell? ⟨w.heap.size + 1, 1, none⟩ = some (.slice ax nx cx) := cK hb1 (by simp [go_sem])
 clear hb1 HSf
 by_cases hsf : sf = 0
 rotate_left
 ·
  have HC := HE0.out hsf
  have hsf' : (sf != 0) = true := by simp [hsf]
  go_wp2
  go_ret
  exact ⟨by rw [HC] <;> rfl, qBq⟩
 have hsf' : (sf != 0) = false := by simp [hsf]
 go_wp2_with fail
 refine (HCf.out _ hB1).mono ?_
 rintro e w2 ⟨rfl, hb2⟩
 have hB2 : Below w.heap.size w w2 := bS hB1 hb2
 replace y0 := cK hb2 y0
 replace y1 := cK hb2 y1
 replace y2 := cK hb2 y2
 replace y3 := cK hb2 y3
 replace y4 := cK hb2 y4
 replace y5 := cK hb2 y5
 replace x0 := cK hb2 x0
 replace x1 := cK hb2 x1
 by_cases hcf : cf = 0
 rotate_left
 ·
  have HC := HE1.out hsf hcf
  have hcf' : (cf != 0) = true := by simp [hcf]
  go_wp2
  go_ret
  exact ⟨by rw [HC] <;> rfl, qBq⟩
 have hcf' : (cf != 0) = false := by simp [hcf]
 go_wp2_with fail
 refine (HLe.out _ hB2 hcf).mono ?_
 rintro e w3 ⟨v3, rfl, o3, hb3⟩
 obtain ⟨a6, c6, rfl⟩ := owns_form o3
 have hB3 : Below w.heap.size w w3 := bS hB2 hb3
 have HE2' : Hid ((onSh d.idx c.legs).length = 0 → Z = 4) := fun h => HE2.out hsf hcf h
 have HE3' : Hid (¬ (onSh d.idx c.legs).length = 0 → Z = 0) := fun h => HE3.out hsf hcf h
 clear o3 HE0 HE1 HE2 HE3 HLe HCf hsf hcf hb3 hb2
 generalize (onSh d.idx c.legs).length = nl at *
 by_cases hl : nl = 0
 ·
  have HC := HE2'.out hl
  have hl' : ((nl : Int) == 0) = true := by simp [hl]
  clear HE2' HE3'
  go_wp2
  go_ret
  exact ⟨by rw [HC] <;> rfl, qBq⟩
 ·
  have HC := HE3'.out hl
  have hl' : ((nl : Int) == 0) = false := by simpa using hl
  clear HE2' HE3'
  go_wp2
  go_ret
  exact ⟨by rw [HC] <;> rfl, qBq⟩
end Go.Proofs.YtndghenlapbaaaaGreat

/-
 A contract held, too: the program's.
-/
namespace Go.Proofs.YtndghenlapbaaaaGreat
open Go.RowKit
variable [DecidableEq Rw] [Inhabited Rw] [DecidableEq Bal] [Inhabited Bal] [DecidableEq Ledg] [Inhabited Ledg] [DecidableEq Leg] [Inhabited Leg] [DecidableEq Cont] [Inhabited Cont] [DecidableEq LedgR] [Inhabited LedgR] [DecidableEq OutcR] [Inhabited OutcR] [DecidableEq Mrk] [Inhabited Mrk] [DecidableEq Shd] [Inhabited Shd] [DecidableEq ShdR] [Inhabited ShdR]
attribute [local go_sem ↓] Go.wp_at_zero Go.wp_at_succ

set_option maxRecDepth 20000 in
set_option maxHeartbeats 8000000 in
theorem holding_any (x y : Value) (d : Shd) (c : Cont) (w : World) (hx : shdR.V w x d) (hy : contR.V w y c) (hok : ShdOk d) (hcf : contractFault c.id c.legs = 0) :
  Calls Tryz.prog 40 #[x, y] w (HoldE d c w) := by
 have HDn : Hid (∀ W, Below w.heap.size w W → Calls Tryz.prog 78 #[x, .int .i64 c.id] W fun e w' => e = .returned (.bool (findM c.id d.done != 0)) ∧ Below W.heap.size W w') := fun W hW => isDone_any x d c.id W (shdR.below hx hW) (by have := hok.ls.nd; omega) hok.ls.od
 have HBo : Hid (∀ W, Below w.heap.size w W → Calls Tryz.prog 81 #[x] W fun e w' => ∃ b, e = .returned (.agg #[.int .i64 3, .map (some b)]) ∧ W.heap.size ≤ b ∧ Book w' b 54 (bookF (hereG d.idx d.bals)) ∧ Below W.heap.size W w') := fun W hW => bookHere_any x d W (shdR.below hx hW) hok.base
 have HCp : Hid (∀ W, Below w.heap.size w W → Calls Tryz.prog 36 #[x] W fun e w' => ∃ v F, e = .returned v ∧ shdR.O w' W.heap.size F v d ∧ Below W.heap.size W w') := fun W hW => copiedShd_u x d W (shdR.below hx hW) ⟨by have := bals_len (base_idx hok.base).2; omega, by have := hok.ls.nv; omega, by have := hok.ls.nh; omega, by have := hok.ls.nd; omega, by have := hok.ls.na; omega⟩ (fun k hk => by have := hok.held.len hk; omega)
 have HCc : Hid (∀ W, Below w.heap.size w W → Calls Tryz.prog 76 #[y] W fun e w' => ∃ v F, e = .returned v ∧ contR.O w' W.heap.size F v c ∧ Below W.heap.size W w') := fun W hW => copiedCon_u y c W (contR.below hy hW) (by have := cf_len hcf; omega)
 obtain ⟨uy, rfl, hy⟩ := hy
 obtain ⟨u1, u2, u3, u4, u5, rfl, h1, h2, h3, h4, h5⟩ := hx
 have HKa : Hid (∀ W, Below w.heap.size w W → Calls Tryz.prog 79 #[.int .i64 d.idx, u3, .agg #[.int .i64 c.id, uy]] W (KeepE (apartC d.idx d.held c.legs) W)) := fun W hW => keepApart_any d.idx c.id u3 uy d.held c.legs W (contsR.below h3 hW) (legsR.below hy hW) (by have := cf_len hcf; omega)
 have HKc : Hid (∀ W b, Below w.heap.size w W → Book W b 54 (bookF (hereG d.idx d.bals)) → Calls Tryz.prog 80 #[.int .i64 d.idx, .agg #[.int .i64 3, .map (some b)], .agg #[.int .i64 c.id, uy]] W (KeepE (canLs d.bals (onSh d.idx c.legs)) W)) := fun W b hW hb => keepCovered_any d.idx c.id b uy d.bals c.legs W hb (legsR.below hy hW) (by have := cf_len hcf; omega) (base_idx hok.base).1 (base_idx hok.base).2 (cf_fault hcf)
 have HPl : Hid (∀ W v, contsR.V W v d.held → Calls Tryz.prog 82 #[v, .int .i64 c.id] W (PlC d.held c.id W)) := fun W v hv => placeAmong_any v d.held c.id W hv (by have := hok.ls.nh; omega) hok.held.rise
 have HPp : Hid (∀ i, i ≤ d.held.length → (∀ k, k < i → (d.held.getD k default).id < c.id) → (∀ k, i ≤ k → k < d.held.length → c.id ≤ (d.held.getD k default).id) → putC d.held c = d.held.take i ++ [c] ++ d.held.drop i) := fun i hi h1 h2 => by
  unfold putC
  rw [posC_eq hi h1 (fun h => by have := h2 i (Nat.le_refl _) h; omega)]
 have HR1 : Hid (¬ findM c.id d.done = 0 → readyB d c = false) := fun h => readyB_done h
 have HR2 : Hid (¬ apartC d.idx d.held c.legs = 0 → readyB d c = false) := fun h => readyB_touch (by
  cases e : d.held.any (touchF d c) with
  | true => rfl
  | false => exact absurd (apartC_ready.2 e) h)
 have HR3 : Hid (¬ canLs d.bals (onSh d.idx c.legs) = 0 → readyB d c = false) := fun h => readyB_can h
 have HR4 : Hid (findM c.id d.done = 0 → apartC d.idx d.held c.legs = 0 → canLs d.bals (onSh d.idx c.legs) = 0 → readyB d c = true) := fun h1 h2 h3 => readyB_ok h1 h3 (apartC_ready.1 h2)
 have HLh : Hid (d.held.length ≤ 1000) := by have := hok.ls.nh; show _ ≤ _; omega
 obtain ⟨a1, c1, rfl⟩ := bals_form h1
 obtain ⟨a2, c2, rfl⟩ := mrks_form h2
 obtain ⟨a3, c3, rfl⟩ := conts_form h3
 obtain ⟨a4, c4, rfl⟩ := mrks_form h4
 obtain ⟨a5, c5, rfl⟩ := ints_form h5
 obtain ⟨ax, cx, rfl⟩ := legs_form hy
 clear h1 h2 h3 h4 h5 hy hok hcf
 obtain ⟨n3, hn3⟩ : ∃ n3, n3 = d.held.length := ⟨_, rfl⟩
 have HN : Hid (d.held.length = n3) := hn3.symm
 rw [← hn3] at HKa HDn HBo HCp ⊢
 clear hn3
 generalize hn1 : d.bals.length = n1 at *
 generalize hn2 : d.votes.length = n2 at *
 generalize hn4 : d.done.length = n4 at *
 generalize hn5 : d.appl.length = n5 at *
 have HN5 : Hid (d.bals.length = n1 ∧ d.votes.length = n2 ∧ d.done.length = n4 ∧ d.appl.length = n5) := ⟨hn1, hn2, hn4, hn5⟩
 clear hn1 hn2 hn4 hn5
 generalize hnx : c.legs.length = nx at *
 have HNx : Hid (c.legs.length = nx) := hnx
 clear hnx
 generalize apartC d.idx d.held c.legs = ca at *
 generalize canLs d.bals (onSh d.idx c.legs) = cl at *
 generalize findM c.id d.done = fd at *
 go_enter Tryz.func40, Tryz.ntmps40
 go_wp2_with fail
 refine (HDn.out _ (qBq)).mono ?_
 rintro e w1 ⟨rfl, hb1⟩
 have hB1 : Below w.heap.size w w1 := bS (qBq) hb1
 have hz1 := hb1.size
 simp at hz1
 have y0 : w1.cell? ⟨w.heap.size, 0, none⟩ = some (.int .i64 d.idx) := cK hb1 (by simp [go_sem])
 have y1 : w1.cell? ⟨w.heap.size, 1, none⟩ = some (.slice a1 n1 c1) := cK hb1 (by simp [go_sem])
 have y2 : w1.cell? ⟨w.heap.size, 2, none⟩ = some (.slice a2 n2 c2) := cK hb1 (by simp [go_sem])
 have y3 : w1.cell? ⟨w.heap.size, 3, none⟩ = some (.slice a3 n3 c3) := cK hb1 (by simp [go_sem])
 have y4 : w1.cell? ⟨w.heap.size, 4, none⟩ = some (.slice a4 n4 c4) := cK hb1 (by simp [go_sem])
 have y5 : w1.cell? ⟨w.heap.size, 5, none⟩ = some (.slice a5 n5 c5) := cK hb1 (by simp [go_sem])
 have x0 : w1.cell? ⟨w.heap.size + 1, 0, none⟩ = some (.int .i64 c.id) := cK hb1 (by simp [go_sem])
 have x1 : w1.cell? ⟨w.heap.size + 1, 1, none⟩ = some (.slice ax nx cx) := cK hb1 (by simp [go_sem])
 have r0 : w1.cell? ⟨w.heap.size + 2, 0, none⟩ = some (.int .i64 0) := cK hb1 (by simp [go_sem])
 have r1 : w1.cell? ⟨w.heap.size + 2, 1, none⟩ = some (.slice none 0 0) := cK hb1 (by simp [go_sem])
 have r2 : w1.cell? ⟨w.heap.size + 2, 2, none⟩ = some (.slice none 0 0) := cK hb1 (by simp [go_sem])
 have r3 : w1.cell? ⟨w.heap.size + 2, 3, none⟩ = some (.slice none 0 0) := cK hb1 (by simp [go_sem])
 have r4 : w1.cell? ⟨w.heap.size + 2, 4, none⟩ = some (.slice none 0 0) := cK hb1 (by simp [go_sem])
 have r5 : w1.cell? ⟨w.heap.size + 2, 5, none⟩ = some (.slice none 0 0) := cK hb1 (by simp [go_sem])
 have rf : ∀ o, w1.frozen? ⟨w.heap.size + 2, o, none⟩ = false := fun o => by rw [(bcell hb1).2 _ _ (by simp)]; simp [go_sem]
 clear hb1 HDn
 by_cases hfd : fd = 0
 rotate_left
 ·
  have HC := HR1.out hfd
  have hfd' : (fd != 0) = true := by simp [hfd]
  clear HR1 HR2 HR3 HR4 HPp HPl HKa HKc HCp HCc HBo
  go_wp2
  first | exact ⟨.inr ⟨HC, 1, rfl⟩, hB1⟩ | exact ⟨rfl, .inr ⟨HC, 1, rfl⟩, hB1⟩
 have hfd' : (fd != 0) = false := by simp [hfd]
 go_wp2_with fail
 refine (HKa.out _ hB1).mono ?_
 rintro e w2 ⟨he, hb2⟩
 have hB2 : Below w.heap.size w w2 := bS hB1 hb2
 rcases he with ⟨hca, rfl⟩ | ⟨hca, rfl⟩
 rotate_left
 ·
  have HC := HR2.out hca
  clear HR1 HR2 HR3 HR4 HPp HPl HKa HKc HCp HCc HBo
  first | exact ⟨.inr ⟨HC, _, rfl⟩, hB2⟩ | exact ⟨rfl, .inr ⟨HC, _, rfl⟩, hB2⟩
 replace y0 := cK hb2 y0
 replace y1 := cK hb2 y1
 replace y2 := cK hb2 y2
 replace y3 := cK hb2 y3
 replace y4 := cK hb2 y4
 replace y5 := cK hb2 y5
 replace x0 := cK hb2 x0
 replace x1 := cK hb2 x1
 replace r0 := cK hb2 r0
 replace r1 := cK hb2 r1
 replace r2 := cK hb2 r2
 replace r3 := cK hb2 r3
 replace r4 := cK hb2 r4
 replace r5 := cK hb2 r5
 replace rf : ∀ o, w2.frozen? ⟨w.heap.size + 2, o, none⟩ = false := fun o => by rw [(bcell hb2).2 _ _ (by omega)]; exact rf o
 have hz2 : w.heap.size + 2 < w2.heap.size := by have := hb2.size; omega
 clear HKa hb2 hz1
 go_wp2
 refine wp_region_panicAs [] 2 (.pointer (some ⟨w.heap.size, 0, none⟩)) (fun c' W => ∃ q, c' = [{ v := refV q, recovered := false }] ∧ readyB d c = false ∧ Below w.heap.size w W) ?_ ?_
 ·
  rintro c' a W hd ht ⟨q, rfl, hz, hb⟩
  first | exact ⟨hd, .inr ⟨hz, q, rfl⟩, hb⟩ | exact ⟨.inr ⟨hz, q, rfl⟩, hb⟩ | (show bodyPost _ _ _ _ _; exact ⟨hd, .inr ⟨hz, q, rfl⟩, hb⟩)
 refine region_upto (fun W => Below w2.heap.size w2 W ∧ W.cell? ⟨w.heap.size, 0, none⟩ = some (.int .i64 d.idx) ∧ W.cell? ⟨w.heap.size, 1, none⟩ = some (.slice a1 n1 c1) ∧ W.cell? ⟨w.heap.size, 2, none⟩ = some (.slice a2 n2 c2) ∧ W.cell? ⟨w.heap.size, 3, none⟩ = some (.slice a3 n3 c3) ∧ W.cell? ⟨w.heap.size, 4, none⟩ = some (.slice a4 n4 c4) ∧ W.cell? ⟨w.heap.size, 5, none⟩ = some (.slice a5 n5 c5) ∧ W.cell? ⟨w.heap.size + 1, 0, none⟩ = some (.int .i64 c.id) ∧ W.cell? ⟨w.heap.size + 1, 1, none⟩ = some (.slice ax nx cx)) 6 (by kernel_rfl) ⟨qBq, cK (qBq) y0, cK (qBq) y1, cK (qBq) y2, cK (qBq) y3, cK (qBq) y4, cK (qBq) y5, cK (qBq) x0, cK (qBq) x1⟩ (fun hS => ?_)
 refine upto_takeN (i := 0) (v := ?_) rfl (by kernel_rfl) (by kernel_rfl) (by kernel_rfl) (by kernel_rfl) (fun _ _ _ => PanicAs.put (by decide)) (by rfl) hS ?_ ?_
 rotate_left
 ·
  intro wS hSw; (try dsimp only at hSw); go_simp; try with_reducible rfl
 try simp only [Act.put, jA, jB, jC, jD, jE, jF]
 refine upto_takeN (i := 1) (v := ?_) rfl (by kernel_rfl) (by kernel_rfl) (by kernel_rfl) (by kernel_rfl) (fun _ _ _ => PanicAs.put (by decide)) (by rfl) hS ?_ ?_
 rotate_left
 ·
  intro wS hSw; (try dsimp only at hSw); go_simp; try with_reducible rfl
 try simp only [Act.put, jA, jB, jC, jD, jE, jF]
 refine upto_takeN (i := 2) (v := ?_) rfl (by kernel_rfl) (by kernel_rfl) (by kernel_rfl) (by kernel_rfl) (fun _ _ _ => PanicAs.put (by decide)) (by rfl) hS ?_ ?_
 rotate_left
 ·
  intro wS hSw; (try dsimp only at hSw); go_simp; try with_reducible rfl
 try simp only [Act.put, jA, jB, jC, jD, jE, jF]
 refine upto_takeN (i := 4) (v := ?_) rfl (by kernel_rfl) (by kernel_rfl) (by kernel_rfl) (by kernel_rfl) (fun _ _ _ => PanicAs.put (by decide)) (by rfl) hS ?_ ?_
 rotate_left
 ·
  intro wS hSw; (try dsimp only at hSw); go_simp; try with_reducible rfl
 try simp only [Act.put, jA, jB, jC, jD, jE, jF]
 refine upto_step (i := 3) (by kernel_rfl) rfl ?_
 intro K hK
 go_simp
 refine (HBo.out _ (bS hB2 hS.1)).mono ?_
 rintro e w3 ⟨b, rfl, hbb, hbk, hb3⟩
 have hb3' : Below w2.heap.size w2 w3 := bS hS.1 hb3
 have hS3 := And.intro hb3' (And.intro (cK hb3 hS.2.1) (And.intro (cK hb3 hS.2.2.1) (And.intro (cK hb3 hS.2.2.2.1) (And.intro (cK hb3 hS.2.2.2.2.1) (And.intro (cK hb3 hS.2.2.2.2.2.1) (And.intro (cK hb3 hS.2.2.2.2.2.2.1) (And.intro (cK hb3 hS.2.2.2.2.2.2.2.1) (cK hb3 hS.2.2.2.2.2.2.2.2))))))))
 refine hK _ _ (fun _ => hS3) ?_
 clear hK K hS hb3
 have hS := hS3
 clear hS3
 try simp only [Act.put, jA, jB, jC, jD, jE, jF]
 refine upto_step (i := 5) (by kernel_rfl) rfl ?_
 intro K hK
 go_simp
 refine (HKc.out _ b (bS hB2 hS.1) hbk).mono ?_
 rintro e w4 ⟨he, hb4⟩
 have hb4' : Below w2.heap.size w2 w4 := bS hS.1 hb4
 rcases he with ⟨hcl, rfl⟩ | ⟨hcl, rfl⟩
 rotate_left
 ·
  first | exact ⟨rfl, rfl, ⟨cl, rfl⟩, HR3.out hcl, bS hB2 hb4'⟩ | exact ⟨rfl, rfl, cl, rfl, HR3.out hcl, bS hB2 hb4'⟩
 have hS3 := And.intro hb4' (And.intro (cK hb4 hS.2.1) (And.intro (cK hb4 hS.2.2.1) (And.intro (cK hb4 hS.2.2.2.1) (And.intro (cK hb4 hS.2.2.2.2.1) (And.intro (cK hb4 hS.2.2.2.2.2.1) (And.intro (cK hb4 hS.2.2.2.2.2.2.1) (And.intro (cK hb4 hS.2.2.2.2.2.2.2.1) (cK hb4 hS.2.2.2.2.2.2.2.2))))))))
 refine hK _ _ (fun _ => hS3) ?_
 clear hK K hS hb4
 have hS := hS3
 clear hS3
 try simp only [Act.put, jA, jB, jC, jD, jE, jF]
 refine upto_done (by kernel_rfl) ?_
 refine PanicAs.normal ?_
 have HRd : Hid (readyB d c = true) := HR4.out hfd hca hcl
 have hB4 : Below w.heap.size w w4 := bS hB2 hb4'
 replace y0 := cK hb4' y0
 replace y1 := cK hb4' y1
 replace y2 := cK hb4' y2
 replace y3 := cK hb4' y3
 replace y4 := cK hb4' y4
 replace y5 := cK hb4' y5
 replace x0 := cK hb4' x0
 replace x1 := cK hb4' x1
 replace r0 := cK hb4' r0
 replace r1 := cK hb4' r1
 replace r2 := cK hb4' r2
 replace r3 := cK hb4' r3
 replace r4 := cK hb4' r4
 replace r5 := cK hb4' r5
 replace rf : ∀ o, w4.frozen? ⟨w.heap.size + 2, o, none⟩ = false := fun o => by rw [(bcell hb4').2 _ _ (by omega)]; exact rf o
 have hz4 : w.heap.size + 2 < w4.heap.size := by have := hb4'.size; omega
 clear HR1 HR2 HR3 HR4 HKc HBo hfd hca hcl hbk hbb hb3' hS hB2 hz2 hb4' hfd'
 go_wp2_with fail
 refine (HCp.out _ hB4).mono ?_
 rintro e w5 ⟨v5, F5, rfl, o5, hb5⟩
 obtain ⟨e1, e2, e3, e4, e5, f1, f2, f3, f4, f5, rfl⟩ := shd_formO o5
 rw [HN5.out.1, HN5.out.2.1, HN5.out.2.2.1, HN5.out.2.2.2, HN.out] at o5 ⊢
 have HO5 : Hid (shdR.O w5 w4.heap.size F5 (.agg #[.int .i64 d.idx, .slice e1 n1 f1, .slice e2 n2 f2, .slice e3 n3 f3, .slice e4 n4 f4, .slice e5 n5 f5]) d) := o5
 have hB5 : Below w.heap.size w w5 := bS hB4 hb5
 replace x0 := cK hb5 x0
 replace x1 := cK hb5 x1
 replace r0 := cK hb5 r0
 replace r1 := cK hb5 r1
 replace r2 := cK hb5 r2
 replace r3 := cK hb5 r3
 replace r4 := cK hb5 r4
 replace r5 := cK hb5 r5
 replace rf : ∀ o, w5.frozen? ⟨w.heap.size + 2, o, none⟩ = false := fun o => by rw [(bcell hb5).2 _ _ (by omega)]; exact rf o
 have hz45 := hb5.size
 have zx5 : w.heap.size + 1 < w5.heap.size := by omega
 have zx6 : w.heap.size + 2 < w5.heap.size := by omega
 clear o5 HCp hb5 y0 y1 y2 y3 y4 y5
 have HPl6 : Hid (∀ W, Below w5.heap.size w5 W → Calls Tryz.prog 82 #[.slice e3 n3 f3, .int .i64 c.id] W (PlC d.held c.id W)) := fun W hW => by
  obtain ⟨F3, h3, _⟩ := shd_held HO5.out
  exact HPl.out W _ (contsR.below (contsR.ofO h3) hW)
 go_wp2_with fail
 refine (HPl6.out _ (qBq)).mono ?_
 rintro e w6 ⟨i, hi, rfl, p1, p2, hb6⟩
 have HP : Hid (putC d.held c = d.held.take i ++ [c] ++ d.held.drop i) := HPp.out i hi p1 p2
 have HI : Hid (i ≤ d.held.length) := hi
 have z0 : w6.cell? ⟨w5.heap.size, 0, none⟩ = some (.int .i64 d.idx) := cK hb6 (by simp [go_sem])
 have z1 : w6.cell? ⟨w5.heap.size, 1, none⟩ = some (.slice e1 n1 f1) := cK hb6 (by simp [go_sem])
 have z2 : w6.cell? ⟨w5.heap.size, 2, none⟩ = some (.slice e2 n2 f2) := cK hb6 (by simp [go_sem])
 have z3 : w6.cell? ⟨w5.heap.size, 3, none⟩ = some (.slice e3 n3 f3) := cK hb6 (by simp [go_sem])
 have z4 : w6.cell? ⟨w5.heap.size, 4, none⟩ = some (.slice e4 n4 f4) := cK hb6 (by simp [go_sem])
 have z5 : w6.cell? ⟨w5.heap.size, 5, none⟩ = some (.slice e5 n5 f5) := cK hb6 (by simp [go_sem])
 have zf : ∀ o, w6.frozen? ⟨w5.heap.size, o, none⟩ = false := fun o => by rw [(bcell hb6).2 _ _ (by simp)]; simp [go_sem]
 have hb56 : Below w5.heap.size w5 w6 := bS (qBq) hb6
 have hz6 : w5.heap.size < w6.heap.size := by have := hb6.size; simp at this; omega
 have hB6 : Below w.heap.size w w6 := bS hB5 hb56
 replace x0 := cK hb56 x0
 replace x1 := cK hb56 x1
 replace r0 := cK hb56 r0
 replace r1 := cK hb56 r1
 replace r2 := cK hb56 r2
 replace r3 := cK hb56 r3
 replace r4 := cK hb56 r4
 replace r5 := cK hb56 r5
 replace rf : ∀ o, w6.frozen? ⟨w.heap.size + 2, o, none⟩ = false := fun o => by rw [(bcell hb56).2 _ _ (by omega)]; exact rf o
 obtain ⟨F3, o3, hF3, LN⟩ := shd_held (shdR.keep HO5.out hb56)
 have HR : Hid (∀ b, F5 b → w4.heap.size ≤ b ∧ b < w5.heap.size) := fun b hb => shdR.rng HO5.out b hb
 have HO3 : Hid (contsR.O w6 w4.heap.size F3 (.slice e3 n3 f3) d.held) := o3
 have HF3 : Hid (∀ b, F3 b → w4.heap.size ≤ b ∧ b < w5.heap.size) := fun b hb => HR.out b (hF3 b hb)
 have HLN : Hid (∀ (w' : World) (Fj' : Nat → Prop) (v : Value) (ys : List Cont), contsR.O w' w4.heap.size Fj' v ys → Mod F3 w6 w' → (∀ b, Fj' b → F3 b ∨ w6.heap.size ≤ b) → ∃ F', shdR.O w' w4.heap.size F' (.agg #[.int .i64 d.idx, .slice e1 n1 f1, .slice e2 n2 f2, v, .slice e4 n4 f4, .slice e5 n5 f5]) ⟨d.idx, d.bals, d.votes, ys, d.done, d.appl⟩ ∧ ∀ b, F' b → F5 b ∨ w6.heap.size ≤ b) := LN
 generalize decide (i < d.held.length ∧ (d.held.getD i default).id = c.id) = fnd at *
 clear LN o3 hF3 HO5 HPl HPl6 HPp hb6 hb56 hi p1 p2 hB5
 go_wp2
 refine wp_region_noPanic ?_
 have hbd : Below w6.heap.size w6 w6.drew := qBq
 refine region_upto (fun W => Mod F3 w6 W ∧ W.cell? ⟨w5.heap.size, 3, none⟩ = some (.slice e3 n3 f3) ∧ W.cell? ⟨w.heap.size + 1, 0, none⟩ = some (.int .i64 c.id) ∧ W.cell? ⟨w.heap.size + 1, 1, none⟩ = some (.slice ax nx cx)) 8 (by kernel_rfl) ⟨Mod.of_below hbd, cK hbd z3, cK hbd x0, cK hbd x1⟩ (fun hS => ?_)
 refine tK (i := 0) (v := ?_) rfl (by kernel_rfl) hS ?_ ?_
 rotate_left
 ·
  intro wS hSw; (try dsimp only at hSw); go_simp; try with_reducible rfl
 try simp only [Act.put, jA, jB, jC, jD, jE, jF]
 refine tK (i := 1) (v := ?_) rfl (by kernel_rfl) hS ?_ ?_
 rotate_left
 ·
  intro wS hSw; (try dsimp only at hSw); go_simp; try with_reducible rfl
 try simp only [Act.put, jA, jB, jC, jD, jE, jF]
 refine tK (i := 2) (v := ?_) rfl (by kernel_rfl) hS ?_ ?_
 rotate_left
 ·
  intro wS hSw; (try dsimp only at hSw); go_simp; try with_reducible rfl
 try simp only [Act.put, jA, jB, jC, jD, jE, jF]
 refine tK (i := 3) (v := ?_) rfl (by kernel_rfl) hS ?_ ?_
 rotate_left
 ·
  intro wS hSw; (try dsimp only at hSw); go_simp; try with_reducible rfl
 try simp only [Act.put, jA, jB, jC, jD, jE, jF]
 refine upto_step (i := 4) (by kernel_rfl) rfl ?_
 intro K hK
 go_simp
 refine (HCc.out _ (bS hB6 hbd)).mono ?_
 rintro e w7 ⟨v7, F7, rfl, o7, hb7⟩
 obtain ⟨a7, c7, rfl⟩ := cont_cells o7
 rw [HNx.out] at o7 ⊢
 have hb67 : Below w6.heap.size w6 w7 := bS hbd hb7
 have hS3 := And.intro (Mod.of_below (F := F3) hb67) (And.intro (cK hb67 z3) (And.intro (cK hb67 x0) (cK hb67 x1)))
 refine hK _ _ (fun _ => hS3) ?_
 clear hK K hS hS3
 have HU : Hid (contR.O w7 w4.heap.size F7 (.agg #[.int .i64 c.id, .slice a7 nx c7]) c) := contR.base o7 (by have := hbd.size; omega)
 have HF7 : Hid (∀ b, F7 b → w6.heap.size ≤ b ∧ b < w7.heap.size) := fun b hb => by have := contR.rng o7 b hb; have := hbd.size; omega
 clear o7 hb7
 try simp only [Act.put, jA, jB, jC, jD, jE, jF]
 refine upto_step (i := 5) (by kernel_rfl) rfl ?_
 intro K hK
 go_simp
 obtain ⟨w8, hw8⟩ : ∃ w8, w8 = w7.alloc (.cells #[.int .i64 c.id, .slice a7 nx c7] 44) := ⟨_, rfl⟩
 rw [← hw8]
 have hv8 : w8.heap[w7.heap.size]? = some (.cells (lvCont (.agg #[.int .i64 c.id, .slice a7 nx c7])).toArray 44 (0, 0)) := by rw [hw8]; exact World.alloc_heap_new w7 _
 have hb8 : Below w7.heap.size w7 w8 := by rw [hw8]; (repeat (first | exact bR _ _ | assumption | refine bD ?_ | refine bA ?_ _ | refine bset ?_ (by simp; omega) _ | refine bset ?_ (by simp) _ | refine bS ?_ (by assumption)))
 clear hw8
 have hb68 : Below w6.heap.size w6 w8 := bS hb67 hb8
 have hS3 := And.intro (Mod.of_below (F := F3) hb68) (And.intro (cK hb68 z3) (And.intro (cK hb68 x0) (cK hb68 x1)))
 refine hK _ _ (fun _ => hS3) ?_
 clear hK K hS3
 try simp only [Act.put, jA, jB, jC, jD, jE, jF]
 refine upto_step (i := 6) (by kernel_rfl) rfl ?_
 intro K hK
 go_simp
 refine (insertC_any w4.heap.size (.slice e3 n3 f3) i w7.heap.size d.held (.agg #[.int .i64 c.id, .slice a7 nx c7]) c F3 F7 w8 (contsR.keep HO3.out hb68) HI.out (by have := HLh.out; omega) (by have := hb68.size; omega) (contR.keep HU.out hb8) (fun b h1 h2 => by have := HF3.out b h1; have := HF7.out b h2; omega) hv8 (fun e => by have := HF3.out _ (conts_own HO3.out e); have := hb67.size; omega)).mono ?_
 rintro e w9 ⟨v9, F9, rfl, o9, m9, l9⟩
 have hm9 : Mod F3 w6 w9 := (Mod.of_below hb68).trans (m9.mono (fun b hb => conts_own HO3.out hb))
 rw [← HP.out] at o9
 obtain ⟨F', o', hF'⟩ := HLN.out w9 F9 v9 _ o9 hm9 (fun b hb => by
  rcases l9 b hb with h | h | h
  ·
   exact .inl h
  ·
   exact .inr (HF7.out b h).1
  ·
   exact .inr (by have := hb68.size; omega))
 have nz : ¬ F3 w5.heap.size := fun h => by have := (HF3.out _ h).2; omega
 have nr : ¬ F3 (w.heap.size + 2) := fun h => by have := (HF3.out _ h).1; omega
 have nx' : ¬ F3 (w.heap.size + 1) := fun h => by have := (HF3.out _ h).1; omega
 have hS3 := And.intro hm9 (And.intro (hm9.cell z3 nz) (And.intro (hm9.cell x0 nx') (hm9.cell x1 nx')))
 refine hK _ _ (fun _ => hS3) ?_
 clear hK K
 obtain ⟨a9, c9, rfl⟩ := conts_form (contsR.ofO o9)
 have HO' : Hid (shdR.O w9 w4.heap.size F' (.agg #[.int .i64 d.idx, .slice e1 n1 f1, .slice e2 n2 f2, .slice a9 (putC d.held c).length c9, .slice e4 n4 f4, .slice e5 n5 f5]) (heldD d c)) := o'
 have HF' : Hid (∀ b, F' b → F5 b ∨ w6.heap.size ≤ b) := hF'
 replace z0 := hm9.cell z0 nz
 replace z1 := hm9.cell z1 nz
 replace z2 := hm9.cell z2 nz
 replace z3 := hm9.cell z3 nz
 replace z4 := hm9.cell z4 nz
 replace z5 := hm9.cell z5 nz
 replace r0 := hm9.cell r0 nr
 replace r1 := hm9.cell r1 nr
 replace r2 := hm9.cell r2 nr
 replace r3 := hm9.cell r3 nr
 replace r4 := hm9.cell r4 nr
 replace r5 := hm9.cell r5 nr
 replace zf : ∀ o, w9.frozen? ⟨w5.heap.size, o, none⟩ = false := fun o => (hm9.frz10 (a := ⟨w5.heap.size, o, none⟩) hz6 nz).trans (zf o)
 replace rf : ∀ o, w9.frozen? ⟨w.heap.size + 2, o, none⟩ = false := fun o => (hm9.frz10 (a := ⟨w.heap.size + 2, o, none⟩) (by dsimp only; omega) nr).trans (rf o)
 have hB9 : Below w.heap.size w w9 := hm9.below hB6 hB6.size (fun b hb => by have := (HF3.out b hb).1; omega)
 generalize (putC d.held c).length = np at *
 clear o9 m9 l9 o' hF' HLN hm9 hv8 HU HF7 HO3
 try simp only [Act.put, jA, jB, jC, jD, jE, jF]
 refine upto_step (i := 7) (by kernel_rfl) rfl ?_
 intro K hK
 go_simp
 refine hK _ _ (fun _ => hS3) ?_
 clear hK K
 try simp only [Act.put, jA, jB, jC, jD, jE, jF]
 refine upto_step (i := 8) (by kernel_rfl) rfl ?_
 intro K hK
 go_simp
 refine hK _ _ (fun h => absurd rfl h) ?_
 clear hK K hS3
 refine upto_done (by kernel_rfl) ?_
 refine NoPanic.normal ?_
 go_wp2
 refine bodyPost_ret (v := .agg #[.int .i64 d.idx, .slice e1 n1 f1, .slice e2 n2 f2, .slice a9 np c9, .slice e4 n4 f4, .slice e5 n5 f5]) (by simp [results, Tryz.results40, go_sem, r0, r1, r2, r3, r4, r5, rf]) rfl ⟨.inl ⟨HRd.out, _, F', rfl, ?_⟩, ?_⟩
 ·
  refine shdR.base (base := w4.heap.size) (setR6 shdR (setR1 shdR HO'.out ?_ _) ?_ _ _ _ _ _ _) (by omega)
  ·
   exact fun h => by
    rcases HF'.out _ h with h | h
    ·
     have := (HR.out _ h).2; omega
    ·
     omega
  ·
   exact fun h => by
    rcases HF'.out _ h with h | h
    ·
     have := (HR.out _ h).1; omega
    ·
     omega
 ·
  (repeat (first | refine bset ?_ (by simp; omega) _ | refine bset ?_ (by simp) _ | refine bA ?_ _ | assumption))
end Go.Proofs.YtndghenlapbaaaaGreat


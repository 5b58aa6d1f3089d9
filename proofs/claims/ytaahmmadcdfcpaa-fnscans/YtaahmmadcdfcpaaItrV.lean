/-
  slices.Values over the rows of a table.
-/
import Derived.Test.YtaahmmadcdfcpaaItr
import Derived.Test.YtaahmmadcdfcpaaTabC
import Derived.WalkKit
import Derived.OwnWalkIn
import Derived.TacticsInMore
import Derived.LoopNIn
import Derived.LoopIn
namespace Go.Proofs.Ytaahmmadcdfcpaa
open Go.RowKit Go.Shelf
set_option linter.unusedSectionVars false
variable [DecidableEq Rw] [Inhabited Rw]
set_option linter.unusedVariables false
attribute [local go_sem] Oper.semAt_some

/-- the rows xs lie where v says, in blocks of R -/
def TabAt (R : Nat → Prop) (W : World) (v : Value) (xs : List Rw) : Prop :=
  ∃ a cap, v = .slice a xs.length cap ∧ xs.length ≤ cap ∧ cap ≤ maxLen ∧ ∀ i, i < xs.length → ∃ b o, a = some ⟨b, o, none⟩ ∧ R b ∧ rowCells W b (o + i * 4) (xs.getD i default)
theorem rowCells_mod {F : Nat → Prop} {w w' : World} {b o : Nat} {x : Rw} (hm : Mod F w w') (hb : ¬ F b) (h : rowCells w b o x) : rowCells w' b o x :=
  ⟨hm.cell h.1 hb, hm.cell h.2.1 hb, hm.cell h.2.2.1 hb, hm.cell h.2.2.2 hb⟩
theorem TabAt.mod {R F : Nat → Prop} {w w' : World} {v : Value} {xs : List Rw} (h : TabAt R w v xs) (hm : Mod F w w') (hF : ∀ b, R b → ¬ F b) : TabAt R w' v xs := by
  obtain ⟨a, cap, e, h1, h2, h3⟩ := h
  refine ⟨a, cap, e, h1, h2, fun i hi => ?_⟩
  obtain ⟨b, o, ha, hb, hc⟩ := h3 i hi
  exact ⟨b, o, ha, hb, rowCells_mod hm (hF b hb) hc⟩
theorem TabAt.of {R : Nat → Prop} {w : World} {v : Value} {xs : List Rw} (h : RowsV w v xs) (hR : ∀ b, b < w.heap.size → R b) : TabAt R w v xs := by
  obtain ⟨a, cap, e, h1, h2, h3⟩ := h
  refine ⟨a, cap, e, h1, h2, fun i hi => ?_⟩
  obtain ⟨b, o, ha, hc⟩ := h3 i hi
  exact ⟨b, o, ha, hR b (World.block_lt_of_cell? _ _ hc.1), hc⟩
theorem TabAt.wide {R R' : Nat → Prop} {w : World} {v : Value} {xs : List Rw} (h : TabAt R w v xs) (hR : ∀ b, R b → R' b) : TabAt R' w v xs := by
  obtain ⟨a, cap, e, h1, h2, h3⟩ := h
  refine ⟨a, cap, e, h1, h2, fun i hi => ?_⟩
  obtain ⟨b, o, ha, hb, hc⟩ := h3 i hi
  exact ⟨b, o, ha, hR b hb, hc⟩

theorem take_snoc {α : Type} [Inhabited α] (xs : List α) {k : Nat} (hk : k < xs.length) : xs.take k ++ [xs.getD k default] = xs.take (k + 1) := by
  rw [List.take_add_one, List.getElem?_eq_getElem hk]
  simp [List.getD, hk]

set_option maxRecDepth 100000 in
set_option maxHeartbeats 2000000 in
theorem values_seq (Bs : Nat) (v : Value) (xs : List Rw) (R : Nat → Prop) (w : World) (hB : w.cell? ⟨Bs, 0, none⟩ = some v) (hRB : R Bs) (hT : TabAt R w v xs) (hn : xs.length ≤ 200) :
    Seqx Try.prog 109 #[.pointer (some ⟨Bs, 0, none⟩)] rowV xs R w := by
  intro l J Jx W X hm hXa hJ hJx hY h0
  have hBW := hm.cell hB (fun h => h hRB)
  have hTW := hT.mod hm (fun b hb h => h hb)
  clear hB hT
  obtain ⟨a, cap, rfl, hc1, hc2, hrow⟩ := hTW
  unfold maxLen at hc2
  have HP : Hid (∀ k, k < xs.length → xs.take k ++ [xs.getD k default] = xs.take (k + 1)) := fun k hk => take_snoc xs hk
  have HA : Hid (∀ k, xs.take k <+: xs) := fun k => List.take_prefix _ _
  have HE : Hid (xs.take xs.length = xs) := List.take_length
  generalize hN : xs.length = n at *
  have HN : Hid (xs.length = n) := hN
  clear hN
  refine callsIn_of_wp Try.func109 rfl trivial ?_ rfl
  simp only [Try.ntmps109, List.size_toArray, List.length_cons, List.length_nil, Nat.reduceAdd, Nat.reduceSub, Array.replicate_succ, Array.replicate_zero, List.push_toArray, List.append_toArray, List.nil_append, List.cons_append]
  gi_wp2
  gi_loopw [7] (fun i wr => ∃ k : Nat, k ≤ n ∧ i = .int .i64 k ∧ Hid (J (xs.take k) wr X) ∧ Hid (∀ b, X b → b < wr.heap.size) ∧ Mod (fun b => ¬ R b) W wr) (fun i _ => n - (intOf i).toNat)
  case atStart => exact ⟨0, Nat.zero_le _, rfl, (show J [] W X from h0), hXa, Mod.refl _ _⟩
  case round =>
    obtain ⟨k, hk, rfl, HJ, HXa, hmr⟩ := hrel
    by_cases hlt : k < n
    · obtain ⟨b, o, rfl, hRb, hc⟩ := hrow k hlt
      obtain ⟨q, hq⟩ : ∃ q, q = xs.getD k default := ⟨_, rfl⟩
      have hP := HP.out k hlt
      rw [← hq] at hc hP
      have HPk : Hid (xs.take k ++ [q] = xs.take (k + 1)) := hP
      obtain ⟨c0, c1, c2, c3⟩ := rowCells_mod hmr (fun h => h hRb) hc
      have hJ2 : J (xs.take k) (wr.alloc (.cells #[.string q.key, .int .i64 q.ver, .string q.val, .bool q.gone] 38)) X :=
        hJ _ _ _ _ _ HJ.out (mod_alloc _ _ _) (fun _ h => h) (fun b h => ⟨.inl h, by have := HXa.out b h; simp; omega⟩)
      obtain ⟨fn, tmps, assign, body, hy, hR2⟩ := hY _ q _ X hJ2 (fun _ h => h) (fun b h => by have := HXa.out b h; simp; omega) (by rw [hP]; exact HA.out _)
      unfold rowV at hy
      clear hP hq hrow hc
      gi_wp2
      refine ⟨rfl, hR2.mono ?_⟩
      rintro e W3 (⟨rfl, hJ3, hk3⟩ | ⟨rfl, hJx3, hk3⟩)
      · gi_wp2
        go_roundw
        case rel =>
          have hs := hk3.size
          simp only [World.size_alloc] at hs
          refine ⟨k + 1, by omega, by simp, ?_, fun b h => ?_, (hmr.alloc _).trans (hk3.mono (fun b h hr => h (.inl hr)))⟩
          · rw [Hid, ← HPk.out]
            exact hJ3
          · have := HXa.out b h
            omega
        case measure => simp [intOf]; omega
      · gi_wp2
        refine bodyPost_ret (results_none rfl _ _ _) rfl ?_
        exact ⟨⟨_, rfl⟩, X, fun _ h => h, .inr ⟨_, by rw [HPk.out]; exact HA.out _, hJx3⟩⟩
    · obtain rfl : k = n := by omega
      gi_wp2
      go_end0
      refine ⟨⟨_, rfl⟩, X, fun _ h => h, .inl ?_⟩
      have hj := HJ.out
      rw [HE.out] at hj
      exact hj

end Go.Proofs.Ytaahmmadcdfcpaa

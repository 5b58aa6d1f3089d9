import Derived.Test.YtndghenlapbaaaaGreatDoorPrnShardTextLaw9
import Derived.Test.YtndghenlapbaaaaGreatDoorPrnShardTextLaw4
import Derived.Test.YtndghenlapbaaaaGreatDoorPrnShardTextLaw1
import Derived.Laws.BytesArg
import Derived.Deep.DrawnRows
import Derived.BigQuiet
import Derived.Deep.QuietTactic
import Derived.Deep.RegionHeld3
import Derived.Maps.OwnSet
import Derived.DeepKeys4

/-
  Rows of texts: read, owned, compared, marked.
-/
namespace Go.Proofs.YtndghenlapbaaaaGreatDoor
open Go.RowKit
set_option linter.unusedSectionVars false
variable [DecidableEq Rw] [Inhabited Rw]
set_option linter.unusedVariables false
set_option linter.unusedSimpArgs false
attribute [local go_sem ↓] Go.wp_at_zero Go.wp_at_succ

theorem infoStr : (Tryz.prog.info? 9).map (fun i => (i.zero, i.size, i.bytes)) = some (some (.string ⟨#[]⟩), 1, 16) := by kernel_rfl
end Go.Proofs.YtndghenlapbaaaaGreatDoor

/-
  A word and numbers, the program's.
-/
set_option linter.unusedSimpArgs false
set_option linter.unusedVariables false
namespace Go.Proofs.YtndghenlapbaaaaGreatDoor
open Go.RowKit
set_option linter.unusedSectionVars false
variable [DecidableEq Leg] [Inhabited Leg] [DecidableEq Bal] [Inhabited Bal] [DecidableEq Mrk] [Inhabited Mrk] [DecidableEq Cont] [Inhabited Cont] [DecidableEq Shd] [Inhabited Shd] [DecidableEq Rw] [Inhabited Rw]
attribute [local go_sem ↓] Go.wp_at_zero Go.wp_at_succ

def wrdC (xs : List ByteArray) : List Value := xs.map Value.string
theorem wds_take (wd : ByteArray) (ns : List Int) {k : Nat} (hk : k < ns.length) : wdsB wd (ns.take (k + 1)) = wdsB wd (ns.take k) ++ [digF 20 (ns.getD k 0).toNat] := by
  have e : ns.take (k + 1) = ns.take k ++ [ns.getD k 0] := by rw [List.take_add_one]; simp [List.getD, hk]
  unfold wdsB
  rw [e]
  simp
theorem strs_snoc (xs : List ByteArray) (y : ByteArray) : wrdC (xs ++ [y]) = wrdC xs ++ [.string y] := by simp [wrdC]
set_option maxRecDepth 20000 in
set_option maxHeartbeats 4000000 in
theorem numbersLine_any (wd : ByteArray) (x : Value) (ns : List Int) (w : World) (hx : IntsV w x ns) (hb : ∀ k, k < ns.length → okN (ns.getD k 0)) (hn : ns.length ≤ 10) (hwd : wd.size ≤ 100) (ht : TabW w) :
    Calls Tryz.prog 22 #[.string wd, x] w fun e w' => e = .returned (.string (lineB wd ns)) ∧ Below w.heap.size w w' := by
  obtain ⟨ax, cx, rfl, hcx, hmx, hx⟩ := hx
  unfold maxLen at hmx
  obtain ⟨i0, hi, hz0, hz1, hz2⟩ := info_parts infoStr
  have HI0 : Hid (Tryz.prog.info? 9 = some i0 ∧ i0.zero = some (.string ⟨#[]⟩) ∧ i0.size = 1 ∧ i0.bytes = 16) := ⟨hi, hz0, hz1, hz2⟩
  clear hi hz0 hz1 hz2
  have HT : Hid (∀ k, k < ns.length → wrdC (wdsB wd (ns.take (k + 1))) = wrdC (wdsB wd (ns.take k)) ++ [.string (digF 20 (ns.getD k 0).toNat)]) := fun k hk => by rw [wds_take wd ns hk, strs_snoc]
  have HD : Hid (∀ k W, k < ns.length → Below w.heap.size w W → Calls Tryz.prog 43 #[.int .i64 (ns.getD k 0)] W fun e w' => e = .returned (.string (digF 20 (ns.getD k 0).toNat)) ∧ Below W.heap.size W w') := fun k W hk hW => decimal_any _ W (hb k hk) (ht.below hW)
  have HL : Hid (∀ g c W, (∀ (j : Nat) y, (wdsB wd ns)[j]? = some y → W.cell? ⟨g, j, none⟩ = some (.string y)) → g < W.heap.size → ns.length + 1 ≤ c → Calls Tryz.prog 44 #[.slice (some ⟨g, 0, none⟩) (ns.length + 1) c] W fun e w' => e = .returned (.string (lineB wd ns)) ∧ Below W.heap.size W w') := fun g c W h1 h2 h3 => lineOf_any wd ns g c W h1 h2 h3 hwd hn
  have HE : Hid (wdsB wd (ns.take ns.length) = wdsB wd ns) := by show _ = _; rw [List.take_length]
  have hs0 : (w.alloc (.cells #[.string wd] 9)).ownsRow w.heap.size 9 1 (.slice (some ⟨w.heap.size, 0, none⟩) 1 1) 1 (wrdC (wdsB wd (ns.take 0))) := World.ownsRow_lit (base := w.heap.size) (e := 9) (size := 1) w #[.string wd] 1 (Nat.le_refl _) (by unfold maxLen; omega) rfl
  clear hb ht hwd
  obtain ⟨n, hn'⟩ : ∃ n, n = ns.length := ⟨_, rfl⟩
  rw [← hn'] at hcx hx HT HD HL HE hn ⊢
  clear hn'
  go_enter Tryz.func22, Tryz.ntmps22
  go_wp2
  go_loopw [5, 12] (fun s i W => ∃ (k : Nat) (a : Option Addr) (c : Nat), k ≤ n ∧ i = .int .i64 k ∧ s = .slice a (k + 1) c ∧ Hid (W.ownsRow w.heap.size 9 1 (.slice a (k + 1) c) (k + 1) (wrdC (wdsB wd (ns.take k)))) ∧ Below w.heap.size w W) (fun _ i _ => n - (intOf i).toNat)
  case atStart => exact ⟨0, _, _, Nat.zero_le _, rfl, rfl, hs0, by (repeat (first | exact Below.refl _ _ | assumption | refine Below.drew ?_ | refine balloc ?_ _ | refine bset ?_ (by simp; omega) _ | refine bset ?_ (by simp) _ | refine bstep ?_ (by assumption)))⟩
  case round =>
    clear hs0
    obtain ⟨k, a, c, hk, rfl, rfl, HO, hbl⟩ := hrel
    by_cases hlt : k < n
    · obtain ⟨bx, ox, rfl, g1⟩ := hx k hlt
      have HTk : Hid (wrdC (wdsB wd (ns.take (k + 1))) = wrdC (wdsB wd (ns.take k)) ++ [.string (digF 20 (ns.getD k 0).toNat)]) := HT.out k hlt
      have HDk : Hid (∀ W, Below w.heap.size w W → Calls Tryz.prog 43 #[.int .i64 (ns.getD k 0)] W fun e w' => e = .returned (.string (digF 20 (ns.getD k 0).toNat)) ∧ Below W.heap.size W w') := fun W hW => HD.out k W hlt hW
      clear hx
      replace g1 := cell_keep hbl g1
      have hti : (k : Int) < (n : Int) := by omega
      have hti0 : (0 : Int) ≤ (k : Int) := by omega
      generalize digF 20 (ns.getD k 0).toNat = D at *
      generalize ns.getD k 0 = v at *
      go_wp2_with fail
      refine (HDk.out _ hbl).mono ?_
      rintro e w1 ⟨rfl, hb1⟩
      have hB1 : Below w.heap.size w w1 := bstep hbl hb1
      have hzz := hB1.size
      have HO1 : Hid (w1.ownsRow w.heap.size 9 1 (.slice a (k + 1) c) (k + 1) (wrdC (wdsB wd (ns.take k)))) := owns_below HO.out hb1
      have HOl : Hid (∀ b', (Value.slice a (k + 1) c).ownBlock = some b' → w.heap.size ≤ b' ∧ b' < w1.heap.size) := fun b' h => HO1.out.lt b' h
      clear HO hb1 g1
      go_wp2_with (at_builtin; refine wpList_append_own_at _ rfl _ _ 92 rfl w.heap.size 9 i0 _ 1 16 Tryz.underlying92 HI0.out.1 HI0.out.2.1 HI0.out.2.2.1 HI0.out.2.2.2 rfl (by decide) _ (k + 1) (wrdC (wdsB wd (ns.take k))) rfl (owns_below HO1.out (balloc (Below.refl _ _) _)) ⟨w1.heap.size, 0, none⟩ 1 1 [.string D] rfl rfl ?c1 ?c2 ?c3 ?c4 ?c5 ?_)
      case c1 =>
        intro j u hj
        match j, hj with
        | 0, hj => simp at hj; subst hj; simp [Addr.add, go_sem]
        | j + 1, hj => simp at hj
      case c2 =>
        intro u hu
        rw [List.mem_singleton] at hu
        rw [hu]
        rfl
      case c3 => unfold maxLen; omega
      case c4 => omega
      case c5 => simp; omega
      intro v6 w6 o6 g6 _ l6
      obtain ⟨a6, c6, rfl⟩ := owns_form o6
      have hB6 : Below w.heap.size w w6 := (balloc hB1 _).grown g6 (by simp; omega) (fun b' h => (HOl.out b' h).1)
      have HO6 : Hid (w6.ownsRow w.heap.size 9 1 (.slice a6 (k + 1 + 1) c6) (k + 1 + 1) (wrdC (wdsB wd (ns.take (k + 1))))) := by
        show World.ownsRow _ _ _ _ _ _ _
        rw [HTk.out]
        exact o6
      clear o6 g6 l6 HO1 HOl
      go_wp2
      exact ⟨⟨k + 1, a6, c6, by omega, by go_num, rfl, HO6, hB6⟩, by simp [intOf]; omega⟩
    · obtain rfl : k = n := by omega
      have hti : ¬ (k : Int) < (k : Int) := by omega
      have ho := HO.out
      rw [HE.out] at ho
      obtain ⟨g, rfl, hgl, hcap⟩ : ∃ g, a = some ⟨g, 0, none⟩ ∧ g < wr.heap.size ∧ k + 1 ≤ c := by
        rcases ho.2 with ⟨_, h0⟩ | ⟨g, cap, cur, hv, h1, h2, h3, _⟩
        · omega
        · simp only [Value.slice.injEq, true_and] at hv
          obtain ⟨rfl, rfl⟩ := hv
          exact ⟨g, rfl, (ho.lt g (by simp [Value.ownBlock])).2, h3⟩
      have HC : Hid (∀ (j : Nat) y, (wdsB wd ns)[j]? = some y → wr.cell? ⟨g, j, none⟩ = some (.string y)) := fun j y hj => by
        have hj2 : (wrdC (wdsB wd ns))[j]? = some (.string y) := by simp [wrdC, hj]
        have hjl : j < (wrdC (wdsB wd ns)).length := by
          rcases Nat.lt_or_ge j (wrdC (wdsB wd ns)).length with h | h
          · exact h
          · rw [List.getElem?_eq_none h] at hj2; cases hj2
        have hl : (wrdC (wdsB wd ns)).length = k + 1 := by have := ho.1; omega
        exact (ho.cellAt j (by omega)).trans hj2
      have HLL := HL.out g c wr HC.out hgl hcap
      clear ho HO HC hx
      go_wp2_with fail
      refine HLL.mono ?_
      rintro e w1 ⟨rfl, hb1⟩
      have hB1 : Below w.heap.size w w1 := bstep hbl hb1
      go_wp2
      go_ret
      exact ⟨rfl, hB1⟩
end Go.Proofs.YtndghenlapbaaaaGreatDoor

/-
  Builders, the program's.
-/
set_option linter.unusedSimpArgs false
set_option linter.unusedVariables false
namespace Go.Proofs.YtndghenlapbaaaaGreatDoor
open Go.RowKit
set_option linter.unusedSectionVars false
variable [DecidableEq Leg] [Inhabited Leg] [DecidableEq Bal] [Inhabited Bal] [DecidableEq Mrk] [Inhabited Mrk] [DecidableEq Cont] [Inhabited Cont] [DecidableEq Shd] [Inhabited Shd] [DecidableEq Rw] [Inhabited Rw]
attribute [local go_sem ↓] Go.wp_at_zero Go.wp_at_succ

theorem cat_cells (a b : ByteArray) : Lib.strCells a ++ Lib.strCells b = Lib.strCells (a ++ b) := by
  unfold Lib.strCells
  rw [ba_append, List.map_append]
theorem isB_below {T e B b : Nat} {bs : List Value} {w w' : World} (h : Lib.IsBuilder T e B b bs w) (hb : Below w.heap.size w w') : Lib.IsBuilder T e B b bs w' := by
  rcases h with h | h
  · refine .inl ?_
    have hl := h.lt
    obtain ⟨h1, v, h2, h3, h4⟩ := h
    exact ⟨h1, v, by rw [hb.block b hl]; exact h2, owns_below h3 hb, h4⟩
  · refine .inr ?_
    have hl := h.lt
    obtain ⟨h1, v, h2, h3, h4⟩ := h
    exact ⟨h1, v, by rw [hb.block b hl]; exact h2, owns_below h3 hb, h4⟩
theorem write_any (B b : Nat) (A s : ByteArray) (w : World) (h : Lib.IsBuilder 54 5 B b (Lib.strCells A) w) (hl : A.size + s.size ≤ 140737488355328) (hB : B ≤ w.heap.size) :
    Calls Tryz.prog 21 #[.pointer (some ⟨b, 0, none⟩), .string s] w fun e w' => (∃ r, e = .returned (.tuple #[.int .i64 r, .nilIface])) ∧ Lib.IsBuilder 54 5 B b (Lib.strCells (A ++ s)) w' ∧ Below B w w' := by
  have h0 : Calls Tryz.prog 21 #[.pointer (some ⟨b, 0, none⟩), .string s] w fun e w' => e = .returned (.tuple #[.int .i64 s.size, .nilIface]) ∧ (Lib.BuilderAt 54 5 B b (.pointer (some ⟨b, 0, none⟩)) (Lib.strCells A ++ Lib.strCells s) w' ∧ Below B w w') := Any.Builder_WriteString { Tryz.lays156 with } Tryz.extra156 B b (Lib.strCells A) s w h (by rw [Lib.strCells_length]; exact hl) hB
  refine h0.mono ?_
  rintro e w' ⟨rfl, h1, h2⟩
  rw [cat_cells] at h1
  exact ⟨⟨_, rfl⟩, .inr h1, h2⟩
theorem text_any (B b : Nat) (A : ByteArray) (w : World) (h : Lib.IsBuilder 54 5 B b (Lib.strCells A) w) (hB : B ≤ w.heap.size) :
    Calls Tryz.prog 23 #[.pointer (some ⟨b, 0, none⟩)] w fun e w' => e = .returned (.string A) ∧ Below B w w' :=
  Any.Builder_String_any Tryz.lays169 Tryz.extra169 B b A.data.toList w h hB
theorem num1_any (wd : ByteArray) (g : Nat) (a : Int) (w : World) (hw : wd.size ≤ 10) (h0 : w.cell? ⟨g, 0, none⟩ = some (.int .i64 a)) (ha : okN a) (ht : TabW w) :
    Calls Tryz.prog 22 #[.string wd, .slice (some ⟨g, 0, none⟩) 1 1] w fun e w' => e = .returned (.string (lineB wd [a])) ∧ Below w.heap.size w w' :=
  numbersLine_any wd _ [a] w ⟨some ⟨g, 0, none⟩, 1, rfl, by simp, by unfold maxLen; omega, fun i hi => ⟨g, 0, rfl, by
    have e : i = 0 := by simp at hi; omega
    subst e; simpa using h0⟩⟩ (fun k hk => by
    have e : k = 0 := by simp at hk; omega
    subst e; exact ha) (by simp) (by omega) ht
theorem num2_any (wd : ByteArray) (g : Nat) (a b : Int) (w : World) (hw : wd.size ≤ 10) (h0 : w.cell? ⟨g, 0, none⟩ = some (.int .i64 a)) (h1 : w.cell? ⟨g, 1, none⟩ = some (.int .i64 b)) (ha : okN a) (hb : okN b) (ht : TabW w) :
    Calls Tryz.prog 22 #[.string wd, .slice (some ⟨g, 0, none⟩) 2 2] w fun e w' => e = .returned (.string (lineB wd [a, b])) ∧ Below w.heap.size w w' :=
  numbersLine_any wd _ [a, b] w ⟨some ⟨g, 0, none⟩, 2, rfl, by simp, by unfold maxLen; omega, fun i hi => ⟨g, 0, rfl, by
    have e : i = 0 ∨ i = 1 := by simp at hi; omega
    rcases e with rfl | rfl
    · simpa using h0
    · simpa using h1⟩⟩ (fun k hk => by
    have e : k = 0 ∨ k = 1 := by simp at hk; omega
    rcases e with rfl | rfl
    · exact ha
    · exact hb) (by simp) (by omega) ht
theorem num3_any (wd : ByteArray) (g : Nat) (a b c : Int) (w : World) (hw : wd.size ≤ 10) (h0 : w.cell? ⟨g, 0, none⟩ = some (.int .i64 a)) (h1 : w.cell? ⟨g, 1, none⟩ = some (.int .i64 b)) (h2 : w.cell? ⟨g, 2, none⟩ = some (.int .i64 c)) (ha : okN a) (hb : okN b) (hc : okN c) (ht : TabW w) :
    Calls Tryz.prog 22 #[.string wd, .slice (some ⟨g, 0, none⟩) 3 3] w fun e w' => e = .returned (.string (lineB wd [a, b, c])) ∧ Below w.heap.size w w' :=
  numbersLine_any wd _ [a, b, c] w ⟨some ⟨g, 0, none⟩, 3, rfl, by simp, by unfold maxLen; omega, fun i hi => ⟨g, 0, rfl, by
    have e : i = 0 ∨ i = 1 ∨ i = 2 := by simp at hi; omega
    rcases e with rfl | rfl | rfl
    · simpa using h0
    · simpa using h1
    · simpa using h2⟩⟩ (fun k hk => by
    have e : k = 0 ∨ k = 1 ∨ k = 2 := by simp at hk; omega
    rcases e with rfl | rfl | rfl
    · exact ha
    · exact hb
    · exact hc) (by simp) (by omega) ht
end Go.Proofs.YtndghenlapbaaaaGreatDoor

/-
  A map whose keys are three numbers: what it holds, key by key; looked up, written, struck.
-/
namespace Go.Proofs.YtndghenlapbaaaaGreatDoor
open Go.RowKit Go.Maps

def kv (s a t : Int) : Value := .agg #[.int .i64 s, .int .i64 a, .int .i64 t]
def kwf (s a t : Int) : Prop := (Lit.int .i64 s).wf = true ∧ (Lit.int .i64 a).wf = true ∧ (Lit.int .i64 t).wf = true
theorem wf_of {n : Int} (h0 : -9223372036854775808 ≤ n) (h1 : n ≤ 9223372036854775807) : (Lit.int .i64 n).wf = true := by
  simp [Lit.wf, IntKind.min, IntKind.max, IntKind.signed, IntKind.bits]
  omega
set_option maxRecDepth 20000 in
theorem holdWide : (match Tryz.prog.underlying 141 with | some (.array _ _) | some (.struct _) => true | _ => false) = true := by rw [Tryz.underlying141]
set_option maxRecDepth 20000 in
theorem holdLaw : Keyed Tryz.prog 141 := Keyed.of_law (deep_law_laid laidOut (m := 2) (by omega) (of_decide_eq_true (by kernel_rfl)) (by kernel_rfl) holdWide)
theorem holdCells : Tryz.prog.cellsOf 141 = 3 := by kernel_rfl
theorem holdType : Tryz.prog.keyType 141 = true := by kernel_rfl
theorem holdDepth : ∃ d, Tryz.prog.types.size + 1 = d + 1 + 1 := ⟨Tryz.prog.types.size - 1, by have h : 0 < Tryz.prog.types.size := of_decide_eq_true (by kernel_rfl); omega⟩
theorem intLits (d : Nat) (n : Int) (h : (Lit.int .i64 n).wf = true) : Tryz.prog.keyLits (d + 1) 2 [.int .i64 n] = some [.int .i64 n] := by
  unfold Program.keyLits
  rw [Tryz.underlying2]
  simp [h]
theorem keyOf_kv {s a t : Int} (h : kwf s a t) : ∃ kl, keyOf Tryz.prog 141 (kv s a t) = some kl := by
  obtain ⟨d, hd⟩ := holdDepth
  obtain ⟨h0, h1, h2⟩ := h
  have hc : Tryz.prog.cellsOf 2 = 1 := by kernel_rfl
  have hf : (kv s a t).formed Tryz.prog 141 = true := by simp [kv, Value.formed, Tryz.underlying141, holdCells]
  have hl : Tryz.prog.keyLits (Tryz.prog.types.size + 1) 141 (kv s a t).cells.toList = some [.int .i64 s, .int .i64 a, .int .i64 t] := by
    rw [hd]
    unfold Program.keyLits
    rw [Tryz.underlying141]
    simp [kv, Value.cells, holdCells, hc, List.range, List.range.loop, intLits d s h0, intLits d a h1, intLits d t h2]
  unfold keyOf
  rw [Tryz.underlying141]
  dsimp only
  rw [if_pos (by rw [holdType, hf]; rfl), hl]
  exact ⟨_, rfl⟩
set_option maxRecDepth 20000 in
theorem intLits_inv {d : Nat} {c : Value} {l : List Lit} (h : Tryz.prog.keyLits (d + 1) 2 [c] = some l) : ∃ n, c = .int .i64 n ∧ (Lit.int .i64 n).wf = true := by
  unfold Program.keyLits at h
  rw [Tryz.underlying2] at h
  cases c <;> simp at h
  obtain ⟨⟨rfl, hw⟩, _⟩ := h
  exact ⟨_, rfl, hw⟩
set_option maxRecDepth 20000 in
theorem kv_of_key {v : Value} {kl : Lit} (h : keyOf Tryz.prog 141 v = some kl) : ∃ s a t, v = kv s a t ∧ kwf s a t := by
  obtain ⟨xs, L, rfl, hl, _⟩ := keyOf_top holdWide h
  obtain ⟨d, hd⟩ := holdDepth
  have hc : Tryz.prog.cellsOf 2 = 1 := by kernel_rfl
  rw [hd] at hl
  unfold Program.keyLits at hl
  rw [Tryz.underlying141] at hl
  simp only [holdCells, hc] at hl
  split at hl
  · rename_i h3
    obtain ⟨l⟩ := xs
    match l, h3 with
    | [c0, c1, c2], _ =>
      simp [List.range, List.range.loop] at hl
      cases e0 : Tryz.prog.keyLits (d + 1) 2 [c0] with
      | none => simp [e0] at hl
      | some l0 =>
        cases e1 : Tryz.prog.keyLits (d + 1) 2 [c1] with
        | none => simp [e0, e1] at hl
        | some l1 =>
          cases e2 : Tryz.prog.keyLits (d + 1) 2 [c2] with
          | none => simp [e0, e1, e2] at hl
          | some l2 =>
            obtain ⟨n0, rfl, w0⟩ := intLits_inv e0
            obtain ⟨n1, rfl, w1⟩ := intLits_inv e1
            obtain ⟨n2, rfl, w2⟩ := intLits_inv e2
            exact ⟨n0, n1, n2, rfl, w0, w1, w2⟩
  · cases hl
theorem kv_inj {s a t s' a' t' : Int} (h : kv s a t = kv s' a' t') : s = s' ∧ a = a' ∧ t = t' := by
  simpa [kv] using h
def Book (w : World) (b n : Nat) (f : Int → Int → Int → Option Int) : Prop :=
  ∃ D : DataW Unit, w.ownsMap Tryz.prog 141 (plainElem Tryz.prog 2) b n D ∧
    ∀ s a t kl, keyOf Tryz.prog 141 (kv s a t) = some kl → Maps.has D kl = (f s a t).isSome ∧ D.atKey kl (.lit (.int .i64 0)) = .lit (.int .i64 ((f s a t).getD 0))
def upd3 (f : Int → Int → Int → Option Int) (s a t : Int) (v : Option Int) : Int → Int → Int → Option Int := fun s' a' t' => if s' = s ∧ a' = a ∧ t' = t then v else f s' a' t'
theorem book_made (w : World) : Book (w.alloc (.map #[] 0)) w.heap.size 0 (fun _ _ _ => none) :=
  ⟨_, World.ownsMap_made w _ _ _, fun _ _ _ _ _ => ⟨rfl, rfl⟩⟩
theorem Book.lt {w : World} {b n : Nat} {f : Int → Int → Int → Option Int} (h : Book w b n f) : b < w.heap.size := by
  obtain ⟨D, hD, _⟩ := h; exact hD.lt
theorem Book.kept {w w' : World} {b n : Nat} {f : Int → Int → Int → Option Int} {row : Option Nat} (h : Book w b n f) (hg : w.grownBy w' row) (hne : some b ≠ row) : Book w' b n f := by
  obtain ⟨D, hD, h1⟩ := h; exact ⟨D, hD.kept hg hne, h1⟩
theorem Book.below {w w' : World} {b n : Nat} {f : Int → Int → Int → Option Int} (h : Book w b n f) (hb : Below w.heap.size w w') : Book w' b n f := h.kept (grown_of_below hb) (by simp)
theorem Book.mono {w : World} {b n n' : Nat} {f : Int → Int → Int → Option Int} (h : Book w b n f) (hn : n ≤ n') : Book w b n' f := by
  obtain ⟨D, hD, h1⟩ := h; exact ⟨D, hD.mono hn, h1⟩
theorem Book.cast {w : World} {b n : Nat} {f g : Int → Int → Int → Option Int} (h : Book w b n f) (hf : ∀ s a t, kwf s a t → g s a t = f s a t) : Book w b n g := by
  obtain ⟨D, hD, h1⟩ := h
  refine ⟨D, hD, fun s a t kl hk => ?_⟩
  obtain ⟨s', a', t', e, hw⟩ := kv_of_key hk
  obtain ⟨rfl, rfl, rfl⟩ := kv_inj e
  rw [hf _ _ _ hw]
  exact h1 _ _ _ _ hk
theorem Book.turned {w w' : World} {b n : Nat} {f : Int → Int → Int → Option Int} (h : Book w b n f) {F : Nat → Prop} (hm : Mod F w w') (hF : ¬ F b) : Book w' b n f := by
  obtain ⟨D, ⟨es, clock, hb, h2⟩, h1⟩ := h
  refine ⟨D, ⟨es, clock, ?_, h2⟩, h1⟩
  have hlt : b < w.heap.size := by
    rcases Nat.lt_or_ge b w.heap.size with h | h
    · exact h
    · rw [Array.getElem?_eq_none h] at hb; cases hb
  rw [hm.block b hlt hF]
  exact hb
theorem zero64 (w : World) : (zeroValue 2).run Tryz.prog w = .ok (.int .i64 0) w := by kernel_rfl
theorem Book.look {w : World} {b n : Nat} {f : Int → Int → Int → Option Int} (h : Book w b n f) {s a t : Int} (hw : kwf s a t) :
    (Instr.lookup 87 (.map (some b)) (kv s a t) false).run Tryz.prog w = .ok (.int .i64 ((f s a t).getD 0)) w ∧ (Lit.int .i64 ((f s a t).getD 0)).wf = true := by
  obtain ⟨D, hD, h1⟩ := h
  obtain ⟨kl, hk⟩ := keyOf_kv hw
  obtain ⟨c, hrun, hat, hwc⟩ := hD.lookup_int holdLaw Tryz.underlying87 Tryz.underlying2 (zero64 w) hk
  have := (h1 s a t kl hk).2
  rw [hat] at this
  simp at this
  rw [← this]
  exact ⟨hrun, hwc⟩
theorem Book.put {w : World} {b n : Nat} {f : Int → Int → Int → Option Int} (h : Book w b n f) {s a t v : Int} (hw : kwf s a t) (hv : (Lit.int .i64 v).wf = true) (hn : n < maxLen) :
    ∃ w', (Instr.mapUpdate 87 (.map (some b)) (kv s a t) (.int .i64 v)).run Tryz.prog w = .ok () w' ∧ Book w' b (n + 1) (upd3 f s a t (some v)) ∧ w.grownBy w' (some b) := by
  obtain ⟨D, hD, h1⟩ := h
  obtain ⟨kl, hk⟩ := keyOf_kv hw
  obtain ⟨w', hrun, hD', hg⟩ := hD.update holdLaw Tryz.underlying87 hn hk (plainElem_int Tryz.underlying2 hv)
  refine ⟨w', hrun, ⟨_, hD', fun s' a' t' kl' hk' => ?_⟩, hg⟩
  unfold upd3
  by_cases e : kl' = kl
  · subst e
    have := holdLaw.inj hk' hk
    obtain ⟨rfl, rfl, rfl⟩ := kv_inj this
    rw [if_pos ⟨rfl, rfl, rfl⟩]
    exact ⟨has_put_same hD.isMap (holdLaw.key hk) _, atKey_put_same hD.isMap (holdLaw.key hk) _ _⟩
  · rw [if_neg (by
      rintro ⟨rfl, rfl, rfl⟩
      rw [hk] at hk'
      exact e (by simpa using hk'.symm)), has_put_other e, atKey_put_other e]
    exact h1 s' a' t' kl' hk'
end Go.Proofs.YtndghenlapbaaaaGreatDoor


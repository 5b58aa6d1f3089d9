/-
  KeysOf: the mathematics, and the specification's side.
-/
import Derived.Test.YtaahmmadcdfcpaaTabM
import Derived.Test.YtaahmmadcdfcpaaSKeysR
import Derived.Test.YtaahmmadcdfcpaaSTabR
import Derived.Test.YtaahmmadcdfcpaaKeeps
namespace Go.Proofs.Ytaahmmadcdfcpaa
open Go.RowKit
set_option linter.unusedSectionVars false
variable [DecidableEq Rw] [Inhabited Rw] [DecidableEq KeysR] [Inhabited KeysR] [DecidableEq TabR] [Inhabited TabR]
set_option linter.unusedVariables false
set_option linter.unusedSimpArgs false

def newKey (xs : List Rw) (i : Nat) : Bool := decide (i = 0 ∨ (xs.getD i default).key ≠ (xs.getD (i - 1) default).key)
def keysTo (xs : List Rw) (k : Nat) : List ByteArray := ((List.range k).filter (newKey xs)).map (fun i => (xs.getD i default).key)
def keysL (xs : List Rw) : List ByteArray := keysTo xs xs.length
theorem keysTo_hit {xs : List Rw} {k : Nat} (h : newKey xs k = true) : keysTo xs (k + 1) = keysTo xs k ++ [(xs.getD k default).key] := by
  unfold keysTo
  rw [List.range_succ, List.filter_append, List.map_append]
  simp [h]
theorem keysTo_miss {xs : List Rw} {k : Nat} (h : newKey xs k = false) : keysTo xs (k + 1) = keysTo xs k := by
  unfold keysTo
  rw [List.range_succ, List.filter_append, List.map_append]
  simp [h]
theorem keysTo_le (xs : List Rw) (k : Nat) : (keysTo xs k).length ≤ k := by
  unfold keysTo
  rw [List.length_map]
  have := List.length_filter_le (newKey xs) (List.range k)
  rw [List.length_range] at this
  exact this
theorem strsC_snoc (xs : List ByteArray) (l : ByteArray) : strsC (xs ++ [l]) = strsC xs ++ [.string l] := by simp [strsC]
theorem owns_grownS {w w' : World} {B : Nat} {base e size : Nat} {v : Value} {n : Nat} {xs : List Value} (h : w.ownsRow base e size v n xs) {W : World} (hb : Below B W w) (hB : B ≤ w.heap.size) (hbase : B ≤ base) (hg : w.grownBy w' v.ownBlock) : Below B W w' :=
  hb.grown hg hB (fun k hk => Nat.le_trans hbase (h.lt k hk).1)

theorem strCell_one (w : World) (s : ByteArray) (t : Nat) : ∀ j u, ([.string s] : List Value)[j]? = some u → (w.alloc (.cells #[.string s] t)).cell? ((⟨w.heap.size, 0, none⟩ : Addr).add j) = some u := by
  intro j u hj
  match j, hj with
  | 0, hj => simp at hj; subst hj; simp [Addr.add, go_sem]
  | j + 1, hj => simp at hj

/-- at the greatest version all keys are told -/
theorem keys_last {xs : List Rw} (hs : Sorted xs) : ∀ k, k ≤ xs.length → (lastL 1000000 (xs.take k)).map (fun r => r.key) = keysTo xs k ∧ (lastS 1000000 (xs.take k)).1 = (if k = 0 then ⟨#[]⟩ else (xs.getD (k - 1) default).key)
  | 0, _ => by simp [lastL, lastS, keysTo]
  | k + 1, hk => by
    obtain ⟨h1, h2⟩ := keys_last hs k (by omega)
    have hm : xs.getD k default ∈ xs := by simp [List.getD, show k < xs.length by omega]
    have hv := (hs.vers _ hm).2
    have hf := hs.full _ hm
    rw [← take_snoc xs (show k < xs.length by omega)]
    by_cases hn : newKey xs k = true
    · have hne : ¬ (1000000 < (xs.getD k default).ver ∨ (xs.getD k default).key = (lastS 1000000 (xs.take k)).1) := by
        rw [h2]
        rintro (h | h)
        · omega
        · unfold newKey at hn
          simp only [decide_eq_true_eq] at hn
          split at h
          · exact hf h
          · rename_i h0
            rcases hn with hn | hn
            · exact h0 hn
            · exact hn h
      have e := lastL_take hne
      refine ⟨?_, ?_⟩
      · rw [keysTo_hit hn, ← h1]
        unfold lastL
        rw [e]
        simp [lastL]
      · rw [e]
        simp
    · have hn' : newKey xs k = false := by simpa using hn
      have h0 : k ≠ 0 ∧ (xs.getD k default).key = (xs.getD (k - 1) default).key := by
        unfold newKey at hn'
        simp only [decide_eq_false_iff_not, not_or, Classical.not_not] at hn'
        exact hn'
      have e := lastL_skip (v := 1000000) (xs := xs.take k) (x := xs.getD k default) (.inr (by rw [h2, if_neg h0.1]; exact h0.2))
      refine ⟨?_, ?_⟩
      · rw [keysTo_miss hn', ← h1]
        unfold lastL
        rw [e]
      · rw [e, h2, if_neg h0.1, if_neg (by omega)]
        exact h0.2.symm
theorem keys_all {xs : List Rw} (hs : Sorted xs) : (lastL 1000000 xs).map (fun r => r.key) = keysL xs := by
  have h := (keys_last hs xs.length (Nat.le_refl _)).1
  rw [List.take_length] at h
  exact h

def keysD (xs : List Rw) : KeysR := if tabF xs = 0 then ⟨0, keysL xs⟩ else ⟨tabF xs, []⟩

section
attribute [local go_sem ↓] Go.wp_at_zero Go.wp_at_succ

set_option maxHeartbeats 2000000 in
theorem l5Keys_any (x : Value) (xs : List Rw) (w : World) (hx : RowsV w x xs) (hn : xs.length ≤ 200) :
    Calls Try.prog 34 #[x] w fun e w' => ∃ v, e = .returned v ∧ w'.ownsRow w.heap.size 9 1 v (keysL xs).length (strsC (keysL xs)) ∧ Below w.heap.size w w' := by
  obtain ⟨ax, cx, rfl, hcx, hmx, hx⟩ := hx
  unfold maxLen at hmx
  obtain ⟨i0, hi, hz0, hz1, hz2⟩ := info_parts infoStr
  have HK : Hid (keysL xs = keysTo xs xs.length) := rfl
  have HH : Hid (∀ k, newKey xs k = true → keysTo xs (k + 1) = keysTo xs k ++ [(xs.getD k default).key]) := fun k h => keysTo_hit h
  have HM : Hid (∀ k, newKey xs k = false → keysTo xs (k + 1) = keysTo xs k) := fun k h => keysTo_miss h
  have HLE : Hid (∀ k, (keysTo xs k).length ≤ k) := keysTo_le xs
  generalize xs.length = n at *
  go_enter Try.func34, Try.ntmps34
  go_wp2
  go_loopw [3, 4] (fun v i w' => ∃ k : Nat, k ≤ n ∧ i = .int .i64 k ∧ w'.ownsRow w.heap.size 9 1 v (keysTo xs k).length (strsC (keysTo xs k)) ∧ Below w.heap.size w w') (fun _ i _ => n - (intOf i).toNat)
  case atStart =>
    refine ⟨0, Nat.zero_le _, rfl, ?_, balloc (Below.refl _ _) _⟩
    have := World.ownsRow_lit (base := w.heap.size) (e := 9) (size := 1) w #[] 0 (by simp) (by unfold maxLen; omega) rfl
    simpa [keysTo, strsC] using this
  case round =>
    obtain ⟨k, hk, rfl, ho, hbl⟩ := hrel
    by_cases hlt : k < n
    · obtain ⟨b, o, rfl, h2⟩ := hx k hlt
      have HX : Hid (∀ i, i < n → ∃ b' o', some (⟨b, o, none⟩ : Addr) = some ⟨b', o', none⟩ ∧ rowCells w b' (o' + i * 4) (xs.getD i default)) := hx
      have HN : Hid (newKey xs k = decide (k = 0 ∨ (xs.getD k default).key ≠ (xs.getD (k - 1) default).key)) := rfl
      have hH := HH.out k
      have hM := HM.out k
      obtain ⟨q, hq⟩ : ∃ q, q = xs.getD k default := ⟨_, rfl⟩
      rw [← hq] at h2 hH HN
      have HH2 : Hid (newKey xs k = true → keysTo xs (k + 1) = keysTo xs k ++ [q.key]) := hH
      have HM2 : Hid (newKey xs k = false → keysTo xs (k + 1) = keysTo xs k) := hM
      have hle := HLE.out k
      clear hq hx hH hM HH HM HK
      obtain ⟨ys, hys⟩ : ∃ ys, keysTo xs k = ys := ⟨_, rfl⟩
      rw [hys] at ho hle HH2 HM2
      have HY : Hid (keysTo xs k = ys) := hys
      clear hys
      have hsz := hbl.size
      by_cases hk0 : k = 0
      · subst hk0
        have hnk : newKey xs 0 = true := by rw [HN.out]; simp
        have HE : Hid (keysTo xs (0 + 1) = ys ++ [q.key]) := HH2.out hnk
        clear hnk
        obtain ⟨c0, c1, c2, c3⟩ := rowCells_below hbl h2
        simp only [Nat.zero_mul, Nat.add_zero] at c0 c1 c2 c3
        go_wp2
        go_quiet (fail)
        have hqb : Below w.heap.size w (wr.drewN nq) := bdrN hbl nq
        have ho2 : (wr.drewN nq).ownsRow w.heap.size 9 1 _ ys.length (strsC ys) := ho
        have c0q : (wr.drewN nq).cell? ⟨b, o, none⟩ = some (.string q.key) := c0
        obtain ⟨wq, hwq⟩ : ∃ wq, wr.drewN nq = wq := ⟨_, rfl⟩
        rw [hwq] at ho2 c0q hqb ⊢
        have hsq := hqb.size
        clear hwq ho c0 c1 c2 c3
        go_wp2_with (at_builtin; refine wpList_append_own _ rfl _ _ 30 rfl w.heap.size 9 i0 _ 1 16 Try.underlying30 hi hz0 hz1 hz2 rfl (by decide) _ _ _ rfl (ho2.alloc _) ⟨wq.heap.size, 0, none⟩ 1 1 [.string q.key] rfl rfl ?c1 ?c2 ?c3 ?c4 ?c5 ?_)
        case c1 => exact strCell_one _ _ _
        case c2 =>
          intro u hu
          rw [List.mem_singleton] at hu
          rw [hu]
          rfl
        case c3 => unfold maxLen; omega
        case c4 => omega
        case c5 => simp; omega
        intro v' w1 hown' hgrow _
        have hB1 : Below w.heap.size w w1 := owns_grownS (ho2.alloc _) (balloc hqb _) (by simp; omega) (Nat.le_refl _) hgrow
        clear hgrow ho2
        go_wp2
        refine ⟨⟨0 + 1, by omega, by go_num, ?_, hB1⟩, by simp [intOf]; omega⟩
        rw [HE.out, strsC_snoc, List.length_append]
        exact hown'
      · obtain ⟨m, hm⟩ : ∃ m, k - 1 = m := ⟨_, rfl⟩
        obtain ⟨bp, op, ep, h3⟩ := HX.out m (by omega)
        simp only [Option.some.injEq, Addr.mk.injEq, and_true] at ep
        obtain ⟨rfl, rfl⟩ := ep
        rw [hm] at HN
        obtain ⟨l2, hl2⟩ : ∃ l, l = xs.getD m default := ⟨_, rfl⟩
        rw [← hl2] at h3 HN
        have hi0 : ((k : Int) == 0) = false := by rw [beq_eq_false_iff_ne]; omega
        have hi1 : decide (k = 0) = false := decide_eq_false hk0
        have hi2 : IntKind.i64.wrap ((k : Int) - 1) = (m : Int) := by rw [IntKind.wrap_i64]; omega
        have hi3 : (m : Int) < n := by omega
        have hi4 : (0 : Int) ≤ m := by omega
        have hi5 : (0 : Int) ≤ k := by omega
        have hi6 : (k : Int) < n := by omega
        have HK0 : Hid (k ≠ 0) := hk0
        clear hm hl2 HX
        obtain ⟨c0, c1, c2, c3⟩ := rowCells_below hbl h2
        obtain ⟨p0, p1, p2, p3⟩ := rowCells_below hbl h3
        by_cases hkey : q.key = l2.key
        · have hnk : newKey xs k = false := by rw [HN.out]; simp [hk0, hkey]
          have HE : Hid (keysTo xs (k + 1) = ys) := HM2.out hnk
          have hd : (q.key.toList == l2.key.toList) = true := by rw [hkey]; simp
          have hd1 : q.key.toList = l2.key.toList := by rw [hkey]
          clear hnk
          go_wp2
          go_quiet (fail)
          go_wp2
          refine ⟨⟨k + 1, by omega, by go_num, ?_, bdrN hbl _⟩, by simp [intOf]; omega⟩
          rw [HE.out]
          exact ho
        · have hnk : newKey xs k = true := by rw [HN.out]; simp [hkey]
          have HE : Hid (keysTo xs (k + 1) = ys ++ [q.key]) := HH2.out hnk
          have hd : (q.key.toList == l2.key.toList) = false := by rw [beq_eq_false_iff_ne, Ne, tl_inj]; exact hkey
          have hd1 : ¬ q.key.toList = l2.key.toList := by rw [tl_inj]; exact hkey
          clear hnk
          go_wp2
          go_quiet (fail)
          have hqb : Below w.heap.size w (wr.drewN nq) := bdrN hbl nq
          have ho2 : (wr.drewN nq).ownsRow w.heap.size 9 1 _ ys.length (strsC ys) := ho
          have c0q : (wr.drewN nq).cell? ⟨b, o + k * 4, none⟩ = some (.string q.key) := c0
          obtain ⟨wq, hwq⟩ : ∃ wq, wr.drewN nq = wq := ⟨_, rfl⟩
          rw [hwq] at ho2 c0q hqb ⊢
          have hsq := hqb.size
          clear hwq ho c0 c1 c2 c3
          go_wp2_with (at_builtin; refine wpList_append_own _ rfl _ _ 30 rfl w.heap.size 9 i0 _ 1 16 Try.underlying30 hi hz0 hz1 hz2 rfl (by decide) _ _ _ rfl (ho2.alloc _) ⟨wq.heap.size, 0, none⟩ 1 1 [.string q.key] rfl rfl ?c1 ?c2 ?c3 ?c4 ?c5 ?_)
          case c1 => exact strCell_one _ _ _
          case c2 =>
            intro u hu
            rw [List.mem_singleton] at hu
            rw [hu]
            rfl
          case c3 => unfold maxLen; omega
          case c4 => omega
          case c5 => simp; omega
          intro v' w1 hown' hgrow _
          have hB1 : Below w.heap.size w w1 := owns_grownS (ho2.alloc _) (balloc hqb _) (by simp; omega) (Nat.le_refl _) hgrow
          clear hgrow ho2
          go_wp2
          refine ⟨⟨k + 1, by omega, by go_num, ?_, hB1⟩, by simp [intOf]; omega⟩
          rw [HE.out, strsC_snoc, List.length_append]
          exact hown'
    · have hkn : k = n := by omega
      subst hkn
      go_wp2
      go_ret
      rw [HK.out]
      exact ⟨_, rfl, ho, hbl⟩

theorem keysRR_nil (w : World) (base : Nat) (c : Int) : ∃ F, keysRR.O w base F (.agg #[.int .i64 c, .slice none 0 0]) ⟨c, []⟩ :=
  ⟨_, _, _, rfl, ⟨World.ownsRow_nil _ _ _ _, rfl⟩, fun _ => Iff.rfl⟩
theorem keysRR_of {w : World} {base : Nat} {v : Value} {c : Int} {ys : List ByteArray} (h : w.ownsRow base 9 1 v ys.length (strsC ys)) : ∃ F, keysRR.O w base F (.agg #[.int .i64 c, v]) ⟨c, ys⟩ :=
  ⟨_, _, _, rfl, ⟨h, rfl⟩, fun _ => Iff.rfl⟩

set_option maxHeartbeats 2000000 in
theorem specKeysOf_u (x : Value) (xs : List Rw) (w : World) (hx : rowsR.V w x xs) :
    Calls Try.prog 12 #[x] w fun e w' => ∃ v F, e = .returned v ∧ keysRR.O w' w.heap.size F v (keysD xs) ∧ Below w.heap.size w w' := by
  have hX := hx.1
  obtain ⟨ax, cx, rfl⟩ := rows_form hx
  generalize hN : xs.length = n at *
  have HN : Hid (xs.length = n) := hN
  clear hN hx
  go_enter Try.func12, Try.ntmps12
  go_wp2_with fail
  refine (specTableFault_any _ xs _ (RowsV_below hX (by (repeat (first | exact Below.refl _ _ | assumption | refine Below.drew ?_ | refine balloc ?_ _ | refine bset ?_ (by simp; omega) _ | refine bset ?_ (by simp) _ | refine bstep ?_ (by assumption)))))).mono ?_
  rintro e w1 ⟨rfl, hb1⟩
  obtain ⟨g0, g1, gf, gz⟩ := boxNew2 hb1 rfl
  have hB1 : Below w.heap.size w w1 := by (repeat (first | exact Below.refl _ _ | assumption | refine Below.drew ?_ | refine balloc ?_ _ | refine bset ?_ (by simp; omega) _ | refine bset ?_ (by simp) _ | refine bstep ?_ (by assumption)))
  have hX1 := RowsV_below hX hB1
  clear hb1 hX
  by_cases h0 : tabF xs = 0
  rotate_left
  · have E : Hid (keysD xs = ⟨tabF xs, []⟩) := by rw [Hid]; unfold keysD; rw [if_neg h0]
    have h0' : ((tabF xs : Int) == 0) = false := by rw [beq_eq_false_iff_ne]; exact h0
    generalize tabF xs = c at h0 h0' E ⊢
    go_wp2
    refine bodyPost_ret (v := .agg #[.int .i64 c, .slice none 0 0]) (by simp [results, Try.results12, go_sem, g0, g1, gf]) rfl ?_
    obtain ⟨F, hF⟩ := keysRR_nil ((w1.setCell ⟨w.heap.size, 0, none⟩ (.int .i64 c)).setCell ⟨w.heap.size, 1, none⟩ (.slice none 0 0)) w.heap.size c
    exact ⟨_, F, rfl, by rw [E.out]; exact hF, by (repeat (first | exact Below.refl _ _ | assumption | refine Below.drew ?_ | refine balloc ?_ _ | refine bset ?_ (by simp; omega) _ | refine bset ?_ (by simp) _ | refine bstep ?_ (by assumption)))⟩
  · have E : Hid (keysD xs = ⟨0, keysL xs⟩) := by rw [Hid]; unfold keysD; rw [if_pos h0]
    have hlen := (tabF_all h0).1
    rw [h0]
    go_wp2_with fail
    refine (l5Keys_any _ xs _ hX1 hlen).mono ?_
    rintro e w2 ⟨v, rfl, ho, hb2⟩
    obtain ⟨av, cv, rfl⟩ := owns_form ho
    have g0' := cell_keep hb2 g0
    have g1' := cell_keep hb2 g1
    have gk := boxKeep ⟨gf, gz⟩ hb2
    have gf2 := gk.1
    have hB2 := bstep hB1 hb2
    clear g0 g1 gf hb2 hB1
    go_wp2
    refine bodyPost_ret (v := .agg #[.int .i64 0, .slice av (keysL xs).length cv]) (by simp [results, Try.results12, go_sem, g0', g1', gf2]) rfl ?_
    have ho3 : World.ownsRow ((w2.setCell ⟨w.heap.size, 0, none⟩ (.int .i64 0)).setCell ⟨w.heap.size, 1, none⟩ (.slice av (keysL xs).length cv)) w1.heap.size 9 1 (.slice av (keysL xs).length cv) (keysL xs).length (strsC (keysL xs)) := owns_setCell (owns_setCell ho (by dsimp only; omega) _) (by dsimp only; omega) _
    obtain ⟨F, hF⟩ := keysRR_of (c := 0) (owns_base ho3 (show w.heap.size ≤ w1.heap.size by omega))
    exact ⟨_, F, rfl, by rw [E.out]; exact hF, by (repeat (first | exact Below.refl _ _ | assumption | refine Below.drew ?_ | refine balloc ?_ _ | refine bset ?_ (by simp; omega) _ | refine bset ?_ (by simp) _ | refine bstep ?_ (by assumption)))⟩
end

end Go.Proofs.Ytaahmmadcdfcpaa

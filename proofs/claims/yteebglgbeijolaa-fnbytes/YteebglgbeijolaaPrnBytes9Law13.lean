import Derived.Test.YteebglgbeijolaaPrnBytes9Law3
import Derived.Test.YteebglgbeijolaaPrnBytes9Law11
import Derived.Test.YteebglgbeijolaaPrnBytes9Law8
import Derived.Test.YteebglgbeijolaaPrnBytes9Law4
import Derived.Test.YteebglgbeijolaaPrnBytes9Law10
import Derived.Test.YteebglgbeijolaaPrnBytes9Law12
import Derived.Test.YteebglgbeijolaaPrnBytes9Law7

/-
  A contract's bytes: the specification's side.
-/
namespace Go.Proofs.Yteebglgbeijolaa
open Go.RowKit
set_option linter.unusedSectionVars false
variable [DecidableEq BytesR] [Inhabited BytesR] [DecidableEq Leg] [Inhabited Leg] [DecidableEq Cont] [Inhabited Cont]
attribute [local go_sem ↓] Go.wp_at_zero Go.wp_at_succ

def plcBy (l : Leg) : List Byte := [toB l.sh, toB l.ac, toB l.ast]
def legBy (l : Leg) : List Byte := plcBy l ++ hiB l.am 8
def contBy (id : Int) (xs : List Leg) : List Byte := hiB id 8 ++ xs.flatMap legBy
theorem length_legBy (l : Leg) : (legBy l).length = 11 := by simp [legBy, plcBy, length_hiB]
theorem flat_legBy (xs : List Leg) : (xs.flatMap legBy).length = xs.length * 11 := by
  induction xs with
  | nil => rfl
  | cons x r ih => rw [List.flatMap_cons, List.length_append, length_legBy, ih, List.length_cons]; omega
theorem length_contBy (id : Int) (xs : List Leg) : (contBy id xs).length = 8 + xs.length * 11 := by rw [contBy, List.length_append, length_hiB, flat_legBy]
theorem contBy_take (id : Int) (xs : List Leg) (k : Nat) (h : k < xs.length) : contBy id (xs.take (k + 1)) = contBy id (xs.take k) ++ plcBy (xs.getD k default) ++ hiB (xs.getD k default).am 8 := by
  have e : xs.take (k + 1) = xs.take k ++ [xs.getD k default] := by
    rw [List.take_add_one]
    congr 1
    simp [List.getD, h]
  rw [e]
  simp only [contBy, legBy, List.flatMap_append, List.flatMap_cons, List.flatMap_nil, List.append_assoc, List.append_nil]
set_option maxHeartbeats 2000000 in
theorem l3Contract_any (id : Int) (x : Value) (xs : List Leg) (w : World) (hx : LegsV w x xs) (hn : xs.length ≤ 8) :
    Calls Try.prog 106 #[.agg #[.int .i64 id, x]] w fun e w' => ∃ v F, e = .returned v ∧ bytesR.O w' w.heap.size F v (contBy id xs) ∧ Below w.heap.size w w' := by
  obtain ⟨ax, cx, rfl, hcx, hmx, hx⟩ := hx
  unfold maxLen at hmx
  have hT := contBy_take id xs
  have HA : Hid (xs.take xs.length = xs) := List.take_length
  have HL : Hid (∀ k, k ≤ xs.length → (contBy id (xs.take k)).length = 8 + k * 11) := fun k hk => by rw [length_contBy, List.length_take]; congr 2; omega
  have H0 : Hid (contBy id (xs.take 0) = hiB id 8) := by simp [Hid, contBy]
  have H8 : Hid ((hiB id 8).length = 8) := length_hiB _ _
  generalize hn' : xs.length = n at *
  have HT : Hid (∀ k, k < n → contBy id (xs.take (k + 1)) = contBy id (xs.take k) ++ plcBy (xs.getD k default) ++ hiB (xs.getD k default).am 8) := hT
  clear hn' hT
  go_enter Try.func106, Try.ntmps106
  go_wp2_with fail
  refine (specPack_any id _).mono ?_
  rintro e w1 ⟨v0, rfl, o0, hb1⟩
  have hc1 : w1.cell? ⟨w.heap.size, 1, none⟩ = some (.slice ax n cx) := cell_keep hb1 (by simp [go_sem])
  have hB1 : Below w.heap.size w w1 := by (repeat (first | exact Below.refl _ _ | assumption | refine Below.drew ?_ | refine balloc ?_ _ | refine bset ?_ (by simp; omega) _ | refine bset ?_ (by simp) _ | refine bstep ?_ (by assumption)))
  rw [World.size_alloc] at o0
  rw [← H0.out] at o0
  have e8 : (contBy id (xs.take 0)).length = 8 := by rw [HL.out 0 (by omega)]
  rw [show (8 : Nat) = (contBy id (xs.take 0)).length from e8.symm] at o0
  have HO0 : Hid (World.ownsRow w1 (w.heap.size + 1) 5 1 v0 (contBy id (xs.take 0)).length (bytesC (contBy id (xs.take 0)))) := o0
  clear o0 hb1 e8
  go_wp2
  go_loopw [3, 4] (fun v i w' => ∃ k : Nat, k ≤ n ∧ i = .int .i64 k ∧ w'.ownsRow (w.heap.size + 1) 5 1 v (contBy id (xs.take k)).length (bytesC (contBy id (xs.take k))) ∧ w'.cell? ⟨w.heap.size, 1, none⟩ = some (.slice ax n cx) ∧ Below w.heap.size w w') (fun _ i _ => n - (intOf i).toNat)
  case atStart => exact ⟨0, Nat.zero_le _, rfl, HO0.out, hc1, hB1⟩
  case round =>
    clear hc1 hB1 HO0
    obtain ⟨k, hk, rfl, ho, hbx, hbl⟩ := hrel
    have hz : w.heap.size + 1 ≤ wr.heap.size := World.block_lt_of_cell? _ _ hbx
    by_cases hlt : k < n
    · obtain ⟨bx, ox, rfl, g1⟩ := hx k hlt
      have e1 := HT.out k hlt
      have hlen : (contBy id (xs.take k)).length ≤ 96 := by rw [HL.out k (by omega)]; omega
      obtain ⟨l, hl⟩ : ∃ l, l = xs.getD k default := ⟨_, rfl⟩
      rw [← hl] at g1 e1
      clear hl hx
      obtain ⟨a1, a2, a3, a4⟩ := legCells_below hbl g1
      have HE : Hid (contBy id (xs.take (k + 1)) = contBy id (xs.take k) ++ plcBy l ++ hiB l.am 8) := e1
      generalize contBy id (xs.take k) = ys at *
      obtain ⟨q0, hq0⟩ : ∃ q, IntKind.u8.wrap l.sh = q := ⟨_, rfl⟩
      obtain ⟨q1, hq1⟩ : ∃ q, IntKind.u8.wrap l.ac = q := ⟨_, rfl⟩
      obtain ⟨q2, hq2⟩ : ∃ q, IntKind.u8.wrap l.ast = q := ⟨_, rfl⟩
      have HQ : Hid (q0 = ((toB l.sh).val : Int) ∧ q1 = ((toB l.ac).val : Int) ∧ q2 = ((toB l.ast).val : Int)) := ⟨by rw [← hq0, wrapB], by rw [← hq1, wrapB], by rw [← hq2, wrapB]⟩
      have hbk : n ≤ cx := hcx
      clear e1 g1
      go_wp2_with (at_builtin; refine wpList_appB _ rfl _ _ rfl (w.heap.size + 1) _ ys rfl _ (plcBy l) rfl ((ho.alloc _).alloc _) ?c1 ?c2 ?c3 ?_)
      case c1 => exact appAny_three (g := wr.heap.size + 1) (q0 := q0) (q1 := q1) (q2 := q2) (by simp [go_sem]) (by simp [go_sem]) (by simp [go_sem]) HQ.out.1 HQ.out.2.1 HQ.out.2.2
      case c2 => simp only [plcBy, List.length_cons, List.length_nil]; omega
      case c3 => simp; omega
      · intro v1 w1 o1 hg hB
        have hb1 := hB wr ((balloc (balloc (Below.refl wr.heap.size wr) _) _).mono hz)
        have hB1 : Below w.heap.size w w1 := hbl.trans (hb1.mono (by omega))
        have c3 := hg.cell (a := ⟨wr.heap.size, 3, none⟩) (v := .int .i64 l.am) (by simp [go_sem]) (own_not (own_of ho) (.inr (Nat.le_refl _)))
        have hbx1 := hg.cell (cell_keep (balloc (balloc (Below.refl _ _) _) _) hbx) (own_not (own_of ho) (.inl (by dsimp only; omega)))
        have o1' : World.ownsRow w1 (w.heap.size + 1) 5 1 v1 (ys ++ plcBy l).length (bytesC (ys ++ plcBy l)) := by simpa using o1
        clear hB hg o1 hb1 ho hbx a1 a2 a3 a4 hq0 hq1 hq2
        have hl2 : (ys ++ plcBy l).length ≤ 200 := by simp only [plcBy, List.length_append, List.length_cons, List.length_nil]; omega
        generalize ys ++ plcBy l = zs at *
        obtain ⟨p1, r1, rfl⟩ := owns_form o1'
        have hz1 : wr.heap.size < w1.heap.size := World.block_lt_of_cell? _ _ c3
        go_wp2_with fail
        refine (specPack_any l.am _).mono ?_
        rintro e w2 ⟨v2, rfl, o2, hb2⟩
        have o3 := owns_below o1' hb2
        have hbx2 := cell_keep hb2 hbx1
        have hB2 := bstep hB1 hb2
        have hs2 := hb2.size
        have V2 : BytesV w2 v2 (hiB l.am 8) := BytesV_of_owns (by rw [length_hiB]; exact o2)
        have t2 := appAny_bytes V2
        have l2 : zs.length + (hiB l.am 8).length ≤ 1073741824 := by rw [length_hiB]; omega
        obtain ⟨p2, r2, rfl⟩ := owns_form o2
        generalize hiB l.am 8 = ds at *
        have hz2 : w.heap.size + 1 ≤ w2.heap.size := by omega
        clear o1' o2 hb2 hbx1 hB1 c3 V2
        go_wp2_with (at_builtin; refine wpList_appB _ rfl _ _ rfl (w.heap.size + 1) _ zs rfl _ ds rfl o3 t2 l2 hz2 ?_)
        intro v4 w4 o4 hg hB
        have hbx4 := hg.cell hbx2 (own_not (own_of o3) (.inl (by dsimp only; omega)))
        have hB4 : Below w.heap.size w w4 := hB2.trans ((hB w2 (Below.refl _ _)).mono (by omega))
        have h4 : World.ownsRow w4 (w.heap.size + 1) 5 1 v4 (zs ++ ds).length (bytesC (zs ++ ds)) := by simpa using o4
        have HO : Hid (World.ownsRow w4 (w.heap.size + 1) 5 1 v4 (zs ++ ds).length (bytesC (zs ++ ds))) := h4
        clear o4 h4 hg hB hB2 hbx2 o3 t2 l2
        go_wp2
        refine ⟨⟨k + 1, by omega, by go_num, ?_, hbx4, hB4⟩, by simp [intOf]; omega⟩
        rw [HE.out]
        exact HO.out
    · go_wp2
      go_ret
      have hkn : k = n := by omega
      subst hkn
      rw [HA.out] at ho
      exact ⟨_, _, rfl, ⟨owns_base ho (by omega), rfl⟩, hbl⟩
def packD (c : Cont) : BytesR := if contractFault c.id c.legs = 0 then ⟨0, contBy c.id c.legs⟩ else ⟨contractFault c.id c.legs, []⟩
theorem bytesR_none (w : World) (base : Nat) (c : Int) : bytesRR.O w base none_ (.agg #[.int .i64 c, .slice none 0 0]) ⟨c, []⟩ :=
  ⟨.slice none 0 0, none_, rfl, ⟨by simpa [bytesC] using World.ownsRow_nil w base 5 1, by funext b; simp [none_, Value.ownBlock]⟩, fun b => Iff.rfl⟩
set_option maxHeartbeats 1000000 in
theorem specPackC_u (x : Value) (c : Cont) (w : World) (hx : contR.V w x c) :
    Calls Try.prog 63 #[x] w fun e w' => ∃ v F, e = .returned v ∧ bytesRR.O w' w.heap.size F v (packD c) ∧ Below w.heap.size w w' := by
  obtain ⟨u, rfl, hu⟩ := hx
  obtain ⟨id, xs⟩ := c
  dsimp only at hu ⊢
  go_enter Try.func63, Try.ntmps63
  go_wp2_with fail
  refine (specFault_any id u xs _ (LegsV_below hu (by (repeat (first | exact Below.refl _ _ | assumption | refine Below.drew ?_ | refine balloc ?_ _ | refine bset ?_ (by simp; omega) _ | refine bset ?_ (by simp) _ | refine bstep ?_ (by assumption)))))).mono ?_
  rintro e w1 ⟨rfl, hb1⟩
  have hB1 : Below w.heap.size w w1 := by (repeat (first | exact Below.refl _ _ | assumption | refine Below.drew ?_ | refine balloc ?_ _ | refine bset ?_ (by simp; omega) _ | refine bset ?_ (by simp) _ | refine bstep ?_ (by assumption)))
  have hc0 : w1.cell? ⟨w.heap.size, 0, none⟩ = some (.int .i64 id) := cell_keep hb1 (by simp [go_sem])
  have hc1 : w1.cell? ⟨w.heap.size, 1, none⟩ = some u := cell_keep hb1 (by simp [go_sem])
  have hr0 : w1.cell? ⟨w.heap.size + 1, 0, none⟩ = some (.int .i64 0) := cell_keep hb1 (by simp [go_sem])
  have hr1 : w1.cell? ⟨w.heap.size + 1, 1, none⟩ = some (.slice none 0 0) := cell_keep hb1 (by simp [go_sem])
  have hrf : (∀ o, w1.frozen? ⟨w.heap.size + 1, o, none⟩ = false) ∧ w.heap.size + 1 < w1.heap.size := (boxNew2 hb1 (by simp)).2.2
  clear hb1
  by_cases hcf : contractFault id xs = 0
  · have HD : Hid (packD ⟨id, xs⟩ = ⟨0, contBy id xs⟩) := if_pos hcf
    have HC : Hid (contractFault id xs = 0) := hcf
    rw [hcf]
    clear hcf
    obtain ⟨_, hl2, hl8, _⟩ := cf_inv HC.out
    go_wp2_with fail
    refine (l3Contract_any id u xs _ (LegsV_below hu (by (repeat (first | exact Below.refl _ _ | assumption | refine Below.drew ?_ | refine balloc ?_ _ | refine bset ?_ (by simp; omega) _ | refine bset ?_ (by simp) _ | refine bstep ?_ (by assumption))))) (by omega)).mono ?_
    rintro e w2 ⟨v, F, rfl, ho, hb2⟩
    obtain ⟨p, q, rfl⟩ := bytes_form (bytesR.ofO ho)
    have hB2 := bstep hB1 hb2
    replace hr0 := cell_keep hb2 hr0
    replace hr1 := cell_keep hb2 hr1
    have hlt1 := hrf.2
    replace hrf := boxKeep hrf hb2
    have ho' := bytesR.base (base' := w.heap.size + 2) ho (by omega)
    obtain ⟨hrf, hlt⟩ := hrf
    clear hb2 ho
    generalize contBy id xs = D at *
    go_wp2
    refine bodyPost_ret (v := .agg #[.int .i64 0, .slice p D.length q]) ?_ rfl ⟨_, F, rfl, ?_, by (repeat (first | exact Below.refl _ _ | assumption | refine Below.drew ?_ | refine balloc ?_ _ | refine bset ?_ (by simp; omega) _ | refine bset ?_ (by simp) _ | refine bstep ?_ (by assumption)))⟩
    · simp [results, Try.results63, go_sem, hr0, hr1]
    · rw [HD.out]
      exact ⟨_, F, rfl, bytesR.base (base := w.heap.size + 2) (bytesR.set (bytesR.set ho' _ (by simp)) _ (by simp)) (by omega), fun b => Iff.rfl⟩
  · have hd : (contractFault id xs == 0) = false := by simpa using hcf
    have HD : Hid (packD ⟨id, xs⟩ = ⟨contractFault id xs, []⟩) := if_neg hcf
    obtain ⟨hrf, hlt⟩ := hrf
    go_wp2
    refine bodyPost_ret (v := .agg #[.int .i64 (contractFault id xs), .slice none 0 0]) ?_ rfl ?_
    · simp [results, Try.results63, go_sem, hr0, hr1]
    · rw [HD.out]
      first | exact ⟨_, none_, rfl, bytesR_none _ _ _, by (repeat (first | exact Below.refl _ _ | assumption | refine Below.drew ?_ | refine balloc ?_ _ | refine bset ?_ (by simp; omega) _ | refine bset ?_ (by simp) _ | refine bstep ?_ (by assumption)))⟩ | exact ⟨_, rfl, ⟨none_, bytesR_none _ _ _⟩, by (repeat (first | exact Below.refl _ _ | assumption | refine Below.drew ?_ | refine balloc ?_ _ | refine bset ?_ (by simp; omega) _ | refine bset ?_ (by simp) _ | refine bstep ?_ (by assumption)))⟩
end Go.Proofs.Yteebglgbeijolaa

/-
  Numbers and contracts are read back: in mathematics.
-/
namespace Go.Proofs.Yteebglgbeijolaa
open Go.RowKit
set_option linter.unusedSectionVars false
variable [DecidableEq Leg] [Inhabited Leg] [DecidableEq Cont] [Inhabited Cont] [DecidableEq ContR] [Inhabited ContR] [DecidableEq BytesR] [Inhabited BytesR]
set_option linter.unusedVariables false
set_option linter.unusedSimpArgs false

theorem hiB_succ (n : Int) (k : Nat) : hiB n (k + 1) = hiB (n / 256) k ++ [toB n] := by
  unfold hiB
  rw [List.range_succ, List.map_append]
  congr 1
  · apply List.map_congr_left
    intro i hi
    rw [List.mem_range] at hi
    congr 1
    rw [show k + 1 - 1 - i = (k - 1 - i) + 1 by omega, show 8 * (k - 1 - i + 1) = 8 + 8 * (k - 1 - i) by omega, Int.pow_add, ← Int.ediv_ediv_of_nonneg (by omega)]
    rfl
  · simp
theorem hiN_hiB (k : Nat) : ∀ n : Int, hiN (hiB n k) = n % (256 ^ k) := by
  induction k with
  | zero => intro n; simp [hiB, hiN]
  | succ k ih =>
    intro n
    rw [hiB_succ, hiN_snoc, ih, toB_val, Int.pow_succ]
    have hp : (0 : Int) < 256 ^ k := Int.pow_pos (by omega)
    generalize (256 : Int) ^ k = P at *
    have e1 := Int.emod_add_mul_ediv n 256
    have e2 := Int.emod_add_mul_ediv (n / 256) P
    have h1 := Int.emod_nonneg (n / 256) (b := P) (by omega)
    have h2 := Int.emod_lt_of_pos (n / 256) hp
    have h3 := Int.emod_nonneg n (b := 256) (by omega)
    have h4 := Int.emod_lt_of_pos n (b := 256) (by omega)
    generalize n / 256 % P = a at *
    generalize n % 256 = b at *
    generalize n / 256 / P = c at *
    generalize n / 256 = d at *
    have e : n = a * 256 + b + (P * 256) * c := by
      rw [← e1, ← e2, Int.mul_add, Int.mul_comm 256 a]
      have : 256 * (P * c) = P * 256 * c := by rw [Int.mul_comm P 256, Int.mul_assoc]
      omega
    rw [e, Int.add_mul_emod_self_left]
    refine (Int.emod_eq_of_lt (by omega) ?_).symm
    have : (a + 1) * 256 ≤ P * 256 := Int.mul_le_mul_of_nonneg_right (by omega) (by omega)
    omega
theorem hiB_hiN : ∀ (k : Nat) (xs : List Byte), xs.length = k → hiB (hiN xs) k = xs := by
  intro k
  induction k with
  | zero => intro xs h; rw [List.eq_nil_of_length_eq_zero h]; rfl
  | succ k ih =>
    intro xs h
    have hne : xs ≠ [] := fun e => by rw [e] at h; simp at h
    have hx : xs = xs.dropLast ++ [xs.getLast hne] := (List.dropLast_concat_getLast hne).symm
    generalize xs.dropLast = ys at *
    generalize xs.getLast hne = b at *
    subst hx
    have hl : ys.length = k := by simpa using h
    rw [hiB_succ, hiN_snoc]
    have hb := b.isLt
    have e1 : (hiN ys * 256 + (b.val : Int)) / 256 = hiN ys := by omega
    rw [e1, ih ys hl]
    congr 1
    have e2 : toB (hiN ys * 256 + (b.val : Int)) = b := by
      apply Fin.ext
      have := toB_val (hiN ys * 256 + (b.val : Int))
      omega
    rw [e2]
theorem hiB_wrap (a : Int) : hiB (IntKind.i64.wrap a) 8 = hiB a 8 := by
  have h : ∀ n : Int, hiB (n % 18446744073709551616) 8 = hiB n 8 := fun n => by
    unfold hiB
    apply List.map_congr_left
    intro i hi
    exact toB_mod n _ (by omega)
  rw [← h (IntKind.i64.wrap a), ← h a]
  congr 1
  rw [IntKind.wrap_i64]
  omega
theorem wrap_hiN (n : Int) (h0 : -9223372036854775808 ≤ n) (h1 : n ≤ 9223372036854775807) : IntKind.i64.wrap (hiN (hiB n 8)) = n := by
  rw [hiN_hiB, show (256 : Int) ^ 8 = 18446744073709551616 from rfl, wrap_mod, IntKind.wrap_i64]
  omega
theorem hiB_read (xs : List Byte) (h : xs.length = 8) : hiB (IntKind.i64.wrap (hiN xs)) 8 = xs := by rw [hiB_wrap, hiB_hiN 8 xs h]
theorem unVal_hiB (n : Int) (h0 : -9223372036854775808 ≤ n) (h1 : n ≤ 9223372036854775807) : unVal (hiB n 8) = n := by
  unfold unVal
  rw [if_pos (length_hiB n 8), wrap_hiN n h0 h1]
theorem toB_byte (b : Byte) : toB (b.val : Int) = b := by
  apply Fin.ext
  have := toB_val (b.val : Int)
  have := b.isLt
  omega
theorem legBy_unLeg (xs : List Byte) (t : Nat) (h : t + 11 ≤ xs.length) : legBy (unLeg xs t) = (xs.drop t).take 11 := by
  unfold legBy plcBy unLeg
  dsimp only
  rw [toB_byte, toB_byte, toB_byte, hiB_read _ (by rw [List.length_take, List.length_drop]; omega)]
  apply List.ext_getElem?
  intro i
  rw [List.getElem?_take]
  split
  · rename_i hi
    rw [List.getElem?_drop]
    match i, hi with
    | 0, _ => simp [List.getD, show t < xs.length by omega]
    | 1, _ => simp [List.getD, show t + 1 < xs.length by omega]
    | 2, _ => simp [List.getD, show t + 2 < xs.length by omega]
    | i + 3, hi =>
      simp only [List.cons_append, List.nil_append, List.getElem?_cons_succ]
      rw [List.getElem?_take, if_pos (by omega), List.getElem?_drop]
      congr 1
      omega
  · rename_i hi
    rw [List.getElem?_eq_none]
    simp only [List.length_append, List.length_cons, List.length_nil, List.length_take, List.length_drop]
    omega
theorem legs_back (xs : List Byte) : ∀ k, 8 + 11 * k ≤ xs.length → (unLegs xs k).flatMap legBy = (xs.drop 8).take (11 * k)
  | 0, _ => by simp [unLegs]
  | k + 1, h => by
    rw [unLegs_succ, List.flatMap_append, legs_back xs k (by omega)]
    simp only [List.flatMap_cons, List.flatMap_nil, List.append_nil]
    rw [legBy_unLeg xs _ (by omega), show 11 * (k + 1) = 11 * k + 11 by omega, List.take_add, List.drop_drop]
theorem contBy_unCont {xs : List Byte} (h8 : 8 ≤ xs.length) (h11 : (xs.length - 8) % 11 = 0) : contBy (unCont xs).id (unCont xs).legs = xs := by
  unfold contBy unCont
  dsimp only
  rw [hiB_read _ (by rw [List.length_take]; omega), legs_back xs _ (by omega)]
  have e : (xs.drop 8).take (11 * ((xs.length - 8) / 11)) = xs.drop 8 := List.take_of_length_le (by rw [List.length_drop]; omega)
  rw [e, List.take_append_drop]
theorem unLeg_back {l : Leg} (h : legFault l = 0) {bs : List Byte} {t : Nat} {rest : List Byte} (hb : bs.drop t = legBy l ++ rest) : unLeg bs t = l := by
  obtain ⟨h1, h2, h3, h4, _⟩ := legFault_zero h
  have hg : ∀ i, bs.getD (t + i) 0 = (legBy l ++ rest).getD i 0 := fun i => by
    rw [← hb]
    simp [List.getD, List.getElem?_drop]
  have hd : (bs.drop (t + 3)).take 8 = hiB l.am 8 := by
    rw [← List.drop_drop, hb]
    unfold legBy plcBy
    simp only [List.cons_append, List.nil_append, List.append_assoc]
    rw [show (3 : Nat) = 2 + 1 from rfl, List.drop_succ_cons, show (2 : Nat) = 1 + 1 from rfl, List.drop_succ_cons, show (1 : Nat) = 0 + 1 from rfl, List.drop_succ_cons, List.drop_zero]
    rw [List.take_append_of_le_length (by rw [length_hiB]; omega)]
    exact List.take_of_length_le (by rw [length_hiB]; omega)
  obtain ⟨sh, ac, ast, am⟩ := l
  dsimp only at *
  unfold unLeg
  rw [hd, wrap_hiN am (by omega) (by omega)]
  have g0 := hg 0
  have g1 := hg 1
  have g2 := hg 2
  rw [Nat.add_zero] at g0
  rw [g0, g1, g2]
  have v0 := toB_val sh
  have v1 := toB_val ac
  have v2 := toB_val ast
  have e0 : ((toB sh).val : Int) = sh := by omega
  have e1 : ((toB ac).val : Int) = ac := by omega
  have e2 : ((toB ast).val : Int) = ast := by omega
  simp [legBy, plcBy, e0, e1, e2]
theorem drop_legs : ∀ (ls : List Leg) (i : Nat), i < ls.length → ∃ rest, (ls.flatMap legBy).drop (11 * i) = legBy (ls.getD i default) ++ rest
  | [], i, h => by simp at h
  | l :: ls, 0, _ => ⟨ls.flatMap legBy, by simp⟩
  | l :: ls, i + 1, h => by
    obtain ⟨rest, hr⟩ := drop_legs ls i (by simpa using h)
    refine ⟨rest, ?_⟩
    rw [List.flatMap_cons, show 11 * (i + 1) = 11 + 11 * i by omega, ← List.drop_drop]
    have e : (legBy l ++ ls.flatMap legBy).drop 11 = ls.flatMap legBy := by
      have := List.drop_left (l₁ := legBy l) (l₂ := ls.flatMap legBy)
      rw [length_legBy] at this
      exact this
    rw [e, hr]
    simp
theorem unCont_contBy {id : Int} {ls : List Leg} (h : contractFault id ls = 0) : unCont (contBy id ls) = ⟨id, ls⟩ := by
  obtain ⟨hid, h2, h8, hok, _⟩ := cf_inv h
  have hid' := (inB_iff _ _ _).1 hid
  unfold unCont
  have hlen := length_contBy id ls
  have e1 : (contBy id ls).take 8 = hiB id 8 := by
    unfold contBy
    rw [List.take_append_of_le_length (by rw [length_hiB]; omega)]
    exact List.take_of_length_le (by rw [length_hiB]; omega)
  rw [e1, wrap_hiN id (by omega) (by omega), hlen, show (8 + ls.length * 11 - 8) / 11 = ls.length by omega]
  congr 1
  have hd : (contBy id ls).drop 8 = ls.flatMap legBy := by
    unfold contBy
    have := List.drop_left (l₁ := hiB id 8) (l₂ := ls.flatMap legBy)
    rw [length_hiB] at this
    exact this
  apply List.ext_getElem?
  intro i
  unfold unLegs
  rw [List.getElem?_map]
  by_cases hi : i < ls.length
  · rw [List.getElem?_range hi]
    obtain ⟨rest, hr⟩ := drop_legs ls i hi
    have e : ls.getD i default = ls[i] := by simp [List.getD, hi]
    have key : unLeg (contBy id ls) (8 + 11 * i) = ls.getD i default := by
      refine unLeg_back (rest := rest) (hok i hi).1 ?_
      rw [← List.drop_drop, hd]
      exact hr
    rw [List.getElem?_eq_getElem hi, ← e, ← key]
    rfl
  · rw [List.getElem?_eq_none (by simpa using hi), List.getElem?_eq_none (by omega)]
    rfl
theorem unpD_packD {c : Cont} (h : contractFault c.id c.legs = 0) : unpD (contBy c.id c.legs) = ⟨0, c⟩ := by
  obtain ⟨_, h2, h8, _⟩ := cf_inv h
  have e := unCont_contBy h
  have hl := length_contBy c.id c.legs
  unfold unpD
  rw [e, if_pos ⟨⟨by omega, by rw [hl]; omega, by omega⟩, h⟩]
theorem packD_unpD {xs : List Byte} (h : (unpD xs).code = 0) : packD (unpD xs).contract = ⟨0, xs⟩ ∧ unpD xs = ⟨0, unCont xs⟩ := by
  unfold unpD at h ⊢
  split at h
  · rename_i hc
    rw [if_pos hc]
    refine ⟨?_, rfl⟩
    unfold packD
    rw [if_pos hc.2, contBy_unCont hc.1.1 hc.1.2.1]
  · cases h
end Go.Proofs.Yteebglgbeijolaa

/-
  The draws of PackNumber and UnpackContract.
-/
namespace Go.Proofs.Yteebglgbeijolaa
open Go.RowKit
set_option linter.unusedSectionVars false
variable [DecidableEq Logg] [Inhabited Logg] [DecidableEq LoggR] [Inhabited LoggR] [DecidableEq BytesR] [Inhabited BytesR] [DecidableEq RecsR] [Inhabited RecsR] [DecidableEq Leg] [Inhabited Leg] [DecidableEq Cont] [Inhabited Cont] [DecidableEq ContR] [Inhabited ContR]
set_option linter.unusedVariables false
set_option linter.unusedSimpArgs false
attribute [local go_sem ↓] Go.wp_at_zero Go.wp_at_succ

set_option maxRecDepth 20000 in
set_option maxHeartbeats 1000000 in
theorem l3Wide_any (B : Nat) (w : World) (bs : Nat) (a : Option Addr) (k cap t : Nat) (h : Src B w bs a k cap t) (ht : t ≤ 90000) :
    Calls Try.prog 61 #[.pointer (some ⟨bs, 0, none⟩)] w fun e w' => ∃ r : Int, e = .returned (.int .i64 r) ∧ -9223372036854775808 ≤ r ∧ r ≤ 9223372036854775807 ∧ Src B w' bs a k cap (t + 3) ∧ Mod (fun b => b = bs) w w' := by
  go_enter Try.func61, Try.ntmps61
  go_wp2_with fail
  refine (l1Next_any B _ bs a k cap t 900 h (by omega) (by omega) (by omega)).mono ?_
  rintro e w1 ⟨n1, rfl, hn1, h1, m1⟩
  go_wp2_with fail
  refine (l1Next_any B _ bs a k cap (t + 1) 900 h1 (by omega) (by omega) (by omega)).mono ?_
  rintro e w2 ⟨n2, rfl, hn2, h2, m2⟩
  have hw2 : IntKind.i64.wrap (-(n2 : Int)) = -(n2 : Int) := wrapI _ (by omega) (by omega)
  have M2 := m1.trans m2
  have hl2 := h2.lt
  clear m1 m2 h1 h
  go_wp2_with fail
  refine (l1Pick_any B _ bs a k cap (t + 1 + 1) w2.heap.size 6 [(n1 : Int), -(n2 : Int), 4611686018427387904, -9223372036854775808, 9223372036854775807, 0] (h2.below (by (repeat (first | exact Below.refl _ _ | assumption | refine Below.drew ?_ | refine balloc ?_ _ | refine bset ?_ (by simp; omega) _ | refine bset ?_ (by simp) _ | refine bstep ?_ (by assumption))))) (by omega) (by omega) (by simp) (by simp) ?_).mono ?_
  · intro i hi
    match i, hi with
    | 0, _ => simp [go_sem]
    | 1, _ => simp [go_sem]
    | 2, _ => simp [go_sem]
    | 3, _ => simp [go_sem]
    | 4, _ => simp [go_sem]
    | 5, _ => simp [go_sem]
  rintro e w3 ⟨r, rfl, hr, h3, m3⟩
  have M3 : Mod (fun b => b = bs) w w3 := (M2.transB (by (repeat (first | exact Below.refl _ _ | assumption | refine Below.drew ?_ | refine balloc ?_ _ | refine bset ?_ (by simp; omega) _ | refine bset ?_ (by simp) _ | refine bstep ?_ (by assumption))))).trans m3
  clear m3
  have hb : -9223372036854775808 ≤ r ∧ r ≤ 9223372036854775807 := by
    simp only [List.mem_cons, List.not_mem_nil, or_false] at hr
    omega
  clear hr hw2
  go_wp2
  go_ret
  exact ⟨r, rfl, hb.1, hb.2, h3, M3⟩
set_option maxRecDepth 20000 in
set_option maxHeartbeats 1000000 in
theorem drawPackN_any (x : Value) (cs : List Byte) (w : World) (hx : BytesV w x cs) (hn : cs.length ≤ 1048576) :
    Calls Try.prog 17 #[x] w fun e w' => ∃ r : Int, e = .returned (.int .i64 r) ∧ -9223372036854775808 ≤ r ∧ r ≤ 9223372036854775807 ∧ Below w.heap.size w w' := by
  have hX := hx
  obtain ⟨ax, cx, rfl, _⟩ := hx
  go_enter Try.func17, Try.ntmps17
  go_wp2_with fail
  refine (l1Source_any _ cs _ (BytesV_below hX (by (repeat (first | exact Below.refl _ _ | assumption | refine Below.drew ?_ | refine balloc ?_ _ | refine bset ?_ (by simp; omega) _ | refine bset ?_ (by simp) _ | refine bstep ?_ (by assumption))))) (by omega)).mono ?_
  rintro e w1 ⟨a, cap, rfl, hs1, hb1⟩
  have z1 := hs1.lt
  go_wp2_with fail
  refine (l3Wide_any w.heap.size w1 w.heap.size a cs.length cap 0 hs1 (by omega)).mono ?_
  rintro e w2 ⟨r, rfl, h0, h1, hs2, m2⟩
  have hB2 : Below w.heap.size w w2 := m2.below hb1 (by omega) (fun b hb => by omega)
  clear m2 hs1 hb1
  go_wp2
  go_ret
  exact ⟨r, rfl, h0, h1, hB2⟩
theorem packD_len (c : Cont) : (packD c).bytes.length ≤ 96 := by
  unfold packD
  split
  · rename_i h
    obtain ⟨_, _, h8, _⟩ := cf_inv h
    have := length_contBy c.id c.legs
    dsimp only
    omega
  · simp
set_option maxRecDepth 20000 in
set_option maxHeartbeats 2000000 in
theorem drawUnpack_any (x : Value) (cs : List Byte) (w : World) (hx : BytesV w x cs) (hn : cs.length ≤ 1048576) :
    Calls Try.prog 19 #[x] w fun e w' => ∃ v xs, e = .returned v ∧ bytesR.V w' v xs ∧ xs.length ≤ 97 ∧ Below w.heap.size w w' := by
  have hX := hx
  obtain ⟨ax, cx, rfl, _⟩ := hx
  go_enter Try.func19, Try.ntmps19
  go_wp2_with fail
  refine (l1Source_any _ cs _ (BytesV_below hX (by (repeat (first | exact Below.refl _ _ | assumption | refine Below.drew ?_ | refine balloc ?_ _ | refine bset ?_ (by simp; omega) _ | refine bset ?_ (by simp) _ | refine bstep ?_ (by assumption))))) (by omega)).mono ?_
  rintro e w1 ⟨a, cap, rfl, hs1, hb1⟩
  have z1 := hs1.lt
  go_wp2_with fail
  refine (l1Bent_any w.heap.size w1 w.heap.size a cs.length cap 0 hs1 (by omega)).mono ?_
  rintro e w2 ⟨id, v2, F2, xs, t2, rfl, o2, hl, hs2, ht2, m2⟩
  have hB2 : Below w.heap.size w w2 := m2.below hb1 (by omega) (fun b hb => by omega)
  have z2 := m2.size
  clear m2 hb1 hs1
  have hV2 : contR.V w2 (.agg #[.int .i64 id, v2]) ⟨id, xs⟩ := ⟨v2, rfl, legsR.ofO o2⟩
  clear o2
  go_wp2_with fail
  refine (specPackC_u _ ⟨id, xs⟩ _ hV2).mono ?_
  rintro e w3 ⟨v3, F3, rfl, o3, hb3⟩
  have hpl := packD_len ⟨id, xs⟩
  generalize packD ⟨id, xs⟩ = D at *
  obtain ⟨u3, G3, rfl, o3', hF3⟩ := o3
  obtain ⟨p, q, rfl⟩ := bytes_form (bytesR.ofO o3')
  have hs3 := hs2.below hb3
  have hB3 : Below w.heap.size w w3 := bstep hB2 hb3
  have z3 := hb3.size
  have HRG : Hid (∀ b, G3 b → w2.heap.size ≤ b ∧ b < w3.heap.size) := fun b hb => bytesR.rng o3' b hb
  clear hb3 hs2 hB2 hV2 hF3
  obtain ⟨code, bs⟩ := D
  dsimp only at *
  obtain ⟨n, hn'⟩ : ∃ n, n = bs.length := ⟨_, rfl⟩
  have HN : Hid (bs.length = n) := hn'.symm
  have HO3 : Hid (bytesR.O w3 w2.heap.size G3 (.slice p n q) bs) := by rw [Hid, hn']; exact o3'
  rw [← hn'] at hpl ⊢
  clear hn' o3'
  have hfd : ∀ w : World, (Instr.field 50 (.agg #[.int .i64 code, .slice p n q]) 1).run Try.prog w = .ok (.slice p n q) w := fun _ => by kernel_rfl
  go_wp2_with fail
  refine (l1Chance_any w.heap.size w3 w.heap.size a cs.length cap t2 3 hs3 (by omega) (by omega) (by omega)).mono ?_
  rintro e w4 ⟨ch, rfl, hs4, m4⟩
  have hB4 : Below w.heap.size w w4 := m4.below hB3 (by omega) (fun b hb => by omega)
  have HO4 : Hid (bytesR.O w4 w2.heap.size G3 (.slice p n q) bs) := bytesR.mod HO3.out m4 (fun b hb e => by have := HRG.out b hb; omega)
  have z4 := m4.size
  clear m4 hB3 hs3 HO3 hfd
  cases ch with
  | false =>
    go_wp2
    go_ret
    exact ⟨_, bs, rfl, bytesR.ofO HO4.out, by rw [HN.out]; omega, hB4⟩
  | true =>
    go_wp2_with fail
    refine (l3Cut_any w.heap.size w4 w.heap.size a cs.length cap (t2 + 1) _ bs hs4 (by omega) (bytesR.ofO HO4.out) (by rw [HN.out]; omega)).mono ?_
    rintro e w5 ⟨v5, F5, ys, t5, rfl, o5, hl5, hs5, ht5, m5⟩
    have hB5 : Below w.heap.size w w5 := m5.below hB4 (by omega) (fun b hb => by omega)
    rw [HN.out] at hl5
    have HV5 : Hid (bytesR.V w5 v5 ys) := bytesR.ofO o5
    clear m5 o5 hB4 hs4 HO4
    obtain ⟨p5, q5, rfl⟩ := bytes_form HV5.out
    go_wp2
    go_ret
    exact ⟨_, ys, rfl, HV5.out, by omega, hB5⟩
end Go.Proofs.Yteebglgbeijolaa

/-
  A contract's bytes: the program's side.
-/
namespace Go.Proofs.Yteebglgbeijolaa
open Go.RowKit
set_option linter.unusedSectionVars false
variable [DecidableEq BytesR] [Inhabited BytesR] [DecidableEq Leg] [Inhabited Leg] [DecidableEq Cont] [Inhabited Cont]
attribute [local go_sem ↓] Go.wp_at_zero Go.wp_at_succ

theorem step_push2 (w0 Y : World) {ops : Array Oper} {o : Oper} {a : Act} {K : Act → World → Prop} {Q : Exit → Act → World → Prop} {E : Prop} (hgd : o.guard = none) (s x : Operand)
    (ho : o.op = .call { callee := .builtin .append, args := #[s, x], argTypes := #[111, 111] })
    (base : Nat) (v : Value) (out : List (List Byte)) (hs : a.eval s = v) (u1 u2 : Value) (g : Nat) (hx : a.eval x = .slice (some ⟨g, 0, none⟩) 2 2) (hp : RowsB w0 base v out) (hbs : base ≤ w0.heap.size) (hb : Below w0.heap.size w0 Y)
    (F1 F2 : Nat → Prop) (d1 d2 : List Byte) (hu1 : bytesR.O Y w0.heap.size F1 u1 d1) (hu2 : bytesR.O Y w0.heap.size F2 u2 d2) (hsep : ∀ b, F1 b → ¬ F2 b)
    (hc1 : Y.cell? ⟨g, 0, none⟩ = some u1) (hc2 : Y.cell? ⟨g, 1, none⟩ = some u2) (hlen : out.length ≤ 1048576)
    (h : ∀ v' w', RowsB w' base v' (out ++ [d1] ++ [d2]) → Y.grownBy w' v.ownBlock → (∀ W : World, Below base W w0 → Below base W w') → K (a.put o.dst v') w') :
    if Region.wanted o (yielded ops a.tmps) = true then Oper.wp Try.prog o a Y K Q else E := by
  obtain ⟨cs, us, fs, hp⟩ := hp
  obtain ⟨i0, hi, hz0, hz1, hz2⟩ := info_parts infoBytess
  obtain ⟨a1, c1, e1⟩ := bytes_form (bytesR.ofO hu1)
  obtain ⟨a2, c2, e2⟩ := bytes_form (bytesR.ofO hu2)
  have hs0 := hb.size
  refine step_append_at Y hgd s x 111 ho base 22 i0 _ 1 24 Try.underlying111 hi hz0 hz1 hz2 rfl (by decide) v out.length cs hs (owns_below hp.row hb) ⟨g, 0, none⟩ 2 2 [u1, u2] hx rfl ?_ ?_ (by unfold maxLen; omega) (by omega) (by omega) ?_
  · intro j x hj
    match j, hj with
    | 0, hj => simp at hj; subst hj; simpa [Addr.add] using hc1
    | 1, hj => simp at hj; subst hj; simpa [Addr.add] using hc2
    | j + 2, hj => simp at hj
  · intro x hx
    simp only [List.mem_cons, List.not_mem_nil, or_false] at hx
    rcases hx with rfl | rfl
    · rw [e1]; rfl
    · rw [e2]; rfl
  · intro v' w' h1 h2 h3
    refine h v' w' ?_ h2 (fun W hW => (hW.trans (hb.mono hbs)).grown h2 (by omega) (fun k hk => ((owns_below hp.row hb).lt k hk).1))
    have hg1 : (out ++ [d1] ++ [d2]).getD out.length default = d1 := by simp [List.getD]
    have hg2 : (out ++ [d1] ++ [d2]).getD (out.length + 1) default = d2 := by simp [List.getD]
    have hF1 : ∀ b, F1 b → w0.heap.size ≤ b ∧ b < Y.heap.size := fun b hb => bytesR.rng hu1 b hb
    have hF2 : ∀ b, F2 b → w0.heap.size ≤ b ∧ b < Y.heap.size := fun b hb => bytesR.rng hu2 b hb
    have hlt : ∀ b, v.ownBlock = some b → b < w0.heap.size := fun b hb => (hp.row.lt b hb).2
    have hfs : ∀ i, i < out.length → ∀ b, fs i b → b < w0.heap.size := fun i hi b hb => (bytesR.rng (hp.el i hi) b hb).2
    have hnew : ∀ b, v'.ownBlock = some b → (v.ownBlock = some b ∨ Y.heap.size ≤ b) := fun b hb => by
      rcases h3 with h3 | h3
      · left; rw [← h3]; exact hb
      · right; rw [h3] at hb; simp only [Option.some.injEq] at hb; omega
    have hlen2 : (out ++ [d1] ++ [d2]).length = out.length + 2 := by simp
    refine ⟨cs ++ [u1, u2], upd (upd us out.length u1) (out.length + 1) u2, upd (upd fs out.length F1) (out.length + 1) F2, ?_, ?_, ?_, ?_, ?_, ?_⟩
    · rw [hlen2]; exact h1
    · intro i hi
      rw [hlen2] at hi
      by_cases h2' : i = out.length + 1
      · subst h2'
        rw [upd_at, upd_at, hg2]
        exact bytesR.base (bytesR.mod hu2 (Mod.of_grown h2) (fun b hb he => by have := hlt b he; have := (hF2 b hb).1; omega)) hbs
      · rw [upd_ne _ _ h2', upd_ne _ _ h2']
        by_cases h1' : i = out.length
        · subst h1'
          rw [upd_at, upd_at, hg1]
          exact bytesR.base (bytesR.mod hu1 (Mod.of_grown h2) (fun b hb he => by have := hlt b he; have := (hF1 b hb).1; omega)) hbs
        · rw [upd_ne _ _ h1', upd_ne _ _ h1']
          have e : (out ++ [d1] ++ [d2]).getD i default = out.getD i default := by
            rw [List.append_assoc]
            simp [List.getD, List.getElem?_append_left (show i < out.length by omega)]
          rw [e]
          exact bytesR.mod (bytesR.keep (hp.el i (by omega)) hb) (Mod.of_grown h2) (fun b hb => hp.out i (by omega) b hb)
    · intro i hi; rfl
    · intro i hi j hj
      rw [hlen2] at hi
      have hcl : cs.length = out.length * 1 := hp.row.1
      have e0 : j = 0 := by omega
      subst e0
      by_cases h2' : i = out.length + 1
      · subst h2'
        rw [upd_at, List.getElem?_append_right (by omega), hcl, show (out.length + 1) * 1 + 0 - out.length * 1 = 1 by omega]
        rfl
      · rw [upd_ne _ _ h2']
        by_cases h1' : i = out.length
        · subst h1'
          rw [upd_at, List.getElem?_append_right (by omega), hcl, show out.length * 1 + 0 - out.length * 1 = 0 by omega]
          rfl
        · rw [upd_ne _ _ h1', List.getElem?_append_left (by omega)]
          exact hp.cell i (by omega) 0 (by omega)
    · intro i hi b hb he
      rw [hlen2] at hi
      have hn := hnew b he
      by_cases h2' : i = out.length + 1
      · subst h2'
        rw [upd_at] at hb
        have := hF2 b hb
        rcases hn with hn | hn
        · have := hlt b hn; omega
        · omega
      · rw [upd_ne _ _ h2'] at hb
        by_cases h1' : i = out.length
        · subst h1'
          rw [upd_at] at hb
          have := hF1 b hb
          rcases hn with hn | hn
          · have := hlt b hn; omega
          · omega
        · rw [upd_ne _ _ h1'] at hb
          rcases hn with hn | hn
          · exact hp.out i (by omega) b hb hn
          · have := hfs i (by omega) b hb; omega
    · intro i j hi hj hij b p q
      rw [hlen2] at hi hj
      have cls : ∀ m, m < out.length + 2 → ∀ b, upd (upd fs out.length F1) (out.length + 1) F2 m b → (m = out.length + 1 ∧ F2 b) ∨ (m = out.length ∧ F1 b) ∨ (m < out.length ∧ fs m b) := by
        intro m hm b hb
        by_cases h2' : m = out.length + 1
        · subst h2'; rw [upd_at] at hb; exact .inl ⟨rfl, hb⟩
        · rw [upd_ne _ _ h2'] at hb
          by_cases h1' : m = out.length
          · subst h1'; rw [upd_at] at hb; exact .inr (.inl ⟨rfl, hb⟩)
          · rw [upd_ne _ _ h1'] at hb; exact .inr (.inr ⟨by omega, hb⟩)
      rcases cls i hi b p with ⟨e1, p⟩ | ⟨e1, p⟩ | ⟨e1, p⟩ <;> rcases cls j hj b q with ⟨e2, q⟩ | ⟨e2, q⟩ | ⟨e2, q⟩
      · omega
      · exact hsep b q p
      · have := (hF2 b p).1; have := hfs j e2 b q; omega
      · exact hsep b p q
      · omega
      · have := (hF1 b p).1; have := hfs j e2 b q; omega
      · have := (hF2 b q).1; have := hfs i e1 b p; omega
      · have := (hF1 b q).1; have := hfs i e1 b p; omega
      · exact hp.sep i j e1 e2 hij b p q
theorem rowsB_lit1 {Y : World} {base : Nat} {F : Nat → Prop} {u : Value} {d : List Byte} (hu : bytesR.O Y base F u d) (hb : base ≤ Y.heap.size) :
    RowsB (Y.alloc (.cells #[u] 22)) base (.slice (some ⟨Y.heap.size, 0, none⟩) 1 1) [d] := by
  refine ⟨[u], fun _ => u, fun _ => F, World.ownsRow_lit (base := base) (e := 22) (size := 1) Y #[u] 1 hb (by unfold maxLen; omega) rfl, ?_, fun i hi => rfl, ?_, ?_, ?_⟩
  · intro i hi
    have e : i = 0 := by have h1 : i < 1 := hi; omega
    subst e
    exact bytesR.alloc hu _
  · intro i hi j hj
    have e : i = 0 := by have h1 : i < 1 := hi; omega
    have e2 : j = 0 := by omega
    subst e e2
    rfl
  · intro i hi b hb he
    have h2 := (bytesR.rng hu b hb).2
    have h3 : Y.heap.size = b := by injection he
    omega
  · intro i j hi hj hij
    have h1 : i < 1 := hi
    have h2 : j < 1 := hj
    omega
def partsBy (id : Int) (xs : List Leg) : List (List Byte) := [hiB id 8] ++ xs.flatMap (fun l => [plcBy l, hiB l.am 8])
theorem partsBy_flat (id : Int) (xs : List Leg) : (partsBy id xs).flatten = contBy id xs := by
  have h2 : (xs.flatMap (fun l => [plcBy l, hiB l.am 8])).flatten = xs.flatMap legBy := by
    induction xs with
    | nil => rfl
    | cons x r ih => rw [List.flatMap_cons, List.flatMap_cons, List.flatten_append, ih]; simp [legBy]
  unfold partsBy contBy
  rw [List.flatten_append, h2]
  simp
theorem partsBy_take (id : Int) (xs : List Leg) (k : Nat) (h : k < xs.length) : partsBy id (xs.take (k + 1)) = partsBy id (xs.take k) ++ [plcBy (xs.getD k default)] ++ [hiB (xs.getD k default).am 8] := by
  have e : xs.take (k + 1) = xs.take k ++ [xs.getD k default] := by
    rw [List.take_add_one]
    congr 1
    simp [List.getD, h]
  rw [e]
  simp [partsBy]
theorem partsBy_len (id : Int) (xs : List Leg) : (partsBy id xs).length = 1 + xs.length * 2 := by
  unfold partsBy
  rw [List.length_append]
  congr 1
  induction xs with
  | nil => rfl
  | cons x r ih => rw [List.flatMap_cons, List.length_append, ih, List.length_cons]; simp only [List.length_cons, List.length_nil]; omega
set_option maxRecDepth 20000 in
set_option maxHeartbeats 4000000 in
theorem implPackC_u (x : Value) (c : Cont) (w : World) (hx : contR.V w x c) :
    Calls Try.prog 22 #[x] w fun e w' => ∃ v F, e = .returned v ∧ bytesRR.O w' w.heap.size F v (packD c) ∧ Below w.heap.size w w' := by
  obtain ⟨u, rfl, hu⟩ := hx
  obtain ⟨id, xs⟩ := c
  dsimp only at hu ⊢
  have hU := hu
  obtain ⟨ax, cx, rfl, hcx, hmx, hx⟩ := hu
  unfold maxLen at hmx
  go_enter Try.func22, Try.ntmps22
  go_wp2_with fail
  refine (implFault_any id _ xs _ (LegsV_below hU (by (repeat (first | exact Below.refl _ _ | assumption | refine Below.drew ?_ | refine balloc ?_ _ | refine bset ?_ (by simp; omega) _ | refine bset ?_ (by simp) _ | refine bstep ?_ (by assumption)))))).mono ?_
  rintro e w1 ⟨rfl, hb1⟩
  have hB1 : Below w.heap.size w w1 := by (repeat (first | exact Below.refl _ _ | assumption | refine Below.drew ?_ | refine balloc ?_ _ | refine bset ?_ (by simp; omega) _ | refine bset ?_ (by simp) _ | refine bstep ?_ (by assumption)))
  have hc0 : w1.cell? ⟨w.heap.size, 0, none⟩ = some (.int .i64 id) := cell_keep hb1 (by simp [go_sem])
  have hc1 : w1.cell? ⟨w.heap.size, 1, none⟩ = some (.slice ax xs.length cx) := cell_keep hb1 (by simp [go_sem])
  have hr0 : w1.cell? ⟨w.heap.size + 1, 0, none⟩ = some (.int .i64 0) := cell_keep hb1 (by simp [go_sem])
  have hr1 : w1.cell? ⟨w.heap.size + 1, 1, none⟩ = some (.slice none 0 0) := cell_keep hb1 (by simp [go_sem])
  have hrf : (∀ o, w1.frozen? ⟨w.heap.size + 1, o, none⟩ = false) ∧ w.heap.size + 1 < w1.heap.size := (boxNew2 hb1 (by simp)).2.2
  clear hb1
  by_cases hcf : contractFault id xs = 0
  · have HD : Hid (packD ⟨id, xs⟩ = ⟨0, contBy id xs⟩) := if_pos hcf
    have HC : Hid (contractFault id xs = 0) := hcf
    rw [hcf]
    clear hcf
    obtain ⟨_, hl2, hl8, _⟩ := cf_inv HC.out
    have hlt1 := hrf.2
    go_wp2_with fail
    refine (implPack_u id _).mono ?_
    rintro e w2 ⟨v2, F2, rfl, o2, hb2⟩
    obtain ⟨p, q, rfl⟩ := bytes_form (bytesR.ofO o2)
    have hB2 := bstep hB1 hb2
    replace hr0 := cell_keep hb2 hr0
    replace hr1 := cell_keep hb2 hr1
    replace hc1 := cell_keep hb2 hc1
    replace hrf := boxKeep hrf hb2
    have hs2 := hb2.size
    have hR0 := rowsB_lit1 (bytesR.base (base' := w.heap.size + 2) o2 (by omega)) (by omega)
    have z1 : w.heap.size < w2.heap.size := by omega
    have hT := partsBy_take id xs
    have HF : Hid ((partsBy id (xs.take xs.length)).flatten = contBy id xs) := by unfold Hid; rw [List.take_length, partsBy_flat]
    have HL : Hid (∀ k, k ≤ xs.length → (partsBy id (xs.take k)).length ≤ 17) := fun k hk => by rw [partsBy_len, List.length_take]; omega
    have HFL : Hid ((partsBy id (xs.take xs.length)).flatten.length ≤ 1073741824) := by unfold Hid; rw [List.take_length, partsBy_flat, length_contBy]; omega
    have HR0 : Hid (RowsB (w2.alloc (.cells #[.slice p (hiB id 8).length q] 22)) (w.heap.size + 2) (.slice (some ⟨w2.heap.size, 0, none⟩) 1 1) (partsBy id (xs.take 0))) := hR0
    generalize hn' : xs.length = n at *
    have HT : Hid (∀ k, k < n → partsBy id (xs.take (k + 1)) = partsBy id (xs.take k) ++ [plcBy (xs.getD k default)] ++ [hiB (xs.getD k default).am 8]) := hT
    clear hn' hT hR0 o2 hb2 hB1
    go_wp2
    go_loopw [4, 20] (fun v i w' => ∃ k : Nat, k ≤ n ∧ i = .int .i64 k ∧ RowsB w' (w.heap.size + 2) v (partsBy id (xs.take k)) ∧ (w'.cell? ⟨w.heap.size + 1, 0, none⟩ = some (.int .i64 0) ∧ w'.cell? ⟨w.heap.size + 1, 1, none⟩ = some (.slice none 0 0)) ∧ ((∀ o, w'.frozen? ⟨w.heap.size + 1, o, none⟩ = false) ∧ w.heap.size + 1 < w'.heap.size) ∧ Below w.heap.size w w') (fun _ i _ => n - (intOf i).toNat)
    case atStart => exact ⟨0, Nat.zero_le _, rfl, HR0.out, ⟨cell_keep (by (repeat (first | exact Below.refl _ _ | assumption | refine Below.drew ?_ | refine balloc ?_ _ | refine bset ?_ (by simp; omega) _ | refine bset ?_ (by simp) _ | refine bstep ?_ (by assumption)))) hr0, cell_keep (by (repeat (first | exact Below.refl _ _ | assumption | refine Below.drew ?_ | refine balloc ?_ _ | refine bset ?_ (by simp; omega) _ | refine bset ?_ (by simp) _ | refine bstep ?_ (by assumption)))) hr1⟩, boxKeep hrf (by (repeat (first | exact Below.refl _ _ | assumption | refine Below.drew ?_ | refine balloc ?_ _ | refine bset ?_ (by simp; omega) _ | refine bset ?_ (by simp) _ | refine bstep ?_ (by assumption)))), by (repeat (first | exact Below.refl _ _ | assumption | refine Below.drew ?_ | refine balloc ?_ _ | refine bset ?_ (by simp; omega) _ | refine bset ?_ (by simp) _ | refine bstep ?_ (by assumption)))⟩
    case round =>
      clear hr0 hr1 hrf hB2 HR0 hc1 hc0 hs2 z1 hlt1
      obtain ⟨k, hk, rfl, hro, ⟨hr0, hr1⟩, hrf, hbl⟩ := hrel
      obtain ⟨av, cv, rfl⟩ := rowsB_form hro
      by_cases hlt : k < n
      · obtain ⟨bx, ox, rfl, g1⟩ := hx k hlt
        have e1 := HT.out k hlt
        have hlen := HL.out k (by omega)
        obtain ⟨l, hl⟩ : ∃ l, l = xs.getD k default := ⟨_, rfl⟩
        rw [← hl] at g1 e1
        clear hl hx
        obtain ⟨a1, a2, a3, a4⟩ := legCells_below hbl g1
        have HE : Hid (partsBy id (xs.take (k + 1)) = partsBy id (xs.take k) ++ [plcBy l] ++ [hiB l.am 8]) := e1
        generalize partsBy id (xs.take k) = out at *
        clear e1 g1
        have hbs : w.heap.size + 2 ≤ wr.heap.size := hrf.2
        have hol : out.length ≤ 1048576 := by omega
        have hle : w.heap.size ≤ w.heap.size + 2 := by omega
        have hne : some wr.heap.size ≠ (Value.slice av out.length cv).ownBlock := own_not (rowsB_own hro) (.inr (Nat.le_refl _))
        have hbW : Below wr.heap.size wr (wr.alloc (.cells #[.int .i64 l.sh, .int .i64 l.ac, .int .i64 l.ast, .int .i64 l.am] 97)) := balloc (Below.refl _ _) _
        have hzW : wr.heap.size < (wr.alloc (.cells #[.int .i64 l.sh, .int .i64 l.ac, .int .i64 l.ast, .int .i64 l.am] 97)).heap.size := by simp
        have h0 : Below w.heap.size w (wr.alloc (.cells #[.int .i64 l.sh, .int .i64 l.ac, .int .i64 l.ast, .int .i64 l.am] 97)) ∧ (wr.alloc (.cells #[.int .i64 l.sh, .int .i64 l.ac, .int .i64 l.ast, .int .i64 l.am] 97)).cell? ⟨wr.heap.size, 0, none⟩ = some (.int .i64 l.sh) ∧ (wr.alloc (.cells #[.int .i64 l.sh, .int .i64 l.ac, .int .i64 l.ast, .int .i64 l.am] 97)).cell? ⟨wr.heap.size, 1, none⟩ = some (.int .i64 l.ac) ∧ (wr.alloc (.cells #[.int .i64 l.sh, .int .i64 l.ac, .int .i64 l.ast, .int .i64 l.am] 97)).cell? ⟨wr.heap.size, 2, none⟩ = some (.int .i64 l.ast) ∧ (wr.alloc (.cells #[.int .i64 l.sh, .int .i64 l.ac, .int .i64 l.ast, .int .i64 l.am] 97)).cell? ⟨wr.heap.size, 3, none⟩ = some (.int .i64 l.am) :=
          ⟨by (repeat (first | exact Below.refl _ _ | assumption | refine Below.drew ?_ | refine balloc ?_ _ | refine bset ?_ (by simp; omega) _ | refine bset ?_ (by simp) _ | refine bstep ?_ (by assumption))), by simp [go_sem], by simp [go_sem], by simp [go_sem], by simp [go_sem]⟩
        go_wp2
        generalize hW : wr.alloc (.cells #[.int .i64 l.sh, .int .i64 l.ac, .int .i64 l.ast, .int .i64 l.am] 97) = W at *
        clear hW a1 a2 a3 a4
        go_region_held3 (fun w' => Below w.heap.size w w' ∧ w'.cell? ⟨wr.heap.size, 0, none⟩ = some (.int .i64 l.sh) ∧ w'.cell? ⟨wr.heap.size, 1, none⟩ = some (.int .i64 l.ac) ∧ w'.cell? ⟨wr.heap.size, 2, none⟩ = some (.int .i64 l.ast) ∧ w'.cell? ⟨wr.heap.size, 3, none⟩ = some (.int .i64 l.am))
          ((first | assumption | exact keepS4 h0 (Below.drew (Below.refl _ _)) | exact keepS4 (keepS4 h0 (Below.drew (Below.refl _ _))) (balloc (Below.refl _ _) _) | exact keepS4 hS4 (balloc (Below.refl _ _) _)))
          (first | (go_at_call 69; refine (singles_any _ [l.sh, l.ac, l.ast] _ (nums3 (g := W.heap.size) ?_ ?_ ?_) ?_).mono ?_; (focus (simp [go_sem])); (focus (simp [go_sem])); (focus (simp [go_sem])); (focus (simp)); rintro e w3 ⟨v3, F3, rfl, o3, hb3⟩; have kk := bytes_form (bytesR.ofO o3); obtain ⟨p3, q3, rfl⟩ := kk; have hS3 := keepS4 (keepS4 (keepS4 h0 (Below.drew (Below.refl _ _))) (balloc (Below.refl _ _) _)) hb3) | (go_at_call 18; refine (implPack_u l.am _).mono ?_; rintro e w4 ⟨v4, F4, rfl, o4, hb4⟩; have kk := bytes_form (bytesR.ofO o4); obtain ⟨p4, q4, rfl⟩ := kk; have hS4 := keepS4 hS3 hb4; have hbY0 := bstep (bstep (balloc (Below.drew hbW) _) hb3) hb4; have hz3 := Nat.le_trans hbW.size (Nat.le_trans (balloc (Below.drew (Below.refl W.heap.size W)) (.cells #[.int .i64 l.sh, .int .i64 l.ac, .int .i64 l.ast] 2)).size (Nat.le_refl _)); have hz4 := Nat.le_trans hz3 hb3.size; have hsep : ∀ b, F3 b → ¬ F4 b := fun b p q => absurd (bytesR.rng o3 b p).2 (Nat.not_lt_of_ge (bytesR.rng o4 b q).1)) | (refine step_push2 wr _ rfl _ _ rfl (w.heap.size + 2) _ out rfl _ _ w4.heap.size rfl hro hbs (balloc hbY0 _) F3 F4 (plcBy l) (hiB l.am 8) (bytesR.base (bytesR.alloc (bytesR.keep o3 hb4) _) hz3) (bytesR.base (bytesR.alloc o4 _) hz4) hsep ?_ ?_ hol ?_; (focus (simp [go_sem])); (focus (simp [go_sem])); intro v5 w5 hR5 hg5 hB5; have hb5 := hbl.trans ((hB5 wr (Below.refl _ _)).mono hle); have hS5 := And.intro hb5 (And.intro (hg5.cell (cell_keep (balloc (Below.refl _ _) _) hS4.2.1) hne) (And.intro (hg5.cell (cell_keep (balloc (Below.refl _ _) _) hS4.2.2.1) hne) (And.intro (hg5.cell (cell_keep (balloc (Below.refl _ _) _) hS4.2.2.2.1) hne) (hg5.cell (cell_keep (balloc (Below.refl _ _) _) hS4.2.2.2.2) hne))))))
        have hw5 := hB5 wr (Below.refl _ _)
        replace hr0 := (hw5.cell (p := ⟨w.heap.size + 1, 0, none⟩) (by simp)).trans hr0
        replace hr1 := (hw5.cell (p := ⟨w.heap.size + 1, 1, none⟩) (by simp)).trans hr1
        have hrg : (∀ o, w5.frozen? ⟨w.heap.size + 1, o, none⟩ = false) ∧ w.heap.size + 1 < w5.heap.size := ⟨fun o => (hw5.frozen (p := ⟨w.heap.size + 1, o, none⟩) (by simp)).trans (hrf.1 o), Nat.lt_of_lt_of_le hrf.2 hw5.size⟩
        have HR5 : Hid (RowsB w5 (w.heap.size + 2) v5 (out ++ [plcBy l] ++ [hiB l.am 8])) := hR5
        have HB5 : Hid (Below w.heap.size w w5) := hb5
        clear hw5 hR5 hg5 hB5 hS5 hS4 hS3 o3 o4 hb3 hb4 hbY0 h0 hro hrf hbW hbl hb5 hsep hz3 hz4 hzW hne
        go_wp2
        refine ⟨⟨k + 1, by omega, by go_num, ?_, ⟨hr0, hr1⟩, hrg, HB5.out⟩, by simp [intOf]; omega⟩
        rw [HE.out]
        exact HR5.out
      · have hkn : k = n := by omega
        subst hkn
        have hbs : w.heap.size + 2 ≤ wr.heap.size := hrf.2
        obtain ⟨F, hO⟩ := rowsB_O hro
        go_wp2_with fail
        refine (joined_any _ _ _ (bytessR.ofO hO) HFL.out).mono ?_
        rintro e w6 ⟨v6, F6, rfl, o6, hb6⟩
        replace hr0 := cell_keep hb6 hr0
        replace hr1 := cell_keep hb6 hr1
        obtain ⟨hrf6, hlt6⟩ := boxKeep hrf hb6
        have hB6 := bstep hbl hb6
        have o6' := bytesR.base (base' := w.heap.size + 2) o6 hbs
        rw [HF.out] at o6'
        obtain ⟨p6, q6, rfl⟩ := bytes_form (bytesR.ofO o6')
        clear o6 hb6 hO hro hbl hrf
        generalize contBy id xs = D at *
        go_wp2
        refine bodyPost_ret (v := .agg #[.int .i64 0, .slice p6 D.length q6]) ?_ rfl ⟨_, F6, rfl, ?_, by (repeat (first | exact Below.refl _ _ | assumption | refine Below.drew ?_ | refine balloc ?_ _ | refine bset ?_ (by simp; omega) _ | refine bset ?_ (by simp) _ | refine bstep ?_ (by assumption)))⟩
        · simp [results, Try.results22, go_sem, hr0, hr1]
        · rw [HD.out]
          exact ⟨_, F6, rfl, bytesR.base (base := w.heap.size + 2) (bytesR.set (bytesR.set o6' _ (by simp)) _ (by simp)) (by omega), fun b => Iff.rfl⟩
  · have hd : (contractFault id xs == 0) = false := by simpa using hcf
    have HD : Hid (packD ⟨id, xs⟩ = ⟨contractFault id xs, []⟩) := if_neg hcf
    obtain ⟨hrf, hlt⟩ := hrf
    go_wp2
    refine bodyPost_ret (v := .agg #[.int .i64 (contractFault id xs), .slice none 0 0]) ?_ rfl ?_
    · simp [results, Try.results22, go_sem, hr0, hr1]
    · rw [HD.out]
      first | exact ⟨_, none_, rfl, bytesR_none _ _ _, by (repeat (first | exact Below.refl _ _ | assumption | refine Below.drew ?_ | refine balloc ?_ _ | refine bset ?_ (by simp; omega) _ | refine bset ?_ (by simp) _ | refine bstep ?_ (by assumption)))⟩ | exact ⟨_, rfl, ⟨none_, bytesR_none _ _ _⟩, by (repeat (first | exact Below.refl _ _ | assumption | refine Below.drew ?_ | refine balloc ?_ _ | refine bset ?_ (by simp; omega) _ | refine bset ?_ (by simp) _ | refine bstep ?_ (by assumption)))⟩
end Go.Proofs.Yteebglgbeijolaa


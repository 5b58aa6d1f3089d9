/-
  A contract's bytes: the specification's side.
-/
import Derived.Test.YthikaieobdhckaaJoin
import Derived.Test.YthikaieobdhckaaSBytesR
import Derived.Test.YthikaieobdhckaaSumOf
import Derived.Test.YthikaieobdhckaaSCont
import Derived.Test.YthikaieobdhckaaKeeps
namespace Go.Proofs.Ythikaieobdhckaa
open Go.RowKit
set_option linter.unusedSectionVars false
variable [DecidableEq BytesR] [Inhabited BytesR] [DecidableEq Leg] [Inhabited Leg] [DecidableEq Cont] [Inhabited Cont]
attribute [local go_sem ↓] Go.wp_at_zero Go.wp_at_succ

def plcBy (l : Leg) : List Byte := [toB l.sh, toB l.ac, toB l.ast]
def legBy (l : Leg) : List Byte := plcBy l ++ hiB l.am 8
def contBy (id : Int) (xs : List Leg) : List Byte := hiB id 8 ++ xs.flatMap legBy
theorem length_legBy (l : Leg) : (legBy l).length = 11 := by simp [legBy, plcBy, length_hiB]
theorem flat_legBy (xs : List Leg) : (xs.flatMap legBy).length = xs.length * 11 := by
  induction xs with
  | nil => rfl
  | cons x r ih => rw [List.flatMap_cons, List.length_append, length_legBy, ih, List.length_cons]; omega
theorem length_contBy (id : Int) (xs : List Leg) : (contBy id xs).length = 8 + xs.length * 11 := by rw [contBy, List.length_append, length_hiB, flat_legBy]
theorem contBy_take (id : Int) (xs : List Leg) (k : Nat) (h : k < xs.length) : contBy id (xs.take (k + 1)) = contBy id (xs.take k) ++ plcBy (xs.getD k default) ++ hiB (xs.getD k default).am 8 := by
  have e : xs.take (k + 1) = xs.take k ++ [xs.getD k default] := by
    rw [List.take_add_one]
    congr 1
    simp [List.getD, h]
  rw [e]
  simp only [contBy, legBy, List.flatMap_append, List.flatMap_cons, List.flatMap_nil, List.append_assoc, List.append_nil]

set_option maxHeartbeats 2000000 in
theorem l3Contract_any (id : Int) (x : Value) (xs : List Leg) (w : World) (hx : LegsV w x xs) (hn : xs.length ≤ 8) :
    Calls Try.prog 50 #[.agg #[.int .i64 id, x]] w fun e w' => ∃ v F, e = .returned v ∧ bytesR.O w' w.heap.size F v (contBy id xs) ∧ Below w.heap.size w w' := by
  obtain ⟨ax, cx, rfl, hcx, hmx, hx⟩ := hx
  unfold maxLen at hmx
  have hT := contBy_take id xs
  have HA : Hid (xs.take xs.length = xs) := List.take_length
  have HL : Hid (∀ k, k ≤ xs.length → (contBy id (xs.take k)).length = 8 + k * 11) := fun k hk => by rw [length_contBy, List.length_take]; congr 2; omega
  have H0 : Hid (contBy id (xs.take 0) = hiB id 8) := by simp [Hid, contBy]
  have H8 : Hid ((hiB id 8).length = 8) := length_hiB _ _
  generalize hn' : xs.length = n at *
  have HT : Hid (∀ k, k < n → contBy id (xs.take (k + 1)) = contBy id (xs.take k) ++ plcBy (xs.getD k default) ++ hiB (xs.getD k default).am 8) := hT
  clear hn' hT
  go_enter Try.func50, Try.ntmps50
  go_wp2_with fail
  refine (specPack_any id _).mono ?_
  rintro e w1 ⟨v0, rfl, o0, hb1⟩
  have hc1 : w1.cell? ⟨w.heap.size, 1, none⟩ = some (.slice ax n cx) := cell_keep hb1 (by simp [go_sem])
  have hB1 : Below w.heap.size w w1 := by (repeat (first | exact Below.refl _ _ | assumption | refine Below.drew ?_ | refine balloc ?_ _ | refine bset ?_ (by simp; omega) _ | refine bset ?_ (by simp) _ | refine bstep ?_ (by assumption)))
  rw [World.size_alloc] at o0
  rw [← H0.out] at o0
  have e8 : (contBy id (xs.take 0)).length = 8 := by rw [HL.out 0 (by omega)]
  rw [show (8 : Nat) = (contBy id (xs.take 0)).length from e8.symm] at o0
  have HO0 : Hid (World.ownsRow w1 (w.heap.size + 1) 5 1 v0 (contBy id (xs.take 0)).length (bytesC (contBy id (xs.take 0)))) := o0
  clear o0 hb1 e8
  go_wp2
  go_loopw [3, 4] (fun v i w' => ∃ k : Nat, k ≤ n ∧ i = .int .i64 k ∧ w'.ownsRow (w.heap.size + 1) 5 1 v (contBy id (xs.take k)).length (bytesC (contBy id (xs.take k))) ∧ w'.cell? ⟨w.heap.size, 1, none⟩ = some (.slice ax n cx) ∧ Below w.heap.size w w') (fun _ i _ => n - (intOf i).toNat)
  case atStart => exact ⟨0, Nat.zero_le _, rfl, HO0.out, hc1, hB1⟩
  case round =>
    clear hc1 hB1 HO0
    obtain ⟨k, hk, rfl, ho, hbx, hbl⟩ := hrel
    have hz : w.heap.size + 1 ≤ wr.heap.size := World.block_lt_of_cell? _ _ hbx
    by_cases hlt : k < n
    · obtain ⟨bx, ox, rfl, g1⟩ := hx k hlt
      have e1 := HT.out k hlt
      have hlen : (contBy id (xs.take k)).length ≤ 96 := by rw [HL.out k (by omega)]; omega
      obtain ⟨l, hl⟩ : ∃ l, l = xs.getD k default := ⟨_, rfl⟩
      rw [← hl] at g1 e1
      clear hl hx
      obtain ⟨a1, a2, a3, a4⟩ := legCells_below hbl g1
      have HE : Hid (contBy id (xs.take (k + 1)) = contBy id (xs.take k) ++ plcBy l ++ hiB l.am 8) := e1
      generalize contBy id (xs.take k) = ys at *
      obtain ⟨q0, hq0⟩ : ∃ q, IntKind.u8.wrap l.sh = q := ⟨_, rfl⟩
      obtain ⟨q1, hq1⟩ : ∃ q, IntKind.u8.wrap l.ac = q := ⟨_, rfl⟩
      obtain ⟨q2, hq2⟩ : ∃ q, IntKind.u8.wrap l.ast = q := ⟨_, rfl⟩
      have HQ : Hid (q0 = ((toB l.sh).val : Int) ∧ q1 = ((toB l.ac).val : Int) ∧ q2 = ((toB l.ast).val : Int)) := ⟨by rw [← hq0, wrapB], by rw [← hq1, wrapB], by rw [← hq2, wrapB]⟩
      have hbk : n ≤ cx := hcx
      clear e1 g1
      go_wp2_with (at_builtin; refine wpList_appB _ rfl _ _ rfl (w.heap.size + 1) _ ys rfl _ (plcBy l) rfl ((ho.alloc _).alloc _) ?c1 ?c2 ?c3 ?_)
      case c1 => exact appAny_three (g := wr.heap.size + 1) (q0 := q0) (q1 := q1) (q2 := q2) (by simp [go_sem]) (by simp [go_sem]) (by simp [go_sem]) HQ.out.1 HQ.out.2.1 HQ.out.2.2
      case c2 => simp only [plcBy, List.length_cons, List.length_nil]; omega
      case c3 => simp; omega
      · intro v1 w1 o1 hg hB
        have hb1 := hB wr ((balloc (balloc (Below.refl wr.heap.size wr) _) _).mono hz)
        have hB1 : Below w.heap.size w w1 := hbl.trans (hb1.mono (by omega))
        have c3 := hg.cell (a := ⟨wr.heap.size, 3, none⟩) (v := .int .i64 l.am) (by simp [go_sem]) (own_not (own_of ho) (.inr (Nat.le_refl _)))
        have hbx1 := hg.cell (cell_keep (balloc (balloc (Below.refl _ _) _) _) hbx) (own_not (own_of ho) (.inl (by dsimp only; omega)))
        have o1' : World.ownsRow w1 (w.heap.size + 1) 5 1 v1 (ys ++ plcBy l).length (bytesC (ys ++ plcBy l)) := by simpa using o1
        clear hB hg o1 hb1 ho hbx a1 a2 a3 a4 hq0 hq1 hq2
        have hl2 : (ys ++ plcBy l).length ≤ 200 := by simp only [plcBy, List.length_append, List.length_cons, List.length_nil]; omega
        generalize ys ++ plcBy l = zs at *
        obtain ⟨p1, r1, rfl⟩ := owns_form o1'
        have hz1 : wr.heap.size < w1.heap.size := World.block_lt_of_cell? _ _ c3
        go_wp2_with fail
        refine (specPack_any l.am _).mono ?_
        rintro e w2 ⟨v2, rfl, o2, hb2⟩
        have o3 := owns_below o1' hb2
        have hbx2 := cell_keep hb2 hbx1
        have hB2 := bstep hB1 hb2
        have hs2 := hb2.size
        have V2 : BytesV w2 v2 (hiB l.am 8) := BytesV_of_owns (by rw [length_hiB]; exact o2)
        have t2 := appAny_bytes V2
        have l2 : zs.length + (hiB l.am 8).length ≤ 1073741824 := by rw [length_hiB]; omega
        obtain ⟨p2, r2, rfl⟩ := owns_form o2
        generalize hiB l.am 8 = ds at *
        have hz2 : w.heap.size + 1 ≤ w2.heap.size := by omega
        clear o1' o2 hb2 hbx1 hB1 c3 V2
        go_wp2_with (at_builtin; refine wpList_appB _ rfl _ _ rfl (w.heap.size + 1) _ zs rfl _ ds rfl o3 t2 l2 hz2 ?_)
        intro v4 w4 o4 hg hB
        have hbx4 := hg.cell hbx2 (own_not (own_of o3) (.inl (by dsimp only; omega)))
        have hB4 : Below w.heap.size w w4 := hB2.trans ((hB w2 (Below.refl _ _)).mono (by omega))
        have h4 : World.ownsRow w4 (w.heap.size + 1) 5 1 v4 (zs ++ ds).length (bytesC (zs ++ ds)) := by simpa using o4
        have HO : Hid (World.ownsRow w4 (w.heap.size + 1) 5 1 v4 (zs ++ ds).length (bytesC (zs ++ ds))) := h4
        clear o4 h4 hg hB hB2 hbx2 o3 t2 l2
        go_wp2
        refine ⟨⟨k + 1, by omega, by go_num, ?_, hbx4, hB4⟩, by simp [intOf]; omega⟩
        rw [HE.out]
        exact HO.out
    · go_wp2
      go_ret
      have hkn : k = n := by omega
      subst hkn
      rw [HA.out] at ho
      exact ⟨_, _, rfl, ⟨owns_base ho (by omega), rfl⟩, hbl⟩

def packD (c : Cont) : BytesR := if contractFault c.id c.legs = 0 then ⟨0, contBy c.id c.legs⟩ else ⟨contractFault c.id c.legs, []⟩
theorem bytesR_none (w : World) (base : Nat) (c : Int) : bytesRR.O w base none_ (.agg #[.int .i64 c, .slice none 0 0]) ⟨c, []⟩ :=
  ⟨.slice none 0 0, none_, rfl, ⟨by simpa [bytesC] using World.ownsRow_nil w base 5 1, by funext b; simp [none_, Value.ownBlock]⟩, fun b => Iff.rfl⟩

set_option maxHeartbeats 1000000 in
theorem specPackC_u (x : Value) (c : Cont) (w : World) (hx : contR.V w x c) :
    Calls Try.prog 21 #[x] w fun e w' => ∃ v F, e = .returned v ∧ bytesRR.O w' w.heap.size F v (packD c) ∧ Below w.heap.size w w' := by
  obtain ⟨u, rfl, hu⟩ := hx
  obtain ⟨id, xs⟩ := c
  dsimp only at hu ⊢
  go_enter Try.func21, Try.ntmps21
  go_wp2_with fail
  refine (specFault_any id u xs _ (LegsV_below hu (by (repeat (first | exact Below.refl _ _ | assumption | refine Below.drew ?_ | refine balloc ?_ _ | refine bset ?_ (by simp; omega) _ | refine bset ?_ (by simp) _ | refine bstep ?_ (by assumption)))))).mono ?_
  rintro e w1 ⟨rfl, hb1⟩
  have hB1 : Below w.heap.size w w1 := by (repeat (first | exact Below.refl _ _ | assumption | refine Below.drew ?_ | refine balloc ?_ _ | refine bset ?_ (by simp; omega) _ | refine bset ?_ (by simp) _ | refine bstep ?_ (by assumption)))
  have hc0 : w1.cell? ⟨w.heap.size, 0, none⟩ = some (.int .i64 id) := cell_keep hb1 (by simp [go_sem])
  have hc1 : w1.cell? ⟨w.heap.size, 1, none⟩ = some u := cell_keep hb1 (by simp [go_sem])
  have hr0 : w1.cell? ⟨w.heap.size + 1, 0, none⟩ = some (.int .i64 0) := cell_keep hb1 (by simp [go_sem])
  have hr1 : w1.cell? ⟨w.heap.size + 1, 1, none⟩ = some (.slice none 0 0) := cell_keep hb1 (by simp [go_sem])
  have hrf : (∀ o, w1.frozen? ⟨w.heap.size + 1, o, none⟩ = false) ∧ w.heap.size + 1 < w1.heap.size := (boxNew2 hb1 (by simp)).2.2
  clear hb1
  by_cases hcf : contractFault id xs = 0
  · have HD : Hid (packD ⟨id, xs⟩ = ⟨0, contBy id xs⟩) := if_pos hcf
    have HC : Hid (contractFault id xs = 0) := hcf
    rw [hcf]
    clear hcf
    obtain ⟨_, hl2, hl8, _⟩ := cf_inv HC.out
    go_wp2_with fail
    refine (l3Contract_any id u xs _ (LegsV_below hu (by (repeat (first | exact Below.refl _ _ | assumption | refine Below.drew ?_ | refine balloc ?_ _ | refine bset ?_ (by simp; omega) _ | refine bset ?_ (by simp) _ | refine bstep ?_ (by assumption))))) (by omega)).mono ?_
    rintro e w2 ⟨v, F, rfl, ho, hb2⟩
    obtain ⟨p, q, rfl⟩ := bytes_form (bytesR.ofO ho)
    have hB2 := bstep hB1 hb2
    replace hr0 := cell_keep hb2 hr0
    replace hr1 := cell_keep hb2 hr1
    have hlt1 := hrf.2
    replace hrf := boxKeep hrf hb2
    have ho' := bytesR.base (base' := w.heap.size + 2) ho (by omega)
    obtain ⟨hrf, hlt⟩ := hrf
    clear hb2 ho
    generalize contBy id xs = D at *
    go_wp2
    refine bodyPost_ret (v := .agg #[.int .i64 0, .slice p D.length q]) ?_ rfl ⟨_, F, rfl, ?_, by (repeat (first | exact Below.refl _ _ | assumption | refine Below.drew ?_ | refine balloc ?_ _ | refine bset ?_ (by simp; omega) _ | refine bset ?_ (by simp) _ | refine bstep ?_ (by assumption)))⟩
    · simp [results, Try.results21, go_sem, hr0, hr1]
    · rw [HD.out]
      exact ⟨_, F, rfl, bytesR.base (base := w.heap.size + 2) (bytesR.set (bytesR.set ho' _ (by simp)) _ (by simp)) (by omega), fun b => Iff.rfl⟩
  · have hd : (contractFault id xs == 0) = false := by simpa using hcf
    have HD : Hid (packD ⟨id, xs⟩ = ⟨contractFault id xs, []⟩) := if_neg hcf
    obtain ⟨hrf, hlt⟩ := hrf
    go_wp2
    refine bodyPost_ret (v := .agg #[.int .i64 (contractFault id xs), .slice none 0 0]) ?_ rfl ?_
    · simp [results, Try.results21, go_sem, hr0, hr1]
    · rw [HD.out]
      first | exact ⟨_, none_, rfl, bytesR_none _ _ _, by (repeat (first | exact Below.refl _ _ | assumption | refine Below.drew ?_ | refine balloc ?_ _ | refine bset ?_ (by simp; omega) _ | refine bset ?_ (by simp) _ | refine bstep ?_ (by assumption)))⟩ | exact ⟨_, rfl, ⟨none_, bytesR_none _ _ _⟩, by (repeat (first | exact Below.refl _ _ | assumption | refine Below.drew ?_ | refine balloc ?_ _ | refine bset ?_ (by simp; omega) _ | refine bset ?_ (by simp) _ | refine bstep ?_ (by assumption)))⟩

end Go.Proofs.Ythikaieobdhckaa

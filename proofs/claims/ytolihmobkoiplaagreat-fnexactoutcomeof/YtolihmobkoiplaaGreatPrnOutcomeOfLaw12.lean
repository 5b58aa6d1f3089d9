import Derived.Test.YtolihmobkoiplaaGreatPrnOutcomeOfLaw11
import Derived.Deep.AppendLies
import Derived.Test.YtolihmobkoiplaaGreatPrnOutcomeOfLaw3

/-
  Contracts as values: the law's own copy, comparison and count of a contract.
-/
namespace Go.Proofs.YtolihmobkoiplaaGreat
open Go.RowKit
set_option linter.unusedSectionVars false
variable [DecidableEq Leg] [Inhabited Leg]
attribute [local go_sem ↓] Go.wp_at_zero Go.wp_at_succ

theorem LegsV_below {w w' : World} {v : Value} {xs : List Leg} (h : LegsV w v xs) (hb : Below w.heap.size w w') : LegsV w' v xs := by
  obtain ⟨a, cap, rfl, h1, h2, h3⟩ := h
  exact ⟨a, cap, rfl, h1, h2, fun i hi => by
    obtain ⟨b, o, ha, hc⟩ := h3 i hi
    exact ⟨b, o, ha, legCells_below hb hc⟩⟩
def szF (left n : Int) : Int := if left < n then -1 else left - n
set_option maxHeartbeats 400000 in
theorem szLegS_any (x : Value) (xs : List Leg) (left : Int) (w : World) (hx : LegsV w x xs) (h0 : 0 ≤ left) (h1 : left ≤ 1048576) :
    Calls Tryz.prog 14 #[x, .int .i64 left] w fun e w' => e = .returned (.int .i64 (szF left xs.length)) ∧ w' = w := by
  obtain ⟨ax, cx, rfl, hcx, hmx, hx⟩ := hx
  unfold maxLen at hmx
  generalize xs.length = n at *
  clear hx
  by_cases h : left < n
  · have h' : left - (n : Int) < 0 := by omega
    go_enter Tryz.func14, Tryz.ntmps14
    go_wp2
    go_ret
    exact ⟨by simp only [szF, if_pos h]; rfl, rfl⟩
  · have h' : ¬ left - (n : Int) < 0 := by omega
    go_enter Tryz.func14, Tryz.ntmps14
    go_wp2
    go_ret
    exact ⟨by rw [szF, if_neg (by omega)]; rfl, rfl⟩
end Go.Proofs.YtolihmobkoiplaaGreat

/-
  Rows of numbers: compared, marked and read back; and the answers that hold one.
-/
namespace Go.Proofs.YtolihmobkoiplaaGreat
open Go.RowKit
set_option linter.unusedSectionVars false
variable [DecidableEq Leg] [Inhabited Leg]
attribute [local go_sem ↓] Go.wp_at_zero Go.wp_at_succ

def intsC (ys : List Int) : List Value := ys.map (Value.int .i64)
theorem infoInt : (Tryz.prog.info? 2).map (fun i => (i.zero, i.size, i.bytes)) = some (some (.int .i64 0), 1, 8) := by kernel_rfl
def IntsV (w : World) (v : Value) (ys : List Int) : Prop :=
  ∃ a cap, v = .slice a ys.length cap ∧ ys.length ≤ cap ∧ cap ≤ maxLen ∧ ∀ i, i < ys.length → ∃ b o, a = some ⟨b, o, none⟩ ∧ w.cell? ⟨b, o + i, none⟩ = some (.int .i64 (ys.getD i 0))
theorem IntsV_of_owns {w : World} {base e : Nat} {v : Value} {ys : List Int} (h : w.ownsRow base e 1 v ys.length (intsC ys)) : IntsV w v ys := by
  rcases h.2 with ⟨rfl, hn⟩ | ⟨g, cap, cur, rfl, hb, hg, hnc, hcm, hcs, htake⟩
  · exact ⟨none, 0, by rw [hn], by omega, by unfold maxLen; omega, fun i hi => by omega⟩
  · refine ⟨some ⟨g, 0, none⟩, cap, rfl, hnc, hcm, fun i hi => ⟨g, 0, rfl, ?_⟩⟩
    rw [Nat.zero_add]
    refine (h.cellAt i (by omega)).trans ?_
    simp [intsC, List.getD, hi]
end Go.Proofs.YtolihmobkoiplaaGreat

/-
  A number put into a rising list (the specification's own helper).
-/
namespace Go.Proofs.YtolihmobkoiplaaGreat
open Go.RowKit
set_option linter.unusedSectionVars false
variable [DecidableEq Leg] [Inhabited Leg]
attribute [local go_sem ↓] Go.wp_at_zero Go.wp_at_succ

def ahead (ys : List Int) (v : Int) : Nat := (ys.takeWhile (· < v)).length
def putI (ys : List Int) (v : Int) : List Int := if ys.getD (ahead ys v) (v + 1) = v then ys else ys.take (ahead ys v) ++ [v] ++ ys.drop (ahead ys v)
theorem ahead_le (ys : List Int) (v : Int) : ahead ys v ≤ ys.length := List.Sublist.length_le (List.takeWhile_sublist _)
theorem ahead_lt : ∀ (ys : List Int) (v : Int) (j : Nat), j < ahead ys v → ys.getD j 0 < v
  | [], v, j, h => by simp [ahead] at h
  | y :: r, v, j, h => by
    unfold ahead at h
    rw [List.takeWhile_cons] at h
    split at h
    · rename_i hy
      cases j with
      | zero => simpa using hy
      | succ j => simpa using ahead_lt r v j (by simpa [ahead] using h)
    · simp at h
theorem ahead_stop : ∀ (ys : List Int) (v : Int), ahead ys v < ys.length → ¬ ys.getD (ahead ys v) 0 < v
  | [], v, h => by simp at h
  | y :: r, v, h => by
    unfold ahead at h ⊢
    rw [List.takeWhile_cons] at h ⊢
    split
    · rename_i hy
      rw [if_pos hy] at h
      simpa [ahead] using ahead_stop r v (by simpa [ahead] using h)
    · rename_i hy
      simpa using hy
theorem ahead_eq (ys : List Int) (v : Int) (k : Nat) (hk : k ≤ ys.length) (h1 : ∀ j, j < k → ys.getD j 0 < v) (h2 : k < ys.length → ¬ ys.getD k 0 < v) : ahead ys v = k := by
  rcases Nat.lt_trichotomy (ahead ys v) k with h | h | h
  · exact absurd (h1 _ h) (ahead_stop ys v (by omega))
  · exact h
  · exact absurd (ahead_lt ys v k h) (h2 (by have := ahead_le ys v; omega))
section
variable {P : Program} (w : World)
theorem step_app {ops : Array Oper} {o : Oper} {a : Act} {K : Act → World → Prop} {Q : Exit → Act → World → Prop} {E : Prop} (hgd : o.guard = none) (s x : Operand) (t : TypeId)
    (ho : o.op = .call { callee := .builtin .append, args := #[s, x], argTypes := #[t, t] })
    (base : Nat) (e : TypeId) (i : TypeInfo) (z : Value) (size bytes : Nat) (ht : P.underlying t = some (.slice e)) (hi : P.info? e = some i) (hz : i.zero = some z)
    (hsize : i.size = size) (hby : i.bytes = bytes) (hzs : z.cells.size = size) (hsz : 0 < size)
    (v : Value) (n : Nat) (xs : List Value) (hs : a.eval s = v) (ad : Addr) (m c : Nat) (news : List Value) (hx : a.eval x = .slice (some ad) m c)
    (hown : w.ownsRow base e size v n xs) (hnews : ∀ j u, news[j]? = some u → w.cell? (ad.add j) = some u) (hl : news.length = m * size) (h1 : ∀ u ∈ news, u.oneCell' = true)
    (h63 : n + m ≤ maxLen) (hbytes : (n + m) * bytes ≤ 140737488355328) (hbase : base ≤ w.heap.size)
    (h : ∀ v' w', w'.ownsRow base e size v' (n + m) (xs ++ news) → w.grownBy w' v.ownBlock → (v' = .slice none 0 0 ↔ v = .slice none 0 0 ∧ m = 0) → (∀ W : World, Below base W w → Below base W w') → K (a.put o.dst v') w') :
    if Region.wanted o (yielded ops a.tmps) = true then Oper.wp P o a w K Q else E := by
  have hw : Region.wanted o (yielded ops a.tmps) = true := by simp [Region.wanted, hgd]
  rw [if_pos hw]
  exact wp_append_own w s x t ho base e i z size bytes ht hi hz hsize hby hzs hsz v n xs hs hown ad m c news hx hl hnews h1 h63 hbytes hbase (fun v' w' q1 q2 q3 => h v' w' q1 q2 q3 (fun W hW => hW.grown q2 hbase (fun k hk => (hown.lt k hk).1)))
end

theorem intsC_one (ys : List Int) : ∀ u ∈ intsC ys, u.oneCell' = true := by
  intro u hu
  simp only [intsC, List.mem_map] at hu
  obtain ⟨y, _, rfl⟩ := hu
  rfl
theorem ints_src {w : World} {b o k m : Nat} {ys : List Int} (h : ∀ i, i < ys.length → w.cell? ⟨b, o + i, none⟩ = some (.int .i64 (ys.getD i 0))) (hkm : k + m ≤ ys.length) {zs : List Int} (hz : zs = (ys.drop k).take m) :
    ∀ j u, (intsC zs)[j]? = some u → w.cell? ((⟨b, o + k, none⟩ : Addr).add j) = some u := by
  intro j u hj
  subst hz
  simp only [intsC, List.getElem?_map, List.getElem?_take, List.getElem?_drop] at hj
  split at hj
  · rename_i hjm
    have := h (k + j) (by omega)
    have e : ys[k + j]? = some (ys.getD (k + j) 0) := by simp [List.getD, show k + j < ys.length by omega]
    rw [e] at hj
    simp at hj
    subst hj
    have ea : ((⟨b, o + k, none⟩ : Addr).add j) = ⟨b, o + (k + j), none⟩ := by
      unfold Addr.add
      split
      · rename_i h0; subst h0; simp
      · simp [Nat.add_assoc]
    rw [ea, this]
    simp [List.getD]
  · simp at hj
theorem heap_two (w : World) (A B : Obj) : ((w.alloc A).alloc B).heap[w.heap.size]? = some A := by
  have h : ((w.alloc A).alloc B).heap[w.heap.size]? = (w.alloc A).heap[w.heap.size]? := Below.heap_alloc _ _ _ (by simp)
  rw [h]
  exact Go.heap_alloc_new w A
theorem heap_two' (w : World) (A B : Obj) : ((w.alloc B).alloc A).heap[w.heap.size + 1]? = some A := by
  have h := Go.heap_alloc_new (w.alloc B) A
  rwa [World.size_alloc] at h
theorem own_lit0 {w' : World} {base g : Nat} (hg : w'.heap[g]? = some (.cells #[] 2 (0, 0))) (hb : base ≤ g) : w'.ownsRow base 2 1 (.slice (some ⟨g, 0, none⟩) 0 0) 0 [] :=
  ⟨rfl, .inr ⟨g, 0, #[], rfl, hb, hg, Nat.le_refl _, by unfold maxLen; omega, rfl, rfl⟩⟩
theorem len_take {ys : List Int} {n k : Nat} (h : ys.length = n) (hk : k ≤ n) : (intsC (ys.take k)).length = k * 1 := by simp [intsC]; omega
theorem len_drop {ys : List Int} {n k : Nat} (h : ys.length = n) : (intsC (ys.drop k)).length = (n - k) * 1 := by simp [intsC]; omega
theorem len_end {ys : List Int} {n k : Nat} (h : ys.length = n) (hk : n ≤ k) : (intsC (ys.drop k)).length = 0 * 1 := by simp [intsC]; omega
theorem len_one (v : Int) : (intsC [v]).length = 1 * 1 := rfl
theorem src_end {w' : World} {ad : Addr} {k n : Nat} {ys : List Int} (hn : ys.length = n) (hk : n ≤ k) : ∀ j u, (intsC (ys.drop k))[j]? = some u → w'.cell? (ad.add j) = some u := by
  intro j u hj
  rw [List.drop_eq_nil_of_le (by omega)] at hj
  simp [intsC] at hj
theorem src_one {w' : World} {g : Nat} {v : Int} (h : w'.cell? ⟨g, 0, none⟩ = some (.int .i64 v)) : ∀ j u, (intsC [v])[j]? = some u → w'.cell? ((⟨g, 0, none⟩ : Addr).add j) = some u := by
  intro j u hj
  match j, hj with
  | 0, hj => simp [intsC] at hj; subst hj; simpa [Addr.add] using h
  | j + 1, hj => simp [intsC] at hj
theorem src_lo {w w' : World} {b o k n : Nat} {ys : List Int} (h : ys.length = n ∧ ∀ i, i < n → w.cell? ⟨b, o + i, none⟩ = some (.int .i64 (ys.getD i 0))) (hk : k ≤ n) (hb : Below w.heap.size w w') :
    ∀ j u, (intsC (ys.take k))[j]? = some u → w'.cell? ((⟨b, o, none⟩ : Addr).add j) = some u := by
  obtain ⟨hn, h⟩ := h
  have := ints_src (w := w) (b := b) (o := o) (k := 0) (m := k) (ys := ys) (by rw [hn]; exact h) (by omega) (zs := ys.take k) (by simp)
  intro j u hj
  exact cell_keep hb (this j u hj)
theorem src_hi {w w' : World} {b o k n : Nat} {ys : List Int} (h : ys.length = n ∧ ∀ i, i < n → w.cell? ⟨b, o + i, none⟩ = some (.int .i64 (ys.getD i 0))) (hk : k ≤ n) (hb : Below w.heap.size w w') :
    ∀ j u, (intsC (ys.drop k))[j]? = some u → w'.cell? ((⟨b, o + k, none⟩ : Addr).add j) = some u := by
  obtain ⟨hn, h⟩ := h
  have := ints_src (w := w) (b := b) (o := o) (k := k) (m := n - k) (ys := ys) (by rw [hn]; exact h) (by omega) (zs := ys.drop k) (by rw [List.take_of_length_le (by simp; omega)])
  intro j u hj
  exact cell_keep hb (this j u hj)
set_option maxHeartbeats 1000000 in
theorem l1Put_any (b o cap base : Nat) (ys : List Int) (v : Int) (w : World) (hn : ys.length ≤ 1048576) (hbase : base ≤ w.heap.size) (ho : w.ownsRow base 2 1 (.slice (some ⟨b, o, none⟩) ys.length cap) ys.length (intsC ys)) :
    Calls Tryz.prog 51 #[.slice (some ⟨b, o, none⟩) ys.length cap, .int .i64 v] w fun r w' => ∃ u, r = .returned u ∧ w'.ownsRow base 2 1 u (putI ys v).length (intsC (putI ys v)) ∧ ¬ u = .slice none 0 0 ∧ Below w.heap.size w w' := by
  have hv := IntsV_of_owns ho
  obtain ⟨a', cap', he, hcc, hmm, hcell⟩ := hv
  simp only [Value.slice.injEq, true_and] at he
  obtain ⟨rfl, rfl⟩ := he
  unfold maxLen at hmm
  obtain ⟨i0, hi, hz0, hz1, hz2⟩ := info_parts infoInt
  have HC : Hid (ys.length = ys.length ∧ ∀ i, i < ys.length → w.cell? ⟨b, o + i, none⟩ = some (.int .i64 (ys.getD i 0))) := ⟨rfl, fun i hi => by
    obtain ⟨b', o', hh, hc⟩ := hcell i hi
    simp only [Option.some.injEq, Addr.mk.injEq, and_true] at hh
    obtain ⟨rfl, rfl⟩ := hh
    exact hc⟩
  clear hcell
  obtain ⟨n, hn'⟩ : ∃ n, n = ys.length := ⟨_, rfl⟩
  rw [← hn'] at hn hcc ho ⊢
  replace HC : Hid (ys.length = n ∧ ∀ i, i < n → w.cell? ⟨b, o + i, none⟩ = some (.int .i64 (ys.getD i 0))) := by rw [hn']; exact HC.out
  have HN : Hid (ys.length = n) := hn'.symm
  clear hn'
  have HOW : Hid (w.ownsRow base 2 1 (.slice (some ⟨b, o, none⟩) n cap) n (intsC ys)) := ho
  clear ho
  go_enter Tryz.func51, Tryz.ntmps51
  go_wp2
  go_loopw [5] (fun i w' => ∃ k : Nat, k ≤ n ∧ i = .int .i64 k ∧ (∀ j, j < k → ys.getD j 0 < v) ∧ w' = w) (fun i _ => n - (intOf i).toNat)
  case atStart => exact ⟨0, Nat.zero_le _, rfl, fun j h => by omega, rfl⟩
  case round =>
    obtain ⟨k, hkn, rfl, hp, hwr⟩ := hrel
    replace hwr := hwr.symm
    subst hwr
    have HP : Hid (∀ j, j < k → ys.getD j 0 < v) := hp
    clear hp
    have hk0 : (0 : Int) ≤ (k : Int) := by omega
    have hk1 : (k : Int) ≤ (cap : Int) := by omega
    have hk2 : (k : Int) ≤ (n : Int) := by omega
    by_cases hlt : k < n
    · have h1 := HC.out.2 k hlt
      obtain ⟨y, hy⟩ : ∃ y, y = ys.getD k 0 := ⟨_, rfl⟩
      rw [← hy] at h1
      have HY : Hid (y = ys.getD k 0) := hy
      clear hy
      have hlt' : (k : Int) < (n : Int) := by omega
      by_cases hyv : y < v
      · go_wp2
        refine ⟨⟨k + 1, by omega, by go_num, fun j hj => ?_, trivial⟩, by simp [intOf]; omega⟩
        by_cases hjk : j < k
        · exact HP.out j hjk
        · have : j = k := by omega
          subst this
          rw [← HY.out]; exact hyv
      · by_cases hye : y = v
        · have hd : (y == v) = true := by simpa using hye
          have HE : Hid (y = v) := hye
          clear hye
          go_wp2
          go_ret
          have e : putI ys v = ys := by
            unfold putI
            rw [ahead_eq ys v k (by have := HN.out; omega) HP.out (fun _ => by rw [← HY.out]; omega), if_pos]
            have e : k < ys.length := by have := HN.out; omega
            rw [← HE.out, HY.out]
            simp [List.getD, e]
          refine ⟨_, rfl, ?_, by simp, Below.refl _ _⟩
          rw [e, HN.out]
          exact HOW.out
        · have hd : (y == v) = false := by simpa using hye
          have hck : ¬ cap = k := by omega
          have HSTOP : Hid (k < ys.length → ¬ ys.getD k 0 < v) := fun _ => by rw [← HY.out]; omega
          have HNE : Hid (¬ ys.getD k (v + 1) = v) := fun h => hye (by rw [HY.out]; have e : k < ys.length := (by have := HN.out; omega); simpa [List.getD, e] using h)
          go_wp2
          go_region_held3 (fun w' => Below w.heap.size w w') (repeat (first | exact Below.refl _ _ | assumption | refine Below.drew ?_ | refine balloc ?_ _ | refine bstep ?_ (by assumption))) ((apply step_app (t := 54) (base := w.heap.size) (e := 2) (i := i0) (size := 1) (bytes := 8) (ht := Tryz.underlying54) (hi := hi) (hz := hz0) (hsize := hz1) (hby := hz2) (hzs := rfl) (hsz := Nat.one_pos); rfl; rfl; rfl; rfl; (first | exact hown | exact hown.alloc _ | (focus (refine own_lit0 ?_ ?_; (focus (first | exact heap_alloc_new _ _ | exact heap_two _ _ _ | exact heap_two' _ _ _)); (focus (first | exact Nat.le_refl _ | exact Nat.le_add_right _ _))))); (first | (exact src_lo HC.out hkn (by repeat (first | exact Below.refl _ _ | assumption | refine Below.drew ?_ | refine balloc ?_ _ | refine bstep ?_ (by assumption))); (first | exact len_take HC.out.1 hkn | exact len_drop HC.out.1 | exact len_one _ | exact len_end HC.out.1 hkm)) | (exact src_hi HC.out hkn (by repeat (first | exact Below.refl _ _ | assumption | refine Below.drew ?_ | refine balloc ?_ _ | refine bstep ?_ (by assumption))); (first | exact len_take HC.out.1 hkn | exact len_drop HC.out.1 | exact len_one _ | exact len_end HC.out.1 hkm)) | ((focus (refine src_one (v := v) ?_; simp [go_sem]; done)); (first | exact len_take HC.out.1 hkn | exact len_drop HC.out.1 | exact len_one _ | exact len_end HC.out.1 hkm)) | ((focus (refine src_one (v := v) ?_; refine hgrow.cell (v := .int .i64 v) ?_ ?_; (focus (simp [go_sem]; done)); (first | (focus (show some (w.heap.size + 1) ≠ some w.heap.size; simp; done)) | (focus (show some w.heap.size ≠ some (w.heap.size + 1); simp; done))))); (first | exact len_take HC.out.1 hkn | exact len_drop HC.out.1 | exact len_one _ | exact len_end HC.out.1 hkm)) | (exact src_end HC.out.1 hkm; (first | exact len_take HC.out.1 hkn | exact len_drop HC.out.1 | exact len_one _ | exact len_end HC.out.1 hkm))); (exact intsC_one _); (focus (unfold maxLen; omega)); (focus omega); (exact Below.size (by repeat (first | exact Below.refl _ _ | assumption | refine Below.drew ?_ | refine balloc ?_ _ | refine bstep ?_ (by assumption)))); intro va wa hown hgrow hnil hbel; have hba := hbel w (by repeat (first | exact Below.refl _ _ | assumption | refine Below.drew ?_ | refine balloc ?_ _ | refine bstep ?_ (by assumption)))))
          all_goals
            go_wp2
            go_ret
            refine ⟨va, rfl, ?_, ?_, hba⟩
            · have e : putI ys v = ys.take k ++ [v] ++ ys.drop k := by
                unfold putI
                rw [ahead_eq ys v k (by have := HN.out; omega) HP.out (fun h => by have := HSTOP.out h; omega), if_neg HNE.out]
              have l : (putI ys v).length = 0 + k + 1 + (n - k) := by
                rw [e]; have := HN.out; simp only [List.length_append, List.length_take, List.length_drop, List.length_cons, List.length_nil]; omega
              rw [l, e]
              refine owns_base (base := w.heap.size) ?_ hbase
              simpa [intsC] using hown
            · intro h
              have q := hown.2
              rw [h] at q
              rcases q with ⟨_, q⟩ | ⟨g, c, cu, q, _⟩
              · omega
              · simp at q
    · have hlt' : ¬ (k : Int) < (n : Int) := by omega
      have hkm : n ≤ k := by omega
      have HSTOP : Hid (k < ys.length → ¬ ys.getD k 0 < v) := fun h => by have := HN.out; omega
      have HNE : Hid (¬ ys.getD k (v + 1) = v) := fun h => by
        have e : ys[k]? = none := List.getElem?_eq_none (by have := HN.out; omega)
        simp [List.getD, e] at h
        omega
      by_cases hck : cap = k
      · go_wp2
        go_region_held3 (fun w' => Below w.heap.size w w') (repeat (first | exact Below.refl _ _ | assumption | refine Below.drew ?_ | refine balloc ?_ _ | refine bstep ?_ (by assumption))) ((apply step_app (t := 54) (base := w.heap.size) (e := 2) (i := i0) (size := 1) (bytes := 8) (ht := Tryz.underlying54) (hi := hi) (hz := hz0) (hsize := hz1) (hby := hz2) (hzs := rfl) (hsz := Nat.one_pos); rfl; rfl; rfl; rfl; (first | exact hown | exact hown.alloc _ | (focus (refine own_lit0 ?_ ?_; (focus (first | exact heap_alloc_new _ _ | exact heap_two _ _ _ | exact heap_two' _ _ _)); (focus (first | exact Nat.le_refl _ | exact Nat.le_add_right _ _))))); (first | (exact src_lo HC.out hkn (by repeat (first | exact Below.refl _ _ | assumption | refine Below.drew ?_ | refine balloc ?_ _ | refine bstep ?_ (by assumption))); (first | exact len_take HC.out.1 hkn | exact len_drop HC.out.1 | exact len_one _ | exact len_end HC.out.1 hkm)) | (exact src_hi HC.out hkn (by repeat (first | exact Below.refl _ _ | assumption | refine Below.drew ?_ | refine balloc ?_ _ | refine bstep ?_ (by assumption))); (first | exact len_take HC.out.1 hkn | exact len_drop HC.out.1 | exact len_one _ | exact len_end HC.out.1 hkm)) | ((focus (refine src_one (v := v) ?_; simp [go_sem]; done)); (first | exact len_take HC.out.1 hkn | exact len_drop HC.out.1 | exact len_one _ | exact len_end HC.out.1 hkm)) | ((focus (refine src_one (v := v) ?_; refine hgrow.cell (v := .int .i64 v) ?_ ?_; (focus (simp [go_sem]; done)); (first | (focus (show some (w.heap.size + 1) ≠ some w.heap.size; simp; done)) | (focus (show some w.heap.size ≠ some (w.heap.size + 1); simp; done))))); (first | exact len_take HC.out.1 hkn | exact len_drop HC.out.1 | exact len_one _ | exact len_end HC.out.1 hkm)) | (exact src_end HC.out.1 hkm; (first | exact len_take HC.out.1 hkn | exact len_drop HC.out.1 | exact len_one _ | exact len_end HC.out.1 hkm))); (exact intsC_one _); (focus (unfold maxLen; omega)); (focus omega); (exact Below.size (by repeat (first | exact Below.refl _ _ | assumption | refine Below.drew ?_ | refine balloc ?_ _ | refine bstep ?_ (by assumption)))); intro va wa hown hgrow hnil hbel; have hba := hbel w (by repeat (first | exact Below.refl _ _ | assumption | refine Below.drew ?_ | refine balloc ?_ _ | refine bstep ?_ (by assumption)))))
        all_goals
            go_wp2
            go_ret
            refine ⟨va, rfl, ?_, ?_, hba⟩
            · have e : putI ys v = ys.take k ++ [v] ++ ys.drop k := by
                unfold putI
                rw [ahead_eq ys v k (by have := HN.out; omega) HP.out (fun h => by have := HSTOP.out h; omega), if_neg HNE.out]
              have l : (putI ys v).length = 0 + k + 1 := by
                rw [e]; have := HN.out; simp only [List.length_append, List.length_take, List.length_drop, List.length_cons, List.length_nil]; omega
              rw [l, e]
              refine owns_base (base := w.heap.size) ?_ hbase
              simpa [intsC] using hown
            · intro h
              have q := hown.2
              rw [h] at q
              rcases q with ⟨_, q⟩ | ⟨g, c, cu, q, _⟩
              · omega
              · simp at q
      · go_wp2
        go_region_held3 (fun w' => Below w.heap.size w w') (repeat (first | exact Below.refl _ _ | assumption | refine Below.drew ?_ | refine balloc ?_ _ | refine bstep ?_ (by assumption))) ((apply step_app (t := 54) (base := w.heap.size) (e := 2) (i := i0) (size := 1) (bytes := 8) (ht := Tryz.underlying54) (hi := hi) (hz := hz0) (hsize := hz1) (hby := hz2) (hzs := rfl) (hsz := Nat.one_pos); rfl; rfl; rfl; rfl; (first | exact hown | exact hown.alloc _ | (focus (refine own_lit0 ?_ ?_; (focus (first | exact heap_alloc_new _ _ | exact heap_two _ _ _ | exact heap_two' _ _ _)); (focus (first | exact Nat.le_refl _ | exact Nat.le_add_right _ _))))); (first | (exact src_lo HC.out hkn (by repeat (first | exact Below.refl _ _ | assumption | refine Below.drew ?_ | refine balloc ?_ _ | refine bstep ?_ (by assumption))); (first | exact len_take HC.out.1 hkn | exact len_drop HC.out.1 | exact len_one _ | exact len_end HC.out.1 hkm)) | (exact src_hi HC.out hkn (by repeat (first | exact Below.refl _ _ | assumption | refine Below.drew ?_ | refine balloc ?_ _ | refine bstep ?_ (by assumption))); (first | exact len_take HC.out.1 hkn | exact len_drop HC.out.1 | exact len_one _ | exact len_end HC.out.1 hkm)) | ((focus (refine src_one (v := v) ?_; simp [go_sem]; done)); (first | exact len_take HC.out.1 hkn | exact len_drop HC.out.1 | exact len_one _ | exact len_end HC.out.1 hkm)) | ((focus (refine src_one (v := v) ?_; refine hgrow.cell (v := .int .i64 v) ?_ ?_; (focus (simp [go_sem]; done)); (first | (focus (show some (w.heap.size + 1) ≠ some w.heap.size; simp; done)) | (focus (show some w.heap.size ≠ some (w.heap.size + 1); simp; done))))); (first | exact len_take HC.out.1 hkn | exact len_drop HC.out.1 | exact len_one _ | exact len_end HC.out.1 hkm)) | (exact src_end HC.out.1 hkm; (first | exact len_take HC.out.1 hkn | exact len_drop HC.out.1 | exact len_one _ | exact len_end HC.out.1 hkm))); (exact intsC_one _); (focus (unfold maxLen; omega)); (focus omega); (exact Below.size (by repeat (first | exact Below.refl _ _ | assumption | refine Below.drew ?_ | refine balloc ?_ _ | refine bstep ?_ (by assumption)))); intro va wa hown hgrow hnil hbel; have hba := hbel w (by repeat (first | exact Below.refl _ _ | assumption | refine Below.drew ?_ | refine balloc ?_ _ | refine bstep ?_ (by assumption)))))
        all_goals
            go_wp2
            go_ret
            refine ⟨va, rfl, ?_, ?_, hba⟩
            · have e : putI ys v = ys.take k ++ [v] ++ ys.drop k := by
                unfold putI
                rw [ahead_eq ys v k (by have := HN.out; omega) HP.out (fun h => by have := HSTOP.out h; omega), if_neg HNE.out]
              have l : (putI ys v).length = 0 + k + 1 := by
                rw [e]; have := HN.out; simp only [List.length_append, List.length_take, List.length_drop, List.length_cons, List.length_nil]; omega
              rw [l, e]
              refine owns_base (base := w.heap.size) ?_ hbase
              simpa [intsC] using hown
            · intro h
              have q := hown.2
              rw [h] at q
              rcases q with ⟨_, q⟩ | ⟨g, c, cu, q, _⟩
              · omega
              · simp at q
end Go.Proofs.YtolihmobkoiplaaGreat

/-
  What is asked of a contract, as plain mathematics: the first leg that is wrong, and the sums of the assets.
-/
namespace Go.Proofs.YtolihmobkoiplaaGreat
open Go.RowKit
set_option linter.unusedSectionVars false
variable [DecidableEq Leg] [Inhabited Leg]

def samePlace (a b : Leg) : Bool := a.sh == b.sh && (a.ac == b.ac && a.ast == b.ast)
def hasPlace (pre : List Leg) (l : Leg) : Bool := pre.any (fun o => samePlace o l)
def scan (pre : List Leg) : List Leg → Int
  | [] => 0
  | l :: r => if legFault l = 0 then (if hasPlace pre l then 7 else scan (pre ++ [l]) r) else legFault l
def sumA (a : Int) : List Leg → Int
  | [] => 0
  | l :: r => (if l.ast = a then l.am else 0) + sumA a r
def contractFault (id : Int) (xs : List Leg) : Int :=
  if inB id 1 1000000000 then
    (if xs.length < 2 ∨ 8 < xs.length then 2
    else if scan [] xs = 0 then (if sumA 0 xs = 0 ∧ sumA 1 xs = 0 ∧ sumA 2 xs = 0 then 0 else 1) else scan [] xs)
  else 3
def okTo (xs : List Leg) (k : Nat) : Prop := ∀ j, j < k → legFault (xs.getD j default) = 0 ∧ hasPlace (xs.take j) (xs.getD j default) = false
theorem drop_cons (xs : List Leg) (k : Nat) (h : k < xs.length) : xs.drop k = xs.getD k default :: xs.drop (k + 1) := by
  rw [List.drop_eq_getElem_cons h]
  simp [List.getD, h]
theorem take_snoc (xs : List Leg) (k : Nat) (h : k < xs.length) : xs.take (k + 1) = xs.take k ++ [xs.getD k default] := by
  rw [List.take_succ_eq_append_getElem h]
  simp [List.getD, h]
theorem scan_at (xs : List Leg) : ∀ k, k ≤ xs.length → okTo xs k → scan [] xs = scan (xs.take k) (xs.drop k)
  | 0, _, _ => by simp
  | k + 1, hk, h => by
    have ih := scan_at xs k (by omega) (fun j hj => h j (by omega))
    obtain ⟨h1, h2⟩ := h k (by omega)
    rw [ih, drop_cons xs k (by omega), scan, if_pos h1, if_neg (by rw [h2]; decide), take_snoc xs k (by omega)]
theorem scan_bad {xs : List Leg} {k : Nat} (hk : k < xs.length) (h : okTo xs k) (hb : ¬ legFault (xs.getD k default) = 0) : scan [] xs = legFault (xs.getD k default) := by
  rw [scan_at xs k (by omega) h, drop_cons xs k hk, scan, if_neg hb]
theorem scan_taken {xs : List Leg} {k : Nat} (hk : k < xs.length) (h : okTo xs k) (h0 : legFault (xs.getD k default) = 0) (hb : hasPlace (xs.take k) (xs.getD k default) = true) : scan [] xs = 7 := by
  rw [scan_at xs k (by omega) h, drop_cons xs k hk, scan, if_pos h0, if_pos hb]
theorem scan_ok {xs : List Leg} (h : okTo xs xs.length) : scan [] xs = 0 := by
  rw [scan_at xs xs.length (Nat.le_refl _) h]; simp [scan]
theorem okTo_succ {xs : List Leg} {k : Nat} (h : okTo xs k) (h0 : legFault (xs.getD k default) = 0) (h1 : hasPlace (xs.take k) (xs.getD k default) = false) : okTo xs (k + 1) := by
  intro j hj
  by_cases e : j < k
  · exact h j e
  · have : j = k := by omega
    subst this
    exact ⟨h0, h1⟩
theorem inB_iff (n lo hi : Int) : inB n lo hi = true ↔ lo ≤ n ∧ n ≤ hi := by simp [inB]
theorem legFault_zero {l : Leg} (h : legFault l = 0) : (0 ≤ l.sh ∧ l.sh ≤ 2) ∧ (0 ≤ l.ac ∧ l.ac ≤ 5) ∧ (0 ≤ l.ast ∧ l.ast ≤ 2) ∧ (-1000000000000 ≤ l.am ∧ l.am ≤ 1000000000000) ∧ l.am ≠ 0 := by
  unfold legFault at h
  split at h
  · rename_i hp
    simp [placeB, inB_iff] at hp
    split at h
    · omega
    · exact ⟨by omega, by omega, by omega, by omega, by assumption⟩
  · omega
theorem sumA_append (a : Int) (l r : List Leg) : sumA a (l ++ r) = sumA a l + sumA a r := by
  induction l with
  | nil => simp [sumA]
  | cons x l ih => simp only [List.cons_append, sumA, ih]; omega
theorem sumA_snoc (a : Int) (xs : List Leg) (k : Nat) (h : k < xs.length) : sumA a (xs.take (k + 1)) = sumA a (xs.take k) + if (xs.getD k default).ast = a then (xs.getD k default).am else 0 := by
  rw [take_snoc xs k h, sumA_append]; simp [sumA]
theorem sumA_bound (a : Int) (xs : List Leg) : ∀ k, k ≤ xs.length → okTo xs k → -(k * 1000000000000 : Int) ≤ sumA a (xs.take k) ∧ sumA a (xs.take k) ≤ k * 1000000000000
  | 0, _, _ => by simp [sumA]
  | k + 1, hk, h => by
    have ih := sumA_bound a xs k (by omega) (fun j hj => h j (by omega))
    have hb := (legFault_zero (h k (by omega)).1).2.2.2.1
    rw [sumA_snoc a xs k (by omega)]
    split <;> omega
theorem hasPlace_snoc (xs : List Leg) (k : Nat) (h : k < xs.length) (l : Leg) : hasPlace (xs.take (k + 1)) l = (hasPlace (xs.take k) l || samePlace (xs.getD k default) l) := by
  rw [take_snoc xs k h]; simp [hasPlace]
theorem hasPlace_mono {xs : List Leg} {k m : Nat} {l : Leg} (hkm : k ≤ m) (h : hasPlace (xs.take k) l = true) : hasPlace (xs.take m) l = true := by
  simp only [hasPlace, List.any_eq_true] at h ⊢
  obtain ⟨o, ho, hs⟩ := h
  exact ⟨o, (List.take_subset_take_left xs hkm) ho, hs⟩
theorem cf_val {id : Int} {xs : List Leg} (hid : inB id 1 1000000000 = true) (h2 : 2 ≤ xs.length) (h8 : xs.length ≤ 8) : contractFault id xs = if scan [] xs = 0 then (if sumA 0 xs = 0 ∧ sumA 1 xs = 0 ∧ sumA 2 xs = 0 then 0 else 1) else scan [] xs := by
  rw [contractFault, if_pos hid, if_neg (by omega)]
theorem cf_bad {id : Int} {xs : List Leg} (hid : inB id 1 1000000000 = true) (h2 : 2 ≤ xs.length) (h8 : xs.length ≤ 8) {k : Nat} (hk : k < xs.length) (h : okTo xs k) (hb : ¬ legFault (xs.getD k default) = 0) : contractFault id xs = legFault (xs.getD k default) := by
  rw [cf_val hid h2 h8, scan_bad hk h hb, if_neg hb]
theorem cf_taken {id : Int} {xs : List Leg} (hid : inB id 1 1000000000 = true) (h2 : 2 ≤ xs.length) (h8 : xs.length ≤ 8) {k : Nat} (hk : k < xs.length) (h : okTo xs k) (h0 : legFault (xs.getD k default) = 0) (hb : hasPlace (xs.take k) (xs.getD k default) = true) : contractFault id xs = 7 := by
  rw [cf_val hid h2 h8, scan_taken hk h h0 hb, if_neg (by decide)]
theorem cf_sum {id : Int} {xs : List Leg} (hid : inB id 1 1000000000 = true) (h2 : 2 ≤ xs.length) (h8 : xs.length ≤ 8) (h : okTo xs xs.length) (hs : ¬ (sumA 0 xs = 0 ∧ sumA 1 xs = 0 ∧ sumA 2 xs = 0)) : contractFault id xs = 1 := by
  rw [cf_val hid h2 h8, scan_ok h, if_pos rfl, if_neg hs]
theorem cf_zero {id : Int} {xs : List Leg} (hid : inB id 1 1000000000 = true) (h2 : 2 ≤ xs.length) (h8 : xs.length ≤ 8) (h : okTo xs xs.length) (hs : sumA 0 xs = 0 ∧ sumA 1 xs = 0 ∧ sumA 2 xs = 0) : contractFault id xs = 0 := by
  rw [cf_val hid h2 h8, scan_ok h, if_pos rfl, if_pos hs]
end Go.Proofs.YtolihmobkoiplaaGreat


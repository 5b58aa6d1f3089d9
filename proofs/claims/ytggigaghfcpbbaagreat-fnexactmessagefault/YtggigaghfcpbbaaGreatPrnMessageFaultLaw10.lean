import Derived.Test.YtggigaghfcpbbaaGreatPrnMessageFaultLaw9
import Derived.BigQuiet
import Derived.Deep.QuietTactic
import Derived.Test.YtggigaghfcpbbaaGreatPrnMessageFaultLaw4
import Derived.Deep.AppendLies
import Derived.Test.YtggigaghfcpbbaaGreatPrnMessageFaultLaw2
import Derived.RegionTactic
import Derived.ChangeAlike
import Derived.BigRegion

/-
  The small functions of chapter 8, on both sides.
-/
namespace Go.Proofs.YtggigaghfcpbbaaGreat
open Go.RowKit
set_option linter.unusedSectionVars false
variable [DecidableEq Vot] [Inhabited Vot] [DecidableEq Slt] [Inhabited Slt] [DecidableEq Bal] [Inhabited Bal] [DecidableEq Ledg] [Inhabited Ledg] [DecidableEq Leg] [Inhabited Leg]
attribute [local go_sem ↓] Go.wp_at_zero Go.wp_at_succ

theorem eqInVot (a b c d : Int) (w : World) : (Op.equalIn 10000 43 (.agg #[.int .i64 a, .int .i64 b]) (.agg #[.int .i64 c, .int .i64 d])).run Tryz.prog w = .ok (decide (a = c) && decide (b = d)) w := by
  rw [run_equalIn_struct w 9999 43 _ _ (by kernel_rfl) (by kernel_rfl)]
  have hf : (Tryz.prog.fieldsOf 43).toList = [{ name := "Ballot", type := 2, offset := 0, embedded := false, tag := "", pkgPath := "", byteOffset := 0 }, { name := "Value", type := 2, offset := 1, embedded := false, tag := "", pkgPath := "", byteOffset := 8 }] := by kernel_rfl
  rw [hf]
  simp [Op.eqFields, go_sem]
  by_cases e1 : a = c <;> by_cases e2 : b = d <;> simp [e1, e2]
theorem eqlVot (a b c d : Int) (w : World) : (binOp .eql 43 (.agg #[.int .i64 a, .int .i64 b]) (.agg #[.int .i64 c, .int .i64 d])).run Tryz.prog w = .ok (.bool (decide (a = c) && decide (b = d))) w := by
  rw [run_eql_struct, eqInVot]
  rfl
theorem neqVot (a b c d : Int) (w : World) : (binOp .neq 43 (.agg #[.int .i64 a, .int .i64 b]) (.agg #[.int .i64 c, .int .i64 d])).run Tryz.prog w = .ok (.bool (!(decide (a = c) && decide (b = d)))) w := by
  rw [run_neq_struct, eqInVot]
  rfl
set_option maxHeartbeats 400000 in
theorem l8None_any (w : World) : Calls Tryz.prog 42 #[] w fun e w' => e = .returned (.agg #[.int .i64 (-1), .int .i64 0]) ∧ Below w.heap.size w w' := by
  go_enter Tryz.func42, Tryz.ntmps42
  go_wp2
  refine bodyPost_ret (v := .agg #[.int .i64 (-1), .int .i64 0]) ?_ rfl ⟨rfl, by (repeat (first | exact Below.refl _ _ | assumption | refine Below.drew ?_ | refine balloc ?_ _ | refine bset ?_ (by simp; omega) _ | refine bset ?_ (by simp) _ | refine bstep ?_ (by assumption)))⟩
  simp [results, Tryz.results42, go_sem]
set_option maxHeartbeats 400000 in
theorem noVote_any (w : World) : Calls Tryz.prog 82 #[] w fun e w' => e = .returned (.agg #[.int .i64 (-1), .int .i64 0]) ∧ Below w.heap.size w w' := by
  go_enter Tryz.func82, Tryz.ntmps82
  go_wp2
  refine bodyPost_ret (v := .agg #[.int .i64 (-1), .int .i64 0]) ?_ rfl ⟨rfl, by (repeat (first | exact Below.refl _ _ | assumption | refine Below.drew ?_ | refine balloc ?_ _ | refine bset ?_ (by simp; omega) _ | refine bset ?_ (by simp) _ | refine bstep ?_ (by assumption)))⟩
  simp [results, Tryz.results82, go_sem]
theorem l8Ballot_any (n : Int) (w : World) : Calls Tryz.prog 40 #[.int .i64 n] w fun e w' => e = .returned (.bool (inB n 0 1000)) ∧ w' = w := by
  go_enter Tryz.func40, Tryz.ntmps40
  go_wp2_with (go_at_call 36; refine (l1In_any _ _ _ _).mono ?_; rintro e w' ⟨rfl, rfl⟩)
  go_ret
  exact ⟨rfl, rfl⟩
theorem l8Value_any (n : Int) (w : World) : Calls Tryz.prog 41 #[.int .i64 n] w fun e w' => e = .returned (.bool (inB n 1 2)) ∧ w' = w := by
  have e : inB n 1 2 = (decide (n = 1) || decide (n = 2)) := by rw [Bool.eq_iff_iff, inBi]; simp; omega
  rw [e]
  clear e
  by_cases h1 : n = 1
  · subst h1
    go_enter Tryz.func41, Tryz.ntmps41
    go_wp2
    go_ret
    exact ⟨rfl, rfl⟩
  · go_enter Tryz.func41, Tryz.ntmps41
    go_wp2
    all_goals
      go_ret
      exact ⟨by first | (simp_all; done) | (simp_all; rw [Bool.eq_iff_iff]; simp; done) | (simp_all; rw [Bool.eq_iff_iff]; simp; omega), rfl⟩
theorem isBallot_any (n : Int) (w : World) : Calls Tryz.prog 57 #[.int .i64 n] w fun e w' => e = .returned (.bool (inB n 0 1000)) ∧ w' = w := by
  go_enter Tryz.func57, Tryz.ntmps57
  go_wp2_with (go_at_call 22; refine (within_any _ _ _ _).mono ?_; rintro e w' ⟨rfl, rfl⟩)
  go_ret
  exact ⟨rfl, rfl⟩
theorem isValue_any (n : Int) (w : World) : Calls Tryz.prog 83 #[.int .i64 n] w fun e w' => e = .returned (.bool (inB n 1 2)) ∧ w' = w := by
  go_enter Tryz.func83, Tryz.ntmps83
  go_wp2_with (go_at_call 22; refine (within_any _ _ _ _).mono ?_; rintro e w' ⟨rfl, rfl⟩)
  go_ret
  exact ⟨rfl, rfl⟩
theorem isVote_any (x : Vot) (w : World) : Calls Tryz.prog 58 #[.agg #[.int .i64 x.bal, .int .i64 x.val]] w fun e w' => e = .returned (.bool (votB x)) ∧ Below w.heap.size w w' := by
  unfold votB
  cases h1 : inB x.bal 0 1000
  all_goals
    go_enter Tryz.func58, Tryz.ntmps58
    go_wp2_with (first | (go_at_call 57; refine (isBallot_any _ _).mono ?_; rintro e w' ⟨rfl, rfl⟩) | (go_at_call 83; refine (isValue_any _ _).mono ?_; rintro e w' ⟨rfl, rfl⟩))
    go_ret
    exact ⟨by simp, by (repeat (first | exact Below.refl _ _ | assumption | refine Below.drew ?_ | refine balloc ?_ _ | refine bset ?_ (by simp; omega) _ | refine bset ?_ (by simp) _ | refine bstep ?_ (by assumption)))⟩
end Go.Proofs.YtggigaghfcpbbaaGreat

/-
  A number put into a rising list (the specification's own helper).
-/
namespace Go.Proofs.YtggigaghfcpbbaaGreat
open Go.RowKit
set_option linter.unusedSectionVars false
variable [DecidableEq Leg] [Inhabited Leg]
attribute [local go_sem ↓] Go.wp_at_zero Go.wp_at_succ

def ahead (ys : List Int) (v : Int) : Nat := (ys.takeWhile (· < v)).length
def putI (ys : List Int) (v : Int) : List Int := if ys.getD (ahead ys v) (v + 1) = v then ys else ys.take (ahead ys v) ++ [v] ++ ys.drop (ahead ys v)
theorem ahead_le (ys : List Int) (v : Int) : ahead ys v ≤ ys.length := List.Sublist.length_le (List.takeWhile_sublist _)
theorem ahead_lt : ∀ (ys : List Int) (v : Int) (j : Nat), j < ahead ys v → ys.getD j 0 < v
  | [], v, j, h => by simp [ahead] at h
  | y :: r, v, j, h => by
    unfold ahead at h
    rw [List.takeWhile_cons] at h
    split at h
    · rename_i hy
      cases j with
      | zero => simpa using hy
      | succ j => simpa using ahead_lt r v j (by simpa [ahead] using h)
    · simp at h
theorem ahead_stop : ∀ (ys : List Int) (v : Int), ahead ys v < ys.length → ¬ ys.getD (ahead ys v) 0 < v
  | [], v, h => by simp at h
  | y :: r, v, h => by
    unfold ahead at h ⊢
    rw [List.takeWhile_cons] at h ⊢
    split
    · rename_i hy
      rw [if_pos hy] at h
      simpa [ahead] using ahead_stop r v (by simpa [ahead] using h)
    · rename_i hy
      simpa using hy
theorem ahead_eq (ys : List Int) (v : Int) (k : Nat) (hk : k ≤ ys.length) (h1 : ∀ j, j < k → ys.getD j 0 < v) (h2 : k < ys.length → ¬ ys.getD k 0 < v) : ahead ys v = k := by
  rcases Nat.lt_trichotomy (ahead ys v) k with h | h | h
  · exact absurd (h1 _ h) (ahead_stop ys v (by omega))
  · exact h
  · exact absurd (ahead_lt ys v k h) (h2 (by have := ahead_le ys v; omega))
section
variable {P : Program} (w : World)
theorem step_app {ops : Array Oper} {o : Oper} {a : Act} {K : Act → World → Prop} {Q : Exit → Act → World → Prop} {E : Prop} (hgd : o.guard = none) (s x : Operand) (t : TypeId)
    (ho : o.op = .call { callee := .builtin .append, args := #[s, x], argTypes := #[t, t] })
    (base : Nat) (e : TypeId) (i : TypeInfo) (z : Value) (size bytes : Nat) (ht : P.underlying t = some (.slice e)) (hi : P.info? e = some i) (hz : i.zero = some z)
    (hsize : i.size = size) (hby : i.bytes = bytes) (hzs : z.cells.size = size) (hsz : 0 < size)
    (v : Value) (n : Nat) (xs : List Value) (hs : a.eval s = v) (ad : Addr) (m c : Nat) (news : List Value) (hx : a.eval x = .slice (some ad) m c)
    (hown : w.ownsRow base e size v n xs) (hnews : ∀ j u, news[j]? = some u → w.cell? (ad.add j) = some u) (hl : news.length = m * size) (h1 : ∀ u ∈ news, u.oneCell' = true)
    (h63 : n + m ≤ maxLen) (hbytes : (n + m) * bytes ≤ 140737488355328) (hbase : base ≤ w.heap.size)
    (h : ∀ v' w', w'.ownsRow base e size v' (n + m) (xs ++ news) → w.grownBy w' v.ownBlock → (v' = .slice none 0 0 ↔ v = .slice none 0 0 ∧ m = 0) → (∀ W : World, Below base W w → Below base W w') → K (a.put o.dst v') w') :
    if Region.wanted o (yielded ops a.tmps) = true then Oper.wp P o a w K Q else E := by
  have hw : Region.wanted o (yielded ops a.tmps) = true := by simp [Region.wanted, hgd]
  rw [if_pos hw]
  exact wp_append_own w s x t ho base e i z size bytes ht hi hz hsize hby hzs hsz v n xs hs hown ad m c news hx hl hnews h1 h63 hbytes hbase (fun v' w' q1 q2 q3 => h v' w' q1 q2 q3 (fun W hW => hW.grown q2 hbase (fun k hk => (hown.lt k hk).1)))
end

theorem intsC_one (ys : List Int) : ∀ u ∈ intsC ys, u.oneCell' = true := by
  intro u hu
  simp only [intsC, List.mem_map] at hu
  obtain ⟨y, _, rfl⟩ := hu
  rfl
theorem ints_src {w : World} {b o k m : Nat} {ys : List Int} (h : ∀ i, i < ys.length → w.cell? ⟨b, o + i, none⟩ = some (.int .i64 (ys.getD i 0))) (hkm : k + m ≤ ys.length) {zs : List Int} (hz : zs = (ys.drop k).take m) :
    ∀ j u, (intsC zs)[j]? = some u → w.cell? ((⟨b, o + k, none⟩ : Addr).add j) = some u := by
  intro j u hj
  subst hz
  simp only [intsC, List.getElem?_map, List.getElem?_take, List.getElem?_drop] at hj
  split at hj
  · rename_i hjm
    have := h (k + j) (by omega)
    have e : ys[k + j]? = some (ys.getD (k + j) 0) := by simp [List.getD, show k + j < ys.length by omega]
    rw [e] at hj
    simp at hj
    subst hj
    have ea : ((⟨b, o + k, none⟩ : Addr).add j) = ⟨b, o + (k + j), none⟩ := by
      unfold Addr.add
      split
      · rename_i h0; subst h0; simp
      · simp [Nat.add_assoc]
    rw [ea, this]
    simp [List.getD]
  · simp at hj
theorem heap_two (w : World) (A B : Obj) : ((w.alloc A).alloc B).heap[w.heap.size]? = some A := by
  have h : ((w.alloc A).alloc B).heap[w.heap.size]? = (w.alloc A).heap[w.heap.size]? := Below.heap_alloc _ _ _ (by simp)
  rw [h]
  exact Go.heap_alloc_new w A
theorem heap_two' (w : World) (A B : Obj) : ((w.alloc B).alloc A).heap[w.heap.size + 1]? = some A := by
  have h := Go.heap_alloc_new (w.alloc B) A
  rwa [World.size_alloc] at h
theorem own_lit0 {w' : World} {base g : Nat} (hg : w'.heap[g]? = some (.cells #[] 2 (0, 0))) (hb : base ≤ g) : w'.ownsRow base 2 1 (.slice (some ⟨g, 0, none⟩) 0 0) 0 [] :=
  ⟨rfl, .inr ⟨g, 0, #[], rfl, hb, hg, Nat.le_refl _, by unfold maxLen; omega, rfl, rfl⟩⟩
theorem len_take {ys : List Int} {n k : Nat} (h : ys.length = n) (hk : k ≤ n) : (intsC (ys.take k)).length = k * 1 := by simp [intsC]; omega
theorem len_drop {ys : List Int} {n k : Nat} (h : ys.length = n) : (intsC (ys.drop k)).length = (n - k) * 1 := by simp [intsC]; omega
theorem len_end {ys : List Int} {n k : Nat} (h : ys.length = n) (hk : n ≤ k) : (intsC (ys.drop k)).length = 0 * 1 := by simp [intsC]; omega
theorem len_one (v : Int) : (intsC [v]).length = 1 * 1 := rfl
theorem src_end {w' : World} {ad : Addr} {k n : Nat} {ys : List Int} (hn : ys.length = n) (hk : n ≤ k) : ∀ j u, (intsC (ys.drop k))[j]? = some u → w'.cell? (ad.add j) = some u := by
  intro j u hj
  rw [List.drop_eq_nil_of_le (by omega)] at hj
  simp [intsC] at hj
theorem src_one {w' : World} {g : Nat} {v : Int} (h : w'.cell? ⟨g, 0, none⟩ = some (.int .i64 v)) : ∀ j u, (intsC [v])[j]? = some u → w'.cell? ((⟨g, 0, none⟩ : Addr).add j) = some u := by
  intro j u hj
  match j, hj with
  | 0, hj => simp [intsC] at hj; subst hj; simpa [Addr.add] using h
  | j + 1, hj => simp [intsC] at hj
theorem src_lo {w w' : World} {b o k n : Nat} {ys : List Int} (h : ys.length = n ∧ ∀ i, i < n → w.cell? ⟨b, o + i, none⟩ = some (.int .i64 (ys.getD i 0))) (hk : k ≤ n) (hb : Below w.heap.size w w') :
    ∀ j u, (intsC (ys.take k))[j]? = some u → w'.cell? ((⟨b, o, none⟩ : Addr).add j) = some u := by
  obtain ⟨hn, h⟩ := h
  have := ints_src (w := w) (b := b) (o := o) (k := 0) (m := k) (ys := ys) (by rw [hn]; exact h) (by omega) (zs := ys.take k) (by simp)
  intro j u hj
  exact cell_keep hb (this j u hj)
theorem src_hi {w w' : World} {b o k n : Nat} {ys : List Int} (h : ys.length = n ∧ ∀ i, i < n → w.cell? ⟨b, o + i, none⟩ = some (.int .i64 (ys.getD i 0))) (hk : k ≤ n) (hb : Below w.heap.size w w') :
    ∀ j u, (intsC (ys.drop k))[j]? = some u → w'.cell? ((⟨b, o + k, none⟩ : Addr).add j) = some u := by
  obtain ⟨hn, h⟩ := h
  have := ints_src (w := w) (b := b) (o := o) (k := k) (m := n - k) (ys := ys) (by rw [hn]; exact h) (by omega) (zs := ys.drop k) (by rw [List.take_of_length_le (by simp; omega)])
  intro j u hj
  exact cell_keep hb (this j u hj)
set_option maxHeartbeats 1000000 in
theorem l1Put_any (b o cap base : Nat) (ys : List Int) (v : Int) (w : World) (hn : ys.length ≤ 1048576) (hbase : base ≤ w.heap.size) (ho : w.ownsRow base 2 1 (.slice (some ⟨b, o, none⟩) ys.length cap) ys.length (intsC ys)) :
    Calls Tryz.prog 94 #[.slice (some ⟨b, o, none⟩) ys.length cap, .int .i64 v] w fun r w' => ∃ u, r = .returned u ∧ w'.ownsRow base 2 1 u (putI ys v).length (intsC (putI ys v)) ∧ ¬ u = .slice none 0 0 ∧ Below w.heap.size w w' := by
  have hv := IntsV_of_owns ho
  obtain ⟨a', cap', he, hcc, hmm, hcell⟩ := hv
  simp only [Value.slice.injEq, true_and] at he
  obtain ⟨rfl, rfl⟩ := he
  unfold maxLen at hmm
  obtain ⟨i0, hi, hz0, hz1, hz2⟩ := info_parts infoInt
  have HC : Hid (ys.length = ys.length ∧ ∀ i, i < ys.length → w.cell? ⟨b, o + i, none⟩ = some (.int .i64 (ys.getD i 0))) := ⟨rfl, fun i hi => by
    obtain ⟨b', o', hh, hc⟩ := hcell i hi
    simp only [Option.some.injEq, Addr.mk.injEq, and_true] at hh
    obtain ⟨rfl, rfl⟩ := hh
    exact hc⟩
  clear hcell
  obtain ⟨n, hn'⟩ : ∃ n, n = ys.length := ⟨_, rfl⟩
  rw [← hn'] at hn hcc ho ⊢
  replace HC : Hid (ys.length = n ∧ ∀ i, i < n → w.cell? ⟨b, o + i, none⟩ = some (.int .i64 (ys.getD i 0))) := by rw [hn']; exact HC.out
  have HN : Hid (ys.length = n) := hn'.symm
  clear hn'
  have HOW : Hid (w.ownsRow base 2 1 (.slice (some ⟨b, o, none⟩) n cap) n (intsC ys)) := ho
  clear ho
  go_enter Tryz.func94, Tryz.ntmps94
  go_wp2
  go_loopw [5] (fun i w' => ∃ k : Nat, k ≤ n ∧ i = .int .i64 k ∧ (∀ j, j < k → ys.getD j 0 < v) ∧ w' = w) (fun i _ => n - (intOf i).toNat)
  case atStart => exact ⟨0, Nat.zero_le _, rfl, fun j h => by omega, rfl⟩
  case round =>
    obtain ⟨k, hkn, rfl, hp, hwr⟩ := hrel
    replace hwr := hwr.symm
    subst hwr
    have HP : Hid (∀ j, j < k → ys.getD j 0 < v) := hp
    clear hp
    have hk0 : (0 : Int) ≤ (k : Int) := by omega
    have hk1 : (k : Int) ≤ (cap : Int) := by omega
    have hk2 : (k : Int) ≤ (n : Int) := by omega
    by_cases hlt : k < n
    · have h1 := HC.out.2 k hlt
      obtain ⟨y, hy⟩ : ∃ y, y = ys.getD k 0 := ⟨_, rfl⟩
      rw [← hy] at h1
      have HY : Hid (y = ys.getD k 0) := hy
      clear hy
      have hlt' : (k : Int) < (n : Int) := by omega
      by_cases hyv : y < v
      · go_wp2
        refine ⟨⟨k + 1, by omega, by go_num, fun j hj => ?_, trivial⟩, by simp [intOf]; omega⟩
        by_cases hjk : j < k
        · exact HP.out j hjk
        · have : j = k := by omega
          subst this
          rw [← HY.out]; exact hyv
      · by_cases hye : y = v
        · have hd : (y == v) = true := by simpa using hye
          have HE : Hid (y = v) := hye
          clear hye
          go_wp2
          go_ret
          have e : putI ys v = ys := by
            unfold putI
            rw [ahead_eq ys v k (by have := HN.out; omega) HP.out (fun _ => by rw [← HY.out]; omega), if_pos]
            have e : k < ys.length := by have := HN.out; omega
            rw [← HE.out, HY.out]
            simp [List.getD, e]
          refine ⟨_, rfl, ?_, by simp, Below.refl _ _⟩
          rw [e, HN.out]
          exact HOW.out
        · have hd : (y == v) = false := by simpa using hye
          have hck : ¬ cap = k := by omega
          have HSTOP : Hid (k < ys.length → ¬ ys.getD k 0 < v) := fun _ => by rw [← HY.out]; omega
          have HNE : Hid (¬ ys.getD k (v + 1) = v) := fun h => hye (by rw [HY.out]; have e : k < ys.length := (by have := HN.out; omega); simpa [List.getD, e] using h)
          go_wp2
          go_region_held3 (fun w' => Below w.heap.size w w') (repeat (first | exact Below.refl _ _ | assumption | refine Below.drew ?_ | refine balloc ?_ _ | refine bstep ?_ (by assumption))) ((apply step_app (t := 83) (base := w.heap.size) (e := 2) (i := i0) (size := 1) (bytes := 8) (ht := Tryz.underlying83) (hi := hi) (hz := hz0) (hsize := hz1) (hby := hz2) (hzs := rfl) (hsz := Nat.one_pos); rfl; rfl; rfl; rfl; (first | exact hown | exact hown.alloc _ | (focus (refine own_lit0 ?_ ?_; (focus (first | exact heap_alloc_new _ _ | exact heap_two _ _ _ | exact heap_two' _ _ _)); (focus (first | exact Nat.le_refl _ | exact Nat.le_add_right _ _))))); (first | (exact src_lo HC.out hkn (by repeat (first | exact Below.refl _ _ | assumption | refine Below.drew ?_ | refine balloc ?_ _ | refine bstep ?_ (by assumption))); (first | exact len_take HC.out.1 hkn | exact len_drop HC.out.1 | exact len_one _ | exact len_end HC.out.1 hkm)) | (exact src_hi HC.out hkn (by repeat (first | exact Below.refl _ _ | assumption | refine Below.drew ?_ | refine balloc ?_ _ | refine bstep ?_ (by assumption))); (first | exact len_take HC.out.1 hkn | exact len_drop HC.out.1 | exact len_one _ | exact len_end HC.out.1 hkm)) | ((focus (refine src_one (v := v) ?_; simp [go_sem]; done)); (first | exact len_take HC.out.1 hkn | exact len_drop HC.out.1 | exact len_one _ | exact len_end HC.out.1 hkm)) | ((focus (refine src_one (v := v) ?_; refine hgrow.cell (v := .int .i64 v) ?_ ?_; (focus (simp [go_sem]; done)); (first | (focus (show some (w.heap.size + 1) ≠ some w.heap.size; simp; done)) | (focus (show some w.heap.size ≠ some (w.heap.size + 1); simp; done))))); (first | exact len_take HC.out.1 hkn | exact len_drop HC.out.1 | exact len_one _ | exact len_end HC.out.1 hkm)) | (exact src_end HC.out.1 hkm; (first | exact len_take HC.out.1 hkn | exact len_drop HC.out.1 | exact len_one _ | exact len_end HC.out.1 hkm))); (exact intsC_one _); (focus (unfold maxLen; omega)); (focus omega); (exact Below.size (by repeat (first | exact Below.refl _ _ | assumption | refine Below.drew ?_ | refine balloc ?_ _ | refine bstep ?_ (by assumption)))); intro va wa hown hgrow hnil hbel; have hba := hbel w (by repeat (first | exact Below.refl _ _ | assumption | refine Below.drew ?_ | refine balloc ?_ _ | refine bstep ?_ (by assumption)))))
          all_goals
            go_wp2
            go_ret
            refine ⟨va, rfl, ?_, ?_, hba⟩
            · have e : putI ys v = ys.take k ++ [v] ++ ys.drop k := by
                unfold putI
                rw [ahead_eq ys v k (by have := HN.out; omega) HP.out (fun h => by have := HSTOP.out h; omega), if_neg HNE.out]
              have l : (putI ys v).length = 0 + k + 1 + (n - k) := by
                rw [e]; have := HN.out; simp only [List.length_append, List.length_take, List.length_drop, List.length_cons, List.length_nil]; omega
              rw [l, e]
              refine owns_base (base := w.heap.size) ?_ hbase
              simpa [intsC] using hown
            · intro h
              have q := hown.2
              rw [h] at q
              rcases q with ⟨_, q⟩ | ⟨g, c, cu, q, _⟩
              · omega
              · simp at q
    · have hlt' : ¬ (k : Int) < (n : Int) := by omega
      have hkm : n ≤ k := by omega
      have HSTOP : Hid (k < ys.length → ¬ ys.getD k 0 < v) := fun h => by have := HN.out; omega
      have HNE : Hid (¬ ys.getD k (v + 1) = v) := fun h => by
        have e : ys[k]? = none := List.getElem?_eq_none (by have := HN.out; omega)
        simp [List.getD, e] at h
        omega
      by_cases hck : cap = k
      · go_wp2
        go_region_held3 (fun w' => Below w.heap.size w w') (repeat (first | exact Below.refl _ _ | assumption | refine Below.drew ?_ | refine balloc ?_ _ | refine bstep ?_ (by assumption))) ((apply step_app (t := 83) (base := w.heap.size) (e := 2) (i := i0) (size := 1) (bytes := 8) (ht := Tryz.underlying83) (hi := hi) (hz := hz0) (hsize := hz1) (hby := hz2) (hzs := rfl) (hsz := Nat.one_pos); rfl; rfl; rfl; rfl; (first | exact hown | exact hown.alloc _ | (focus (refine own_lit0 ?_ ?_; (focus (first | exact heap_alloc_new _ _ | exact heap_two _ _ _ | exact heap_two' _ _ _)); (focus (first | exact Nat.le_refl _ | exact Nat.le_add_right _ _))))); (first | (exact src_lo HC.out hkn (by repeat (first | exact Below.refl _ _ | assumption | refine Below.drew ?_ | refine balloc ?_ _ | refine bstep ?_ (by assumption))); (first | exact len_take HC.out.1 hkn | exact len_drop HC.out.1 | exact len_one _ | exact len_end HC.out.1 hkm)) | (exact src_hi HC.out hkn (by repeat (first | exact Below.refl _ _ | assumption | refine Below.drew ?_ | refine balloc ?_ _ | refine bstep ?_ (by assumption))); (first | exact len_take HC.out.1 hkn | exact len_drop HC.out.1 | exact len_one _ | exact len_end HC.out.1 hkm)) | ((focus (refine src_one (v := v) ?_; simp [go_sem]; done)); (first | exact len_take HC.out.1 hkn | exact len_drop HC.out.1 | exact len_one _ | exact len_end HC.out.1 hkm)) | ((focus (refine src_one (v := v) ?_; refine hgrow.cell (v := .int .i64 v) ?_ ?_; (focus (simp [go_sem]; done)); (first | (focus (show some (w.heap.size + 1) ≠ some w.heap.size; simp; done)) | (focus (show some w.heap.size ≠ some (w.heap.size + 1); simp; done))))); (first | exact len_take HC.out.1 hkn | exact len_drop HC.out.1 | exact len_one _ | exact len_end HC.out.1 hkm)) | (exact src_end HC.out.1 hkm; (first | exact len_take HC.out.1 hkn | exact len_drop HC.out.1 | exact len_one _ | exact len_end HC.out.1 hkm))); (exact intsC_one _); (focus (unfold maxLen; omega)); (focus omega); (exact Below.size (by repeat (first | exact Below.refl _ _ | assumption | refine Below.drew ?_ | refine balloc ?_ _ | refine bstep ?_ (by assumption)))); intro va wa hown hgrow hnil hbel; have hba := hbel w (by repeat (first | exact Below.refl _ _ | assumption | refine Below.drew ?_ | refine balloc ?_ _ | refine bstep ?_ (by assumption)))))
        all_goals
            go_wp2
            go_ret
            refine ⟨va, rfl, ?_, ?_, hba⟩
            · have e : putI ys v = ys.take k ++ [v] ++ ys.drop k := by
                unfold putI
                rw [ahead_eq ys v k (by have := HN.out; omega) HP.out (fun h => by have := HSTOP.out h; omega), if_neg HNE.out]
              have l : (putI ys v).length = 0 + k + 1 := by
                rw [e]; have := HN.out; simp only [List.length_append, List.length_take, List.length_drop, List.length_cons, List.length_nil]; omega
              rw [l, e]
              refine owns_base (base := w.heap.size) ?_ hbase
              simpa [intsC] using hown
            · intro h
              have q := hown.2
              rw [h] at q
              rcases q with ⟨_, q⟩ | ⟨g, c, cu, q, _⟩
              · omega
              · simp at q
      · go_wp2
        go_region_held3 (fun w' => Below w.heap.size w w') (repeat (first | exact Below.refl _ _ | assumption | refine Below.drew ?_ | refine balloc ?_ _ | refine bstep ?_ (by assumption))) ((apply step_app (t := 83) (base := w.heap.size) (e := 2) (i := i0) (size := 1) (bytes := 8) (ht := Tryz.underlying83) (hi := hi) (hz := hz0) (hsize := hz1) (hby := hz2) (hzs := rfl) (hsz := Nat.one_pos); rfl; rfl; rfl; rfl; (first | exact hown | exact hown.alloc _ | (focus (refine own_lit0 ?_ ?_; (focus (first | exact heap_alloc_new _ _ | exact heap_two _ _ _ | exact heap_two' _ _ _)); (focus (first | exact Nat.le_refl _ | exact Nat.le_add_right _ _))))); (first | (exact src_lo HC.out hkn (by repeat (first | exact Below.refl _ _ | assumption | refine Below.drew ?_ | refine balloc ?_ _ | refine bstep ?_ (by assumption))); (first | exact len_take HC.out.1 hkn | exact len_drop HC.out.1 | exact len_one _ | exact len_end HC.out.1 hkm)) | (exact src_hi HC.out hkn (by repeat (first | exact Below.refl _ _ | assumption | refine Below.drew ?_ | refine balloc ?_ _ | refine bstep ?_ (by assumption))); (first | exact len_take HC.out.1 hkn | exact len_drop HC.out.1 | exact len_one _ | exact len_end HC.out.1 hkm)) | ((focus (refine src_one (v := v) ?_; simp [go_sem]; done)); (first | exact len_take HC.out.1 hkn | exact len_drop HC.out.1 | exact len_one _ | exact len_end HC.out.1 hkm)) | ((focus (refine src_one (v := v) ?_; refine hgrow.cell (v := .int .i64 v) ?_ ?_; (focus (simp [go_sem]; done)); (first | (focus (show some (w.heap.size + 1) ≠ some w.heap.size; simp; done)) | (focus (show some w.heap.size ≠ some (w.heap.size + 1); simp; done))))); (first | exact len_take HC.out.1 hkn | exact len_drop HC.out.1 | exact len_one _ | exact len_end HC.out.1 hkm)) | (exact src_end HC.out.1 hkm; (first | exact len_take HC.out.1 hkn | exact len_drop HC.out.1 | exact len_one _ | exact len_end HC.out.1 hkm))); (exact intsC_one _); (focus (unfold maxLen; omega)); (focus omega); (exact Below.size (by repeat (first | exact Below.refl _ _ | assumption | refine Below.drew ?_ | refine balloc ?_ _ | refine bstep ?_ (by assumption)))); intro va wa hown hgrow hnil hbel; have hba := hbel w (by repeat (first | exact Below.refl _ _ | assumption | refine Below.drew ?_ | refine balloc ?_ _ | refine bstep ?_ (by assumption)))))
        all_goals
            go_wp2
            go_ret
            refine ⟨va, rfl, ?_, ?_, hba⟩
            · have e : putI ys v = ys.take k ++ [v] ++ ys.drop k := by
                unfold putI
                rw [ahead_eq ys v k (by have := HN.out; omega) HP.out (fun h => by have := HSTOP.out h; omega), if_neg HNE.out]
              have l : (putI ys v).length = 0 + k + 1 := by
                rw [e]; have := HN.out; simp only [List.length_append, List.length_take, List.length_drop, List.length_cons, List.length_nil]; omega
              rw [l, e]
              refine owns_base (base := w.heap.size) ?_ hbase
              simpa [intsC] using hown
            · intro h
              have q := hown.2
              rw [h] at q
              rcases q with ⟨_, q⟩ | ⟨g, c, cu, q, _⟩
              · omega
              · simp at q
end Go.Proofs.YtggigaghfcpbbaaGreat

/-
  What is asked of a contract, as plain mathematics: the first leg that is wrong, and the sums of the assets.
-/
namespace Go.Proofs.YtggigaghfcpbbaaGreat
open Go.RowKit
set_option linter.unusedSectionVars false
variable [DecidableEq Leg] [Inhabited Leg]

theorem take_snoc (xs : List Leg) (k : Nat) (h : k < xs.length) : xs.take (k + 1) = xs.take k ++ [xs.getD k default] := by
  rw [List.take_succ_eq_append_getElem h]
  simp [List.getD, h]
end Go.Proofs.YtggigaghfcpbbaaGreat

/-
  ShardsOf on both sides.
-/
namespace Go.Proofs.YtggigaghfcpbbaaGreat
open Go.RowKit
set_option linter.unusedSectionVars false
variable [DecidableEq Leg] [Inhabited Leg]
attribute [local go_sem ↓] Go.wp_at_zero Go.wp_at_succ

def hasS (xs : List Leg) (s : Int) : Bool := xs.any (fun l => l.sh == s)
theorem hasS_snoc (xs : List Leg) (k : Nat) (h : k < xs.length) (s : Int) : hasS (xs.take (k + 1)) s = (hasS (xs.take k) s || (xs.getD k default).sh == s) := by
  rw [take_snoc xs k h]; simp [hasS]
end Go.Proofs.YtggigaghfcpbbaaGreat


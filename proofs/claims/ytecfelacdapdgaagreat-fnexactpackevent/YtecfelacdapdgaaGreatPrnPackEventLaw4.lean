import Derived.Test.YtecfelacdapdgaaGreatPrnPackEventLaw2
import Derived.Deep.RegionHeld3
import Derived.Deep.DrawnRows
import Derived.BigQuiet
import Derived.Deep.QuietTactic
import Derived.Test.YtecfelacdapdgaaGreatPrnPackEventLaw1
import Derived.Deep.DeepAppendRoom
import Derived.PlainAid
import Derived.Laws.BitsAllLaws

/-
  Rows of bytes: copied, compared, counted, marked and read back.
-/
namespace Go.Proofs.YtecfelacdapdgaaGreat
open Go.RowKit
attribute [local go_sem ↓] Go.wp_at_zero Go.wp_at_succ

abbrev Byte := Fin 256
def toB (n : Int) : Byte := ⟨(n % 256).toNat, by omega⟩
theorem toB_val (n : Int) : ((toB n).val : Int) = n % 256 := by simp only [toB]; omega
theorem wrapB (n : Int) : IntKind.u8.wrap n = ((toB n).val : Int) := by rw [toB_val, IntKind.wrap_u8]
def bytesC (ys : List Byte) : List Value := ys.map (fun b => Value.int .u8 (b.val : Int))
theorem length_bytesC (ys : List Byte) : (bytesC ys).length = ys.length := by simp [bytesC]
theorem bytesC_append (xs ys : List Byte) : bytesC (xs ++ ys) = bytesC xs ++ bytesC ys := by simp [bytesC]
theorem bytesC_one (xs : List Byte) : ∀ u ∈ bytesC xs, u.oneCell' = true := by
  intro u hu
  simp only [bytesC, List.mem_map] at hu
  obtain ⟨b, _, rfl⟩ := hu
  rfl
theorem get_bytesC (ys : List Byte) (i : Nat) (h : i < ys.length) : (bytesC ys)[i]? = some (.int .u8 ((ys.getD i 0).val : Int)) := by
  simp [bytesC, List.getD, h]
theorem infoByte : (Tryz.prog.info? 5).map (fun i => (i.zero, i.size, i.bytes)) = some (some (.int .u8 0), 1, 1) := by kernel_rfl
def BytesV (w : World) (v : Value) (ys : List Byte) : Prop :=
  ∃ a cap, v = .slice a ys.length cap ∧ ys.length ≤ cap ∧ cap ≤ maxLen ∧ ∀ i, i < ys.length → ∃ b o, a = some ⟨b, o, none⟩ ∧ w.cell? ⟨b, o + i, none⟩ = some (.int .u8 ((ys.getD i 0).val : Int))
theorem BytesV_below {w w' : World} {v : Value} {ys : List Byte} (h : BytesV w v ys) (hb : Below w.heap.size w w') : BytesV w' v ys := by
  obtain ⟨a, cap, rfl, h1, h2, h3⟩ := h
  exact ⟨a, cap, rfl, h1, h2, fun i hi => by
    obtain ⟨b, o, ha, hc⟩ := h3 i hi
    exact ⟨b, o, ha, cell_keep hb hc⟩⟩
theorem BytesV_of_owns {w : World} {base e : Nat} {v : Value} {ys : List Byte} (h : w.ownsRow base e 1 v ys.length (bytesC ys)) : BytesV w v ys := by
  rcases h.2 with ⟨rfl, hn⟩ | ⟨g, cap, cur, rfl, hb, hg, hnc, hcm, hcs, htake⟩
  · exact ⟨none, 0, by rw [hn], by omega, by unfold maxLen; omega, fun i hi => by omega⟩
  · refine ⟨some ⟨g, 0, none⟩, cap, rfl, hnc, hcm, fun i hi => ⟨g, 0, rfl, ?_⟩⟩
    rw [Nat.zero_add]
    exact (h.cellAt i (by omega)).trans (get_bytesC ys i hi)
theorem bytes_eq_of {xs ys : List Byte} (hl : ys.length = xs.length) (h : ∀ j, j < xs.length → xs.getD j 0 = ys.getD j 0) : xs = ys := by
  apply List.ext_getElem (by omega)
  intro i h1 h2
  have := h i h1
  simpa [List.getD, h1, h2] using this
set_option maxHeartbeats 1000000 in
theorem eqByteS_any (x y : Value) (xs ys : List Byte) (w : World) (hx : BytesV w x xs) (hy : BytesV w y ys) :
    Calls Tryz.prog 22 #[x, y] w fun e w' => e = .returned (.bool (decide (xs = ys))) ∧ Below w.heap.size w w' := by
  obtain ⟨ax, cx, rfl, hcx, hmx, hx⟩ := hx
  obtain ⟨ay, cy, rfl, hcy, hmy, hy⟩ := hy
  unfold maxLen at hmx hmy
  by_cases hl : ys.length = xs.length
  · rw [hl] at hcy hy ⊢
    have HL : Hid (ys.length = xs.length) := hl
    clear hl
    generalize hn : xs.length = n at *
    have HN : Hid (xs.length = n) := hn
    clear hn
    go_enter Tryz.func22, Tryz.ntmps22
    go_wp2
    go_loopw [5] (fun i w' => ∃ k : Nat, k ≤ n ∧ i = .int .i64 k ∧ (∀ j, j < k → xs.getD j 0 = ys.getD j 0) ∧ Below w.heap.size w w') (fun i _ => n - (intOf i).toNat)
    case atStart => exact ⟨0, Nat.zero_le _, rfl, fun j h => absurd h (Nat.not_lt_zero _), Below.refl _ _⟩
    case round =>
      obtain ⟨k, hk, rfl, hpre, hbl⟩ := hrel
      have HP : Hid (∀ j, j < k → xs.getD j 0 = ys.getD j 0) := hpre
      clear hpre
      by_cases hlt : k < n
      · obtain ⟨bx, ox, rfl, h1⟩ := hx k hlt
        obtain ⟨b2, oy, rfl, h2⟩ := hy k hlt
        obtain ⟨l1, hl1⟩ : ∃ l : Int, l = ((xs.getD k 0).val : Int) := ⟨_, rfl⟩
        obtain ⟨l2, hl2⟩ : ∃ l : Int, l = ((ys.getD k 0).val : Int) := ⟨_, rfl⟩
        rw [← hl1] at h1
        rw [← hl2] at h2
        have H1 : Hid (l1 = ((xs.getD k 0).val : Int)) := hl1
        have H2 : Hid (l2 = ((ys.getD k 0).val : Int)) := hl2
        clear hl1 hl2 hx hy
        go_wp2
        go_region_held3 (fun w' => Below w.heap.size w w' ∧ w'.cell? ⟨bx, ox + k, none⟩ = some (.int .u8 l1) ∧ w'.cell? ⟨b2, oy + k, none⟩ = some (.int .u8 l2)) ((refine keepC2 ?_ h1 h2; repeat (first | exact Below.refl _ _ | assumption | refine Below.drew ?_ | refine balloc ?_ _ | refine bstep ?_ (by assumption)))) (fail)
        rename_i hH
        have hB := hH.1
        clear hH
        go_wp2
        · rename_i hle
          go_ret
          refine ⟨?_, hB⟩
          have : ¬ xs = ys := fun h => by
            have : l1 = l2 := by rw [H1.out, H2.out, h]
            simp [this] at hle
          simp [this]
        · rename_i hle
          refine ⟨⟨k + 1, by omega, by go_num, fun j hj => ?_, hB⟩, by simp [intOf]; omega⟩
          by_cases hjk : j < k
          · exact HP.out j hjk
          · have : j = k := by omega
            subst this
            have e : l1 = l2 := by simpa using hle
            rw [H1.out, H2.out] at e
            exact Fin.ext (by omega)
      · go_wp2
        go_ret
        have : k = n := by omega
        subst this
        refine ⟨?_, hbl⟩
        have : xs = ys := bytes_eq_of (by rw [HL.out, HN.out]) (by rw [HN.out]; exact HP.out)
        simp [this]
  · go_enter Tryz.func22, Tryz.ntmps22
    have hl' : ((xs.length : Int) == (ys.length : Int)) = false := by simp; omega
    go_wp2
    go_ret
    have : ¬ xs = ys := fun h => hl (by rw [h])
    exact ⟨by simp [this], Below.refl _ _⟩
def marksB (k : Int) (n : Nat) : List Byte := (List.range n).map (fun i : Nat => toB (k + (i : Int)))
theorem length_marksB (k : Int) (n : Nat) : (marksB k n).length = n := by simp [marksB]
theorem getD_marksB (k : Int) (n i : Nat) (h : i < n) : (marksB k n).getD i 0 = toB (k + i) := by simp [marksB, List.getD, h]
def uptoB (k : Nat) (cs : List Value) (ys : List Byte) : Prop := ∀ j, j < k → cs[j]? = (bytesC ys)[j]?
theorem uptoB_full {n : Nat} {cs : List Value} {ys : List Byte} (h : uptoB n cs ys) (hl : cs.length = n * 1) (hn : ys.length = n) : cs = bytesC ys := by
  apply List.ext_getElem?
  intro j
  by_cases hj : j < n
  · exact h j hj
  · rw [List.getElem?_eq_none (by omega), List.getElem?_eq_none (by simp [bytesC]; omega)]
theorem uptoB_set {k : Nat} {cs : List Value} {ys : List Byte} {l : Int} (h : uptoB k cs ys) (hk : k < ys.length) (hl : cs.length = ys.length * 1) (he : l = ((ys.getD k 0).val : Int)) : uptoB (k + 1) (cs.set k (.int .u8 l)) ys := by
  intro j hj
  rw [List.getElem?_set]
  by_cases e : k = j
  · subst e
    rw [if_pos rfl, if_pos (by omega), get_bytesC ys k hk, he]
  · rw [if_neg e]
    exact h j (by omega)
theorem grownB_refl (w : World) (r : Option Nat) : w.grownBy w r := ⟨rfl, rfl, rfl, Nat.le_refl _, fun _ _ _ => rfl⟩
set_option maxHeartbeats 1000000 in
theorem markByteS_any (v : Value) (n : Nat) (cs : List Value) (base e : Nat) (k : Int) (w : World) (ho : w.ownsRow base e 1 v n cs) (hn : n ≤ 1048576) (hk0 : 0 ≤ k) (hk1 : k ≤ 1073741824) :
    Calls Tryz.prog 23 #[v, .int .i64 k] w fun r w' => r = .returned (.int .i64 (k + n)) ∧ w'.ownsRow base e 1 v n (bytesC (marksB k n)) ∧ w.grownBy w' v.ownBlock := by
  rcases ho.2 with ⟨rfl, rfl⟩ | ⟨g, cap, cur, rfl, hb, hg, hnc, hcm, _, _⟩
  · go_enter Tryz.func23, Tryz.ntmps23
    go_wp2
    go_loopw [1, 5] (fun q i w' => q = .int .i64 k ∧ i = .int .i64 0 ∧ w' = w) (fun _ _ _ => 0)
    case atStart => exact ⟨rfl, rfl, rfl⟩
    case round =>
      obtain ⟨rfl, rfl, rfl⟩ := hrel
      go_wp2
      go_ret
      exact ⟨by simp, World.ownsRow_nil _ _ _ _, grownB_refl _ _⟩
  · unfold maxLen at hcm
    go_enter Tryz.func23, Tryz.ntmps23
    go_wp2
    go_loopw [1, 5] (fun q i w' => ∃ (j : Nat) (cs' : List Value), j ≤ n ∧ i = .int .i64 j ∧ q = .int .i64 (k + j) ∧ w'.ownsRow base e 1 (.slice (some ⟨g, 0, none⟩) n cap) n cs' ∧ uptoB j cs' (marksB k n) ∧ w.grownBy w' (some g)) (fun _ i _ => n - (intOf i).toNat)
    case atStart => exact ⟨0, cs, Nat.zero_le _, rfl, by simp, ho, fun j h => by omega, grownB_refl _ _⟩
    case round =>
      obtain ⟨j, cs', hj, rfl, rfl, ho1, hup, hgr⟩ := hrel
      have HU : Hid (uptoB j cs' (marksB k n)) := hup
      clear hup ho hg
      by_cases hlt : j < n
      · obtain ⟨u0, g0⟩ := owns_some ho1 j (by omega)
        have hf := fun j => ho1.frozenAt j
        obtain ⟨q, hq⟩ : ∃ q, q = IntKind.u8.wrap (k + (j : Int)) := ⟨_, rfl⟩
        have hq' := hq.symm
        have HQ : Hid (q = IntKind.u8.wrap (k + (j : Int))) := hq
        clear hq
        go_wp2
        have s0 := ho1.stored j (.int .u8 q)
        refine ⟨⟨j + 1, _, by omega, by go_num, ?_, s0.1, uptoB_set HU.out (by rw [length_marksB]; exact hlt) (by rw [length_marksB]; exact ho1.1) (by rw [getD_marksB k n j hlt, HQ.out, wrapB]), grownTrans hgr s0.2⟩, by simp [intOf]; omega⟩
        congr 1
        omega
      · go_wp2
        go_ret
        have hjn : j = n := by omega
        subst hjn
        have e' := uptoB_full HU.out ho1.1 (length_marksB k j)
        rw [e'] at ho1
        exact ⟨rfl, ho1, hgr⟩
set_option maxHeartbeats 1000000 in
theorem heldByteS_any (v : Value) (n : Nat) (k : Int) (w : World) (hv : BytesV w v (marksB k n)) (hn : n ≤ 1048576) (hk0 : 0 ≤ k) (hk1 : k ≤ 1073741824) :
    Calls Tryz.prog 45 #[v, .int .i64 k] w fun r w' => r = .returned (.int .i64 (k + n)) ∧ w' = w := by
  obtain ⟨a, cap, rfl, hnc, hcm, hc⟩ := hv
  rw [length_marksB] at hnc hc ⊢
  unfold maxLen at hcm
  go_enter Tryz.func45, Tryz.ntmps45
  go_wp2
  go_loopw [1, 5] (fun q i w' => ∃ j : Nat, j ≤ n ∧ i = .int .i64 j ∧ q = .int .i64 (k + j) ∧ w' = w) (fun _ i _ => n - (intOf i).toNat)
  case atStart => exact ⟨0, Nat.zero_le _, rfl, by simp, rfl⟩
  case round =>
    obtain ⟨j, hj, rfl, rfl, rfl⟩ := hrel
    by_cases hlt : j < n
    · obtain ⟨b, o, rfl, h1⟩ := hc j hlt
      rw [getD_marksB k n j hlt, ← wrapB] at h1
      clear hc
      generalize hq : IntKind.u8.wrap (k + (j : Int)) = q at h1
      go_wp2
      refine ⟨⟨j + 1, by omega, by go_num, ?_, trivial⟩, by simp [intOf]; omega⟩
      congr 1
      omega
    · go_wp2
      go_ret
      have hjn : j = n := by omega
      subst hjn
      exact ⟨rfl, rfl⟩
end Go.Proofs.YtecfelacdapdgaaGreat

/-
  Appending what lies anywhere, or nothing.
-/
namespace Go.Proofs.YtecfelacdapdgaaGreat
open Go.RowKit

def AppAny (w : World) (u : Value) (m : Nat) (news : List Value) : Prop :=
  (∃ c, u = .slice none 0 c ∧ m = 0 ∧ news = []) ∨ ∃ ad c, u = .slice (some ad) m c ∧ ∀ j x, news[j]? = some x → w.cell? (ad.add j) = some x
section
variable {P : Program} (w : World)
theorem run_append_none_any (base : Nat) (t ty e : TypeId) (i : TypeInfo) (size c : Nat) (ht : P.underlying t = some (.slice e)) (hi : P.info? e = some i)
    (v : Value) (n : Nat) (xs : List Value) (hown : w.ownsRow base e size v n xs) :
    (Builtin.append_ #[t, t] ty #[v, .slice none 0 c]).run P w = .ok v w := by
  rcases hown.2 with ⟨rfl, rfl⟩ | ⟨g, cap, cur, rfl, _, _, hnc, _⟩
  · simp [Builtin.append_, run_underlying ht, sizeOf, typeInfo, hi, Builtin.lenOf, Builtin.firstCells]
  · simp [Builtin.append_, run_underlying ht, sizeOf, typeInfo, hi, Builtin.lenOf, Builtin.firstCells, hnc, storeCells]
theorem wp_appAny {o : Oper} {a : Act} {K : Act → World → Prop} {Q : Exit → Act → World → Prop} (s x : Operand) (t : TypeId)
    (ho : o.op = .call { callee := .builtin .append, args := #[s, x], argTypes := #[t, t] })
    (base : Nat) (e : TypeId) (i : TypeInfo) (z : Value) (size bytes : Nat) (ht : P.underlying t = some (.slice e)) (hi : P.info? e = some i) (hz : i.zero = some z)
    (hsize : i.size = size) (hby : i.bytes = bytes) (hzs : z.cells.size = size) (hsz : 0 < size)
    (v : Value) (n : Nat) (xs : List Value) (hs : a.eval s = v) (u : Value) (m : Nat) (news : List Value) (hx : a.eval x = u)
    (hown : w.ownsRow base e size v n xs) (hsrc : AppAny w u m news) (hl : news.length = m * size) (h1 : ∀ u ∈ news, u.oneCell' = true)
    (h63 : n + m ≤ maxLen) (hbytes : (n + m) * bytes ≤ 140737488355328) (hbase : base ≤ w.heap.size)
    (h : ∀ v' w', w'.ownsRow base e size v' (n + m) (xs ++ news) → w.grownBy w' v.ownBlock → (∀ W : World, Below base W w → Below base W w') → K (a.put o.dst v') w') : o.wp P a w K Q := by
  rcases hsrc with ⟨c, rfl, rfl, rfl⟩ | ⟨ad, c, rfl, hnews⟩
  · have hr := run_append_none_any (P := P) w base t o.type e i size c ht hi v n xs hown
    unfold Oper.wp execOp
    simp only [ho, resolve, invoke, builtin, Sem.run_bind, Sem.run_pure, Result.andThen_ok, List.map_toArray, List.map_cons, List.map_nil, hs, hx, hr]
    exact h v w (by simpa using hown) ⟨rfl, rfl, rfl, Nat.le_refl _, fun _ _ _ => rfl⟩ (fun _ hW => hW)
  · exact wp_append_own w s x t ho base e i z size bytes ht hi hz hsize hby hzs hsz v n xs hs hown ad m c news hx hl hnews h1 h63 hbytes hbase (fun v' w' q1 q2 _ => h v' w' q1 q2 (fun W hW => hW.grown q2 hbase (fun k hk => (hown.lt k hk).1)))
theorem wpList_appAny {ops : Array Oper} {rest : List Oper} {o : Oper} {a : Act} {Q : Exit → Act → World → Prop} (hgd : o.guard = none) (s x : Operand) (t : TypeId)
    (ho : o.op = .call { callee := .builtin .append, args := #[s, x], argTypes := #[t, t] })
    (base : Nat) (e : TypeId) (i : TypeInfo) (z : Value) (size bytes : Nat) (ht : P.underlying t = some (.slice e)) (hi : P.info? e = some i) (hz : i.zero = some z)
    (hsize : i.size = size) (hby : i.bytes = bytes) (hzs : z.cells.size = size) (hsz : 0 < size)
    (v : Value) (n : Nat) (xs : List Value) (hs : a.eval s = v) (u : Value) (m : Nat) (news : List Value) (hx : a.eval x = u)
    (hown : w.ownsRow base e size v n xs) (hsrc : AppAny w u m news) (hl : news.length = m * size) (h1 : ∀ u ∈ news, u.oneCell' = true)
    (h63 : n + m ≤ maxLen) (hbytes : (n + m) * bytes ≤ 140737488355328) (hbase : base ≤ w.heap.size)
    (h : ∀ v' w', w'.ownsRow base e size v' (n + m) (xs ++ news) → w.grownBy w' v.ownBlock → (∀ W : World, Below base W w → Below base W w') → wpList P ops Q rest (a.put o.dst v') w') :
    wpList P ops Q (o :: rest) a w := by
  refine wpList_plain hgd fun K' hK' => ?_
  exact wp_appAny w s x t ho base e i z size bytes ht hi hz hsize hby hzs hsz v n xs hs u m news hx hown hsrc hl h1 h63 hbytes hbase (fun v' w' q1 q2 q3 => hK' _ _ (h v' w' q1 q2 q3))
end

end Go.Proofs.YtecfelacdapdgaaGreat

/-
  Appending bytes.
-/
namespace Go.Proofs.YtecfelacdapdgaaGreat
open Go.RowKit

theorem appAny_bytes {w : World} {v : Value} {xs : List Byte} (h : BytesV w v xs) : AppAny w v xs.length (bytesC xs) := by
  obtain ⟨a, c, rfl, _, _, hc⟩ := h
  cases a with
  | none =>
    have h0 : xs = [] := by
      cases xs with
      | nil => rfl
      | cons x r => obtain ⟨b, o, e, _⟩ := hc 0 (by simp); cases e
    subst h0
    exact .inl ⟨c, rfl, rfl, rfl⟩
  | some ad =>
    refine .inr ⟨ad, c, rfl, fun j x hj => ?_⟩
    have hjl : j < xs.length := by
      have := (List.getElem?_eq_some_iff.1 hj).1
      rw [length_bytesC] at this
      exact this
    obtain ⟨b, o, e, g0⟩ := hc j hjl
    simp only [Option.some.injEq] at e
    subst e
    have hadd : (Addr.mk b o none).add j = ⟨b, o + j, none⟩ := by
      by_cases h : j = 0
      · subst h; simp [Addr.add]
      · simp [Addr.add, h]
    rw [hadd, g0, ← get_bytesC xs j hjl]
    exact hj
theorem appAny_one {w : World} {g : Nat} {c : Nat} {b : Byte} {q : Int} (h : w.cell? ⟨g, 0, none⟩ = some (.int .u8 q)) (hq : q = (b.val : Int)) : AppAny w (.slice (some ⟨g, 0, none⟩) 1 c) 1 (bytesC [b]) := by
  subst hq
  refine .inr ⟨_, _, rfl, fun j x hj => ?_⟩
  match j, hj with
  | 0, hj => simp [bytesC] at hj; subst hj; simpa [Addr.add] using h
  | j + 1, hj => simp [bytesC] at hj
theorem appAny_three {w : World} {g : Nat} {c : Nat} {b0 b1 b2 : Byte} {q0 q1 q2 : Int} (h0 : w.cell? ⟨g, 0, none⟩ = some (.int .u8 q0)) (h1 : w.cell? ⟨g, 1, none⟩ = some (.int .u8 q1)) (h2 : w.cell? ⟨g, 2, none⟩ = some (.int .u8 q2))
    (e0 : q0 = (b0.val : Int)) (e1 : q1 = (b1.val : Int)) (e2 : q2 = (b2.val : Int)) : AppAny w (.slice (some ⟨g, 0, none⟩) 3 c) 3 (bytesC [b0, b1, b2]) := by
  subst e0 e1 e2
  refine .inr ⟨_, _, rfl, fun j x hj => ?_⟩
  match j, hj with
  | 0, hj => simp [bytesC] at hj; subst hj; simpa [Addr.add] using h0
  | 1, hj => simp [bytesC] at hj; subst hj; simpa [Addr.add] using h1
  | 2, hj => simp [bytesC] at hj; subst hj; simpa [Addr.add] using h2
  | j + 3, hj => simp [bytesC] at hj
theorem wpList_appB (w : World) {ops : Array Oper} {rest : List Oper} {o : Oper} {a : Act} {Q : Exit → Act → World → Prop} (hgd : o.guard = none) (s x : Operand)
    (ho : o.op = .call { callee := .builtin .append, args := #[s, x], argTypes := #[37, 37] })
    (base : Nat) (v : Value) (xs : List Byte) (hs : a.eval s = v) (u : Value) (ys : List Byte) (hx : a.eval x = u)
    (hown : w.ownsRow base 5 1 v xs.length (bytesC xs)) (hsrc : AppAny w u ys.length (bytesC ys)) (hlen : xs.length + ys.length ≤ 1073741824) (hbase : base ≤ w.heap.size)
    (h : ∀ v' w', w'.ownsRow base 5 1 v' (xs ++ ys).length (bytesC (xs ++ ys)) → w.grownBy w' v.ownBlock → (∀ W : World, Below base W w → Below base W w') → wpList Tryz.prog ops Q rest (a.put o.dst v') w') :
    wpList Tryz.prog ops Q (o :: rest) a w := by
  obtain ⟨i0, hi, hz0, hz1, hz2⟩ := info_parts infoByte
  refine wpList_appAny w hgd s x 37 ho base 5 i0 _ 1 1 Tryz.underlying37 hi hz0 hz1 hz2 rfl (by decide) v xs.length (bytesC xs) hs u ys.length (bytesC ys) hx hown hsrc (by rw [length_bytesC]; omega) (bytesC_one ys) (by unfold maxLen; omega) (by omega) hbase ?_
  intro v' w' h1 h2 h3
  refine h v' w' ?_ h2 h3
  rw [List.length_append, bytesC_append]
  exact h1
end Go.Proofs.YtecfelacdapdgaaGreat

/-
  Numbers as bytes, on both sides.
-/
namespace Go.Proofs.YtecfelacdapdgaaGreat
open Go.RowKit
attribute [local go_sem ↓] Go.wp_at_zero Go.wp_at_succ

def hiB (n : Int) (size : Nat) : List Byte := (List.range size).map (fun i => toB (n / 2 ^ (8 * (size - 1 - i))))
theorem length_hiB (n : Int) (size : Nat) : (hiB n size).length = size := by simp [hiB]
theorem getD_hiB (n : Int) (size i : Nat) (h : i < size) : (hiB n size).getD i 0 = toB (n / 2 ^ (8 * (size - 1 - i))) := by simp [hiB, List.getD, h]
theorem hiB_take (n : Int) (size i : Nat) (h : i < size) : (hiB n size).take (i + 1) = (hiB n size).take i ++ [toB (n / 2 ^ (8 * (size - 1 - i)))] := by
  rw [List.take_add_one]
  congr 1
  simp [hiB, h]
theorem toB_mod (n : Int) (k : Nat) (h : k ≤ 56) : toB (n % 18446744073709551616 / 2 ^ k) = toB (n / 2 ^ k) := by
  apply Fin.ext
  have e : ((toB (n % 18446744073709551616 / 2 ^ k)).val : Int) = ((toB (n / 2 ^ k)).val : Int) := by
    rw [toB_val, toB_val]
    have h1 : (18446744073709551616 : Int) = 2 ^ k * (256 * 2 ^ (56 - k)) := by
      rw [show (256 : Int) = 2 ^ 8 by decide, ← Int.pow_add, ← Int.pow_add, show k + (8 + (56 - k)) = 64 by omega]
      decide
    have h2 : (0 : Int) < 2 ^ k := Int.pow_pos (by omega)
    have h3 : n % 18446744073709551616 = n - 2 ^ k * (256 * 2 ^ (56 - k) * (n / 18446744073709551616)) := by
      rw [Int.emod_def, ← Int.mul_assoc, ← h1]
    rw [h3, Int.sub_eq_add_neg, ← Int.mul_neg, Int.add_mul_ediv_left _ _ (Int.ne_of_gt h2)]
    rw [show -(256 * 2 ^ (56 - k) * (n / 18446744073709551616)) = 256 * (-(2 ^ (56 - k) * (n / 18446744073709551616))) by rw [Int.mul_neg, Int.mul_assoc]]
    exact Int.add_mul_emod_self_left _ _ _
  omega
set_option maxHeartbeats 1000000 in
theorem specPack_any (n : Int) (w : World) :
    Calls Tryz.prog 74 #[.int .i64 n] w fun e w' => ∃ v, e = .returned v ∧ w'.ownsRow w.heap.size 5 1 v 8 (bytesC (hiB n 8)) ∧ Below w.heap.size w w' := by
  obtain ⟨i0, hi, hz0, hz1, hz2⟩ := info_parts infoByte
  go_enter Tryz.func74, Tryz.ntmps74
  go_wp2
  go_loopw [3, 4] (fun v i w' => ∃ (k : Nat) (j : Int), k ≤ 8 ∧ j = 7 - k ∧ i = .int .i64 j ∧ w'.ownsRow w.heap.size 5 1 v ((hiB n 8).take k).length (bytesC ((hiB n 8).take k)) ∧ Below w.heap.size w w') (fun _ i _ => 8 - (7 - intOf i).toNat)
  case atStart =>
    refine ⟨0, 7, by omega, by omega, rfl, ?_, balloc (Below.refl _ _) _⟩
    have := World.ownsRow_lit (base := w.heap.size) (e := 5) (size := 1) w #[] 0 (by simp) (by unfold maxLen; omega) rfl
    simpa [bytesC] using this
  case round =>
    obtain ⟨k, j, hk, hj, rfl, ho, hbl⟩ := hrel
    have HJ : Hid (k ≤ 8 ∧ j = 7 - (k : Int)) := ⟨hk, hj⟩
    by_cases hlt : 0 ≤ j
    · have j1 : j ≤ 7 := by omega
      have hk8 : k < 8 := by omega
      clear hj hk
      have hsz := hbl.size
      have hle : ((hiB n 8).take k).length ≤ 8 := by rw [List.length_take]; omega
      have e1 := hiB_take n 8 k hk8
      have HE : Hid ((hiB n 8).take (k + 1) = (hiB n 8).take k ++ [toB (n / 2 ^ (8 * (8 - 1 - k)))]) := e1
      clear e1 hk8
      generalize (hiB n 8).take k = ys at *
      obtain ⟨s, hs⟩ : ∃ s, s = 8 * j := ⟨_, rfl⟩
      have HS : Hid (s = 8 * j) := hs
      have v1 : IntKind.i64.wrap (8 * j) = s := by rw [IntKind.wrap_i64]; omega
      have v2 : IntKind.u64.wrap s = s := by rw [IntKind.wrap_u64]; omega
      have s0 : 0 ≤ s := by omega
      have s1 : s ≤ 56 := by omega
      obtain ⟨u, hu⟩ : ∃ u, IntKind.u64.wrap n = u := ⟨_, rfl⟩
      obtain ⟨q, hq⟩ : ∃ q, IntKind.u8.wrap (u / 2 ^ s.toNat) = q := ⟨_, rfl⟩
      clear hs
      go_wp2_with (at_builtin; refine wpList_appB _ rfl _ _ rfl w.heap.size _ ys rfl _ [toB (n / 2 ^ (8 * (8 - 1 - k)))] rfl (ho.alloc _) ?c1 ?c2 ?c3 ?_)
      case c1 =>
        refine appAny_one (g := wr.heap.size) (q := q) (by simp [go_sem]) ?_
        have e2 : s.toNat = 8 * (8 - 1 - k) := by have := HJ.out; have := HS.out; omega
        rw [← hq, wrapB, e2, ← hu, IntKind.wrap_u64, toB_mod _ _ (by omega)]
      case c2 => simp; omega
      case c3 => simp; omega
      · intro v' w1 ho' hg hB
        have hB1 := hB w (balloc hbl _)
        have h2 : World.ownsRow w1 w.heap.size 5 1 v' (ys ++ [toB (n / 2 ^ (8 * (8 - 1 - k)))]).length (bytesC (ys ++ [toB (n / 2 ^ (8 * (8 - 1 - k)))])) := by simpa using ho'
        have HO : Hid (World.ownsRow w1 w.heap.size 5 1 v' (ys ++ [toB (n / 2 ^ (8 * (8 - 1 - k)))]).length (bytesC (ys ++ [toB (n / 2 ^ (8 * (8 - 1 - k)))]))) := h2
        clear hB hg ho ho' h2
        go_wp2
        refine ⟨⟨k + 1, j - 1, by have := HJ.out; omega, by have := HJ.out; omega, rfl, ?_, hB1⟩, by simp [intOf]; omega⟩
        rw [HE.out]
        exact HO.out
    · clear hj hk

      go_wp2
      go_ret
      have hkn : k = 8 := by have := HJ.out; omega
      subst hkn
      rw [List.take_of_length_le (by rw [length_hiB]; omega), length_hiB] at ho
      exact ⟨_, rfl, ho, hbl⟩
def fromB (k n : Nat) (cs : List Value) (ys : List Byte) : Prop := ∀ j, n - k ≤ j → j < n → cs[j]? = (bytesC ys)[j]?
theorem fromB_set {k n : Nat} {cs : List Value} {ys : List Byte} {l : Int} (h : fromB k n cs ys) (hk : k < n) (hn : ys.length = n) (hl : cs.length = n * 1) (he : l = ((ys.getD (n - 1 - k) 0).val : Int)) : fromB (k + 1) n (cs.set (n - 1 - k) (.int .u8 l)) ys := by
  intro j h1 h2
  rw [List.getElem?_set]
  by_cases e : n - 1 - k = j
  · subst e
    rw [if_pos rfl, if_pos (by omega), get_bytesC ys _ (by omega), he]
  · rw [if_neg e]
    exact h j (by omega) h2
theorem fromB_full {n : Nat} {cs : List Value} {ys : List Byte} (h : fromB n n cs ys) (hl : cs.length = n * 1) (hn : ys.length = n) : cs = bytesC ys := by
  apply List.ext_getElem?
  intro j
  by_cases hj : j < n
  · exact h j (by omega) hj
  · rw [List.getElem?_eq_none (by omega), List.getElem?_eq_none (by simp [bytesC]; omega)]
theorem div_step (b : Int) (k : Nat) : b / 2 ^ (8 * k) / 256 = b / 2 ^ (8 * (k + 1)) := by
  rw [Int.ediv_ediv_of_nonneg (Int.pow_nonneg (by decide)), show (256 : Int) = 2 ^ 8 by decide, ← Int.pow_add, Nat.mul_add]
set_option maxHeartbeats 1000000 in
theorem highest_any (b z : Int) (n : Nat) (w : World) (hz : z = n) (hn : n ≤ 1048576) :
    Calls Tryz.prog 117 #[.int .u64 b, .int .i64 z] w fun e w' => ∃ v, e = .returned v ∧ w'.ownsRow w.heap.size 5 1 v n (bytesC (hiB b n)) ∧ Below w.heap.size w w' := by
  subst hz
  obtain ⟨i0, hi, hz0, hz1, hz2⟩ := info_parts infoByte
  obtain ⟨w1, hmk, hown, hgr⟩ := run_make_full (P := Tryz.prog) w w.heap.size 37 5 i0 _ 1 Tryz.underlying37 hi hz0 hz1 .i64 .i64 n (by rw [hz2]; omega) (by unfold maxLen; omega) (Nat.le_refl _)
  have hbl0 : Below w.heap.size w w1 := (Below.refl _ _).grown hgr (Nat.le_refl _) (fun k h => by cases h)
  go_enter Tryz.func117, Tryz.ntmps117
  go_wp2
  go_loopw [0, 6] (fun q i w' => ∃ (k : Nat) (j x : Int) (cs : List Value), k ≤ n ∧ j = n - 1 - k ∧ x = b / 2 ^ (8 * k) ∧ q = .int .u64 x ∧ i = .int .i64 j ∧ w'.ownsRow w.heap.size 5 1 (.slice (some ⟨w.heap.size, 0, none⟩) n n) n cs ∧ fromB k n cs (hiB b n) ∧ Below w.heap.size w w') (fun _ i _ => n - (n - 1 - intOf i).toNat)
  case atStart => exact ⟨0, n - 1, b, _, Nat.zero_le _, by omega, by simp, rfl, rfl, hown, fun j h1 h2 => by omega, hbl0⟩
  case round =>
    obtain ⟨k, j, x, cs, hk, hj, hx, rfl, rfl, ho, hup, hbl⟩ := hrel
    have HU : Hid (fromB k n cs (hiB b n)) := hup
    have HJ : Hid (k ≤ n ∧ j = n - 1 - k) := ⟨hk, hj⟩
    have HX : Hid (x = b / 2 ^ (8 * k)) := hx
    clear hup hown hmk hgr hbl0 hx
    by_cases hlt : 0 ≤ j
    · have hkn : k < n := by omega
      have ej : j = ((n - 1 - k : Nat) : Int) := by omega
      clear hj hk
      subst ej
      obtain ⟨u0, g0⟩ := owns_some ho (n - 1 - k) (by omega)
      have hf := fun j => ho.frozenAt j
      obtain ⟨q, hq⟩ : ∃ q, IntKind.u8.wrap x = q := ⟨_, rfl⟩
      have hin : n - 1 - k < n := by omega
      have HK : Hid (k < n) := hkn
      clear hkn
      generalize hm : n - 1 - k = m at *
      have HM : Hid (n - 1 - k = m) := hm
      clear hm
      have e1 : toB (b / 2 ^ (8 * k)) = (hiB b n).getD m 0 := by
        have := HK.out
        rw [← HM.out, getD_hiB b n _ (by omega), show n - 1 - (n - 1 - k) = k by omega]
      have HE : Hid (toB (b / 2 ^ (8 * k)) = (hiB b n).getD m 0) := e1
      clear e1
      go_wp2
      have s0 := ho.stored m (.int .u8 q)
      have hkn := HK.out
      have hm := HM.out
      refine ⟨⟨k + 1, _, _, _, by omega, ?_, ?_, rfl, rfl, s0.1, ?_, hbl.setCell (Nat.le_refl _) _⟩, ?_⟩
      · omega
      · rw [HX.out, div_step]
      · rw [← hm]
        refine fromB_set HU.out hkn (length_hiB _ _) ho.1 ?_
        rw [hm, ← HE.out, ← HX.out, ← wrapB, hq]
      · simp [intOf]; omega
    · clear hj hk
      go_wp2
      go_ret
      have hkn : k = n := by have := HJ.out; omega
      subst hkn
      have e := fromB_full HU.out ho.1 (length_hiB _ _)
      subst e
      exact ⟨_, rfl, ho, hbl⟩
set_option maxHeartbeats 1000000 in
theorem implPack_any (n : Int) (w : World) :
    Calls Tryz.prog 98 #[.int .i64 n] w fun e w' => ∃ v, e = .returned v ∧ w'.ownsRow w.heap.size 5 1 v 8 (bytesC (hiB n 8)) ∧ Below w.heap.size w w' := by
  obtain ⟨u, hu⟩ : ∃ u, IntKind.u64.wrap n = u := ⟨_, rfl⟩
  go_enter Tryz.func98, Tryz.ntmps98
  go_wp2_with fail
  refine (highest_any u 8 8 _ rfl (by omega)).mono ?_
  rintro e w1 ⟨v, rfl, ho, hb⟩
  go_wp2
  go_ret
  refine ⟨_, rfl, ?_, hb⟩
  have e : hiB u 8 = hiB n 8 := by
    unfold hiB
    apply List.map_congr_left
    intro i hi
    rw [← hu, IntKind.wrap_u64, toB_mod _ _ (by have := List.mem_range.1 hi; omega)]
  rw [← e]
  exact ho
end Go.Proofs.YtecfelacdapdgaaGreat


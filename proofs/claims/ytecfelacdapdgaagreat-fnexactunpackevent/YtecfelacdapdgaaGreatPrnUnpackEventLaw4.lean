import Derived.Test.YtecfelacdapdgaaGreatPrnUnpackEventLaw2
import Derived.Deep.RegionHeld3
import Derived.Deep.DrawnRows
import Derived.BigQuiet
import Derived.Deep.QuietTactic
import Derived.Test.YtecfelacdapdgaaGreatPrnUnpackEventLaw1
import Derived.Deep.DeepAppendRoom
import Derived.PlainAid
import Derived.Laws.BitsAllLaws

/-
  Rows of bytes: copied, compared, counted, marked and read back.
-/
namespace Go.Proofs.YtecfelacdapdgaaGreat
open Go.RowKit
attribute [local go_sem ↓] Go.wp_at_zero Go.wp_at_succ

abbrev Byte := Fin 256
def toB (n : Int) : Byte := ⟨(n % 256).toNat, by omega⟩
theorem toB_val (n : Int) : ((toB n).val : Int) = n % 256 := by simp only [toB]; omega
theorem wrapB (n : Int) : IntKind.u8.wrap n = ((toB n).val : Int) := by rw [toB_val, IntKind.wrap_u8]
theorem byte_lt (b : Byte) : (0 : Int) ≤ (b.val : Int) ∧ (b.val : Int) ≤ 255 := by have := b.isLt; omega
def bytesC (ys : List Byte) : List Value := ys.map (fun b => Value.int .u8 (b.val : Int))
theorem get_bytesC (ys : List Byte) (i : Nat) (h : i < ys.length) : (bytesC ys)[i]? = some (.int .u8 ((ys.getD i 0).val : Int)) := by
  simp [bytesC, List.getD, h]
theorem infoByte : (Tryz.prog.info? 5).map (fun i => (i.zero, i.size, i.bytes)) = some (some (.int .u8 0), 1, 1) := by kernel_rfl
def BytesV (w : World) (v : Value) (ys : List Byte) : Prop :=
  ∃ a cap, v = .slice a ys.length cap ∧ ys.length ≤ cap ∧ cap ≤ maxLen ∧ ∀ i, i < ys.length → ∃ b o, a = some ⟨b, o, none⟩ ∧ w.cell? ⟨b, o + i, none⟩ = some (.int .u8 ((ys.getD i 0).val : Int))
theorem BytesV_below {w w' : World} {v : Value} {ys : List Byte} (h : BytesV w v ys) (hb : Below w.heap.size w w') : BytesV w' v ys := by
  obtain ⟨a, cap, rfl, h1, h2, h3⟩ := h
  exact ⟨a, cap, rfl, h1, h2, fun i hi => by
    obtain ⟨b, o, ha, hc⟩ := h3 i hi
    exact ⟨b, o, ha, cell_keep hb hc⟩⟩
theorem BytesV_of_owns {w : World} {base e : Nat} {v : Value} {ys : List Byte} (h : w.ownsRow base e 1 v ys.length (bytesC ys)) : BytesV w v ys := by
  rcases h.2 with ⟨rfl, hn⟩ | ⟨g, cap, cur, rfl, hb, hg, hnc, hcm, hcs, htake⟩
  · exact ⟨none, 0, by rw [hn], by omega, by unfold maxLen; omega, fun i hi => by omega⟩
  · refine ⟨some ⟨g, 0, none⟩, cap, rfl, hnc, hcm, fun i hi => ⟨g, 0, rfl, ?_⟩⟩
    rw [Nat.zero_add]
    exact (h.cellAt i (by omega)).trans (get_bytesC ys i hi)
theorem bytes_eq_of {xs ys : List Byte} (hl : ys.length = xs.length) (h : ∀ j, j < xs.length → xs.getD j 0 = ys.getD j 0) : xs = ys := by
  apply List.ext_getElem (by omega)
  intro i h1 h2
  have := h i h1
  simpa [List.getD, h1, h2] using this
set_option maxHeartbeats 1000000 in
theorem eqByteS_any (x y : Value) (xs ys : List Byte) (w : World) (hx : BytesV w x xs) (hy : BytesV w y ys) :
    Calls Tryz.prog 22 #[x, y] w fun e w' => e = .returned (.bool (decide (xs = ys))) ∧ Below w.heap.size w w' := by
  obtain ⟨ax, cx, rfl, hcx, hmx, hx⟩ := hx
  obtain ⟨ay, cy, rfl, hcy, hmy, hy⟩ := hy
  unfold maxLen at hmx hmy
  by_cases hl : ys.length = xs.length
  · rw [hl] at hcy hy ⊢
    have HL : Hid (ys.length = xs.length) := hl
    clear hl
    generalize hn : xs.length = n at *
    have HN : Hid (xs.length = n) := hn
    clear hn
    go_enter Tryz.func22, Tryz.ntmps22
    go_wp2
    go_loopw [5] (fun i w' => ∃ k : Nat, k ≤ n ∧ i = .int .i64 k ∧ (∀ j, j < k → xs.getD j 0 = ys.getD j 0) ∧ Below w.heap.size w w') (fun i _ => n - (intOf i).toNat)
    case atStart => exact ⟨0, Nat.zero_le _, rfl, fun j h => absurd h (Nat.not_lt_zero _), Below.refl _ _⟩
    case round =>
      obtain ⟨k, hk, rfl, hpre, hbl⟩ := hrel
      have HP : Hid (∀ j, j < k → xs.getD j 0 = ys.getD j 0) := hpre
      clear hpre
      by_cases hlt : k < n
      · obtain ⟨bx, ox, rfl, h1⟩ := hx k hlt
        obtain ⟨b2, oy, rfl, h2⟩ := hy k hlt
        obtain ⟨l1, hl1⟩ : ∃ l : Int, l = ((xs.getD k 0).val : Int) := ⟨_, rfl⟩
        obtain ⟨l2, hl2⟩ : ∃ l : Int, l = ((ys.getD k 0).val : Int) := ⟨_, rfl⟩
        rw [← hl1] at h1
        rw [← hl2] at h2
        have H1 : Hid (l1 = ((xs.getD k 0).val : Int)) := hl1
        have H2 : Hid (l2 = ((ys.getD k 0).val : Int)) := hl2
        clear hl1 hl2 hx hy
        go_wp2
        go_region_held3 (fun w' => Below w.heap.size w w' ∧ w'.cell? ⟨bx, ox + k, none⟩ = some (.int .u8 l1) ∧ w'.cell? ⟨b2, oy + k, none⟩ = some (.int .u8 l2)) ((refine keepC2 ?_ h1 h2; repeat (first | exact Below.refl _ _ | assumption | refine Below.drew ?_ | refine balloc ?_ _ | refine bstep ?_ (by assumption)))) (fail)
        rename_i hH
        have hB := hH.1
        clear hH
        go_wp2
        · rename_i hle
          go_ret
          refine ⟨?_, hB⟩
          have : ¬ xs = ys := fun h => by
            have : l1 = l2 := by rw [H1.out, H2.out, h]
            simp [this] at hle
          simp [this]
        · rename_i hle
          refine ⟨⟨k + 1, by omega, by go_num, fun j hj => ?_, hB⟩, by simp [intOf]; omega⟩
          by_cases hjk : j < k
          · exact HP.out j hjk
          · have : j = k := by omega
            subst this
            have e : l1 = l2 := by simpa using hle
            rw [H1.out, H2.out] at e
            exact Fin.ext (by omega)
      · go_wp2
        go_ret
        have : k = n := by omega
        subst this
        refine ⟨?_, hbl⟩
        have : xs = ys := bytes_eq_of (by rw [HL.out, HN.out]) (by rw [HN.out]; exact HP.out)
        simp [this]
  · go_enter Tryz.func22, Tryz.ntmps22
    have hl' : ((xs.length : Int) == (ys.length : Int)) = false := by simp; omega
    go_wp2
    go_ret
    have : ¬ xs = ys := fun h => hl (by rw [h])
    exact ⟨by simp [this], Below.refl _ _⟩
def marksB (k : Int) (n : Nat) : List Byte := (List.range n).map (fun i : Nat => toB (k + (i : Int)))
theorem length_marksB (k : Int) (n : Nat) : (marksB k n).length = n := by simp [marksB]
theorem getD_marksB (k : Int) (n i : Nat) (h : i < n) : (marksB k n).getD i 0 = toB (k + i) := by simp [marksB, List.getD, h]
def uptoB (k : Nat) (cs : List Value) (ys : List Byte) : Prop := ∀ j, j < k → cs[j]? = (bytesC ys)[j]?
theorem uptoB_full {n : Nat} {cs : List Value} {ys : List Byte} (h : uptoB n cs ys) (hl : cs.length = n * 1) (hn : ys.length = n) : cs = bytesC ys := by
  apply List.ext_getElem?
  intro j
  by_cases hj : j < n
  · exact h j hj
  · rw [List.getElem?_eq_none (by omega), List.getElem?_eq_none (by simp [bytesC]; omega)]
theorem uptoB_set {k : Nat} {cs : List Value} {ys : List Byte} {l : Int} (h : uptoB k cs ys) (hk : k < ys.length) (hl : cs.length = ys.length * 1) (he : l = ((ys.getD k 0).val : Int)) : uptoB (k + 1) (cs.set k (.int .u8 l)) ys := by
  intro j hj
  rw [List.getElem?_set]
  by_cases e : k = j
  · subst e
    rw [if_pos rfl, if_pos (by omega), get_bytesC ys k hk, he]
  · rw [if_neg e]
    exact h j (by omega)
theorem grownB_refl (w : World) (r : Option Nat) : w.grownBy w r := ⟨rfl, rfl, rfl, Nat.le_refl _, fun _ _ _ => rfl⟩
set_option maxHeartbeats 1000000 in
theorem markByteS_any (v : Value) (n : Nat) (cs : List Value) (base e : Nat) (k : Int) (w : World) (ho : w.ownsRow base e 1 v n cs) (hn : n ≤ 1048576) (hk0 : 0 ≤ k) (hk1 : k ≤ 1073741824) :
    Calls Tryz.prog 23 #[v, .int .i64 k] w fun r w' => r = .returned (.int .i64 (k + n)) ∧ w'.ownsRow base e 1 v n (bytesC (marksB k n)) ∧ w.grownBy w' v.ownBlock := by
  rcases ho.2 with ⟨rfl, rfl⟩ | ⟨g, cap, cur, rfl, hb, hg, hnc, hcm, _, _⟩
  · go_enter Tryz.func23, Tryz.ntmps23
    go_wp2
    go_loopw [1, 5] (fun q i w' => q = .int .i64 k ∧ i = .int .i64 0 ∧ w' = w) (fun _ _ _ => 0)
    case atStart => exact ⟨rfl, rfl, rfl⟩
    case round =>
      obtain ⟨rfl, rfl, rfl⟩ := hrel
      go_wp2
      go_ret
      exact ⟨by simp, World.ownsRow_nil _ _ _ _, grownB_refl _ _⟩
  · unfold maxLen at hcm
    go_enter Tryz.func23, Tryz.ntmps23
    go_wp2
    go_loopw [1, 5] (fun q i w' => ∃ (j : Nat) (cs' : List Value), j ≤ n ∧ i = .int .i64 j ∧ q = .int .i64 (k + j) ∧ w'.ownsRow base e 1 (.slice (some ⟨g, 0, none⟩) n cap) n cs' ∧ uptoB j cs' (marksB k n) ∧ w.grownBy w' (some g)) (fun _ i _ => n - (intOf i).toNat)
    case atStart => exact ⟨0, cs, Nat.zero_le _, rfl, by simp, ho, fun j h => by omega, grownB_refl _ _⟩
    case round =>
      obtain ⟨j, cs', hj, rfl, rfl, ho1, hup, hgr⟩ := hrel
      have HU : Hid (uptoB j cs' (marksB k n)) := hup
      clear hup ho hg
      by_cases hlt : j < n
      · obtain ⟨u0, g0⟩ := owns_some ho1 j (by omega)
        have hf := fun j => ho1.frozenAt j
        obtain ⟨q, hq⟩ : ∃ q, q = IntKind.u8.wrap (k + (j : Int)) := ⟨_, rfl⟩
        have hq' := hq.symm
        have HQ : Hid (q = IntKind.u8.wrap (k + (j : Int))) := hq
        clear hq
        go_wp2
        have s0 := ho1.stored j (.int .u8 q)
        refine ⟨⟨j + 1, _, by omega, by go_num, ?_, s0.1, uptoB_set HU.out (by rw [length_marksB]; exact hlt) (by rw [length_marksB]; exact ho1.1) (by rw [getD_marksB k n j hlt, HQ.out, wrapB]), grownTrans hgr s0.2⟩, by simp [intOf]; omega⟩
        congr 1
        omega
      · go_wp2
        go_ret
        have hjn : j = n := by omega
        subst hjn
        have e' := uptoB_full HU.out ho1.1 (length_marksB k j)
        rw [e'] at ho1
        exact ⟨rfl, ho1, hgr⟩
set_option maxHeartbeats 1000000 in
theorem toByteS_any (x : Value) (xs : List Byte) (w : World) (hx : BytesV w x xs) (hn : xs.length ≤ 1048576) :
    Calls Tryz.prog 19 #[x] w fun e w' => ∃ v, e = .returned v ∧ w'.ownsRow w.heap.size 5 1 v xs.length (bytesC xs) ∧ Below w.heap.size w w' := by
  obtain ⟨ax, cx, rfl, hcx, hmx, hx⟩ := hx
  unfold maxLen at hmx
  obtain ⟨i0, hi, hz0, hz1, hz2⟩ := info_parts infoByte
  obtain ⟨w1, hmk, hown, hgr⟩ := run_make_full (P := Tryz.prog) w w.heap.size 37 5 i0 _ 1 Tryz.underlying37 hi hz0 hz1 .i64 .i64 xs.length (by rw [hz2]; omega) (by unfold maxLen; omega) (Nat.le_refl _)
  have hbl0 : Below w.heap.size w w1 := (Below.refl _ _).grown hgr (Nat.le_refl _) (fun k h => by cases h)
  generalize hn' : xs.length = n at *
  have HN : Hid (xs.length = n) := hn'
  clear hn'
  go_enter Tryz.func19, Tryz.ntmps19
  go_wp2
  go_loopw [4] (fun i w' => ∃ (k : Nat) (cs : List Value), k ≤ n ∧ i = .int .i64 k ∧ w'.ownsRow w.heap.size 5 1 (.slice (some ⟨w.heap.size, 0, none⟩) n n) n cs ∧ uptoB k cs xs ∧ Below w.heap.size w w') (fun i _ => n - (intOf i).toNat)
  case atStart => exact ⟨0, _, Nat.zero_le _, rfl, hown, fun j h => by omega, hbl0⟩
  case round =>
    obtain ⟨k, cs, hk, rfl, ho, hup, hbl⟩ := hrel
    have HU : Hid (uptoB k cs xs) := hup
    clear hup hown hmk hgr hbl0
    by_cases hlt : k < n
    · obtain ⟨bx, ox, rfl, h1⟩ := hx k hlt
      obtain ⟨l, hl⟩ : ∃ l : Int, l = ((xs.getD k 0).val : Int) := ⟨_, rfl⟩
      rw [← hl] at h1
      have H1 : Hid (l = ((xs.getD k 0).val : Int)) := hl
      clear hl hx
      have a1 := cell_keep hbl h1
      obtain ⟨u0, g0⟩ := owns_some ho k (by omega)
      have hf := fun j => ho.frozenAt j
      go_wp2
      have s0 := ho.stored k (.int .u8 l)
      refine ⟨⟨k + 1, _, by omega, by go_num, s0.1, uptoB_set HU.out (by have := HN.out; omega) (by have := HN.out; have := ho.1; omega) H1.out, ?_⟩, by simp [intOf]; omega⟩
      exact hbl.setCell (Nat.le_refl _) _
    · go_wp2
      go_ret
      have hkn : k = n := by omega
      subst hkn
      have e := uptoB_full HU.out ho.1 HN.out
      subst e
      exact ⟨_, rfl, ho, hbl⟩
end Go.Proofs.YtecfelacdapdgaaGreat

/-
  Appending what lies anywhere, or nothing.
-/
namespace Go.Proofs.YtecfelacdapdgaaGreat
open Go.RowKit

def AppAny (w : World) (u : Value) (m : Nat) (news : List Value) : Prop :=
  (∃ c, u = .slice none 0 c ∧ m = 0 ∧ news = []) ∨ ∃ ad c, u = .slice (some ad) m c ∧ ∀ j x, news[j]? = some x → w.cell? (ad.add j) = some x
section
variable {P : Program} (w : World)
theorem run_append_none_any (base : Nat) (t ty e : TypeId) (i : TypeInfo) (size c : Nat) (ht : P.underlying t = some (.slice e)) (hi : P.info? e = some i)
    (v : Value) (n : Nat) (xs : List Value) (hown : w.ownsRow base e size v n xs) :
    (Builtin.append_ #[t, t] ty #[v, .slice none 0 c]).run P w = .ok v w := by
  rcases hown.2 with ⟨rfl, rfl⟩ | ⟨g, cap, cur, rfl, _, _, hnc, _⟩
  · simp [Builtin.append_, run_underlying ht, sizeOf, typeInfo, hi, Builtin.lenOf, Builtin.firstCells]
  · simp [Builtin.append_, run_underlying ht, sizeOf, typeInfo, hi, Builtin.lenOf, Builtin.firstCells, hnc, storeCells]
theorem wp_appAny {o : Oper} {a : Act} {K : Act → World → Prop} {Q : Exit → Act → World → Prop} (s x : Operand) (t : TypeId)
    (ho : o.op = .call { callee := .builtin .append, args := #[s, x], argTypes := #[t, t] })
    (base : Nat) (e : TypeId) (i : TypeInfo) (z : Value) (size bytes : Nat) (ht : P.underlying t = some (.slice e)) (hi : P.info? e = some i) (hz : i.zero = some z)
    (hsize : i.size = size) (hby : i.bytes = bytes) (hzs : z.cells.size = size) (hsz : 0 < size)
    (v : Value) (n : Nat) (xs : List Value) (hs : a.eval s = v) (u : Value) (m : Nat) (news : List Value) (hx : a.eval x = u)
    (hown : w.ownsRow base e size v n xs) (hsrc : AppAny w u m news) (hl : news.length = m * size) (h1 : ∀ u ∈ news, u.oneCell' = true)
    (h63 : n + m ≤ maxLen) (hbytes : (n + m) * bytes ≤ 140737488355328) (hbase : base ≤ w.heap.size)
    (h : ∀ v' w', w'.ownsRow base e size v' (n + m) (xs ++ news) → w.grownBy w' v.ownBlock → (∀ W : World, Below base W w → Below base W w') → K (a.put o.dst v') w') : o.wp P a w K Q := by
  rcases hsrc with ⟨c, rfl, rfl, rfl⟩ | ⟨ad, c, rfl, hnews⟩
  · have hr := run_append_none_any (P := P) w base t o.type e i size c ht hi v n xs hown
    unfold Oper.wp execOp
    simp only [ho, resolve, invoke, builtin, Sem.run_bind, Sem.run_pure, Result.andThen_ok, List.map_toArray, List.map_cons, List.map_nil, hs, hx, hr]
    exact h v w (by simpa using hown) ⟨rfl, rfl, rfl, Nat.le_refl _, fun _ _ _ => rfl⟩ (fun _ hW => hW)
  · exact wp_append_own w s x t ho base e i z size bytes ht hi hz hsize hby hzs hsz v n xs hs hown ad m c news hx hl hnews h1 h63 hbytes hbase (fun v' w' q1 q2 _ => h v' w' q1 q2 (fun W hW => hW.grown q2 hbase (fun k hk => (hown.lt k hk).1)))
theorem step_appAny {ops : Array Oper} {o : Oper} {a : Act} {K : Act → World → Prop} {Q : Exit → Act → World → Prop} {E : Prop} (hgd : o.guard = none) (s x : Operand) (t : TypeId)
    (ho : o.op = .call { callee := .builtin .append, args := #[s, x], argTypes := #[t, t] })
    (base : Nat) (e : TypeId) (i : TypeInfo) (z : Value) (size bytes : Nat) (ht : P.underlying t = some (.slice e)) (hi : P.info? e = some i) (hz : i.zero = some z)
    (hsize : i.size = size) (hby : i.bytes = bytes) (hzs : z.cells.size = size) (hsz : 0 < size)
    (v : Value) (n : Nat) (xs : List Value) (hs : a.eval s = v) (u : Value) (m : Nat) (news : List Value) (hx : a.eval x = u)
    (hown : w.ownsRow base e size v n xs) (hsrc : AppAny w u m news) (hl : news.length = m * size) (h1 : ∀ u ∈ news, u.oneCell' = true)
    (h63 : n + m ≤ maxLen) (hbytes : (n + m) * bytes ≤ 140737488355328) (hbase : base ≤ w.heap.size)
    (h : ∀ v' w', w'.ownsRow base e size v' (n + m) (xs ++ news) → w.grownBy w' v.ownBlock → (∀ W : World, Below base W w → Below base W w') → K (a.put o.dst v') w') :
    if Region.wanted o (yielded ops a.tmps) = true then Oper.wp P o a w K Q else E := by
  have hw : Region.wanted o (yielded ops a.tmps) = true := by simp [Region.wanted, hgd]
  rw [if_pos hw]
  exact wp_appAny w s x t ho base e i z size bytes ht hi hz hsize hby hzs hsz v n xs hs u m news hx hown hsrc hl h1 h63 hbytes hbase h
end

end Go.Proofs.YtecfelacdapdgaaGreat

/-
  Numbers as bytes, on both sides.
-/
namespace Go.Proofs.YtecfelacdapdgaaGreat
open Go.RowKit
attribute [local go_sem ↓] Go.wp_at_zero Go.wp_at_succ

def hiN (xs : List Byte) : Int := xs.foldl (fun n b => n * 256 + (b.val : Int)) 0
theorem hiN_snoc (xs : List Byte) (b : Byte) : hiN (xs ++ [b]) = hiN xs * 256 + (b.val : Int) := by simp [hiN]
theorem take_snocB (xs : List Byte) (k : Nat) (h : k < xs.length) : xs.take (k + 1) = xs.take k ++ [xs.getD k 0] := by
  rw [List.take_add_one]
  congr 1
  simp [List.getD, h]
theorem hiN_take (xs : List Byte) (k : Nat) (h : k < xs.length) : hiN (xs.take (k + 1)) = hiN (xs.take k) * 256 + ((xs.getD k 0).val : Int) := by
  rw [take_snocB xs k h, hiN_snoc]
theorem wrap_mod (a : Int) : IntKind.i64.wrap (a % 18446744073709551616) = IntKind.i64.wrap a := by rw [IntKind.wrap_i64, IntKind.wrap_i64]; omega
set_option maxHeartbeats 1000000 in
theorem l3Number_any (x : Value) (xs : List Byte) (w : World) (hx : BytesV w x xs) (hn : 8 ≤ xs.length) :
    Calls Tryz.prog 77 #[x] w fun e w' => e = .returned (.int .i64 (IntKind.i64.wrap (hiN (xs.take 8)))) ∧ w' = w := by
  obtain ⟨ax, cx, rfl, hcx, hmx, hx⟩ := hx
  unfold maxLen at hmx
  have hT := hiN_take xs
  generalize hn' : xs.length = n at *
  have HN : Hid (xs.length = n) := hn'
  have HT : Hid (∀ k, k < n → hiN (xs.take (k + 1)) = hiN (xs.take k) * 256 + ((xs.getD k 0).val : Int)) := hT
  clear hn' hT
  go_enter Tryz.func77, Tryz.ntmps77
  go_wp2
  go_loopw [3, 4] (fun q i w' => ∃ (k : Nat) (y : Int), k ≤ 8 ∧ i = .int .i64 k ∧ y = hiN (xs.take k) % 18446744073709551616 ∧ q = .int .u64 y ∧ w' = w) (fun _ i _ => 8 - (intOf i).toNat)
  case atStart => exact ⟨0, 0, by omega, rfl, by simp [hiN], rfl, rfl⟩
  case round =>
    obtain ⟨k, y, hk, rfl, hy, rfl, rfl⟩ := hrel
    have HY : Hid (y = hiN (xs.take k) % 18446744073709551616) := hy
    clear hy
    by_cases hlt : k < 8
    · obtain ⟨bx, ox, rfl, h1⟩ := hx k (by omega)
      have e1 := HT.out k (by omega)
      have hb := byte_lt (xs.getD k 0)
      obtain ⟨l, hl⟩ : ∃ l : Int, l = ((xs.getD k 0).val : Int) := ⟨_, rfl⟩
      rw [← hl] at h1 e1 hb
      have HE : Hid (hiN (xs.take (k + 1)) = hiN (xs.take k) * 256 + l) := e1
      have v1 : IntKind.u64.wrap l = l := by rw [IntKind.wrap_u64]; omega
      obtain ⟨p, hp⟩ : ∃ p, IntKind.u64.wrap (y * 256) = p := ⟨_, rfl⟩
      obtain ⟨q, hq⟩ : ∃ q, IntKind.u64.wrap (p + l) = q := ⟨_, rfl⟩
      clear hl hx e1 hb
      go_wp2
      refine ⟨⟨k + 1, q, by omega, by go_num, ?_, rfl, trivial⟩, by simp [intOf]; omega⟩
      rw [HE.out, ← hq, ← hp, HY.out, IntKind.wrap_u64, IntKind.wrap_u64]
      omega
    · obtain ⟨q, hq⟩ : ∃ q, IntKind.i64.wrap y = q := ⟨_, rfl⟩
      go_wp2
      go_ret
      have hk8 : k = 8 := by omega
      subst hk8
      refine ⟨?_, rfl⟩
      rw [← hq, HY.out, wrap_mod]
      rfl
theorem or_byte (x l : Int) (hx0 : 0 ≤ x) (hx1 : x < 18446744073709551616) (h0 : 0 ≤ l) (h1 : l ≤ 255) :
    bits .or .u64 (IntKind.u64.wrap (x * 256)) l = (x * 256 + l) % 18446744073709551616 := by
  rw [IntKind.wrap_u64, u64_or _ _ (by omega) (by omega) (by omega) (by omega)]
  obtain ⟨X, rfl⟩ := Int.eq_ofNat_of_zero_le hx0
  obtain ⟨L, rfl⟩ := Int.eq_ofNat_of_zero_le h0
  have e1 : ((X : Int) * 256 % 18446744073709551616).toNat = (X % 72057594037927936) * 2 ^ 8 := by omega
  rw [e1, Int.toNat_natCast, Nat.mul_comm, ← Nat.two_pow_add_eq_or_of_lt (i := 8) (by omega) (X % 72057594037927936)]
  omega
set_option maxHeartbeats 1000000 in
theorem bitsIn_any (x : Value) (xs : List Byte) (w : World) (hx : BytesV w x xs) :
    Calls Tryz.prog 122 #[x] w fun e w' => e = .returned (.int .u64 (hiN xs % 18446744073709551616)) ∧ w' = w := by
  obtain ⟨ax, cx, rfl, hcx, hmx, hx⟩ := hx
  unfold maxLen at hmx
  have hT := hiN_take xs
  generalize hn' : xs.length = n at *
  have HN : Hid (xs.length = n) := hn'
  have HT : Hid (∀ k, k < n → hiN (xs.take (k + 1)) = hiN (xs.take k) * 256 + ((xs.getD k 0).val : Int)) := hT
  clear hn' hT
  go_enter Tryz.func122, Tryz.ntmps122
  go_wp2
  go_loopw [3, 8] (fun q i w' => ∃ (k : Nat) (y : Int), k ≤ n ∧ i = .int .i64 k ∧ y = hiN (xs.take k) % 18446744073709551616 ∧ q = .int .u64 y ∧ w' = w) (fun _ i _ => n - (intOf i).toNat)
  case atStart => exact ⟨0, 0, by omega, rfl, by simp [hiN], rfl, rfl⟩
  case round =>
    obtain ⟨k, y, hk, rfl, hy, rfl, rfl⟩ := hrel
    have y0 : 0 ≤ y := by omega
    have y1 : y < 18446744073709551616 := by omega
    have HY : Hid (y = hiN (xs.take k) % 18446744073709551616) := hy
    clear hy
    by_cases hlt : k < n
    · obtain ⟨bx, ox, rfl, h1⟩ := hx k (by omega)
      have e1 := HT.out k (by omega)
      have hb := byte_lt (xs.getD k 0)
      obtain ⟨l, hl⟩ : ∃ l : Int, l = ((xs.getD k 0).val : Int) := ⟨_, rfl⟩
      rw [← hl] at h1 e1 hb
      have HE : Hid (hiN (xs.take (k + 1)) = hiN (xs.take k) * 256 + l) := e1
      have v1 : IntKind.u64.wrap l = l := by rw [IntKind.wrap_u64]; omega
      have hor := or_byte y l y0 y1 hb.1 hb.2
      obtain ⟨p, hp⟩ : ∃ p, IntKind.u64.wrap (y * 256) = p := ⟨_, rfl⟩
      obtain ⟨q, hq⟩ : ∃ q, bits .or .u64 p l = q := ⟨_, rfl⟩
      rw [hp, hq] at hor
      have HO : Hid (q = (y * 256 + l) % 18446744073709551616) := hor
      clear hl hx e1 hb hor
      go_wp2
      refine ⟨⟨k + 1, q, by omega, by go_num, ?_, rfl, trivial⟩, by simp [intOf]; omega⟩
      rw [HE.out, HO.out, HY.out]
      omega
    · go_wp2
      go_ret
      have hkn : k = n := by omega
      subst hkn
      refine ⟨?_, rfl⟩
      rw [HY.out, List.take_of_length_le (by have := HN.out; omega)]
      rfl
set_option maxHeartbeats 400000 in
theorem numberIn_any (x : Value) (xs : List Byte) (w : World) (hx : BytesV w x xs) :
    Calls Tryz.prog 103 #[x] w fun e w' => e = .returned (.int .i64 (IntKind.i64.wrap (hiN xs))) ∧ w' = w := by
  have hX := hx
  obtain ⟨ax, cx, rfl, _⟩ := hx
  obtain ⟨u, hu⟩ : ∃ u, hiN xs % 18446744073709551616 = u := ⟨_, rfl⟩
  obtain ⟨q, hq⟩ : ∃ q, IntKind.i64.wrap u = q := ⟨_, rfl⟩
  go_enter Tryz.func103, Tryz.ntmps103
  go_wp2_with fail
  refine (bitsIn_any _ xs _ hX).mono ?_
  rintro e w1 ⟨rfl, rfl⟩
  rw [hu]
  go_wp2
  go_ret
  refine ⟨?_, rfl⟩
  rw [← hq, ← hu, wrap_mod]
  rfl
end Go.Proofs.YtecfelacdapdgaaGreat

/-
  Rows of uint8: the uniform forms. (Written by program: nest.py.)
-/
namespace Go.Proofs.YtecfelacdapdgaaGreat
open Go.RowKit
attribute [local go_sem ↓] Go.wp_at_zero Go.wp_at_succ

def bytesR : Rep (List Byte) := fRep 5 1 bytesC BytesV BytesV_below BytesV_of_owns
def wtBytes (xs : List Byte) : Nat := xs.length
def cntBytes (xs : List Byte) : Nat := xs.length
def mkBytes (k : Int) (xs : List Byte) : List Byte := marksB k xs.length
theorem bytes_form {w : World} {v : Value} {xs : List Byte} (h : bytesR.V w v xs) : ∃ a c, v = .slice a xs.length c := by
  obtain ⟨a, c, rfl, _⟩ := h
  exact ⟨_, _, rfl⟩
theorem bytes_cnt (d : List Byte) : cntBytes d ≤ 1 * wtBytes d := by unfold cntBytes wtBytes; omega
theorem toByteS_u (x : Value) (d : List Byte) (w : World) (hx : bytesR.V w x d) (hn : wtBytes d ≤ 1048576) :
    Calls Tryz.prog 19 #[x] w fun e w' => ∃ v F, e = .returned v ∧ bytesR.O w' w.heap.size F v d ∧ Below w.heap.size w w' := by
  refine (toByteS_any x d w hx hn).mono ?_
  rintro e w' ⟨v, rfl, ho, hb⟩
  exact ⟨v, _, rfl, ⟨ho, rfl⟩, hb⟩
theorem eqByteS_u (x y : Value) (d d' : List Byte) (w : World) (hx : bytesR.V w x d) (hy : bytesR.V w y d') :
    Calls Tryz.prog 22 #[x, y] w fun e w' => e = .returned (.bool (decide (d = d'))) ∧ Below w.heap.size w w' := eqByteS_any x y d d' w hx hy
theorem markByteS_u (v : Value) (d : List Byte) (base : Nat) (F : Nat → Prop) (k : Int) (w : World) (ho : bytesR.O w base F v d) (hw : wtBytes d ≤ 1048576) (hn : k + cntBytes d ≤ 1073741824) (hk0 : 0 ≤ k) :
    Calls Tryz.prog 23 #[v, .int .i64 k] w fun r w' => r = .returned (.int .i64 (k + cntBytes d)) ∧ bytesR.O w' base F v (mkBytes k d) ∧ Mod F w w' := by
  refine (markByteS_any v d.length _ base _ k w ho.1 hw hk0 (by omega)).mono ?_
  rintro e w' ⟨rfl, h1, h2⟩
  refine ⟨by simp [cntBytes], ⟨?_, ho.2⟩, by rw [ho.2]; exact Mod.of_grown h2⟩
  unfold mkBytes
  rw [length_marksB]
  exact h1
end Go.Proofs.YtecfelacdapdgaaGreat


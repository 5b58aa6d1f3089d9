import Derived.Test.YtecfelacdapdgaaGreatPrnPackEventLaw4
import Derived.Test.YtecfelacdapdgaaGreatPrnPackEventLaw2
import Derived.Deep.RegionHeld3
import Derived.Deep.DrawnRows
import Derived.Lib.ConvBytes

/-
  Rows of uint8: the uniform forms. (Written by program: nest.py.)
-/
namespace Go.Proofs.YtecfelacdapdgaaGreat
open Go.RowKit
attribute [local go_sem ↓] Go.wp_at_zero Go.wp_at_succ

def bytesR : Rep (List Byte) := fRep 5 1 bytesC BytesV BytesV_below BytesV_of_owns
def wtBytes (xs : List Byte) : Nat := xs.length
def cntBytes (xs : List Byte) : Nat := xs.length
def mkBytes (k : Int) (xs : List Byte) : List Byte := marksB k xs.length
theorem bytes_form {w : World} {v : Value} {xs : List Byte} (h : bytesR.V w v xs) : ∃ a c, v = .slice a xs.length c := by
  obtain ⟨a, c, rfl, _⟩ := h
  exact ⟨_, _, rfl⟩
theorem eqByteS_u (x y : Value) (d d' : List Byte) (w : World) (hx : bytesR.V w x d) (hy : bytesR.V w y d') :
    Calls Tryz.prog 22 #[x, y] w fun e w' => e = .returned (.bool (decide (d = d'))) ∧ Below w.heap.size w w' := eqByteS_any x y d d' w hx hy
theorem markByteS_u (v : Value) (d : List Byte) (base : Nat) (F : Nat → Prop) (k : Int) (w : World) (ho : bytesR.O w base F v d) (hw : wtBytes d ≤ 1048576) (hn : k + cntBytes d ≤ 1073741824) (hk0 : 0 ≤ k) :
    Calls Tryz.prog 23 #[v, .int .i64 k] w fun r w' => r = .returned (.int .i64 (k + cntBytes d)) ∧ bytesR.O w' base F v (mkBytes k d) ∧ Mod F w w' := by
  refine (markByteS_any v d.length _ base _ k w ho.1 hw hk0 (by omega)).mono ?_
  rintro e w' ⟨rfl, h1, h2⟩
  refine ⟨by simp [cntBytes], ⟨?_, ho.2⟩, by rw [ho.2]; exact Mod.of_grown h2⟩
  unfold mkBytes
  rw [length_marksB]
  exact h1
theorem heldByteS_u (v : Value) (d : List Byte) (k : Int) (w : World) (hv : bytesR.V w v (mkBytes k d)) (hw : wtBytes d ≤ 1048576) (hn : k + cntBytes d ≤ 1073741824) (hk0 : 0 ≤ k) :
    Calls Tryz.prog 45 #[v, .int .i64 k] w fun r w' => r = .returned (.int .i64 (k + cntBytes d)) ∧ Below w.heap.size w w' := by
  refine (heldByteS_any v d.length k w hv hw hk0 (by omega)).mono ?_
  rintro e w' ⟨rfl, rfl⟩
  exact ⟨by simp [cntBytes], Below.refl _ _⟩
end Go.Proofs.YtecfelacdapdgaaGreat

/-
  Rows of []byte. (Written by program: nest.py.)
-/
namespace Go.Proofs.YtecfelacdapdgaaGreat
open Go.RowKit
attribute [local go_sem ↓] Go.wp_at_zero Go.wp_at_succ

def bytessR : Rep (List (List Byte)) := nRep bytesR 37 1 one
theorem infoBytess : (Tryz.prog.info? 37).map (fun i => (i.zero, i.size, i.bytes)) = some (some (.slice none 0 0), 1, 24) := by kernel_rfl
end Go.Proofs.YtecfelacdapdgaaGreat

/-
  Parts joined, single bytes, a text's bytes, on both sides.
-/
namespace Go.Proofs.YtecfelacdapdgaaGreat
open Go.RowKit
attribute [local go_sem ↓] Go.wp_at_zero Go.wp_at_succ

theorem flat_take (ps : List (List Byte)) (k : Nat) (h : k < ps.length) : (ps.take (k + 1)).flatten = (ps.take k).flatten ++ ps.getD k default := by
  rw [List.take_add_one, List.flatten_append]
  congr 1
  simp [List.getD, h]
theorem flat_le (ps : List (List Byte)) : ∀ k, (ps.take k).flatten.length ≤ ps.flatten.length := by
  intro k
  have h : ps.flatten = (ps.take k).flatten ++ (ps.drop k).flatten := by rw [← List.flatten_append, List.take_append_drop]
  rw [h, List.length_append]
  omega
set_option maxHeartbeats 1000000 in
theorem joined_any (x : Value) (ps : List (List Byte)) (w : World) (hx : bytessR.V w x ps) (hn : ps.flatten.length ≤ 1073741824) :
    Calls Tryz.prog 92 #[x] w fun e w' => ∃ v F, e = .returned v ∧ bytesR.O w' w.heap.size F v ps.flatten ∧ Below w.heap.size w w' := by
  obtain ⟨ax, cx, rfl, hcx, hmx, hx⟩ := hx
  unfold maxLen at hmx
  have hT : ∀ k, k < ps.length → (ps.take (k + 1)).flatten = (ps.take k).flatten ++ ps.getD k default ∧ ((ps.take k).flatten.length + (ps.getD k default).length ≤ 1073741824) := fun k hk => by
    have e := flat_take ps k hk
    have := flat_le ps (k + 1)
    refine ⟨e, ?_⟩
    rw [e, List.length_append] at this
    omega
  have HA : Hid (ps.take ps.length = ps) := List.take_length
  generalize hn' : ps.length = n at *
  have HT : Hid (∀ k, k < n → (ps.take (k + 1)).flatten = (ps.take k).flatten ++ ps.getD k default ∧ ((ps.take k).flatten.length + (ps.getD k default).length ≤ 1073741824)) := hT
  clear hn' hT
  go_enter Tryz.func92, Tryz.ntmps92
  go_wp2
  go_loopw [3, 8] (fun v i w' => ∃ k : Nat, k ≤ n ∧ i = .int .i64 k ∧ w'.ownsRow w.heap.size 5 1 v (ps.take k).flatten.length (bytesC (ps.take k).flatten) ∧ Below w.heap.size w w') (fun _ i _ => n - (intOf i).toNat)
  case atStart => exact ⟨0, Nat.zero_le _, rfl, by simpa [bytesC] using World.ownsRow_nil _ _ _ _, Below.refl _ _⟩
  case round =>
    obtain ⟨k, hk, rfl, ho, hbl⟩ := hrel
    by_cases hlt : k < n
    · obtain ⟨bx, ox, u, rfl, _, p1, hv⟩ := hx k hlt
      obtain ⟨e1, e2⟩ := HT.out k hlt
      have HE : Hid ((ps.take (k + 1)).flatten = (ps.take k).flatten ++ ps.getD k default) := e1
      have g0 := cell_keep hbl (cells1 p1)
      have hv1 := bytesR.below hv hbl
      have hsz := hbl.size
      generalize (ps.take k).flatten = ys at *
      generalize ps.getD k default = zs at *
      clear e1 hx p1
      go_wp2_with (at_builtin; refine wpList_appB _ rfl _ _ rfl w.heap.size _ ys rfl _ zs rfl ho (appAny_bytes hv1) e2 hsz ?_)
      intro v' w1 ho' hg hB
      have hB1 := hB w hbl
      have h2 : World.ownsRow w1 w.heap.size 5 1 v' (ys.length + zs.length) (bytesC (ys ++ zs)) := by simpa using ho'
      have HO : Hid (World.ownsRow w1 w.heap.size 5 1 v' (ys.length + zs.length) (bytesC (ys ++ zs))) := h2
      clear hB hg ho ho' h2 e2 hv hv1
      go_wp2
      refine ⟨⟨k + 1, by omega, by go_num, ?_, hB1⟩, by simp [intOf]; omega⟩
      rw [HE.out, List.length_append]
      exact HO.out
    · go_wp2
      go_ret
      have hkn : k = n := by omega
      subst hkn
      rw [HA.out] at ho
      exact ⟨_, _, rfl, ⟨ho, rfl⟩, hbl⟩
def NumsV (w : World) (v : Value) (ys : List Int) : Prop :=
  ∃ a cap, v = .slice a ys.length cap ∧ ys.length ≤ cap ∧ cap ≤ maxLen ∧ ∀ i, i < ys.length → ∃ b o, a = some ⟨b, o, none⟩ ∧ w.cell? ⟨b, o + i, none⟩ = some (.int .i64 (ys.getD i 0))
theorem nums1 {w : World} {g : Nat} {a : Int} (h0 : w.cell? ⟨g, 0, none⟩ = some (.int .i64 a)) : NumsV w (.slice (some ⟨g, 0, none⟩) 1 1) [a] := by
  refine ⟨_, _, rfl, by simp, by unfold maxLen; omega, fun i hi => ⟨g, 0, rfl, ?_⟩⟩
  match i, hi with
  | 0, _ => simpa using h0
theorem nums3 {w : World} {g : Nat} {a b c : Int} (h0 : w.cell? ⟨g, 0, none⟩ = some (.int .i64 a)) (h1 : w.cell? ⟨g, 1, none⟩ = some (.int .i64 b)) (h2 : w.cell? ⟨g, 2, none⟩ = some (.int .i64 c)) : NumsV w (.slice (some ⟨g, 0, none⟩) 3 3) [a, b, c] := by
  refine ⟨_, _, rfl, by simp, by unfold maxLen; omega, fun i hi => ⟨g, 0, rfl, ?_⟩⟩
  match i, hi with
  | 0, _ => simpa using h0
  | 1, _ => simpa using h1
  | 2, _ => simpa using h2
set_option maxHeartbeats 1000000 in
theorem singles_any (x : Value) (ys : List Int) (w : World) (hx : NumsV w x ys) (hn : ys.length ≤ 1048576) :
    Calls Tryz.prog 93 #[x] w fun e w' => ∃ v F, e = .returned v ∧ bytesR.O w' w.heap.size F v (ys.map toB) ∧ Below w.heap.size w w' := by
  obtain ⟨ax, cx, rfl, hcx, hmx, hx⟩ := hx
  unfold maxLen at hmx
  obtain ⟨i0, hi, hz0, hz1, hz2⟩ := info_parts infoByte
  obtain ⟨w1, hmk, hown, hgr⟩ := run_make_full (P := Tryz.prog) w w.heap.size 37 5 i0 _ 1 Tryz.underlying37 hi hz0 hz1 .i64 .i64 ys.length (by rw [hz2]; omega) (by unfold maxLen; omega) (Nat.le_refl _)
  have hbl0 : Below w.heap.size w w1 := (Below.refl _ _).grown hgr (Nat.le_refl _) (fun k h => by cases h)
  have HL : Hid ((ys.map toB).length = ys.length) := by simp [Hid]
  have HG : Hid (∀ k, k < ys.length → (ys.map toB).getD k 0 = toB (ys.getD k 0)) := fun k hk => by simp [List.getD, hk]
  generalize hn' : ys.length = n at *
  clear hn'
  go_enter Tryz.func93, Tryz.ntmps93
  go_wp2
  go_loopw [11] (fun i w' => ∃ (k : Nat) (cs : List Value), k ≤ n ∧ i = .int .i64 k ∧ w'.ownsRow w.heap.size 5 1 (.slice (some ⟨w.heap.size, 0, none⟩) n n) n cs ∧ uptoB k cs (ys.map toB) ∧ Below w.heap.size w w') (fun i _ => n - (intOf i).toNat)
  case atStart => exact ⟨0, _, Nat.zero_le _, rfl, hown, fun j h => by omega, hbl0⟩
  case round =>
    obtain ⟨k, cs, hk, rfl, ho, hup, hbl⟩ := hrel
    have HU : Hid (uptoB k cs (ys.map toB)) := hup
    clear hup hown hmk hgr hbl0
    by_cases hlt : k < n
    · obtain ⟨bx, ox, rfl, h1⟩ := hx k hlt
      obtain ⟨l, hl⟩ : ∃ l : Int, l = ys.getD k 0 := ⟨_, rfl⟩
      rw [← hl] at h1
      have H1 : Hid (l = ys.getD k 0) := hl
      clear hl hx
      have a1 := cell_keep hbl h1
      obtain ⟨u0, g0⟩ := owns_some ho k (by omega)
      have hf := fun j => ho.frozenAt j
      obtain ⟨q, hq⟩ : ∃ q, IntKind.u8.wrap l = q := ⟨_, rfl⟩
      have HQ : Hid (q = ((toB l).val : Int)) := by rw [← hq]; exact wrapB l
      go_wp2
      have s0 := ho.stored k (.int .u8 q)
      refine ⟨⟨k + 1, _, by omega, by go_num, s0.1, uptoB_set HU.out (by rw [HL.out]; exact hlt) (by rw [HL.out]; exact ho.1) (by rw [HG.out k hlt, ← H1.out]; exact HQ.out), ?_⟩, by simp [intOf]; omega⟩
      exact hbl.setCell (Nat.le_refl _) _
    · go_wp2
      go_ret
      have hkn : k = n := by omega
      subst hkn
      have e := uptoB_full HU.out ho.1 HL.out
      subst e
      refine ⟨_, _, rfl, ⟨?_, rfl⟩, hbl⟩
      rw [HL.out]
      exact ho
theorem cell1_of {w : World} {g i : Nat} {u : Value} (h : w.cell? ⟨g, i, none⟩ = some u) : ∀ j, j < 1 → w.cell? ⟨g, 0 + i * 1 + j, none⟩ = (one u)[j]? := by
  intro j hj
  have e : j = 0 := by omega
  subst e
  simpa [one] using h
theorem bytess2 {w : World} {g : Nat} {u1 u2 : Value} {d1 d2 : List Byte} (h1 : w.cell? ⟨g, 0, none⟩ = some u1) (h2 : w.cell? ⟨g, 1, none⟩ = some u2) (v1 : bytesR.V w u1 d1) (v2 : bytesR.V w u2 d2) : bytessR.V w (.slice (some ⟨g, 0, none⟩) 2 2) [d1, d2] := by
  refine ⟨_, _, rfl, by simp, by unfold maxLen; omega, fun i hi => ?_⟩
  match i, hi with
  | 0, _ => exact ⟨g, 0, u1, rfl, rfl, cell1_of h1, v1⟩
  | 1, _ => exact ⟨g, 0, u2, rfl, rfl, cell1_of h2, v2⟩
theorem bytess3 {w : World} {g : Nat} {u1 u2 u3 : Value} {d1 d2 d3 : List Byte} (h1 : w.cell? ⟨g, 0, none⟩ = some u1) (h2 : w.cell? ⟨g, 1, none⟩ = some u2) (h3 : w.cell? ⟨g, 2, none⟩ = some u3)
    (v1 : bytesR.V w u1 d1) (v2 : bytesR.V w u2 d2) (v3 : bytesR.V w u3 d3) : bytessR.V w (.slice (some ⟨g, 0, none⟩) 3 3) [d1, d2, d3] := by
  refine ⟨_, _, rfl, by simp, by unfold maxLen; omega, fun i hi => ?_⟩
  match i, hi with
  | 0, _ => exact ⟨g, 0, u1, rfl, rfl, cell1_of h1, v1⟩
  | 1, _ => exact ⟨g, 0, u2, rfl, rfl, cell1_of h2, v2⟩
  | 2, _ => exact ⟨g, 0, u3, rfl, rfl, cell1_of h3, v3⟩
end Go.Proofs.YtecfelacdapdgaaGreat

/-
  BytesResult. (Written by program: nest.py.)
-/
namespace Go.Proofs.YtecfelacdapdgaaGreat
open Go.RowKit
set_option linter.unusedSectionVars false
attribute [local go_sem ↓] Go.wp_at_zero Go.wp_at_succ

structure BytesR where
  code : Int
  bytes : List Byte
variable [DecidableEq BytesR] [Inhabited BytesR]

def bytesRR : Rep BytesR where
  V := fun w v x => ∃ u1, v = .agg #[.int .i64 x.code, u1] ∧ bytesR.V w u1 x.bytes
  O := fun w base F v x => ∃ u1 F1, v = .agg #[.int .i64 x.code, u1] ∧ bytesR.O w base F1 u1 x.bytes ∧ (∀ b, F b ↔ (F1 b))
  below := fun h hb => by
    obtain ⟨u1, rfl, h1⟩ := h
    exact ⟨u1, rfl, bytesR.below h1 hb⟩
  ofO := fun h => by
    obtain ⟨u1, F1, rfl, h1, _⟩ := h
    exact ⟨u1, rfl, bytesR.ofO h1⟩
  mod := fun h hm hd => by
    obtain ⟨u1, F1, rfl, h1, hF⟩ := h
    exact ⟨u1, F1, rfl, bytesR.mod h1 hm (fun b hb => hd b ((hF b).2 hb)), hF⟩
  rng := fun h b hb => by
    obtain ⟨u1, F1, rfl, h1, hF⟩ := h
    rcases (hF b).1 hb with hb
    · exact bytesR.rng h1 b hb
  base := fun h hb => by
    obtain ⟨u1, F1, rfl, h1, hF⟩ := h
    exact ⟨u1, F1, rfl, bytesR.base h1 hb, hF⟩
def wtBytesR (x : BytesR) : Nat := wtBytes x.bytes
def cntBytesR (x : BytesR) : Nat := cntBytes x.bytes
def mkBytesR (k : Int) (x : BytesR) : BytesR := { x with bytes := mkBytes k x.bytes }
theorem bytesR_form {w : World} {v : Value} {x : BytesR} (h : bytesRR.V w v x) : ∃ a1 c1, v = .agg #[.int .i64 x.code, .slice a1 x.bytes.length c1] := by
  obtain ⟨u1, rfl, h1⟩ := h
  obtain ⟨a1, c1, rfl⟩ := bytes_form h1
  exact ⟨_, _, rfl⟩
set_option maxHeartbeats 1000000 in
theorem eqBytesResult_u (x y : Value) (d d' : BytesR) (w : World) (hx : bytesRR.V w x d) (hy : bytesRR.V w y d') :
    Calls Tryz.prog 14 #[x, y] w fun e w' => e = .returned (.bool (decide (d = d'))) ∧ Below w.heap.size w w' := by
  obtain ⟨u1, rfl, h1⟩ := hx
  obtain ⟨v1, rfl, k1⟩ := hy
  obtain ⟨code, bytes⟩ := d
  obtain ⟨code', bytes'⟩ := d'
  dsimp only at h1 k1
  go_enter Tryz.func14, Tryz.ntmps14
  go_wp2_with fail
  all_goals try (go_ret; exact ⟨by simp_all, by (repeat (first | exact Below.refl _ _ | assumption | refine Below.drew ?_ | refine balloc ?_ _ | refine bset ?_ (by simp; omega) _ | refine bset ?_ (by simp) _ | refine bstep ?_ (by assumption)))⟩)
  refine (eqByteS_u _ _ bytes bytes' _ (bytesR.below h1 (by (repeat (first | exact Below.refl _ _ | assumption | refine Below.drew ?_ | refine balloc ?_ _ | refine bset ?_ (by simp; omega) _ | refine bset ?_ (by simp) _ | refine bstep ?_ (by assumption))))) (bytesR.below k1 (by (repeat (first | exact Below.refl _ _ | assumption | refine Below.drew ?_ | refine balloc ?_ _ | refine bset ?_ (by simp; omega) _ | refine bset ?_ (by simp) _ | refine bstep ?_ (by assumption)))))).mono ?_
  rintro e w1 ⟨rfl, b1⟩
  go_wp2
  all_goals
    go_ret
    exact ⟨by simp_all, by (repeat (first | exact Below.refl _ _ | assumption | refine Below.drew ?_ | refine balloc ?_ _ | refine bset ?_ (by simp; omega) _ | refine bset ?_ (by simp) _ | refine bstep ?_ (by assumption)))⟩
set_option maxHeartbeats 1000000 in
theorem markBytesResult_u (v : Value) (d : BytesR) (base : Nat) (F : Nat → Prop) (k : Int) (w : World) (ho : bytesRR.O w base F v d) (hw : wtBytesR d ≤ 1048576) (hn : k + cntBytesR d ≤ 1073741824) (hk0 : 0 ≤ k) :
    Calls Tryz.prog 16 #[v, .int .i64 k] w fun r w' => r = .returned (.int .i64 (k + cntBytesR d)) ∧ bytesRR.O w' base F v (mkBytesR k d) ∧ Mod F w w' := by
  obtain ⟨u1, F1, rfl, h1, hF⟩ := ho
  unfold wtBytesR at hw
  unfold cntBytesR at hn ⊢
  have HF : Hid (∀ b, F b ↔ (F1 b)) := hF
  clear hF
  go_enter Tryz.func16, Tryz.ntmps16
  go_wp2_with fail
  refine (markByteS_u _ d.bytes base F1 k _ (bytesR.alloc h1 _) (by omega) (by omega) (by omega)).mono ?_
  rintro e w1 ⟨rfl, r1, m1⟩
  go_wp2
  go_ret
  refine ⟨?_, ⟨_, F1, rfl, r1, HF.out⟩, ((Mod.refl F w).alloc _).trans (m1.mono (fun b hb => (HF.out b).2 hb))⟩
  simp
  try omega
set_option maxHeartbeats 1000000 in
theorem heldBytesResult_u (v : Value) (d : BytesR) (k : Int) (w : World) (hv : bytesRR.V w v (mkBytesR k d)) (hw : wtBytesR d ≤ 1048576) (hn : k + cntBytesR d ≤ 1073741824) (hk0 : 0 ≤ k) :
    Calls Tryz.prog 17 #[v, .int .i64 k] w fun r w' => r = .returned (.int .i64 (k + cntBytesR d)) ∧ Below w.heap.size w w' := by
  obtain ⟨u1, rfl, h1⟩ := hv
  unfold wtBytesR at hw
  unfold cntBytesR at hn ⊢
  go_enter Tryz.func17, Tryz.ntmps17
  go_wp2_with fail
  refine (heldByteS_u _ d.bytes k _ (bytesR.below h1 (by (repeat (first | exact Below.refl _ _ | assumption | refine Below.drew ?_ | refine balloc ?_ _ | refine bset ?_ (by simp; omega) _ | refine bset ?_ (by simp) _ | refine bstep ?_ (by assumption))))) (by omega) (by omega) (by omega)).mono ?_
  rintro e w1 ⟨rfl, b1⟩
  go_wp2
  go_ret
  refine ⟨?_, by (repeat (first | exact Below.refl _ _ | assumption | refine Below.drew ?_ | refine balloc ?_ _ | refine bset ?_ (by simp; omega) _ | refine bset ?_ (by simp) _ | refine bstep ?_ (by assumption)))⟩
  simp
  try omega
end Go.Proofs.YtecfelacdapdgaaGreat


/-
  Rows of []byte. (Written by program: nest.py.)
-/
import Derived.Test.YtlhikbjohlcdmaaUBytes
import Derived.Test.YtlhikbjohlcdmaaSep
import Derived.Deep.RegionHeld3
import Derived.Deep.DrawnRows
namespace Go.Proofs.Ytlhikbjohlcdmaa
open Go.RowKit
attribute [local go_sem ↓] Go.wp_at_zero Go.wp_at_succ

def bytessR : Rep (List (List Byte)) := nRep bytesR 22 1 one
def wtBytess (xs : List (List Byte)) : Nat := wtL wtBytes xs
def cntBytess (xs : List (List Byte)) : Nat := cntL cntBytes xs
def mkBytess (k : Int) (xs : List (List Byte)) : List (List Byte) := mkL mkBytes cntBytes k xs
theorem bytess_form {w : World} {v : Value} {xs : List (List Byte)} (h : bytessR.V w v xs) : ∃ a c, v = .slice a xs.length c := by
  obtain ⟨a, c, rfl, _⟩ := h
  exact ⟨_, _, rfl⟩
theorem bytess_cnt (d : List (List Byte)) : cntBytess d ≤ 1 * wtBytess d := cntL_le (fun x => by have := bytes_cnt x; omega) d
theorem infoBytess : (Try.prog.info? 22).map (fun i => (i.zero, i.size, i.bytes)) = some (some (.slice none 0 0), 1, 24) := by kernel_rfl

theorem keepBytess {w w' : World} {a0 a1 : Addr} {x0 x1 : Value} (hb : Below w.heap.size w w') (g0 : w.cell? a0 = some x0) (g1 : w.cell? a1 = some x1) : Below w.heap.size w w' ∧ w'.cell? a0 = some x0 ∧ w'.cell? a1 = some x1 :=
  ⟨hb, cell_keep hb g0, cell_keep hb g1⟩

set_option maxHeartbeats 1000000 in
theorem eqByteSS_u (x y : Value) (xs ys : List (List Byte)) (w : World) (hx : bytessR.V w x xs) (hy : bytessR.V w y ys) :
    Calls Try.prog 48 #[x, y] w fun e w' => e = .returned (.bool (decide (xs = ys))) ∧ Below w.heap.size w w' := by
  obtain ⟨ax, cx, rfl, hcx, hmx, hx⟩ := hx
  obtain ⟨ay, cy, rfl, hcy, hmy, hy⟩ := hy
  unfold maxLen at hmx hmy
  by_cases hl : ys.length = xs.length
  · rw [hl] at hcy hy ⊢
    have HL : Hid (ys.length = xs.length) := hl
    clear hl
    generalize hn : xs.length = n at *
    have HN : Hid (xs.length = n) := hn
    clear hn
    go_enter Try.func48, Try.ntmps48
    go_wp2
    go_loopw [5] (fun i w' => ∃ k : Nat, k ≤ n ∧ i = .int .i64 k ∧ (∀ j, j < k → xs.getD j default = ys.getD j default) ∧ Below w.heap.size w w') (fun i _ => n - (intOf i).toNat)
    case atStart => exact ⟨0, Nat.zero_le _, rfl, fun j h => absurd h (Nat.not_lt_zero _), Below.refl _ _⟩
    case round =>
      obtain ⟨k, hk, rfl, hpre, hbl⟩ := hrel
      have HP : Hid (∀ j, j < k → xs.getD j default = ys.getD j default) := hpre
      clear hpre
      by_cases hlt : k < n
      · obtain ⟨bx, ox, ux, rfl, _, p1, hvx⟩ := hx k hlt
        obtain ⟨b2, oy, uy, rfl, _, p2, hvy⟩ := hy k hlt
        obtain ⟨l1, hl1⟩ : ∃ l, l = xs.getD k default := ⟨_, rfl⟩
        obtain ⟨l2, hl2⟩ : ∃ l, l = ys.getD k default := ⟨_, rfl⟩
        rw [← hl1] at hvx
        rw [← hl2] at hvy
        have H1 : Hid (l1 = xs.getD k default) := hl1
        have H2 : Hid (l2 = ys.getD k default) := hl2
        have g0 : w.cell? ⟨bx, ox + k, none⟩ = some (ux) := cells1 p1
        have g1 : w.cell? ⟨b2, oy + k, none⟩ = some (uy) := cells1 p2
        clear hl1 hl2 hx hy p1 p2
        go_wp2
        go_region_held3 (fun w' => Below w.heap.size w w' ∧ w'.cell? ⟨bx, ox + k, none⟩ = some (ux) ∧ w'.cell? ⟨b2, oy + k, none⟩ = some (uy)) ((refine keepBytess ?_ g0 g1; (repeat (first | exact Below.refl _ _ | assumption | refine Below.drew ?_ | refine balloc ?_ _ | refine bstep ?_ (by assumption))))) (first | (go_at_call 18; refine (eqByteS_u (ux) (uy) l1 l2 _ (bytesR.below hvx (by (repeat (first | exact Below.refl _ _ | assumption | refine Below.drew ?_ | refine balloc ?_ _ | refine bstep ?_ (by assumption))))) (bytesR.below hvy (by (repeat (first | exact Below.refl _ _ | assumption | refine Below.drew ?_ | refine balloc ?_ _ | refine bstep ?_ (by assumption)))))).mono ?_; rintro e w' ⟨rfl, hb1⟩))
        rename_i hH
        have hB := hH.1
        clear hH
        go_wp2
        · rename_i hle
          go_ret
          refine ⟨?_, hB⟩
          have : ¬ xs = ys := fun h => by
            have : l1 = l2 := by rw [H1.out, H2.out, h]
            simp [this] at hle
          simp [this]
        · rename_i hle
          refine ⟨⟨k + 1, by omega, by go_num, fun j hj => ?_, hB⟩, by simp [intOf]; omega⟩
          by_cases hjk : j < k
          · exact HP.out j hjk
          · have : j = k := by omega
            subst this
            rw [← H1.out, ← H2.out]
            simpa using hle
      · go_wp2
        go_ret
        have : k = n := by omega
        subst this
        refine ⟨?_, hbl⟩
        have : xs = ys := rows_eq_of (by rw [HL.out, HN.out]) (by rw [HN.out]; exact HP.out)
        simp [this]
  · go_enter Try.func48, Try.ntmps48
    have hl' : ((xs.length : Int) == (ys.length : Int)) = false := by simp; omega
    go_wp2
    go_ret
    have : ¬ xs = ys := fun h => hl (by rw [h])
    exact ⟨by simp [this], Below.refl _ _⟩

set_option maxHeartbeats 1000000 in
theorem heldByteSS_u (v : Value) (xs : List (List Byte)) (k : Int) (w : World) (hv : bytessR.V w v (mkBytess k xs)) (hw : wtBytess xs ≤ 1048576) (hn : k + cntBytess xs ≤ 1073741824) (hk0 : 0 ≤ k) :
    Calls Try.prog 50 #[v, .int .i64 k] w fun r w' => r = .returned (.int .i64 (k + cntBytess xs)) ∧ Below w.heap.size w w' := by
  obtain ⟨a, cap, rfl, hnc, hcm, hc⟩ := hv
  unfold mkBytess at hnc hc ⊢
  rw [length_mkL] at hnc hc ⊢
  unfold maxLen at hcm
  have hW : ∀ k, k < xs.length → wtBytes (xs.getD k default) ≤ 1048576 := fun k hk => (wt_at hw hk).1
  unfold cntBytess cntL at hn ⊢
  have HT : Hid (∀ j, j < xs.length → (mkL mkBytes cntBytes k xs).getD j default = mkBytes (k + cntTo cntBytes j xs) (xs.getD j default) ∧ cntTo cntBytes (j + 1) xs = cntTo cntBytes j xs + cntBytes (xs.getD j default) ∧ cntTo cntBytes (j + 1) xs ≤ cntTo cntBytes xs.length xs) :=
    fun j hj => ⟨getD_mkL _ _ _ _ _ hj, cntTo_succ _ j xs hj, cntTo_le _ _ _ _ hj⟩
  clear hw
  generalize xs.length = n at *
  go_enter Try.func50, Try.ntmps50
  go_wp2
  go_loopw [1, 5] (fun q i w' => ∃ j : Nat, j ≤ n ∧ i = .int .i64 j ∧ q = .int .i64 (k + cntTo cntBytes j xs) ∧ Below w.heap.size w w') (fun _ i _ => n - (intOf i).toNat)
  case atStart => exact ⟨0, Nat.zero_le _, rfl, by simp [cntTo], Below.refl _ _⟩
  case round =>
    obtain ⟨j, hj, rfl, rfl, hbl⟩ := hrel
    by_cases hlt : j < n
    · obtain ⟨bx, ox, ux, rfl, _, p1, hvx⟩ := hc j hlt
      obtain ⟨t1, t2, t3⟩ := HT.out j hlt
      have hw1 := hW j hlt
      rw [t1] at hvx
      generalize xs.getD j default = l at *
      obtain ⟨q, hq⟩ : ∃ q, q = k + cntTo cntBytes j xs := ⟨_, rfl⟩
      have hq0 : 0 ≤ q := by omega
      rw [← hq] at hvx ⊢
      have T2 : Hid (k + cntTo cntBytes (j + 1) xs = q + cntBytes l) := by show _ = _; omega
      have hq1 : q + cntBytes l ≤ 1073741824 := by omega
      have hv1 := hvx
      have g0 : w.cell? ⟨bx, ox + j, none⟩ = some (ux) := cells1 p1
      replace g0 := cell_keep hbl g0
      clear hc p1 t1 t2 t3 hW hq
      go_wp2_with fail
      refine (heldByteS_u ux l (q) _ (bytesR.below hv1 (by (repeat (first | exact Below.refl _ _ | assumption | refine Below.drew ?_ | refine balloc ?_ _ | refine bstep ?_ (by assumption))))) (by omega) (by omega) (by omega)).mono ?_
      rintro e wb1 ⟨rfl, b1⟩
      go_wp2
      refine ⟨⟨j + 1, by omega, by go_num, ?_, by (repeat (first | exact Below.refl _ _ | assumption | refine Below.drew ?_ | refine balloc ?_ _ | refine bstep ?_ (by assumption)))⟩, by simp [intOf]; omega⟩
      rw [T2.out]
    · go_wp2
      go_ret
      have hjn : j = n := by omega
      subst hjn
      exact ⟨rfl, hbl⟩

set_option maxHeartbeats 1000000 in
theorem markByteSS_u (v : Value) (xs : List (List Byte)) (base : Nat) (F : Nat → Prop) (k : Int) (w : World) (ho : bytessR.O w base F v xs) (hw : wtBytess xs ≤ 1048576) (hn : k + cntBytess xs ≤ 1073741824) (hk0 : 0 ≤ k) :
    Calls Try.prog 49 #[v, .int .i64 k] w fun r w' => r = .returned (.int .i64 (k + cntBytess xs)) ∧ bytessR.O w' base F v (mkBytess k xs) ∧ Mod F w w' := by
  obtain ⟨cs, us, fs, hp, hF⟩ := ho
  have hW : ∀ k, k < xs.length → wtBytes (xs.getD k default) ≤ 1048576 := fun k hk => (wt_at hw hk).1
  unfold cntBytess cntL at hn ⊢
  have HT : Hid (∀ j, j < xs.length → (mkL mkBytes cntBytes k xs).getD j default = mkBytes (k + cntTo cntBytes j xs) (xs.getD j default) ∧ cntTo cntBytes (j + 1) xs = cntTo cntBytes j xs + cntBytes (xs.getD j default) ∧ cntTo cntBytes (j + 1) xs ≤ cntTo cntBytes xs.length xs) :=
    fun j hj => ⟨getD_mkL _ _ _ _ _ hj, cntTo_succ _ j xs hj, cntTo_le _ _ _ _ hj⟩
  clear hw
  have hcap := hp.len
  obtain ⟨av, cv, hav⟩ := owns_form hp.row
  subst hav
  have HF : Hid (∀ b, F b ↔ ((Value.slice av xs.length cv).ownBlock = some b ∨ ∃ i, i < xs.length ∧ fs i b)) := hF
  have HM : Hid ((mkL mkBytes cntBytes k xs).length = xs.length) := length_mkL _ _ _ _
  clear hF
  generalize hxl : xs.length = n at *
  clear hxl
  go_enter Try.func49, Try.ntmps49
  go_wp2
  go_loopw [1, 5] (fun q i w' => ∃ (j : Nat) (cs : List Value) (us : Nat → Value), j ≤ n ∧ i = .int .i64 j ∧ q = .int .i64 (k + cntTo cntBytes j xs) ∧ PO bytesR 22 1 one w' base (.slice av n cv) n n (fun i => if i < j then (mkL mkBytes cntBytes k xs).getD i default else xs.getD i default) cs us fs ∧ Mod F w w') (fun _ i _ => n - (intOf i).toNat)
  case atStart => exact ⟨0, cs, us, Nat.zero_le _, rfl, by simp [cntTo], hp.cast (fun i hi => by simp), Mod.refl _ _⟩
  case round =>
    clear hp
    obtain ⟨j, cs, us, hj, rfl, rfl, hp1, hm⟩ := hrel
    by_cases hlt : j < n
    · have he := hp1.el j hlt
      simp only [Nat.lt_irrefl, if_false] at he
      obtain ⟨g, rfl, hcl⟩ := hp1.at hlt hlt
      obtain ⟨t1, t2, t3⟩ := HT.out j hlt
      have hw1 := hW j hlt
      obtain ⟨l, hl⟩ : ∃ l, l = xs.getD j default := ⟨_, rfl⟩
      rw [← hl] at t1 t2 hw1 he
      obtain ⟨q, hq⟩ : ∃ q, q = k + cntTo cntBytes j xs := ⟨_, rfl⟩
      have hq0 : 0 ≤ q := by omega
      rw [← hq] at t1 ⊢
      have T1 : Hid ((mkL mkBytes cntBytes k xs).getD j default = mkBytes q l) := t1
      have T2 : Hid (k + cntTo cntBytes (j + 1) xs = q + cntBytes l) := by show _ = _; omega
      have hq1 : q + cntBytes l ≤ 1073741824 := by omega
      have h1 := he
      have g0 : wr.cell? ⟨g, j, none⟩ = some (us j) := by simpa [one] using hcl 0 (by omega)
      have hrow := hp1.row
      have hclen := hrow.1
      have hf := fun j => hrow.frozenAt j
      clear hl t1 t2 t3 hW hq hcl
      go_wp2_with fail
      refine (markByteS_u (us j) l base (fs j) (q) _ h1 (by omega) (by omega) (by omega)).mono ?_
      rintro e wb1 ⟨rfl, r1, m1⟩
      have rw1 := m1.owns hrow (fun b he hb => hp1.out j hlt b hb he)
      have M1 := m1.mono (G := fun b => (Value.slice (some ⟨g, 0, none⟩) n cv).ownBlock = some b ∨ fs j b) (fun b hb => .inr hb)
      go_wp2
      have hq := hp1.turn (u := (us j)) (x := mkBytes q l) hlt M1 r1 rfl rw1 ?_ ?_
      · refine ⟨⟨j + 1, _, _, by omega, by go_num, by rw [T2.out], hq.cast fun i hi => ?_, hm.trans (M1.mono fun b hb => (HF.out b).2 ?_)⟩, by simp [intOf]; omega⟩
        · by_cases hij : i = j
          · subst hij
            rw [upd_at, if_pos (by omega)]
            exact T1.out
          · rw [upd_ne _ _ hij]
            by_cases h : i < j
            · rw [if_pos h, if_pos (by omega)]
            · rw [if_neg h, if_neg (by omega)]
        · rcases hb with hb | hb
          · exact .inl hb
          · exact .inr ⟨j, hlt, hb⟩
      · exact fun _ _ _ _ _ => rfl
      · exact hp1.cell j hlt
    · go_wp2
      go_ret
      have hjn : j = n := by omega
      subst hjn
      refine ⟨rfl, ⟨cs, us, fs, ?_, ?_⟩, hm⟩
      · unfold mkBytess
        rw [HM.out]
        exact hp1.cast (fun i hi => by rw [if_pos hi])
      · unfold mkBytess
        rw [HM.out]
        exact HF.out

end Go.Proofs.Ytlhikbjohlcdmaa
